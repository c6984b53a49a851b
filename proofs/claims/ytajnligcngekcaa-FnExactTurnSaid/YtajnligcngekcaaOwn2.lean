/- Rows of the call's own, and where they lie: what a mark in one of them leaves alone. -/
import Derived.Test.YtajnligcngekcaaLabV
namespace Go.Proofs.Ytajnligcngekcaa
open Go.RowKit

/-- A row of the call's own, in a block from lo on and below hi. -/
def Own2 (w : World) (lo hi : Nat) (v : Value) (l : List Int) : Prop := OwnInts w lo v l ∧ ∀ k, v.ownBlock = some k → k < hi
theorem Own2.new {w : World} {lo base : Nat} {v : Value} {l : List Int} (h : OwnInts w base v l) (hb : lo ≤ base) : Own2 w lo w.heap.size v l := ⟨h.mono hb, fun k e => (h.2.lt k e).2⟩
theorem Own2.below {w w' : World} {lo hi : Nat} {v : Value} {l : List Int} (h : Own2 w lo hi v l) (k : Below w.heap.size w w') : Own2 w' lo hi v l := ⟨h.1.below k, h.2⟩
theorem Own2.alloc {w : World} {lo hi : Nat} {v : Value} {l : List Int} (h : Own2 w lo hi v l) (o : Obj) : Own2 (w.alloc o) lo hi v l := ⟨h.1.alloc o, h.2⟩
theorem Own2.drew {w : World} {lo hi : Nat} {v : Value} {l : List Int} (h : Own2 w lo hi v l) : Own2 w.drew lo hi v l := h
theorem Own2.ints {w : World} {lo hi : Nat} {v : Value} {l : List Int} (h : Own2 w lo hi v l) : Ints w v l := h.1.ints
theorem Own2.apart {w w' : World} {lo hi lo2 hi2 : Nat} {v u : Value} {l m : List Int} (h : Own2 w lo hi v l) (hg : w.grownBy w' u.ownBlock) (k : Own2 w lo2 hi2 u m) (hd : hi ≤ lo2 ∨ hi2 ≤ lo) : Own2 w' lo hi v l := by
  refine ⟨h.1.kept hg ?_, h.2⟩
  cases hv : v.ownBlock with
  | none => exact .inl rfl
  | some a =>
    right
    intro e
    have h1 := h.2 a hv
    have h2 := (h.1.2.lt a hv).1
    have h3 := k.2 a e.symm
    have h4 := (k.1.2.lt a e.symm).1
    omega
theorem Own2.blk {w w' : World} {lo hi g : Nat} {u : Value} {m : List Int} {t : TypeId} {cs : List Value} (k : Own2 w lo hi u m) (hg : w.grownBy w' u.ownBlock) (h : Blk w g t cs) (hd : g < lo ∨ hi ≤ g) : Blk w' g t cs := by
  refine (hg.block g h.lt ?_).trans h
  intro e
  have h3 := k.2 g e.symm
  have h4 := (k.1.2.lt g e.symm).1
  omega
theorem Own2.stays {w0 w w' : World} {b lo hi : Nat} {u : Value} {m : List Int} (k : Own2 w lo hi u m) (hg : w.grownBy w' u.ownBlock) (h : Below b w0 w) (hb : b ≤ lo ∧ b ≤ w.heap.size) : Below b w0 w' :=
  h.grown hg hb.2 fun a e => Nat.le_trans hb.1 (k.1.2.lt a e).1
theorem Own2.marked {w w' : World} {lo hi : Nat} {u : Value} {m m' : List Int} (k : Own2 w lo hi u m) (h : OwnInts w' lo u m') : Own2 w' lo hi u m' := ⟨h, k.2⟩
theorem grown_set3 (w : World) (g : Nat) (x y z : Value) : w.grownBy (((w.setCell ⟨g, 0, none⟩ x).setCell ⟨g, 1, none⟩ y).setCell ⟨g, 2, none⟩ z) (some g) :=
  ⟨rfl, rfl, rfl, by simp [World.setCell], fun k _ hne => by
    have hk : k ≠ g := fun e => hne (by rw [e])
    rw [Below.heap_setCell _ ⟨g, 2, none⟩ z k hk, Below.heap_setCell _ ⟨g, 1, none⟩ y k hk, Below.heap_setCell _ ⟨g, 0, none⟩ x k hk]⟩
theorem Own2.set3o {w : World} {lo hi g : Nat} {v : Value} {l : List Int} (h : Own2 w lo hi v l) (hg : hi ≤ g) (x y z : Value) : Own2 (((w.setCell ⟨g, 0, none⟩ x).setCell ⟨g, 1, none⟩ y).setCell ⟨g, 2, none⟩ z) lo hi v l := by
  refine ⟨h.1.kept (grown_set3 w g x y z) ?_, h.2⟩
  cases hv : v.ownBlock with
  | none => exact .inl rfl
  | some a =>
    right
    intro e
    have := h.2 a hv
    cases e; omega
theorem Blk.set3o {w : World} {g g' : Nat} {t : TypeId} {cs : List Value} (h : Blk w g t cs) (hne : g ≠ g') (x y z : Value) : Blk (((w.setCell ⟨g', 0, none⟩ x).setCell ⟨g', 1, none⟩ y).setCell ⟨g', 2, none⟩ z) g t cs := ((h.other hne x).other hne y).other hne z
theorem Blk.set3 {w : World} {g : Nat} {t : TypeId} {a b c : Value} (h : Blk w g t [a, b, c]) (x y z : Value) : Blk (((w.setCell ⟨g, 0, none⟩ x).setCell ⟨g, 1, none⟩ y).setCell ⟨g, 2, none⟩ z) g t [x, y, z] := ((h.set 0 x).set 1 y).set 2 z
theorem size_set3 (w : World) (g : Nat) (x y z : Value) : (((w.setCell ⟨g, 0, none⟩ x).setCell ⟨g, 1, none⟩ y).setCell ⟨g, 2, none⟩ z).heap.size = w.heap.size := by simp [World.setCell]
theorem zblk {b : Nat} {w0 w : World} (_h : Below b w0 w) (cs : List Value) (t : TypeId) : Blk (w.alloc (.cells cs.toArray t)) w.heap.size t cs := heap_alloc_new w _
theorem le_alloc {w : World} {n : Nat} (h : n ≤ w.heap.size) (o : Obj) : n ≤ (w.alloc o).heap.size := by rw [World.size_alloc]; omega
theorem far2 {a b n : Nat} (h1 : a < n) (h2 : n ≤ b) : ¬ a = b ∧ ¬ b = a := ⟨by omega, by omega⟩
theorem markLab_one (t : ByteArray) (v : Value) (l : List Int) (base : Nat) (w : World) (hv : OwnInts w base v l) :
    Calls Try.prog 30 #[.agg #[.string t, v], .int .i64 1] w (MarkEnd base 1 l.length v w) := markLab_any t v l 1 base w (by decide) hv
end Go.Proofs.Ytajnligcngekcaa
