/- Rows of secrets of the call's own, and where they lie: what a mark in one row leaves alone. -/
import Derived.Test.YtajnligcngekcaaDoorSeatO
import Derived.Test.YtajnligcngekcaaDoorVaultO
import Derived.Test.YtajnligcngekcaaDoorVaultG
namespace Go.Proofs.YtajnligcngekcaaDoor
open Go.RowKit

/-- A row of secrets of the call's own, in a block from lo on and below hi. -/
def OwnV (w : World) (lo hi : Nat) (v : Value) (l : List Sec) : Prop := OwnSecs w lo v l ∧ ∀ k, v.ownBlock = some k → k < hi
theorem OwnSecs.mono {w : World} {b c : Nat} {v : Value} {l : List Sec} (h : OwnSecs w c v l) (hb : b ≤ c) : OwnSecs w b v l := by
  obtain ⟨h1, h2, g, rfl, h3, h4⟩ := h
  exact ⟨h1, h2, g, rfl, Nat.le_trans hb h3, h4⟩
theorem OwnV.new {w : World} {lo base : Nat} {v : Value} {l : List Sec} (h : OwnSecs w base v l) (hb : lo ≤ base) : OwnV w lo w.heap.size v l := by
  refine ⟨h.mono hb, fun k e => ?_⟩
  obtain ⟨b, h1, _, h2⟩ := h.at_
  rw [h1] at e; cases e; exact h2
theorem OwnV.below {w w' : World} {lo hi : Nat} {v : Value} {l : List Sec} (h : OwnV w lo hi v l) (k : Below w.heap.size w w') : OwnV w' lo hi v l := ⟨h.1.below k, h.2⟩
theorem OwnV.alloc {w : World} {lo hi : Nat} {v : Value} {l : List Sec} (h : OwnV w lo hi v l) (o : Obj) : OwnV (w.alloc o) lo hi v l := ⟨h.1.alloc o, h.2⟩
theorem OwnV.drew {w : World} {lo hi : Nat} {v : Value} {l : List Sec} (h : OwnV w lo hi v l) : OwnV w.drew lo hi v l := h
theorem OwnV.secs {w : World} {lo hi : Nat} {v : Value} {l : List Sec} (h : OwnV w lo hi v l) : Secs w v l := h.1.secs
theorem OwnV.far {w : World} {lo hi k : Nat} {v : Value} {l : List Sec} (h : OwnV w lo hi v l) (e : v.ownBlock = some k) : lo ≤ k ∧ k < hi := by
  obtain ⟨b, h1, h2, _⟩ := h.1.at_
  rw [h1] at e; cases e
  exact ⟨h2, h.2 _ h1⟩
theorem Own2.far {w : World} {lo hi k : Nat} {v : Value} {l : List Int} (h : Own2 w lo hi v l) (e : v.ownBlock = some k) : lo ≤ k ∧ k < hi := ⟨(h.1.2.lt k e).1, h.2 k e⟩
/-- A row of secrets, over a mark in a row of numbers. -/
theorem OwnV.apart {w w' : World} {lo hi lo2 hi2 : Nat} {v u : Value} {l : List Sec} {m : List Int} (h : OwnV w lo hi v l) (hg : w.grownBy w' u.ownBlock) (k : Own2 w lo2 hi2 u m) (hd : hi ≤ lo2 ∨ hi2 ≤ lo) : OwnV w' lo hi v l :=
  ⟨h.1.grown hg fun b hb e => by have h1 := h.far hb; have h2 := k.far e; omega, h.2⟩
/-- A row of secrets, over a mark in another one. -/
theorem OwnV.apartV {w w' : World} {lo hi lo2 hi2 : Nat} {v u : Value} {l m : List Sec} (h : OwnV w lo hi v l) (hg : w.grownBy w' u.ownBlock) (k : OwnV w lo2 hi2 u m) (hd : hi ≤ lo2 ∨ hi2 ≤ lo) : OwnV w' lo hi v l :=
  ⟨h.1.grown hg fun b hb e => by have h1 := h.far hb; have h2 := k.far e; omega, h.2⟩
/-- A row of numbers, over a mark in a row of secrets. -/
theorem Own2.apartV {w w' : World} {lo hi lo2 hi2 : Nat} {v u : Value} {l : List Int} {m : List Sec} (h : Own2 w lo hi v l) (hg : w.grownBy w' u.ownBlock) (k : OwnV w lo2 hi2 u m) (hd : hi ≤ lo2 ∨ hi2 ≤ lo) : Own2 w' lo hi v l := by
  refine ⟨h.1.kept hg ?_, h.2⟩
  cases hv : v.ownBlock with
  | none => exact .inl rfl
  | some a =>
    right
    intro e
    have h1 := h.far hv
    have h2 := k.far e.symm
    omega
theorem OwnV.blk {w w' : World} {lo hi g : Nat} {u : Value} {m : List Sec} {t : TypeId} {cs : List Value} (k : OwnV w lo hi u m) (hg : w.grownBy w' u.ownBlock) (h : Blk w g t cs) (hd : g < lo ∨ hi ≤ g) : Blk w' g t cs := by
  refine (hg.block g h.lt ?_).trans h
  intro e
  have h2 := k.far e.symm
  omega
theorem OwnV.stays {w0 w w' : World} {b lo hi : Nat} {u : Value} {m : List Sec} (k : OwnV w lo hi u m) (hg : w.grownBy w' u.ownBlock) (h : Below b w0 w) (hb : b ≤ lo ∧ b ≤ w.heap.size) : Below b w0 w' :=
  h.grown hg hb.2 fun _ e => Nat.le_trans hb.1 (k.far e).1
theorem OwnV.marked {w w' : World} {lo hi : Nat} {u : Value} {m m' : List Sec} (k : OwnV w lo hi u m) (h : OwnSecs w' lo u m') : OwnV w' lo hi u m' := ⟨h, k.2⟩
end Go.Proofs.YtajnligcngekcaaDoor
