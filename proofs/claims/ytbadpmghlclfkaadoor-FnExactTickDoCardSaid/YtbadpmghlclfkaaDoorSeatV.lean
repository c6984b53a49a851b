/- Rows of secrets of the call's own, and where they lie: what a mark in one row leaves alone. -/
import Derived.Test.YtbadpmghlclfkaaDoorSeatO
import Derived.Test.YtbadpmghlclfkaaDoorVaultO
import Derived.Test.YtbadpmghlclfkaaDoorVaultG
namespace Go.Proofs.YtbadpmghlclfkaaDoor
open Go.RowKit

/-- A row of secrets of the call's own, in a block from lo on and below hi. -/
def OwnV (w : World) (lo hi : Nat) (v : Value) (l : List Sec) : Prop := OwnSecs w lo v l ∧ ∀ k, v.ownBlock = some k → k < hi
theorem OwnSecs.mono {w : World} {b c : Nat} {v : Value} {l : List Sec} (h : OwnSecs w c v l) (hb : b ≤ c) : OwnSecs w b v l := by
  obtain ⟨h1, h2, g, rfl, h3, h4⟩ := h
  exact ⟨h1, h2, g, rfl, Nat.le_trans hb h3, h4⟩
theorem OwnV.new {w : World} {lo base : Nat} {v : Value} {l : List Sec} (h : OwnSecs w base v l) (hb : lo ≤ base) : OwnV w lo w.heap.size v l := by
  refine ⟨h.mono hb, fun k e => ?_⟩
  obtain ⟨b, h1, _, h2⟩ := h.at_
  rw [h1] at e; cases e; exact h2
theorem OwnV.below {w w' : World} {lo hi : Nat} {v : Value} {l : List Sec} (h : OwnV w lo hi v l) (k : Below w.heap.size w w') : OwnV w' lo hi v l := ⟨h.1.below k, h.2⟩
theorem OwnV.alloc {w : World} {lo hi : Nat} {v : Value} {l : List Sec} (h : OwnV w lo hi v l) (o : Obj) : OwnV (w.alloc o) lo hi v l := ⟨h.1.alloc o, h.2⟩
theorem OwnV.drew {w : World} {lo hi : Nat} {v : Value} {l : List Sec} (h : OwnV w lo hi v l) : OwnV w.drew lo hi v l := h
theorem OwnV.secs {w : World} {lo hi : Nat} {v : Value} {l : List Sec} (h : OwnV w lo hi v l) : Secs w v l := h.1.secs
theorem OwnV.far {w : World} {lo hi k : Nat} {v : Value} {l : List Sec} (h : OwnV w lo hi v l) (e : v.ownBlock = some k) : lo ≤ k ∧ k < hi := by
  obtain ⟨b, h1, h2, _⟩ := h.1.at_
  rw [h1] at e; cases e
  exact ⟨h2, h.2 _ h1⟩
theorem Own2.far {w : World} {lo hi k : Nat} {v : Value} {l : List Int} (h : Own2 w lo hi v l) (e : v.ownBlock = some k) : lo ≤ k ∧ k < hi := ⟨(h.1.2.lt k e).1, h.2 k e⟩
/-- A row of secrets, over a mark in a row of numbers. -/
theorem OwnV.apart {w w' : World} {lo hi lo2 hi2 : Nat} {v u : Value} {l : List Sec} {m : List Int} (h : OwnV w lo hi v l) (hg : w.grownBy w' u.ownBlock) (k : Own2 w lo2 hi2 u m) (hd : hi ≤ lo2 ∨ hi2 ≤ lo) : OwnV w' lo hi v l :=
  ⟨h.1.grown hg fun b hb e => by have h1 := h.far hb; have h2 := k.far e; omega, h.2⟩
/-- A row of secrets, over a mark in another one. -/
theorem OwnV.apartV {w w' : World} {lo hi lo2 hi2 : Nat} {v u : Value} {l m : List Sec} (h : OwnV w lo hi v l) (hg : w.grownBy w' u.ownBlock) (k : OwnV w lo2 hi2 u m) (hd : hi ≤ lo2 ∨ hi2 ≤ lo) : OwnV w' lo hi v l :=
  ⟨h.1.grown hg fun b hb e => by have h1 := h.far hb; have h2 := k.far e; omega, h.2⟩
/-- A row of numbers, over a mark in a row of secrets. -/
theorem Own2.apartV {w w' : World} {lo hi lo2 hi2 : Nat} {v u : Value} {l : List Int} {m : List Sec} (h : Own2 w lo hi v l) (hg : w.grownBy w' u.ownBlock) (k : OwnV w lo2 hi2 u m) (hd : hi ≤ lo2 ∨ hi2 ≤ lo) : Own2 w' lo hi v l := by
  refine ⟨h.1.kept hg ?_, h.2⟩
  cases hv : v.ownBlock with
  | none => exact .inl rfl
  | some a =>
    right
    intro e
    have h1 := h.far hv
    have h2 := k.far e.symm
    omega
theorem OwnV.blk {w w' : World} {lo hi g : Nat} {u : Value} {m : List Sec} {t : TypeId} {cs : List Value} (k : OwnV w lo hi u m) (hg : w.grownBy w' u.ownBlock) (h : Blk w g t cs) (hd : g < lo ∨ hi ≤ g) : Blk w' g t cs := by
  refine (hg.block g h.lt ?_).trans h
  intro e
  have h2 := k.far e.symm
  omega
theorem OwnV.stays {w0 w w' : World} {b lo hi : Nat} {u : Value} {m : List Sec} (k : OwnV w lo hi u m) (hg : w.grownBy w' u.ownBlock) (h : Below b w0 w) (hb : b ≤ lo ∧ b ≤ w.heap.size) : Below b w0 w' :=
  h.grown hg hb.2 fun _ e => Nat.le_trans hb.1 (k.far e).1
theorem OwnV.marked {w w' : World} {lo hi : Nat} {u : Value} {m m' : List Sec} (k : OwnV w lo hi u m) (h : OwnSecs w' lo u m') : OwnV w' lo hi u m' := ⟨h, k.2⟩
/-- A box that a region made. -/
def BoxAt (lo : Nat) (t : TypeId) (cs : List Value) (v : Value) (w : World) : Prop := ∃ g, v = .pointer (some ⟨g, 0, none⟩) ∧ lo ≤ g ∧ Blk w g t cs
theorem BoxAt.keep {lo : Nat} {t : TypeId} {cs : List Value} (v : Value) (w w' : World) (k : Below w.heap.size w w') (h : BoxAt lo t cs v w) : BoxAt lo t cs v w' := by
  obtain ⟨g, h1, h2, h3⟩ := h
  exact ⟨g, h1, h2, h3.up k⟩
def SeatAt (b o : Bool) (s : ByteArray) (q : Int) (t : ByteArray) (l : List Int) (v : Value) (w : World) : Prop := ∃ A cap, v = .agg #[.bool b, .bool o, .string s, .int .i64 q, .string t, .slice A l.length cap] ∧ Ints w (.slice A l.length cap) l
theorem SeatAt.keep {b o : Bool} {s : ByteArray} {q : Int} {t : ByteArray} {l : List Int} (v : Value) (w w' : World) (k : Below w.heap.size w w') (h : SeatAt b o s q t l v w) : SeatAt b o s q t l v w' := by
  obtain ⟨A, cap, h1, h2⟩ := h
  exact ⟨A, cap, h1, h2.below k⟩
def LabAt (x : ByteArray) (l : List Int) (v : Value) (w : World) : Prop := ∃ A cap, v = .agg #[.string x, .slice A l.length cap] ∧ Ints w (.slice A l.length cap) l
theorem LabAt.keep {x : ByteArray} {l : List Int} (v : Value) (w w' : World) (k : Below w.heap.size w w') (h : LabAt x l v w) : LabAt x l v w' := by
  obtain ⟨A, cap, h1, h2⟩ := h
  exact ⟨A, cap, h1, h2.below k⟩
def SecsAt (m : List Sec) (v : Value) (w : World) : Prop := Secs w v m
theorem SecsAt.keep {m : List Sec} (v : Value) (w w' : World) (k : Below w.heap.size w w') (h : SecsAt m v w) : SecsAt m v w' := Secs.below h k
def OutAt (lo : Nat) (R : SeaR) (v : Value) (w : World) : Prop := ∃ A cap, v = .agg #[.bool R.b, .bool R.o, .string R.s, .int .i64 R.q, .string R.t, .slice A R.l.length cap, .int .i64 R.d, .int .i64 R.c] ∧ OwnInts w lo (.slice A R.l.length cap) R.l
theorem OutAt.keep {lo : Nat} {R : SeaR} (v : Value) (w w' : World) (k : Below w.heap.size w w') (h : OutAt lo R v w) : OutAt lo R v w' := by
  obtain ⟨A, cap, h1, h2⟩ := h
  exact ⟨A, cap, h1, h2.below k⟩
theorem OutAt.mono {a b : Nat} {R : SeaR} {v : Value} {w : World} (h : OutAt a R v w) (hb : b ≤ a) : OutAt b R v w := by
  obtain ⟨A, cap, h1, h2⟩ := h
  exact ⟨A, cap, h1, h2.mono hb⟩
/-- What the statement 'x := f(..)' leaves, where its box may be made at any time. -/
def OutCut (lo : Nat) (R : SeaR) (w0 : World) (v : Value) (w : World) : Prop :=
  ∃ g A cap, v = .pointer (some ⟨g, 0, none⟩) ∧ (lo ≤ g ∧ g < w.heap.size) ∧ Blk w g 58 [.bool R.b, .bool R.o, .string R.s, .int .i64 R.q, .string R.t, .slice A R.l.length cap, .int .i64 R.d, .int .i64 R.c] ∧ Own2 w lo w.heap.size (.slice A R.l.length cap) R.l ∧ Below lo w0 w
theorem grown_set1 (w : World) (g i : Nat) (u : Value) : w.grownBy (w.setCell ⟨g, i, none⟩ u) (some g) :=
  ⟨rfl, rfl, rfl, by simp [World.setCell], fun k _ hne => Below.heap_setCell w ⟨g, i, none⟩ u k (fun e => hne (by rw [e]))⟩
theorem grown_set8 (w : World) (g : Nat) (x0 x1 x2 x3 x4 x5 x6 x7 : Value) : w.grownBy ((((((((w.setCell ⟨g, 0, none⟩ x0).setCell ⟨g, 1, none⟩ x1).setCell ⟨g, 2, none⟩ x2).setCell ⟨g, 3, none⟩ x3).setCell ⟨g, 4, none⟩ x4).setCell ⟨g, 5, none⟩ x5).setCell ⟨g, 6, none⟩ x6).setCell ⟨g, 7, none⟩ x7) (some g) :=
  ((((((((grown_set1 w g 0 x0).trans (grown_set1 _ g 1 x1)).trans (grown_set1 _ g 2 x2)).trans (grown_set1 _ g 3 x3)).trans (grown_set1 _ g 4 x4)).trans (grown_set1 _ g 5 x5)).trans (grown_set1 _ g 6 x6)).trans (grown_set1 _ g 7 x7))
/-- The store into the box: its row lies in another block, as its cells are no numbers. -/
theorem OutCut.of {lo g : Nat} {R : SeaR} {w0 w : World} {A : Option Addr} {cap : Nat} {cs : List Value} (hg : lo ≤ g) (hB : Blk w g 58 cs) (hc : cs.length = 8) (ho : OwnInts w lo (.slice A R.l.length cap) R.l) (hb : Below lo w0 w) (hne : ∀ k, (Value.slice A R.l.length cap).ownBlock = some k → k ≠ g) (hl : lo ≤ w.heap.size) :
    OutCut lo R w0 (.pointer (some ⟨g, 0, none⟩)) ((((((((w.setCell ⟨g, 0, none⟩ (.bool R.b)).setCell ⟨g, 1, none⟩ (.bool R.o)).setCell ⟨g, 2, none⟩ (.string R.s)).setCell ⟨g, 3, none⟩ (.int .i64 R.q)).setCell ⟨g, 4, none⟩ (.string R.t)).setCell ⟨g, 5, none⟩ (.slice A R.l.length cap)).setCell ⟨g, 6, none⟩ (.int .i64 R.d)).setCell ⟨g, 7, none⟩ (.int .i64 R.c)) := by
  have hgr := grown_set8 w g (.bool R.b) (.bool R.o) (.string R.s) (.int .i64 R.q) (.string R.t) (.slice A R.l.length cap) (.int .i64 R.d) (.int .i64 R.c)
  have ho2 := ho.kept hgr (by
    cases hv : (Value.slice A R.l.length cap).ownBlock with
    | none => exact .inl rfl
    | some a => exact .inr fun e => hne a hv (Option.some.inj e))
  refine ⟨g, A, cap, rfl, ⟨hg, Nat.lt_of_lt_of_le hB.lt hgr.size⟩, ?_, Own2.new ho2 (Nat.le_refl _), hb.grown hgr hl fun a e => by have := Option.some.inj e; omega⟩
  have := (((((((hB.set 0 (.bool R.b)).set 1 (.bool R.o)).set 2 (.string R.s)).set 3 (.int .i64 R.q)).set 4 (.string R.t)).set 5 (.slice A R.l.length cap)).set 6 (.int .i64 R.d)).set 7 (.int .i64 R.c)
  match cs, hc with
  | [c0, c1, c2, c3, c4, c5, c6, c7], _ => exact this
theorem own_not_box {w : World} {lo g : Nat} {v : Value} {l : List Int} {t : TypeId} {cs : List Value} (h : OwnInts w lo v l) (hB : Blk w g t cs) (ht : t ≠ 2) : ∀ k, v.ownBlock = some k → k ≠ g := by
  intro k hk e
  rcases h.2.2 with ⟨rfl, _⟩ | ⟨g', cap, cur, rfl, _, hh, _⟩
  · simp [Value.ownBlock] at hk
  · simp [Value.ownBlock] at hk
    subst hk e
    unfold Blk at hB
    rw [hB] at hh
    cases hh
    exact ht rfl
/-- A row of numbers is marked: a box of another type stays. -/
theorem Own2.box {w w' : World} {lo hi g : Nat} {u : Value} {m : List Int} {t : TypeId} {cs : List Value} (k : Own2 w lo hi u m) (hg : w.grownBy w' u.ownBlock) (h : Blk w g t cs) (ht : t ≠ 2) : Blk w' g t cs :=
  (hg.block g h.lt (fun e => own_not_box k.1 h ht g e.symm rfl)).trans h
end Go.Proofs.YtbadpmghlclfkaaDoor
