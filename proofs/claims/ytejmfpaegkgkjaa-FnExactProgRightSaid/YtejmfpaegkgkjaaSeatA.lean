/- Who sits there: which are right; how large; copied, compared, marked and looked at again. -/
import Derived.Test.YtejmfpaegkgkjaaCells
import Derived.Test.YtejmfpaegkgkjaaOwn2
namespace Go.Proofs.Ytejmfpaegkgkjaa
open Go.RowKit
theorem Blk.six {w : World} {g : Nat} {t : TypeId} {x0 x1 x2 x3 x4 x5 : Value} (h : Blk w g t [x0, x1, x2, x3, x4, x5]) : w.cell? ⟨g, 0, none⟩ = some x0 ∧ w.cell? ⟨g, 1, none⟩ = some x1 ∧ w.cell? ⟨g, 2, none⟩ = some x2 ∧ w.cell? ⟨g, 3, none⟩ = some x3 ∧ w.cell? ⟨g, 4, none⟩ = some x4 ∧ w.cell? ⟨g, 5, none⟩ = some x5 ∧ w.frozen? ⟨g, 0, none⟩ = false ∧ w.frozen? ⟨g, 1, none⟩ = false ∧ w.frozen? ⟨g, 2, none⟩ = false ∧ w.frozen? ⟨g, 3, none⟩ = false ∧ w.frozen? ⟨g, 4, none⟩ = false ∧ w.frozen? ⟨g, 5, none⟩ = false :=
  ⟨h.cell 0 (by simp), h.cell 1 (by simp), h.cell 2 (by simp), h.cell 3 (by simp), h.cell 4 (by simp), h.cell 5 (by simp), h.free 0, h.free 1, h.free 2, h.free 3, h.free 4, h.free 5⟩
theorem Blk.eight {w : World} {g : Nat} {t : TypeId} {x0 x1 x2 x3 x4 x5 x6 x7 : Value} (h : Blk w g t [x0, x1, x2, x3, x4, x5, x6, x7]) : w.cell? ⟨g, 0, none⟩ = some x0 ∧ w.cell? ⟨g, 1, none⟩ = some x1 ∧ w.cell? ⟨g, 2, none⟩ = some x2 ∧ w.cell? ⟨g, 3, none⟩ = some x3 ∧ w.cell? ⟨g, 4, none⟩ = some x4 ∧ w.cell? ⟨g, 5, none⟩ = some x5 ∧ w.cell? ⟨g, 6, none⟩ = some x6 ∧ w.cell? ⟨g, 7, none⟩ = some x7 ∧ w.frozen? ⟨g, 0, none⟩ = false ∧ w.frozen? ⟨g, 1, none⟩ = false ∧ w.frozen? ⟨g, 2, none⟩ = false ∧ w.frozen? ⟨g, 3, none⟩ = false ∧ w.frozen? ⟨g, 4, none⟩ = false ∧ w.frozen? ⟨g, 5, none⟩ = false ∧ w.frozen? ⟨g, 6, none⟩ = false ∧ w.frozen? ⟨g, 7, none⟩ = false :=
  ⟨h.cell 0 (by simp), h.cell 1 (by simp), h.cell 2 (by simp), h.cell 3 (by simp), h.cell 4 (by simp), h.cell 5 (by simp), h.cell 6 (by simp), h.cell 7 (by simp), h.free 0, h.free 1, h.free 2, h.free 3, h.free 4, h.free 5, h.free 6, h.free 7⟩
/-- A right seat. -/
def seatB (s : ByteArray) (q : Int) (t : ByteArray) (l : List Int) : Bool := decide (s.size ≤ 120) && markB q && labB t l
theorem seatB_long {s t : ByteArray} {q : Int} {l : List Int} (h : ¬ s.size ≤ 120) : seatB s q t l = false := by simp [seatB, h]
theorem seatB_bad {s t : ByteArray} {q : Int} {l : List Int} (h : markB q = false) : seatB s q t l = false := by simp [seatB, h]
theorem seatB_lab {s t : ByteArray} {q : Int} {l : List Int} (h1 : s.size ≤ 120) (h2 : markB q = true) : seatB s q t l = labB t l := by simp [seatB, h1, h2]
theorem seatB_parts {s t : ByteArray} {q : Int} {l : List Int} (h : seatB s q t l = true) : s.size ≤ 120 ∧ (0 ≤ q ∧ q ≤ 15) ∧ labB t l = true := by
  unfold seatB at h
  rw [Bool.and_eq_true, Bool.and_eq_true] at h
  exact ⟨of_decide_eq_true h.1.1, of_decide_eq_true h.1.2, h.2⟩
/-- A seat whose marks lie in memory of the call's own. -/
def SeatEnd (base : Nat) (b o : Bool) (s : ByteArray) (q : Int) (t : ByteArray) (l : List Int) (w : World) (e : Ending) (w' : World) : Prop := ∃ A cap, e = .returned (.agg #[.bool b, .bool o, .string s, .int .i64 q, .string t, .slice A l.length cap]) ∧ OwnInts w' base (.slice A l.length cap) l ∧ Below base w w'
theorem OwnInts.set6 {w : World} {base g : Nat} {v : Value} {l : List Int} (h : OwnInts w base v l) (hg : g < base) (x0 x1 x2 x3 x4 x5 : Value) :
    OwnInts ((((((w.setCell ⟨g, 0, none⟩ x0).setCell ⟨g, 1, none⟩ x1).setCell ⟨g, 2, none⟩ x2).setCell ⟨g, 3, none⟩ x3).setCell ⟨g, 4, none⟩ x4).setCell ⟨g, 5, none⟩ x5) base v l :=
  (((((h.setCell _ _ _ hg).setCell _ _ _ hg).setCell _ _ _ hg).setCell _ _ _ hg).setCell _ _ _ hg).setCell _ _ _ hg
theorem below_set6 {w w' : World} {b g : Nat} (h : Below b w w') (hg : b ≤ g) (x0 x1 x2 x3 x4 x5 : Value) :
    Below b w ((((((w'.setCell ⟨g, 0, none⟩ x0).setCell ⟨g, 1, none⟩ x1).setCell ⟨g, 2, none⟩ x2).setCell ⟨g, 3, none⟩ x3).setCell ⟨g, 4, none⟩ x4).setCell ⟨g, 5, none⟩ x5) :=
  (((((h.setCell (p := ⟨g, 0, none⟩) hg x0).setCell (p := ⟨g, 1, none⟩) hg x1).setCell (p := ⟨g, 2, none⟩) hg x2).setCell (p := ⟨g, 3, none⟩) hg x3).setCell (p := ⟨g, 4, none⟩) hg x4).setCell (p := ⟨g, 5, none⟩) hg x5
/-- What a call hands back: a seat, of which secret it was denied, a code. -/
structure SeaR where
  b : Bool
  o : Bool
  s : ByteArray
  q : Int
  t : ByteArray
  l : List Int
  d : Int
  c : Int
def SeatOutEnd (base : Nat) (R : SeaR) (w : World) (e : Ending) (w' : World) : Prop := ∃ A cap, e = .returned (.agg #[.bool R.b, .bool R.o, .string R.s, .int .i64 R.q, .string R.t, .slice A R.l.length cap, .int .i64 R.d, .int .i64 R.c]) ∧ OwnInts w' base (.slice A R.l.length cap) R.l ∧ Below base w w'
def noSeat (d c : Int) : SeaR := ⟨false, false, ⟨#[]⟩, 0, ⟨#[]⟩, [], d, c⟩
theorem SeatOutEnd.none_ {base : Nat} {R : SeaR} {w w' : World} {d c : Int} (h : R = noSeat d c) (k : Below base w w') : SeatOutEnd base R w (.returned (.agg #[.bool false, .bool false, .string ⟨#[]⟩, .int .i64 0, .string ⟨#[]⟩, .slice none 0 0, .int .i64 d, .int .i64 c])) w' := by
  subst h; exact ⟨none, 0, rfl, OwnInts.nil _ _, k⟩
end Go.Proofs.Ytejmfpaegkgkjaa
