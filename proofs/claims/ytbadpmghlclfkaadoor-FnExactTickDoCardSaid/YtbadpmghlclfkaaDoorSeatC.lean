/- What was said there, used up to a place. -/
import Derived.Test.YtbadpmghlclfkaaDoorSeatB
import Derived.Test.YtbadpmghlclfkaaDoorText
namespace Go.Proofs.YtbadpmghlclfkaaDoor
open Go.RowKit
/-- What Eat hands back. -/
def eatR (b o : Bool) (s : ByteArray) (q : Int) (t : ByteArray) (l : List Int) (n : Int) : SeaR := if seatB s q t l = true then (if 0 ≤ n ∧ n ≤ (s.size : Int) then ⟨b, o, s.extract n.toNat s.size, q, t, l, 0, 0⟩ else noSeat 0 8) else noSeat 0 1
theorem eatR_no {b o : Bool} {s : ByteArray} {q : Int} {t : ByteArray} {l : List Int} {n : Int} (h : seatB s q t l = false) : eatR b o s q t l n = noSeat 0 1 := if_neg (by simp [h])
theorem eatR_range {b o : Bool} {s : ByteArray} {q : Int} {t : ByteArray} {l : List Int} {n : Int} (h : seatB s q t l = true) (h2 : ¬ (0 ≤ n ∧ n ≤ (s.size : Int))) : eatR b o s q t l n = noSeat 0 8 := by rw [eatR, if_pos h, if_neg h2]
theorem eatR_ok {b o : Bool} {s : ByteArray} {q : Int} {t : ByteArray} {l : List Int} {n : Nat} (h : seatB s q t l = true) (h2 : n ≤ s.size) : eatR b o s q t l (n : Int) = ⟨b, o, s.extract n s.size, q, t, l, 0, 0⟩ := by rw [eatR, if_pos h, if_pos ⟨by omega, by omega⟩]; rfl
theorem OwnInts.set8 {w : World} {base g : Nat} {v : Value} {l : List Int} (h : OwnInts w base v l) (hg : g < base) (x0 x1 x2 x3 x4 x5 x6 x7 : Value) :
    OwnInts ((((((((w.setCell ⟨g, 0, none⟩ x0).setCell ⟨g, 1, none⟩ x1).setCell ⟨g, 2, none⟩ x2).setCell ⟨g, 3, none⟩ x3).setCell ⟨g, 4, none⟩ x4).setCell ⟨g, 5, none⟩ x5).setCell ⟨g, 6, none⟩ x6).setCell ⟨g, 7, none⟩ x7) base v l :=
  ((h.set6 hg _ _ _ _ _ _).setCell _ _ _ hg).setCell _ _ _ hg
theorem below_set8 {w w' : World} {b g : Nat} (h : Below b w w') (hg : b ≤ g) (x0 x1 x2 x3 x4 x5 x6 x7 : Value) :
    Below b w ((((((((w'.setCell ⟨g, 0, none⟩ x0).setCell ⟨g, 1, none⟩ x1).setCell ⟨g, 2, none⟩ x2).setCell ⟨g, 3, none⟩ x3).setCell ⟨g, 4, none⟩ x4).setCell ⟨g, 5, none⟩ x5).setCell ⟨g, 6, none⟩ x6).setCell ⟨g, 7, none⟩ x7) :=
  ((below_set6 h hg x0 x1 x2 x3 x4 x5).setCell (p := ⟨g, 6, none⟩) hg x6).setCell (p := ⟨g, 7, none⟩) hg x7
theorem SeatOutEnd.of {base : Nat} {R : SeaR} {w w' : World} {A : Option Addr} {n cap : Nat} (hn : n = R.l.length) (h : OwnInts w' base (.slice A n cap) R.l) (k : Below base w w') : SeatOutEnd base R w (.returned (.agg #[.bool R.b, .bool R.o, .string R.s, .int .i64 R.q, .string R.t, .slice A n cap, .int .i64 R.d, .int .i64 R.c])) w' := by
  subst hn; exact ⟨A, cap, rfl, h, k⟩
set_option maxHeartbeats 1000000 in
theorem specIll_any (c : Int) (w : World) : Calls Tryd.prog 64 #[.int .i64 c] w (fun e w' => e = .returned (.agg #[.bool false, .bool false, .string ⟨#[]⟩, .int .i64 0, .string ⟨#[]⟩, .slice none 0 0, .int .i64 0, .int .i64 c]) ∧ Below w.heap.size w w') := by
  go_enter Tryd.func64, Tryd.ntmps64
  go_wp2
  refine bodyPost_ret (v := .agg #[.bool false, .bool false, .string ⟨#[]⟩, .int .i64 0, .string ⟨#[]⟩, .slice none 0 0, .int .i64 0, .int .i64 c]) (by simp [results, Tryd.results64, go_sem]) rfl ?_
  exact ⟨rfl, (Below.refl _ _).alloc (Nat.le_refl _) _⟩
end Go.Proofs.YtbadpmghlclfkaaDoor
