/- What was said there, used up to a place. -/
import Derived.Test.YtajnligcngekcaaSeatB
import Derived.Test.YtajnligcngekcaaText
namespace Go.Proofs.Ytajnligcngekcaa
open Go.RowKit
/-- What Eat hands back. -/
def eatR (b o : Bool) (s : ByteArray) (q : Int) (t : ByteArray) (l : List Int) (n : Int) : SeaR := if seatB s q t l = true then (if 0 ≤ n ∧ n ≤ (s.size : Int) then ⟨b, o, s.extract n.toNat s.size, q, t, l, 0, 0⟩ else noSeat 0 8) else noSeat 0 1
theorem eatR_no {b o : Bool} {s : ByteArray} {q : Int} {t : ByteArray} {l : List Int} {n : Int} (h : seatB s q t l = false) : eatR b o s q t l n = noSeat 0 1 := if_neg (by simp [h])
theorem eatR_range {b o : Bool} {s : ByteArray} {q : Int} {t : ByteArray} {l : List Int} {n : Int} (h : seatB s q t l = true) (h2 : ¬ (0 ≤ n ∧ n ≤ (s.size : Int))) : eatR b o s q t l n = noSeat 0 8 := by rw [eatR, if_pos h, if_neg h2]
theorem eatR_ok {b o : Bool} {s : ByteArray} {q : Int} {t : ByteArray} {l : List Int} {n : Nat} (h : seatB s q t l = true) (h2 : n ≤ s.size) : eatR b o s q t l (n : Int) = ⟨b, o, s.extract n s.size, q, t, l, 0, 0⟩ := by rw [eatR, if_pos h, if_pos ⟨by omega, by omega⟩]; rfl
theorem OwnInts.set8 {w : World} {base g : Nat} {v : Value} {l : List Int} (h : OwnInts w base v l) (hg : g < base) (x0 x1 x2 x3 x4 x5 x6 x7 : Value) :
    OwnInts ((((((((w.setCell ⟨g, 0, none⟩ x0).setCell ⟨g, 1, none⟩ x1).setCell ⟨g, 2, none⟩ x2).setCell ⟨g, 3, none⟩ x3).setCell ⟨g, 4, none⟩ x4).setCell ⟨g, 5, none⟩ x5).setCell ⟨g, 6, none⟩ x6).setCell ⟨g, 7, none⟩ x7) base v l :=
  ((h.set6 hg _ _ _ _ _ _).setCell _ _ _ hg).setCell _ _ _ hg
theorem below_set8 {w w' : World} {b g : Nat} (h : Below b w w') (hg : b ≤ g) (x0 x1 x2 x3 x4 x5 x6 x7 : Value) :
    Below b w ((((((((w'.setCell ⟨g, 0, none⟩ x0).setCell ⟨g, 1, none⟩ x1).setCell ⟨g, 2, none⟩ x2).setCell ⟨g, 3, none⟩ x3).setCell ⟨g, 4, none⟩ x4).setCell ⟨g, 5, none⟩ x5).setCell ⟨g, 6, none⟩ x6).setCell ⟨g, 7, none⟩ x7) :=
  ((below_set6 h hg x0 x1 x2 x3 x4 x5).setCell (p := ⟨g, 6, none⟩) hg x6).setCell (p := ⟨g, 7, none⟩) hg x7
theorem SeatOutEnd.of {base : Nat} {R : SeaR} {w w' : World} {A : Option Addr} {n cap : Nat} (hn : n = R.l.length) (h : OwnInts w' base (.slice A n cap) R.l) (k : Below base w w') : SeatOutEnd base R w (.returned (.agg #[.bool R.b, .bool R.o, .string R.s, .int .i64 R.q, .string R.t, .slice A n cap, .int .i64 R.d, .int .i64 R.c])) w' := by
  subst hn; exact ⟨A, cap, rfl, h, k⟩
set_option maxHeartbeats 1000000 in
theorem specIll_any (c : Int) (w : World) : Calls Try.prog 34 #[.int .i64 c] w (fun e w' => e = .returned (.agg #[.bool false, .bool false, .string ⟨#[]⟩, .int .i64 0, .string ⟨#[]⟩, .slice none 0 0, .int .i64 0, .int .i64 c]) ∧ Below w.heap.size w w') := by
  go_enter Try.func34, Try.ntmps34
  go_wp2
  refine bodyPost_ret (v := .agg #[.bool false, .bool false, .string ⟨#[]⟩, .int .i64 0, .string ⟨#[]⟩, .slice none 0 0, .int .i64 0, .int .i64 c]) (by simp [results, Try.results34, go_sem]) rfl ?_
  exact ⟨rfl, (Below.refl _ _).alloc (Nat.le_refl _) _⟩
set_option maxHeartbeats 8000000 in
theorem specEat_any (b o : Bool) (s : ByteArray) (q : Int) (t : ByteArray) (v : Value) (l : List Int) (a : Int) (w : World) (hs : s.size ≤ 1048576) (ht : t.size ≤ 1048576) (hv : Ints w v l) :
    Calls Try.prog 18 #[.agg #[.bool b, .bool o, .string s, .int .i64 q, .string t, v], .int .i64 a] w (SeatOutEnd w.heap.size (eatR b o s q t l a) w) := by
  obtain ⟨A, cap, rfl⟩ := hv.form
  have hbb := boxes2 w [.bool b, .bool o, .string s, .int .i64 q, .string t, .slice A l.length cap] [.bool false, .bool false, .string ⟨#[]⟩, .int .i64 0, .string ⟨#[]⟩, .slice none 0 0, .int .i64 0, .int .i64 0] 31 41
  have hB := Lib.hid hbb.1
  have hR := Lib.hid hbb.2
  have hbW := Lib.hid (((Below.refl w.heap.size w).alloc (Nat.le_refl _) (.cells #[.bool b, .bool o, .string s, .int .i64 q, .string t, .slice A l.length cap] 31)).alloc (by simp) (.cells #[.bool false, .bool false, .string ⟨#[]⟩, .int .i64 0, .string ⟨#[]⟩, .slice none 0 0, .int .i64 0, .int .i64 0] 41))
  have hIn := Lib.hid ((hv.alloc (.cells #[.bool b, .bool o, .string s, .int .i64 q, .string t, .slice A l.length cap] 31)).alloc (.cells #[.bool false, .bool false, .string ⟨#[]⟩, .int .i64 0, .string ⟨#[]⟩, .slice none 0 0, .int .i64 0, .int .i64 0] 41))
  clear hv hbb
  cases hsb : seatB s q t l with
  | true =>
    by_cases hr : 0 ≤ a ∧ a ≤ (s.size : Int)
    · obtain ⟨hr1, hr2⟩ := hr
      obtain ⟨n, rfl⟩ : ∃ n : Nat, a = (n : Int) := ⟨a.toNat, by omega⟩
      have hn : n ≤ s.size := by omega
      have e0 := Lib.hid (eatR_ok (b := b) (o := o) hsb hn)
      have i0 := Lib.hid (isB_yes hr1 hr2)
      have hnn : ¬ (n : Int) < 0 := by omega
      have hns : ¬ (s.size : Int) < (n : Int) := by omega
      go_enter Try.func18, Try.ntmps18
      go_wp2_with (first | (go_at_call 8; refine (specSeatRight_any b o s q t _ l _ hs ht hIn.out).mono ?_; rintro e1 w1 ⟨rfl, hb1⟩; have z1 := Lib.hid (show w.heap.size + 1 + 1 ≤ w1.heap.size from Nat.le_trans (by simp) hb1.size); replace hbW := Lib.hid (Below.then_ hbW.out hb1 (Nat.le_refl _)); replace hIn := Lib.hid (hIn.out.below hb1); replace hB := Lib.hid (hB.out.up hb1); replace hR := Lib.hid (hR.out.up hb1); obtain ⟨x0, x1, x2, x3, x4, x5, xf0, xf1, xf2, xf3, xf4, xf5⟩ := hB.out.six; obtain ⟨y0, y1, y2, y3, y4, y5, y6, y7, yf0, yf1, yf2, yf3, yf4, yf5, yf6, yf7⟩ := hR.out.eight; have hlx := hB.out.lt; have hly := hR.out.lt; clear hb1) | (go_at_call 32; refine (specSeatCopy_any b o s q t _ l _ hIn.out).mono ?_; rintro e4 w4 ⟨A1, cap1, rfl, ho4, hb4⟩; have z4 := Lib.hid (show w.heap.size + 1 + 1 ≤ w4.heap.size from Nat.le_trans z1.out hb4.size); replace ho4 := Lib.hid (Own2.new (lo := w.heap.size + 1 + 1) ho4 z1.out); replace hbW := Lib.hid (Below.then_ hbW.out hb4 (Nat.le_refl _)); replace hB := Lib.hid (hB.out.up hb4); replace hR := Lib.hid (hR.out.up hb4); clear x0 x1 x2 x3 x4 x5 xf0 xf1 xf2 xf3 xf4 xf5; clear y0 y1 y2 y3 y4 y5 y6 y7 yf0 yf1 yf2 yf3 yf4 yf5 yf6 yf7; clear hlx hly; obtain ⟨x0, x1, x2, x3, x4, x5, xf0, xf1, xf2, xf3, xf4, xf5⟩ := hB.out.six; obtain ⟨y0, y1, y2, y3, y4, y5, y6, y7, yf0, yf1, yf2, yf3, yf4, yf5, yf6, yf7⟩ := hR.out.eight; have hlx := hB.out.lt; have hly := hR.out.lt; have hz4 := z4.out; clear hb4) | (go_at_call 24; refine (is_any _ _ _ _).mono ?_; rintro e2 w2 ⟨rfl, rfl⟩; rw [i0.out]) | (go_at_call 34; refine (specIll_any _ _).mono ?_; rintro e3 w3 ⟨rfl, hb3⟩; replace hbW := Lib.hid (Below.then_ hbW.out hb3 (Nat.le_refl _)); replace hR := Lib.hid (hR.out.up hb3); clear y0 y1 y2 y3 y4 y5 y6 y7 yf0 yf1 yf2 yf3 yf4 yf5 yf6 yf7; obtain ⟨y0, y1, y2, y3, y4, y5, y6, y7, yf0, yf1, yf2, yf3, yf4, yf5, yf6, yf7⟩ := hR.out.eight; clear hly; have hly := hR.out.lt; clear hb3))
      refine bodyPost_ret (v := .agg #[.bool b, .bool o, .string (s.extract n s.size), .int .i64 q, .string t, .slice A1 l.length cap1, .int .i64 0, .int .i64 0]) (by simp [results, Try.results18, go_sem, y0, y1, y2, y3, y4, y5, y6, y7, hly]) rfl ?_
      rw [e0.out]
      exact SeatOutEnd.of (R := ⟨b, o, s.extract n s.size, q, t, l, 0, 0⟩) rfl (((ho4.out.1.set8 (by omega) _ _ _ _ _ _ _ _).alloc _).mono (by omega)) ((fun hh => Below.alloc hh hh.size _) (below_set8 hbW.out (Nat.le_succ _) _ _ _ _ _ _ _ _))
    · have e0 := Lib.hid (eatR_range (b := b) (o := o) hsb hr)
      have i0 := Lib.hid (isB_no hr)
      clear hr
      go_enter Try.func18, Try.ntmps18
      go_wp2_with (first | (go_at_call 8; refine (specSeatRight_any b o s q t _ l _ hs ht hIn.out).mono ?_; rintro e1 w1 ⟨rfl, hb1⟩; have z1 := Lib.hid (show w.heap.size + 1 + 1 ≤ w1.heap.size from Nat.le_trans (by simp) hb1.size); replace hbW := Lib.hid (Below.then_ hbW.out hb1 (Nat.le_refl _)); replace hIn := Lib.hid (hIn.out.below hb1); replace hB := Lib.hid (hB.out.up hb1); replace hR := Lib.hid (hR.out.up hb1); obtain ⟨x0, x1, x2, x3, x4, x5, xf0, xf1, xf2, xf3, xf4, xf5⟩ := hB.out.six; obtain ⟨y0, y1, y2, y3, y4, y5, y6, y7, yf0, yf1, yf2, yf3, yf4, yf5, yf6, yf7⟩ := hR.out.eight; have hlx := hB.out.lt; have hly := hR.out.lt; clear hb1) | (go_at_call 24; refine (is_any _ _ _ _).mono ?_; rintro e2 w2 ⟨rfl, rfl⟩; rw [i0.out]) | (go_at_call 34; refine (specIll_any _ _).mono ?_; rintro e3 w3 ⟨rfl, hb3⟩; replace hbW := Lib.hid (Below.then_ hbW.out hb3 (Nat.le_refl _)); replace hR := Lib.hid (hR.out.up hb3); clear y0 y1 y2 y3 y4 y5 y6 y7 yf0 yf1 yf2 yf3 yf4 yf5 yf6 yf7; obtain ⟨y0, y1, y2, y3, y4, y5, y6, y7, yf0, yf1, yf2, yf3, yf4, yf5, yf6, yf7⟩ := hR.out.eight; clear hly; have hly := hR.out.lt; clear hb3))
      refine bodyPost_ret (v := .agg #[.bool false, .bool false, .string ⟨#[]⟩, .int .i64 0, .string ⟨#[]⟩, .slice none 0 0, .int .i64 0, .int .i64 8]) (by simp [results, Try.results18, go_sem, y0, y1, y2, y3, y4, y5, y6, y7]) rfl ?_
      exact SeatOutEnd.none_ e0.out (below_set8 hbW.out (Nat.le_succ _) _ _ _ _ _ _ _ _)
  | false =>
    have e0 := Lib.hid (eatR_no (b := b) (o := o) (n := a) hsb)
    go_enter Try.func18, Try.ntmps18
    go_wp2_with (first | (go_at_call 8; refine (specSeatRight_any b o s q t _ l _ hs ht hIn.out).mono ?_; rintro e1 w1 ⟨rfl, hb1⟩; have z1 := Lib.hid (show w.heap.size + 1 + 1 ≤ w1.heap.size from Nat.le_trans (by simp) hb1.size); replace hbW := Lib.hid (Below.then_ hbW.out hb1 (Nat.le_refl _)); replace hIn := Lib.hid (hIn.out.below hb1); replace hB := Lib.hid (hB.out.up hb1); replace hR := Lib.hid (hR.out.up hb1); obtain ⟨x0, x1, x2, x3, x4, x5, xf0, xf1, xf2, xf3, xf4, xf5⟩ := hB.out.six; obtain ⟨y0, y1, y2, y3, y4, y5, y6, y7, yf0, yf1, yf2, yf3, yf4, yf5, yf6, yf7⟩ := hR.out.eight; have hlx := hB.out.lt; have hly := hR.out.lt; clear hb1) | (go_at_call 34; refine (specIll_any _ _).mono ?_; rintro e3 w3 ⟨rfl, hb3⟩; replace hbW := Lib.hid (Below.then_ hbW.out hb3 (Nat.le_refl _)); replace hR := Lib.hid (hR.out.up hb3); clear y0 y1 y2 y3 y4 y5 y6 y7 yf0 yf1 yf2 yf3 yf4 yf5 yf6 yf7; obtain ⟨y0, y1, y2, y3, y4, y5, y6, y7, yf0, yf1, yf2, yf3, yf4, yf5, yf6, yf7⟩ := hR.out.eight; clear hly; have hly := hR.out.lt; clear hb3))
    refine bodyPost_ret (v := .agg #[.bool false, .bool false, .string ⟨#[]⟩, .int .i64 0, .string ⟨#[]⟩, .slice none 0 0, .int .i64 0, .int .i64 1]) (by simp [results, Try.results18, go_sem, y0, y1, y2, y3, y4, y5, y6, y7]) rfl ?_
    exact SeatOutEnd.none_ e0.out (below_set8 hbW.out (Nat.le_succ _) _ _ _ _ _ _ _ _)
set_option maxHeartbeats 8000000 in
theorem implEat_any (b o : Bool) (s : ByteArray) (q : Int) (t : ByteArray) (v : Value) (l : List Int) (a : Int) (w : World) (hs : s.size ≤ 1048576) (ht : t.size ≤ 1048576) (hv : Ints w v l) :
    Calls Try.prog 19 #[.agg #[.bool b, .bool o, .string s, .int .i64 q, .string t, v], .int .i64 a] w (SeatOutEnd w.heap.size (eatR b o s q t l a) w) := by
  obtain ⟨A, cap, rfl⟩ := hv.form
  have hbb := boxes2 w [.bool b, .bool o, .string s, .int .i64 q, .string t, .slice A l.length cap] [.bool false, .bool false, .string ⟨#[]⟩, .int .i64 0, .string ⟨#[]⟩, .slice none 0 0, .int .i64 0, .int .i64 0] 31 41
  have hB := Lib.hid hbb.1
  have hR := Lib.hid hbb.2
  have hbW := Lib.hid (((Below.refl w.heap.size w).alloc (Nat.le_refl _) (.cells #[.bool b, .bool o, .string s, .int .i64 q, .string t, .slice A l.length cap] 31)).alloc (by simp) (.cells #[.bool false, .bool false, .string ⟨#[]⟩, .int .i64 0, .string ⟨#[]⟩, .slice none 0 0, .int .i64 0, .int .i64 0] 41))
  have hIn := Lib.hid ((hv.alloc (.cells #[.bool b, .bool o, .string s, .int .i64 q, .string t, .slice A l.length cap] 31)).alloc (.cells #[.bool false, .bool false, .string ⟨#[]⟩, .int .i64 0, .string ⟨#[]⟩, .slice none 0 0, .int .i64 0, .int .i64 0] 41))
  clear hv hbb
  cases hsb : seatB s q t l with
  | true =>
    by_cases hr : 0 ≤ a ∧ a ≤ (s.size : Int)
    · obtain ⟨hr1, hr2⟩ := hr
      obtain ⟨n, rfl⟩ : ∃ n : Nat, a = (n : Int) := ⟨a.toNat, by omega⟩
      have hn : n ≤ s.size := by omega
      have e0 := Lib.hid (eatR_ok (b := b) (o := o) hsb hn)
      have i0 := Lib.hid (isB_yes hr1 hr2)
      have hnn : ¬ (n : Int) < 0 := by omega
      have hns : ¬ (s.size : Int) < (n : Int) := by omega
      go_enter Try.func19, Try.ntmps19
      go_wp2_with (first | (go_at_call 10; refine (implSeatRight_any b o s q t _ l _ hs ht hIn.out).mono ?_; rintro e1 w1 ⟨rfl, hb1⟩; have z1 := Lib.hid (show w.heap.size + 1 + 1 ≤ w1.heap.size from Nat.le_trans (by simp) hb1.size); replace hbW := Lib.hid (Below.then_ hbW.out hb1 (Nat.le_refl _)); replace hIn := Lib.hid (hIn.out.below hb1); replace hB := Lib.hid (hB.out.up hb1); replace hR := Lib.hid (hR.out.up hb1); obtain ⟨x0, x1, x2, x3, x4, x5, xf0, xf1, xf2, xf3, xf4, xf5⟩ := hB.out.six; obtain ⟨y0, y1, y2, y3, y4, y5, y6, y7, yf0, yf1, yf2, yf3, yf4, yf5, yf6, yf7⟩ := hR.out.eight; have hlx := hB.out.lt; have hly := hR.out.lt; clear hb1) | (go_at_call 33; refine (implSeatAnew_any b o s q t _ l _ hs ht hIn.out).mono ?_; rintro e4 w4 ⟨A1, cap1, rfl, ho4, hb4⟩; have z4 := Lib.hid (show w.heap.size + 1 + 1 ≤ w4.heap.size from Nat.le_trans z1.out hb4.size); replace ho4 := Lib.hid ((Own2.new (lo := w.heap.size + 1 + 1) ho4 z1.out).alloc (.cells #[.bool b, .bool o, .string s, .int .i64 q, .string t, .slice A1 l.length cap1] 31)); replace hbW := Lib.hid ((Below.then_ hbW.out hb4 (Nat.le_refl _)).alloc (by have := z4.out; omega) (.cells #[.bool b, .bool o, .string s, .int .i64 q, .string t, .slice A1 l.length cap1] 31)); replace hB := Lib.hid ((hB.out.up hb4).alloc (.cells #[.bool b, .bool o, .string s, .int .i64 q, .string t, .slice A1 l.length cap1] 31)); replace hR := Lib.hid ((hR.out.up hb4).alloc (.cells #[.bool b, .bool o, .string s, .int .i64 q, .string t, .slice A1 l.length cap1] 31)); have hN := Lib.hid (show Blk (w4.alloc (.cells #[.bool b, .bool o, .string s, .int .i64 q, .string t, .slice A1 l.length cap1] 31)) w4.heap.size 31 [.bool b, .bool o, .string s, .int .i64 q, .string t, .slice A1 l.length cap1] from heap_alloc_new w4 _); clear x0 x1 x2 x3 x4 x5 xf0 xf1 xf2 xf3 xf4 xf5; clear y0 y1 y2 y3 y4 y5 y6 y7 yf0 yf1 yf2 yf3 yf4 yf5 yf6 yf7; clear hlx hly; obtain ⟨x0, x1, x2, x3, x4, x5, xf0, xf1, xf2, xf3, xf4, xf5⟩ := hB.out.six; obtain ⟨y0, y1, y2, y3, y4, y5, y6, y7, yf0, yf1, yf2, yf3, yf4, yf5, yf6, yf7⟩ := hR.out.eight; obtain ⟨k0, k1, k2, k3, k4, k5, kf0, kf1, kf2, kf3, kf4, kf5⟩ := hN.out.six; have hlx := hB.out.lt; have hly := hR.out.lt; have hlk := hN.out.lt; have hz4 := z4.out; clear hb4) | (go_at_call 35; refine (piece_any s n s.size hn (Nat.le_refl _) hs _).mono ?_; rintro e5 w5 ⟨rfl, hb5⟩; have z5 := Lib.hid (show w4.heap.size + 1 ≤ w5.heap.size from Nat.le_trans (by simp) hb5.size); replace ho4 := Lib.hid (ho4.out.below hb5); replace hbW := Lib.hid (Below.then_ hbW.out hb5 (Nat.le_refl _)); replace hB := Lib.hid (hB.out.up hb5); replace hR := Lib.hid (hR.out.up hb5); replace hN := Lib.hid (hN.out.up hb5); clear x0 x1 x2 x3 x4 x5 xf0 xf1 xf2 xf3 xf4 xf5; clear y0 y1 y2 y3 y4 y5 y6 y7 yf0 yf1 yf2 yf3 yf4 yf5 yf6 yf7; clear k0 k1 k2 k3 k4 k5 kf0 kf1 kf2 kf3 kf4 kf5; clear hlx hly hlk; obtain ⟨x0, x1, x2, x3, x4, x5, xf0, xf1, xf2, xf3, xf4, xf5⟩ := hB.out.six; obtain ⟨y0, y1, y2, y3, y4, y5, y6, y7, yf0, yf1, yf2, yf3, yf4, yf5, yf6, yf7⟩ := hR.out.eight; obtain ⟨k0, k1, k2, k3, k4, k5, kf0, kf1, kf2, kf3, kf4, kf5⟩ := hN.out.six; have hlx := hB.out.lt; have hly := hR.out.lt; have hlk := hN.out.lt; clear hb5))
      refine bodyPost_ret (v := .agg #[.bool b, .bool o, .string (s.extract n s.size), .int .i64 q, .string t, .slice A1 l.length cap1, .int .i64 0, .int .i64 0]) (by simp [results, Try.results19, go_sem, y0, y1, y2, y3, y4, y5, y6, y7]) rfl ?_
      rw [e0.out]
      exact SeatOutEnd.of (R := ⟨b, o, s.extract n s.size, q, t, l, 0, 0⟩) rfl (((ho4.out.setO (Nat.le_refl _) _ _).1.set8 (by omega) _ _ _ _ _ _ _ _).mono (by omega)) (below_set8 (hbW.out.setCell (p := ⟨w4.heap.size, 2, none⟩) (show w.heap.size ≤ w4.heap.size by omega) _) (Nat.le_succ _) _ _ _ _ _ _ _ _)
    · have e0 := Lib.hid (eatR_range (b := b) (o := o) hsb hr)
      have i0 := Lib.hid (isB_no hr)
      by_cases hr1 : a < 0
      · clear hr
        go_enter Try.func19, Try.ntmps19
        go_wp2_with (first | (go_at_call 10; refine (implSeatRight_any b o s q t _ l _ hs ht hIn.out).mono ?_; rintro e1 w1 ⟨rfl, hb1⟩; have z1 := Lib.hid (show w.heap.size + 1 + 1 ≤ w1.heap.size from Nat.le_trans (by simp) hb1.size); replace hbW := Lib.hid (Below.then_ hbW.out hb1 (Nat.le_refl _)); replace hIn := Lib.hid (hIn.out.below hb1); replace hB := Lib.hid (hB.out.up hb1); replace hR := Lib.hid (hR.out.up hb1); obtain ⟨x0, x1, x2, x3, x4, x5, xf0, xf1, xf2, xf3, xf4, xf5⟩ := hB.out.six; obtain ⟨y0, y1, y2, y3, y4, y5, y6, y7, yf0, yf1, yf2, yf3, yf4, yf5, yf6, yf7⟩ := hR.out.eight; have hlx := hB.out.lt; have hly := hR.out.lt; clear hb1))
        refine bodyPost_ret (v := .agg #[.bool false, .bool false, .string ⟨#[]⟩, .int .i64 0, .string ⟨#[]⟩, .slice none 0 0, .int .i64 0, .int .i64 8]) (by simp [results, Try.results19, go_sem, y0, y1, y2, y3, y4, y5, y6, y7]) rfl ?_
        exact SeatOutEnd.none_ e0.out (below_set8 hbW.out (Nat.le_succ _) _ _ _ _ _ _ _ _)
      · have hr2 : (s.size : Int) < a := by omega
        clear hr
        go_enter Try.func19, Try.ntmps19
        go_wp2_with (first | (go_at_call 10; refine (implSeatRight_any b o s q t _ l _ hs ht hIn.out).mono ?_; rintro e1 w1 ⟨rfl, hb1⟩; have z1 := Lib.hid (show w.heap.size + 1 + 1 ≤ w1.heap.size from Nat.le_trans (by simp) hb1.size); replace hbW := Lib.hid (Below.then_ hbW.out hb1 (Nat.le_refl _)); replace hIn := Lib.hid (hIn.out.below hb1); replace hB := Lib.hid (hB.out.up hb1); replace hR := Lib.hid (hR.out.up hb1); obtain ⟨x0, x1, x2, x3, x4, x5, xf0, xf1, xf2, xf3, xf4, xf5⟩ := hB.out.six; obtain ⟨y0, y1, y2, y3, y4, y5, y6, y7, yf0, yf1, yf2, yf3, yf4, yf5, yf6, yf7⟩ := hR.out.eight; have hlx := hB.out.lt; have hly := hR.out.lt; clear hb1))
        refine bodyPost_ret (v := .agg #[.bool false, .bool false, .string ⟨#[]⟩, .int .i64 0, .string ⟨#[]⟩, .slice none 0 0, .int .i64 0, .int .i64 8]) (by simp [results, Try.results19, go_sem, y0, y1, y2, y3, y4, y5, y6, y7]) rfl ?_
        exact SeatOutEnd.none_ e0.out (below_set8 hbW.out (Nat.le_succ _) _ _ _ _ _ _ _ _)
  | false =>
    have e0 := Lib.hid (eatR_no (b := b) (o := o) (n := a) hsb)
    go_enter Try.func19, Try.ntmps19
    go_wp2_with (first | (go_at_call 10; refine (implSeatRight_any b o s q t _ l _ hs ht hIn.out).mono ?_; rintro e1 w1 ⟨rfl, hb1⟩; have z1 := Lib.hid (show w.heap.size + 1 + 1 ≤ w1.heap.size from Nat.le_trans (by simp) hb1.size); replace hbW := Lib.hid (Below.then_ hbW.out hb1 (Nat.le_refl _)); replace hIn := Lib.hid (hIn.out.below hb1); replace hB := Lib.hid (hB.out.up hb1); replace hR := Lib.hid (hR.out.up hb1); obtain ⟨x0, x1, x2, x3, x4, x5, xf0, xf1, xf2, xf3, xf4, xf5⟩ := hB.out.six; obtain ⟨y0, y1, y2, y3, y4, y5, y6, y7, yf0, yf1, yf2, yf3, yf4, yf5, yf6, yf7⟩ := hR.out.eight; have hlx := hB.out.lt; have hly := hR.out.lt; clear hb1))
    refine bodyPost_ret (v := .agg #[.bool false, .bool false, .string ⟨#[]⟩, .int .i64 0, .string ⟨#[]⟩, .slice none 0 0, .int .i64 0, .int .i64 1]) (by simp [results, Try.results19, go_sem, y0, y1, y2, y3, y4, y5, y6, y7]) rfl ?_
    exact SeatOutEnd.none_ e0.out (below_set8 hbW.out (Nat.le_succ _) _ _ _ _ _ _ _ _)
end Go.Proofs.Ytajnligcngekcaa
