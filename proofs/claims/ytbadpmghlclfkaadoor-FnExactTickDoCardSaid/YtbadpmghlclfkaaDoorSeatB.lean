/- A seat in memory of its own: the model's copy and the program's; a new one; one that says back, or does not. -/
import Derived.Test.YtbadpmghlclfkaaDoorSeatA
import Derived.Test.YtbadpmghlclfkaaDoorVaultC
namespace Go.Proofs.YtbadpmghlclfkaaDoor
open Go.RowKit
theorem seat_boxes (w : World) (l1 l2 : List Value) (t1 t2 : TypeId) : Blk ((w.alloc (.cells l1.toArray t1)).alloc (.cells l2.toArray t2)) w.heap.size t1 l1 ∧ Blk ((w.alloc (.cells l1.toArray t1)).alloc (.cells l2.toArray t2)) (w.heap.size + 1) t2 l2 := boxes2 w l1 l2 t1 t2
theorem SeatEnd.of {base : Nat} (b o : Bool) (s : ByteArray) (q : Int) (t : ByteArray) {l : List Int} {w w' : World} {A : Option Addr} {n cap : Nat} (hn : n = l.length) (h : OwnInts w' base (.slice A n cap) l) (k : Below base w w') : SeatEnd base b o s q t l w (.returned (.agg #[.bool b, .bool o, .string s, .int .i64 q, .string t, .slice A n cap])) w' := by
  subst hn; exact ⟨A, cap, rfl, h, k⟩
set_option maxHeartbeats 2000000 in
theorem specSeatCopy_any (b o : Bool) (s : ByteArray) (q : Int) (t : ByteArray) (v : Value) (l : List Int) (w : World) (hv : Ints w v l) :
    Calls Tryd.prog 93 #[.agg #[.bool b, .bool o, .string s, .int .i64 q, .string t, v]] w (SeatEnd w.heap.size b o s q t l w) := by
  have hl1 := Lib.hid hv.1
  obtain ⟨A, cap, rfl⟩ := hv.form
  obtain ⟨hB, hR⟩ := seat_boxes w [.bool b, .bool o, .string s, .int .i64 q, .string t, .slice A l.length cap] [.bool false, .bool false, .string ⟨#[]⟩, .int .i64 0, .string ⟨#[]⟩, .slice none 0 0] 56 56
  have hE := Lib.hid (own_ints (l := []) (empty_own ((w.alloc (.cells #[.bool b, .bool o, .string s, .int .i64 q, .string t, .slice A l.length cap] 56)).alloc (.cells #[.bool false, .bool false, .string ⟨#[]⟩, .int .i64 0, .string ⟨#[]⟩, .slice none 0 0] 56)) 2 (w.heap.size + 1 + 1) (w.heap.size + 1 + 1) (by simp) (Nat.le_refl _)) rfl (by simp))
  have hbW := Lib.hid ((((Below.refl w.heap.size w).alloc (Nat.le_refl _) (.cells #[.bool b, .bool o, .string s, .int .i64 q, .string t, .slice A l.length cap] 56)).alloc (by simp) (.cells #[.bool false, .bool false, .string ⟨#[]⟩, .int .i64 0, .string ⟨#[]⟩, .slice none 0 0] 56)).alloc (by simp; omega) (.cells #[] 2))
  have hIn := Lib.hid (((hv.alloc (.cells #[.bool b, .bool o, .string s, .int .i64 q, .string t, .slice A l.length cap] 56)).alloc (.cells #[.bool false, .bool false, .string ⟨#[]⟩, .int .i64 0, .string ⟨#[]⟩, .slice none 0 0] 56)).alloc (.cells #[] 2))
  have hsz := Lib.hid (show w.heap.size + 1 + 1 ≤ (((w.alloc (.cells #[.bool b, .bool o, .string s, .int .i64 q, .string t, .slice A l.length cap] 56)).alloc (.cells #[.bool false, .bool false, .string ⟨#[]⟩, .int .i64 0, .string ⟨#[]⟩, .slice none 0 0] 56)).alloc (.cells #[] 2)).heap.size by simp)
  replace hB := Lib.hid (hB.alloc (.cells #[] 2))
  replace hR := Lib.hid (hR.alloc (.cells #[] 2))
  clear hv
  go_enter Tryd.func93, Tryd.ntmps93
  go_wp2_with (at_builtin; refine wpList_append_ints rfl (.tmp 3) (.tmp 6) rfl (w.heap.size + 1 + 1) _ _ [] l rfl hE.out rfl hIn.out (by have := hl1.out; simp; omega) (Below.refl _ _) hsz.out ?_; intro v1 w1 ho1 hb1; rw [List.nil_append] at ho1; obtain ⟨A1, cap1, rfl⟩ := ho1.form; replace hB := Lib.hid (hB.out.below hb1 (by omega)); replace hR := Lib.hid (hR.out.below hb1 (by omega)); obtain ⟨x0, x1, x2, x3, x4, x5, xf0, xf1, xf2, xf3, xf4, xf5⟩ := hB.out.six; obtain ⟨y0, y1, y2, y3, y4, y5, yf0, yf1, yf2, yf3, yf4, yf5⟩ := hR.out.six; have hlx := hB.out.lt; have hly := hR.out.lt; replace ho1 := Lib.hid ho1; replace hb1 := Lib.hid hb1)
  refine bodyPost_ret (v := .agg #[.bool b, .bool o, .string s, .int .i64 q, .string t, .slice A1 l.length cap1]) (by simp [results, Tryd.results93, go_sem, y0, y1, y2, y3, y4, y5]) rfl ?_
  exact SeatEnd.of b o s q t rfl (((ho1.out.setCell _ _ _ (by omega)).set6 (by omega) _ _ _ _ _ _).mono (by omega)) (below_set6 ((hbW.out.trans (hb1.out.mono (by omega))).setCell (by simp) _) (by simp) _ _ _ _ _ _)
set_option maxHeartbeats 4000000 in
theorem implSeatAnew_any (b o : Bool) (s : ByteArray) (q : Int) (t : ByteArray) (v : Value) (l : List Int) (w : World) (hs : s.size ≤ 1048576) (ht : t.size ≤ 1048576) (hv : Ints w v l) :
    Calls Tryd.prog 75 #[.agg #[.bool b, .bool o, .string s, .int .i64 q, .string t, v]] w (SeatEnd w.heap.size b o s q t l w) := by
  have hl1 := Lib.hid hv.1
  obtain ⟨A, cap, rfl⟩ := hv.form
  obtain ⟨hB, hR⟩ := seat_boxes w [.bool b, .bool o, .string s, .int .i64 q, .string t, .slice A l.length cap] [.bool false, .bool false, .string ⟨#[]⟩, .int .i64 0, .string ⟨#[]⟩, .slice none 0 0] 56 56
  have hbW := Lib.hid (((Below.refl w.heap.size w).alloc (Nat.le_refl _) (.cells #[.bool b, .bool o, .string s, .int .i64 q, .string t, .slice A l.length cap] 56)).alloc (by simp) (.cells #[.bool false, .bool false, .string ⟨#[]⟩, .int .i64 0, .string ⟨#[]⟩, .slice none 0 0] 56))
  have hv0 := Lib.hid hv
  replace hB := Lib.hid hB
  replace hR := Lib.hid hR
  clear hv
  go_enter Tryd.func75, Tryd.ntmps75
  go_wp2_with (go_at_call_of 101 (Value.string s); refine (clone_any s _ (by omega)).mono ?_; rintro e1 w1 ⟨rfl, hb1⟩; replace hbW := Lib.hid (Below.then_ hbW.out hb1 (by simp)); have z1 := Lib.hid (show w.heap.size + 1 + 1 ≤ w1.heap.size from Nat.le_trans (by simp) hb1.size); replace hB := Lib.hid (hB.out.up hb1); replace hR := Lib.hid (hR.out.up hb1); obtain ⟨x0, x1, x2, x3, x4, x5, xf0, xf1, xf2, xf3, xf4, xf5⟩ := hB.out.six; have hlx := hB.out.lt; replace hbW := Lib.hid (hbW.out.setCell (p := ⟨w.heap.size, 2, none⟩) (Nat.le_refl _) (.string s)); clear hb1)
  have hB2 := Lib.hid (show Blk (w1.setCell ⟨w.heap.size, 2, none⟩ (.string s)) w.heap.size 56 [.bool b, .bool o, .string s, .int .i64 q, .string t, .slice A l.length cap] from hB.out.set 2 (.string s))
  have hR2 := Lib.hid (hR.out.setOther (show w.heap.size + 1 ≠ w.heap.size by omega) 2 (.string s))
  have z2 := Lib.hid (show w.heap.size + 1 + 1 ≤ (w1.setCell ⟨w.heap.size, 2, none⟩ (.string s)).heap.size by simpa [World.setCell] using z1.out)
  clear hB hR
  go_wp2_with (first
    | (go_at_call_of 101 (Value.string t); refine (clone_any t _ (by omega)).mono ?_; rintro e2 w2 ⟨rfl, hb2⟩; replace hbW := Lib.hid (Below.then_ hbW.out hb2 (Nat.le_refl _)); have z3 := Lib.hid (show w.heap.size + 1 + 1 ≤ w2.heap.size from Nat.le_trans z2.out hb2.size); have hB := Lib.hid (hB2.out.up hb2); have hR := Lib.hid (hR2.out.up hb2); clear hB2 hR2; clear x0 x1 x2 x3 x4 x5 xf0 xf1 xf2 xf3 xf4 xf5; obtain ⟨x0, x1, x2, x3, x4, x5, xf0, xf1, xf2, xf3, xf4, xf5⟩ := hB.out.six; clear hlx; have hlx := hB.out.lt; replace hbW := Lib.hid (hbW.out.setCell (p := ⟨w.heap.size, 4, none⟩) (Nat.le_refl _) (.string t)); have hIn := Lib.hid (hv0.out.below hbW.out); clear hb2)
    | (at_builtin; have hB2 := Lib.hid (show Blk (w2.setCell ⟨w.heap.size, 4, none⟩ (.string t)) w.heap.size 56 [.bool b, .bool o, .string s, .int .i64 q, .string t, .slice A l.length cap] from hB.out.set 4 (.string t)); have hR2 := Lib.hid (hR.out.setOther (show w.heap.size + 1 ≠ w.heap.size by omega) 4 (.string t)); have z4 := Lib.hid (show w.heap.size + 1 + 1 ≤ (w2.setCell ⟨w.heap.size, 4, none⟩ (.string t)).heap.size by simpa [World.setCell] using z3.out); refine wpList_append_ints rfl (.const (.slice none 0 0)) (.tmp 15) rfl (w2.setCell ⟨w.heap.size, 4, none⟩ (.string t)).heap.size _ _ [] l rfl (OwnInts.nil _ _) rfl hIn.out (by have := hl1.out; simp; omega) (Below.refl _ _) (Nat.le_refl _) ?_; intro v3 w3 ho3 hb3; rw [List.nil_append] at ho3; obtain ⟨A3, cap3, rfl⟩ := ho3.form; replace hB := Lib.hid (hB2.out.up hb3); replace hR := Lib.hid (hR2.out.up hb3); clear hB2 hR2; clear x0 x1 x2 x3 x4 x5 xf0 xf1 xf2 xf3 xf4 xf5; obtain ⟨x0, x1, x2, x3, x4, x5, xf0, xf1, xf2, xf3, xf4, xf5⟩ := hB.out.six; obtain ⟨y0, y1, y2, y3, y4, y5, yf0, yf1, yf2, yf3, yf4, yf5⟩ := hR.out.six; clear hlx; have hlx := hB.out.lt; have hly := hR.out.lt; replace hbW := Lib.hid (Below.then_ hbW.out hb3 (Nat.le_refl _)); replace ho3 := Lib.hid ho3; clear hb3))
  have z5 := z4.out
  refine bodyPost_ret (v := .agg #[.bool b, .bool o, .string s, .int .i64 q, .string t, .slice A3 l.length cap3]) (by simp [results, Tryd.results75, go_sem, y0, y1, y2, y3, y4, y5]) rfl ?_
  exact SeatEnd.of b o s q t rfl (((ho3.out.setCell _ _ _ (by omega)).set6 (by omega) _ _ _ _ _ _).mono (by omega)) (below_set6 (hbW.out.setCell (by simp) _) (by simp) _ _ _ _ _ _)
theorem Own2.setO {w : World} {lo hi g : Nat} {v : Value} {l : List Int} (h : Own2 w lo hi v l) (hg : hi ≤ g) (i : Nat) (u : Value) : Own2 (w.setCell ⟨g, i, none⟩ u) lo hi v l := by
  refine ⟨h.1.kept (row := some g) ⟨rfl, rfl, rfl, by simp [World.setCell], fun k _ hne => Below.heap_setCell w ⟨g, i, none⟩ u k (fun e => hne (by rw [e]))⟩ ?_, h.2⟩
  cases hv : v.ownBlock with
  | none => exact .inl rfl
  | some a =>
    right
    intro e
    have := h.2 a hv
    cases e; omega
/-- What Turn hands back: whether it says back. -/
def turnE (b e : Bool) (s : ByteArray) (q : Int) (t : ByteArray) (l : List Int) : Bool := if seatB s q t l = true then e else b
theorem turnE_yes {b e : Bool} {s : ByteArray} {q : Int} {t : ByteArray} {l : List Int} (h : seatB s q t l = true) : turnE b e s q t l = e := if_pos h
theorem turnE_no {b e : Bool} {s : ByteArray} {q : Int} {t : ByteArray} {l : List Int} (h : seatB s q t l = false) : turnE b e s q t l = b := if_neg (by simp [h])
set_option maxHeartbeats 4000000 in
theorem implTurn_any (b o : Bool) (s : ByteArray) (q : Int) (t : ByteArray) (v : Value) (l : List Int) (e : Bool) (w : World) (hs : s.size ≤ 1048576) (ht : t.size ≤ 1048576) (hv : Ints w v l) :
    Calls Tryd.prog 74 #[.agg #[.bool b, .bool o, .string s, .int .i64 q, .string t, v], .bool e] w (SeatEnd w.heap.size (turnE b e s q t l) o s q t l w) := by
  obtain ⟨A, cap, rfl⟩ := hv.form
  obtain ⟨hB, hR⟩ := seat_boxes w [.bool b, .bool o, .string s, .int .i64 q, .string t, .slice A l.length cap] [.bool false, .bool false, .string ⟨#[]⟩, .int .i64 0, .string ⟨#[]⟩, .slice none 0 0] 56 56
  have hbW := Lib.hid (((Below.refl w.heap.size w).alloc (Nat.le_refl _) (.cells #[.bool b, .bool o, .string s, .int .i64 q, .string t, .slice A l.length cap] 56)).alloc (by simp) (.cells #[.bool false, .bool false, .string ⟨#[]⟩, .int .i64 0, .string ⟨#[]⟩, .slice none 0 0] 56))
  have hIn := Lib.hid ((hv.alloc (.cells #[.bool b, .bool o, .string s, .int .i64 q, .string t, .slice A l.length cap] 56)).alloc (.cells #[.bool false, .bool false, .string ⟨#[]⟩, .int .i64 0, .string ⟨#[]⟩, .slice none 0 0] 56))
  replace hB := Lib.hid hB
  replace hR := Lib.hid hR
  clear hv
  cases hsb : seatB s q t l with
  | true =>
    have e0 := Lib.hid (turnE_yes (b := b) (e := e) hsb)
    go_enter Tryd.func74, Tryd.ntmps74
    go_wp2_with (go_at_call 75; refine (implSeatAnew_any b o s q t _ l _ hs ht hIn.out).mono ?_; rintro e1 w1 ⟨A1, cap1, rfl, ho1, hb1⟩; have z1 := Lib.hid (show w.heap.size + 1 + 1 ≤ w1.heap.size from Nat.le_trans (by simp) hb1.size); replace hbW := Lib.hid (Below.then_ hbW.out hb1 (by simp)); replace hIn := Lib.hid ((hIn.out.below hb1).alloc (.cells #[.bool b, .bool o, .string s, .int .i64 q, .string t, .slice A1 l.length cap1] 56)); replace hB := Lib.hid ((hB.out.up hb1).alloc (.cells #[.bool b, .bool o, .string s, .int .i64 q, .string t, .slice A1 l.length cap1] 56)); replace hR := Lib.hid ((hR.out.up hb1).alloc (.cells #[.bool b, .bool o, .string s, .int .i64 q, .string t, .slice A1 l.length cap1] 56)); obtain ⟨x0, x1, x2, x3, x4, x5, xf0, xf1, xf2, xf3, xf4, xf5⟩ := hB.out.six; obtain ⟨y0, y1, y2, y3, y4, y5, yf0, yf1, yf2, yf3, yf4, yf5⟩ := hR.out.six; have hlx := hB.out.lt; have hly := hR.out.lt; replace ho1 := Lib.hid ((Own2.new (lo := w.heap.size + 1 + 1) ho1 (by simp)).alloc (.cells #[.bool b, .bool o, .string s, .int .i64 q, .string t, .slice A1 l.length cap1] 56)); have hN := Lib.hid (show Blk (w1.alloc (.cells #[.bool b, .bool o, .string s, .int .i64 q, .string t, .slice A1 l.length cap1] 56)) w1.heap.size 56 [.bool b, .bool o, .string s, .int .i64 q, .string t, .slice A1 l.length cap1] from heap_alloc_new w1 _); obtain ⟨k0, k1, k2, k3, k4, k5, kf0, kf1, kf2, kf3, kf4, kf5⟩ := hN.out.six; replace hbW := Lib.hid (hbW.out.alloc hbW.out.size (.cells #[.bool b, .bool o, .string s, .int .i64 q, .string t, .slice A1 l.length cap1] 56)); clear hb1)
    have z1' := z1.out
    go_wp2_with (go_at_call 70; refine (implSeatRight_any b o s q t _ l _ hs ht hIn.out).mono ?_; rintro e2 w2 ⟨rfl, hb2⟩; have z2 := Lib.hid (show w1.heap.size + 1 ≤ w2.heap.size from Nat.le_trans (by simp) hb2.size); replace hbW := Lib.hid (Below.then_ hbW.out hb2 (Nat.le_refl _)); replace hB := Lib.hid (hB.out.up hb2); replace hR := Lib.hid (hR.out.up hb2); replace hN := Lib.hid (hN.out.up hb2); replace ho1 := Lib.hid (ho1.out.below hb2); clear x0 x1 x2 x3 x4 x5 xf0 xf1 xf2 xf3 xf4 xf5; clear y0 y1 y2 y3 y4 y5 yf0 yf1 yf2 yf3 yf4 yf5; clear k0 k1 k2 k3 k4 k5 kf0 kf1 kf2 kf3 kf4 kf5; clear hlx hly; obtain ⟨x0, x1, x2, x3, x4, x5, xf0, xf1, xf2, xf3, xf4, xf5⟩ := hB.out.six; obtain ⟨y0, y1, y2, y3, y4, y5, yf0, yf1, yf2, yf3, yf4, yf5⟩ := hR.out.six; obtain ⟨k0, k1, k2, k3, k4, k5, kf0, kf1, kf2, kf3, kf4, kf5⟩ := hN.out.six; have hlx := hB.out.lt; have hly := hR.out.lt; have hlk := hN.out.lt; clear hb2)
    refine bodyPost_ret (v := .agg #[.bool e, .bool o, .string s, .int .i64 q, .string t, .slice A1 l.length cap1]) (by simp [results, Tryd.results74, go_sem, y0, y1, y2, y3, y4, y5]) rfl ?_
    rw [e0.out]
    exact SeatEnd.of e o s q t rfl (((ho1.out.setO (Nat.le_refl _) _ _).1.set6 (by omega) _ _ _ _ _ _).mono (by omega)) (below_set6 (hbW.out.setCell (p := ⟨w1.heap.size, 0, none⟩) (show w.heap.size ≤ w1.heap.size by omega) _) (by simp) _ _ _ _ _ _)
  | false =>
    have e0 := Lib.hid (turnE_no (b := b) (e := e) hsb)
    go_enter Tryd.func74, Tryd.ntmps74
    go_wp2_with (go_at_call 75; refine (implSeatAnew_any b o s q t _ l _ hs ht hIn.out).mono ?_; rintro e1 w1 ⟨A1, cap1, rfl, ho1, hb1⟩; have z1 := Lib.hid (show w.heap.size + 1 + 1 ≤ w1.heap.size from Nat.le_trans (by simp) hb1.size); replace hbW := Lib.hid (Below.then_ hbW.out hb1 (by simp)); replace hIn := Lib.hid ((hIn.out.below hb1).alloc (.cells #[.bool b, .bool o, .string s, .int .i64 q, .string t, .slice A1 l.length cap1] 56)); replace hB := Lib.hid ((hB.out.up hb1).alloc (.cells #[.bool b, .bool o, .string s, .int .i64 q, .string t, .slice A1 l.length cap1] 56)); replace hR := Lib.hid ((hR.out.up hb1).alloc (.cells #[.bool b, .bool o, .string s, .int .i64 q, .string t, .slice A1 l.length cap1] 56)); obtain ⟨x0, x1, x2, x3, x4, x5, xf0, xf1, xf2, xf3, xf4, xf5⟩ := hB.out.six; obtain ⟨y0, y1, y2, y3, y4, y5, yf0, yf1, yf2, yf3, yf4, yf5⟩ := hR.out.six; have hlx := hB.out.lt; have hly := hR.out.lt; replace ho1 := Lib.hid ((Own2.new (lo := w.heap.size + 1 + 1) ho1 (by simp)).alloc (.cells #[.bool b, .bool o, .string s, .int .i64 q, .string t, .slice A1 l.length cap1] 56)); have hN := Lib.hid (show Blk (w1.alloc (.cells #[.bool b, .bool o, .string s, .int .i64 q, .string t, .slice A1 l.length cap1] 56)) w1.heap.size 56 [.bool b, .bool o, .string s, .int .i64 q, .string t, .slice A1 l.length cap1] from heap_alloc_new w1 _); obtain ⟨k0, k1, k2, k3, k4, k5, kf0, kf1, kf2, kf3, kf4, kf5⟩ := hN.out.six; replace hbW := Lib.hid (hbW.out.alloc hbW.out.size (.cells #[.bool b, .bool o, .string s, .int .i64 q, .string t, .slice A1 l.length cap1] 56)); clear hb1)
    have z1' := z1.out
    go_wp2_with (go_at_call 70; refine (implSeatRight_any b o s q t _ l _ hs ht hIn.out).mono ?_; rintro e2 w2 ⟨rfl, hb2⟩; have z2 := Lib.hid (show w1.heap.size + 1 ≤ w2.heap.size from Nat.le_trans (by simp) hb2.size); replace hbW := Lib.hid (Below.then_ hbW.out hb2 (Nat.le_refl _)); replace hB := Lib.hid (hB.out.up hb2); replace hR := Lib.hid (hR.out.up hb2); replace hN := Lib.hid (hN.out.up hb2); replace ho1 := Lib.hid (ho1.out.below hb2); clear x0 x1 x2 x3 x4 x5 xf0 xf1 xf2 xf3 xf4 xf5; clear y0 y1 y2 y3 y4 y5 yf0 yf1 yf2 yf3 yf4 yf5; clear k0 k1 k2 k3 k4 k5 kf0 kf1 kf2 kf3 kf4 kf5; clear hlx hly; obtain ⟨x0, x1, x2, x3, x4, x5, xf0, xf1, xf2, xf3, xf4, xf5⟩ := hB.out.six; obtain ⟨y0, y1, y2, y3, y4, y5, yf0, yf1, yf2, yf3, yf4, yf5⟩ := hR.out.six; obtain ⟨k0, k1, k2, k3, k4, k5, kf0, kf1, kf2, kf3, kf4, kf5⟩ := hN.out.six; have hlx := hB.out.lt; have hly := hR.out.lt; have hlk := hN.out.lt; clear hb2)
    refine bodyPost_ret (v := .agg #[.bool b, .bool o, .string s, .int .i64 q, .string t, .slice A1 l.length cap1]) (by simp [results, Tryd.results74, go_sem, y0, y1, y2, y3, y4, y5]) rfl ?_
    rw [e0.out]
    exact SeatEnd.of b o s q t rfl ((ho1.out.1.set6 (by omega) _ _ _ _ _ _).mono (by omega)) (below_set6 hbW.out (by simp) _ _ _ _ _ _)
end Go.Proofs.YtbadpmghlclfkaaDoor
