/- Say: the model's. -/
import Derived.Test.YtajnligcngekcaaDoorSeatL
import Derived.Test.YtajnligcngekcaaDoorOwn2
namespace Go.Proofs.YtajnligcngekcaaDoor
open Go.RowKit
/-- What is told of what is said to a right seat. -/
def toldR (b o : Bool) (s : ByteArray) (q : Int) (t : ByteArray) (l : List Int) (n : Int) (m : List Sec) (x : ByteArray) (r : List Int) : SeaR :=
  match firstF (denyF b q n m (markL r)) with
  | some k => noSeat (k : Int) 11
  | none => if 200 < t.size + x.size then noSeat 0 9 else ⟨b, o, s, 0, t ++ x, l ++ r, 0, 0⟩
theorem toldR_deny {b o : Bool} {s : ByteArray} {q : Int} {t : ByteArray} {l : List Int} {n : Int} {m : List Sec} {x : ByteArray} {r : List Int} {k : Nat} (h : firstF (denyF b q n m (markL r)) = some k) : toldR b o s q t l n m x r = noSeat (k : Int) 11 := by rw [toldR, h]
theorem toldR_full {b o : Bool} {s : ByteArray} {q : Int} {t : ByteArray} {l : List Int} {n : Int} {m : List Sec} {x : ByteArray} {r : List Int} (h : firstF (denyF b q n m (markL r)) = none) (h2 : 200 < t.size + x.size) : toldR b o s q t l n m x r = noSeat 0 9 := by rw [toldR, h]; exact if_pos h2
theorem toldR_ok {b o : Bool} {s : ByteArray} {q : Int} {t : ByteArray} {l : List Int} {n : Int} {m : List Sec} {x : ByteArray} {r : List Int} (h : firstF (denyF b q n m (markL r)) = none) (h2 : ¬ 200 < t.size + x.size) : toldR b o s q t l n m x r = ⟨b, o, s, 0, t ++ x, l ++ r, 0, 0⟩ := by rw [toldR, h]; exact if_neg h2
set_option maxRecDepth 100000 in
set_option maxHeartbeats 32000000 in
theorem specTold_any (b o : Bool) (s : ByteArray) (q : Int) (t : ByteArray) (v : Value) (l : List Int) (n : Int) (u : Value) (m : List Sec) (x : ByteArray) (v3 : Value) (r : List Int) (w : World) (hq : 0 ≤ q ∧ q ≤ 15) (ht : t.size ≤ 200) (hx : x.size ≤ 200) (hl : l.length ≤ 200) (hr : labB x r = true) (hv : Ints w v l) (hu : Secs w u m) (hv3 : Ints w v3 r) :
    Calls Tryd.prog 42 #[.agg #[.bool b, .bool o, .string s, .int .i64 q, .string t, v], .int .i64 n, u, .agg #[.string x, v3]] w (SeatOutEnd w.heap.size (toldR b o s q t l n m x r) w) := by
  obtain ⟨A, cap, rfl⟩ := hv.form
  obtain ⟨A2, cap2, rfl⟩ := hu.form
  obtain ⟨A3, cap3, rfl⟩ := hv3.form
  have hml : (m.length : Int) ≤ 9223372036854775807 := by have := hu.1; unfold maxLen at this; omega
  have hbb := boxes3 w [.bool b, .bool o, .string s, .int .i64 q, .string t, .slice A l.length cap] [.string x, .slice A3 r.length cap3] [.bool false, .bool false, .string ⟨#[]⟩, .int .i64 0, .string ⟨#[]⟩, .slice none 0 0, .int .i64 0, .int .i64 0] 32 30 34
  have hB := Lib.hid hbb.1
  have hC := Lib.hid hbb.2.1
  have hR := Lib.hid hbb.2.2
  have hbW := Lib.hid ((((Below.refl w.heap.size w).alloc (Nat.le_refl _) (.cells #[.bool b, .bool o, .string s, .int .i64 q, .string t, .slice A l.length cap] 32)).alloc (by simp) (.cells #[.string x, .slice A3 r.length cap3] 30)).alloc (by simp; omega) (.cells #[.bool false, .bool false, .string ⟨#[]⟩, .int .i64 0, .string ⟨#[]⟩, .slice none 0 0, .int .i64 0, .int .i64 0] 34))
  have hv' := Lib.hid hv
  have hu' := Lib.hid hu
  have hv3' := Lib.hid hv3
  clear hv hu hv3 hbb
  have hM := markL_range hr
  have hrl := (labB_parts hr).2.1
  obtain ⟨M, hMM⟩ : ∃ M, M = markL r := ⟨_, rfl⟩
  obtain ⟨D, hD⟩ : ∃ D, D = firstF (denyF b q n m M) := ⟨_, rfl⟩
  have hMk := Lib.hid (fun v w (h : Ints w v r) => show Calls Tryd.prog 62 #[.agg #[.string x, v]] w (IntIs M w) by rw [hMM]; exact specMark_any x v r w h)
  have hDn := Lib.hid (fun v u w (h : Ints w v l) (k : Secs w u m) => show Calls Tryd.prog 61 #[.agg #[.bool b, .bool o, .string s, .int .i64 q, .string t, v], .int .i64 n, u, .int .i64 M] w (IntIs (denyI D) w) by rw [hD]; exact specDenied_any b o s q t v l n u m M w hq (by rw [hMM]; exact hM) h k)
  have hJn := Lib.hid (fun v u w (h : Ints w v l) (k : Ints w u r) => specJoin_any t x v u l r w (by omega) (by omega) (by omega) h k)
  have hD2 := Lib.hid (show firstF (denyF b q n m (markL r)) = D by rw [hD, hMM])
  replace hrl := Lib.hid hrl
  clear hD hM
  replace hMM := Lib.hid hMM
  cases D with
  | some k =>
    have e0 := Lib.hid (toldR_deny (b := b) (o := o) (s := s) (t := t) (l := l) (x := x) hD2.out)
    have hdi : denyI (some k) = (k : Int) := rfl
    have hk0 : (0 : Int) ≤ (k : Int) := by omega
    go_enter Tryd.func42, Tryd.ntmps42
    go_wp2
    refine wp_region_known [(.is (.agg #[.bool b, .bool o, .string s, .int .i64 q, .string t, .slice A l.length cap])), (.is (.int .i64 n)), (.is (.slice A2 m.length cap2)), (.is (.agg #[.string x, .slice A3 r.length cap3])), (.is (.int .i64 M)), (.is (.int .i64 (denyI (some k)))), (.is (.int .i64 (denyI (some k))))] (by kernel_rfl) (by kernel_rfl) (by kernel_rfl) ⟨?_, ?_, ?_, ?_, ?_, ?_, ?_, trivial⟩ ?_
    · intro y W next hl hJ hd hn
      refine Or.inl ⟨wanted_free rfl, fun ev ec ef hev => ?_⟩
      have e4 : ev (.tmp 4) = .pointer (some ⟨w.heap.size, 0, none⟩) := hev 4 _ ((hl.2 4 (by kernel_rfl)).trans (by kernel_rfl))
      clear hd hl hev
      obtain ⟨u0, u1, u2, u3, u4, u5, -, -, -, -, -, -⟩ := (hB.out.below hJ hB.out.lt).six
      replace hJ := Lib.hid hJ
      go_simp
      exact hn _ _ (Below.refl _ _) rfl
    · intro y W next hl hJ hd hn
      refine Or.inl ⟨wanted_free rfl, fun ev ec ef hev => ?_⟩
      have e1 : ev (.tmp 1) = .int .i64 n := hev 1 _ ((hl.2 1 (by kernel_rfl)).trans (by kernel_rfl))
      clear hd hl hev
      replace hJ := Lib.hid hJ
      go_simp
      exact hn _ _ (Below.refl _ _) rfl
    · intro y W next hl hJ hd hn
      refine Or.inl ⟨wanted_free rfl, fun ev ec ef hev => ?_⟩
      have e2 : ev (.tmp 2) = .slice A2 m.length cap2 := hev 2 _ ((hl.2 2 (by kernel_rfl)).trans (by kernel_rfl))
      clear hd hl hev
      replace hJ := Lib.hid hJ
      go_simp
      exact hn _ _ (Below.refl _ _) rfl
    · intro y W next hl hJ hd hn
      refine Or.inl ⟨wanted_free rfl, fun ev ec ef hev => ?_⟩
      have e7 : ev (.tmp 7) = .pointer (some ⟨w.heap.size + 1, 0, none⟩) := hev 7 _ ((hl.2 7 (by kernel_rfl)).trans (by kernel_rfl))
      clear hd hl hev
      obtain ⟨u0, u1, -, -⟩ := (hC.out.below hJ hC.out.lt).two
      replace hJ := Lib.hid hJ
      go_simp
      exact hn _ _ (Below.refl _ _) rfl
    · intro y W next hl hJ hd hn
      refine Or.inl ⟨wanted_free rfl, fun ev ec ef hev => ?_⟩
      have e14 : ev (.tmp 14) =  (.agg #[.string x, .slice A3 r.length cap3]) := hev 14 _ ((hl.1 3 14 (by kernel_rfl) (by kernel_rfl)).trans (congrArg some (show y 3 =  (.agg #[.string x, .slice A3 r.length cap3]) from hd 3 (by kernel_rfl))))
      clear hd hl hev
      replace hJ := Lib.hid hJ
      go_simp
      refine (hMk.out _ _ (hv3'.out.below (Below.then_ hbW.out hJ.out (Nat.le_refl _)))).mono ?_
      rintro e w' ⟨rfl, hb⟩
      exact ⟨_, rfl, hn _ _ hb rfl⟩
    · intro y W next hl hJ hd hn
      refine Or.inl ⟨wanted_free rfl, fun ev ec ef hev => ?_⟩
      have e11 : ev (.tmp 11) =  (.agg #[.bool b, .bool o, .string s, .int .i64 q, .string t, .slice A l.length cap]) := hev 11 _ ((hl.1 0 11 (by kernel_rfl) (by kernel_rfl)).trans (congrArg some (show y 0 =  (.agg #[.bool b, .bool o, .string s, .int .i64 q, .string t, .slice A l.length cap]) from hd 0 (by kernel_rfl))))
      have e12 : ev (.tmp 12) =  (.int .i64 n) := hev 12 _ ((hl.1 1 12 (by kernel_rfl) (by kernel_rfl)).trans (congrArg some (show y 1 =  (.int .i64 n) from hd 1 (by kernel_rfl))))
      have e13 : ev (.tmp 13) =  (.slice A2 m.length cap2) := hev 13 _ ((hl.1 2 13 (by kernel_rfl) (by kernel_rfl)).trans (congrArg some (show y 2 =  (.slice A2 m.length cap2) from hd 2 (by kernel_rfl))))
      have e15 : ev (.tmp 15) =  (.int .i64 M) := hev 15 _ ((hl.1 4 15 (by kernel_rfl) (by kernel_rfl)).trans (congrArg some (show y 4 =  (.int .i64 M) from hd 4 (by kernel_rfl))))
      clear hd hl hev
      replace hJ := Lib.hid hJ
      go_simp
      refine (hDn.out _ _ _ (hv'.out.below (Below.then_ hbW.out hJ.out (Nat.le_refl _))) (hu'.out.below (Below.then_ hbW.out hJ.out (Nat.le_refl _)))).mono ?_
      rintro e w' ⟨rfl, hb⟩
      exact ⟨_, rfl, hn _ _ hb rfl⟩
    · intro y W next hl hJ hd hn
      refine Or.inl ⟨wanted_free rfl, fun ev ec ef hev => ?_⟩
      have e16 : ev (.tmp 16) =  (.int .i64 (denyI (some k))) := hev 16 _ ((hl.1 5 16 (by kernel_rfl) (by kernel_rfl)).trans (congrArg some (show y 5 =  (.int .i64 (denyI (some k))) from hd 5 (by kernel_rfl))))
      clear hd hl hev
      replace hJ := Lib.hid hJ
      go_simp
      exact hn _ _ (Below.refl _ _) rfl
    · intro y W hb3 hall
      have hy : y 6 = .int .i64 (denyI (some k)) := hall 6 (by decide)
      replace hbW := Lib.hid (Below.then_ hbW.out hb3 (Nat.le_refl _))
      replace hB := Lib.hid (hB.out.up hb3)
      replace hC := Lib.hid (hC.out.up hb3)
      replace hR := Lib.hid (hR.out.up hb3)
      have hzW := Lib.hid (show w.heap.size + 1 + 1 < W.heap.size from hR.out.lt)
      clear hall hb3
      simp only [lay_cons, lay_nil]
      rw [hy]
      clear hy
      simp only [Act.put, List.setIfInBounds_toArray]
      simp only [List.set_cons_succ, List.set_cons_zero]
      rw [hdi]
      obtain ⟨x0, x1, x2, x3, x4, x5, xf0, xf1, xf2, xf3, xf4, xf5⟩ := hB.out.six
      obtain ⟨p0, p1, pf0, pf1⟩ := hC.out.two
      obtain ⟨y0, y1, y2, y3, y4, y5, y6, y7, yf0, yf1, yf2, yf3, yf4, yf5, yf6, yf7⟩ := hR.out.eight
      have hlx := hB.out.lt
      have hlp := hC.out.lt
      have hly := hR.out.lt
      go_wp2
      refine bodyPost_ret (v := .agg #[.bool false, .bool false, .string ⟨#[]⟩, .int .i64 0, .string ⟨#[]⟩, .slice none 0 0, .int .i64 (k : Int), .int .i64 11]) (by simp [results, Tryd.results42, go_sem, y0, y1, y2, y3, y4, y5, y6, y7]) rfl ?_
      exact SeatOutEnd.none_ e0.out (below_set8 hbW.out (show w.heap.size ≤ w.heap.size + 1 + 1 by omega) _ _ _ _ _ _ _ _)
  | none =>
    have hdi : denyI none = -1 := rfl
    by_cases hf : 200 < t.size + x.size
    · have hf' : (200 : Int) < (t.size : Int) + (x.size : Int) := by omega
      have e0 := Lib.hid (toldR_full (b := b) (o := o) (s := s) (l := l) hD2.out hf)
      clear hf
      go_enter Tryd.func42, Tryd.ntmps42
      go_wp2
      refine wp_region_known [(.is (.agg #[.bool b, .bool o, .string s, .int .i64 q, .string t, .slice A l.length cap])), (.is (.int .i64 n)), (.is (.slice A2 m.length cap2)), (.is (.agg #[.string x, .slice A3 r.length cap3])), (.is (.int .i64 M)), (.is (.int .i64 (denyI none))), (.is (.int .i64 (denyI none)))] (by kernel_rfl) (by kernel_rfl) (by kernel_rfl) ⟨?_, ?_, ?_, ?_, ?_, ?_, ?_, trivial⟩ ?_
      · intro y W next hl hJ hd hn
        refine Or.inl ⟨wanted_free rfl, fun ev ec ef hev => ?_⟩
        have e4 : ev (.tmp 4) = .pointer (some ⟨w.heap.size, 0, none⟩) := hev 4 _ ((hl.2 4 (by kernel_rfl)).trans (by kernel_rfl))
        clear hd hl hev
        obtain ⟨u0, u1, u2, u3, u4, u5, -, -, -, -, -, -⟩ := (hB.out.below hJ hB.out.lt).six
        replace hJ := Lib.hid hJ
        go_simp
        exact hn _ _ (Below.refl _ _) rfl
      · intro y W next hl hJ hd hn
        refine Or.inl ⟨wanted_free rfl, fun ev ec ef hev => ?_⟩
        have e1 : ev (.tmp 1) = .int .i64 n := hev 1 _ ((hl.2 1 (by kernel_rfl)).trans (by kernel_rfl))
        clear hd hl hev
        replace hJ := Lib.hid hJ
        go_simp
        exact hn _ _ (Below.refl _ _) rfl
      · intro y W next hl hJ hd hn
        refine Or.inl ⟨wanted_free rfl, fun ev ec ef hev => ?_⟩
        have e2 : ev (.tmp 2) = .slice A2 m.length cap2 := hev 2 _ ((hl.2 2 (by kernel_rfl)).trans (by kernel_rfl))
        clear hd hl hev
        replace hJ := Lib.hid hJ
        go_simp
        exact hn _ _ (Below.refl _ _) rfl
      · intro y W next hl hJ hd hn
        refine Or.inl ⟨wanted_free rfl, fun ev ec ef hev => ?_⟩
        have e7 : ev (.tmp 7) = .pointer (some ⟨w.heap.size + 1, 0, none⟩) := hev 7 _ ((hl.2 7 (by kernel_rfl)).trans (by kernel_rfl))
        clear hd hl hev
        obtain ⟨u0, u1, -, -⟩ := (hC.out.below hJ hC.out.lt).two
        replace hJ := Lib.hid hJ
        go_simp
        exact hn _ _ (Below.refl _ _) rfl
      · intro y W next hl hJ hd hn
        refine Or.inl ⟨wanted_free rfl, fun ev ec ef hev => ?_⟩
        have e14 : ev (.tmp 14) =  (.agg #[.string x, .slice A3 r.length cap3]) := hev 14 _ ((hl.1 3 14 (by kernel_rfl) (by kernel_rfl)).trans (congrArg some (show y 3 =  (.agg #[.string x, .slice A3 r.length cap3]) from hd 3 (by kernel_rfl))))
        clear hd hl hev
        replace hJ := Lib.hid hJ
        go_simp
        refine (hMk.out _ _ (hv3'.out.below (Below.then_ hbW.out hJ.out (Nat.le_refl _)))).mono ?_
        rintro e w' ⟨rfl, hb⟩
        exact ⟨_, rfl, hn _ _ hb rfl⟩
      · intro y W next hl hJ hd hn
        refine Or.inl ⟨wanted_free rfl, fun ev ec ef hev => ?_⟩
        have e11 : ev (.tmp 11) =  (.agg #[.bool b, .bool o, .string s, .int .i64 q, .string t, .slice A l.length cap]) := hev 11 _ ((hl.1 0 11 (by kernel_rfl) (by kernel_rfl)).trans (congrArg some (show y 0 =  (.agg #[.bool b, .bool o, .string s, .int .i64 q, .string t, .slice A l.length cap]) from hd 0 (by kernel_rfl))))
        have e12 : ev (.tmp 12) =  (.int .i64 n) := hev 12 _ ((hl.1 1 12 (by kernel_rfl) (by kernel_rfl)).trans (congrArg some (show y 1 =  (.int .i64 n) from hd 1 (by kernel_rfl))))
        have e13 : ev (.tmp 13) =  (.slice A2 m.length cap2) := hev 13 _ ((hl.1 2 13 (by kernel_rfl) (by kernel_rfl)).trans (congrArg some (show y 2 =  (.slice A2 m.length cap2) from hd 2 (by kernel_rfl))))
        have e15 : ev (.tmp 15) =  (.int .i64 M) := hev 15 _ ((hl.1 4 15 (by kernel_rfl) (by kernel_rfl)).trans (congrArg some (show y 4 =  (.int .i64 M) from hd 4 (by kernel_rfl))))
        clear hd hl hev
        replace hJ := Lib.hid hJ
        go_simp
        refine (hDn.out _ _ _ (hv'.out.below (Below.then_ hbW.out hJ.out (Nat.le_refl _))) (hu'.out.below (Below.then_ hbW.out hJ.out (Nat.le_refl _)))).mono ?_
        rintro e w' ⟨rfl, hb⟩
        exact ⟨_, rfl, hn _ _ hb rfl⟩
      · intro y W next hl hJ hd hn
        refine Or.inl ⟨wanted_free rfl, fun ev ec ef hev => ?_⟩
        have e16 : ev (.tmp 16) =  (.int .i64 (denyI none)) := hev 16 _ ((hl.1 5 16 (by kernel_rfl) (by kernel_rfl)).trans (congrArg some (show y 5 =  (.int .i64 (denyI none)) from hd 5 (by kernel_rfl))))
        clear hd hl hev
        replace hJ := Lib.hid hJ
        go_simp
        exact hn _ _ (Below.refl _ _) rfl
      · intro y W hb3 hall
        have hy : y 6 = .int .i64 (denyI none) := hall 6 (by decide)
        replace hbW := Lib.hid (Below.then_ hbW.out hb3 (Nat.le_refl _))
        replace hB := Lib.hid (hB.out.up hb3)
        replace hC := Lib.hid (hC.out.up hb3)
        replace hR := Lib.hid (hR.out.up hb3)
        have hzW := Lib.hid (show w.heap.size + 1 + 1 < W.heap.size from hR.out.lt)
        clear hall hb3
        simp only [lay_cons, lay_nil]
        rw [hy]
        clear hy
        simp only [Act.put, List.setIfInBounds_toArray]
        simp only [List.set_cons_succ, List.set_cons_zero]
        rw [hdi]
        obtain ⟨x0, x1, x2, x3, x4, x5, xf0, xf1, xf2, xf3, xf4, xf5⟩ := hB.out.six
        obtain ⟨p0, p1, pf0, pf1⟩ := hC.out.two
        obtain ⟨y0, y1, y2, y3, y4, y5, y6, y7, yf0, yf1, yf2, yf3, yf4, yf5, yf6, yf7⟩ := hR.out.eight
        have hlx := hB.out.lt
        have hlp := hC.out.lt
        have hly := hR.out.lt
        go_wp2_with (go_at_call 25; refine (specIll_any _ _).mono ?_; rintro e4 w4 ⟨rfl, hb4⟩; replace hbW := Lib.hid (Below.then_ hbW.out hb4 (Nat.le_refl _)); replace hB := Lib.hid (hB.out.up hb4); replace hC := Lib.hid (hC.out.up hb4); replace hR := Lib.hid (hR.out.up hb4); obtain ⟨x0, x1, x2, x3, x4, x5, xf0, xf1, xf2, xf3, xf4, xf5⟩ := hB.out.six; obtain ⟨p0, p1, pf0, pf1⟩ := hC.out.two; obtain ⟨y0, y1, y2, y3, y4, y5, y6, y7, yf0, yf1, yf2, yf3, yf4, yf5, yf6, yf7⟩ := hR.out.eight; have hlx := hB.out.lt; have hlp := hC.out.lt; have hly := hR.out.lt; clear hb4)
        refine bodyPost_ret (v := .agg #[.bool false, .bool false, .string ⟨#[]⟩, .int .i64 0, .string ⟨#[]⟩, .slice none 0 0, .int .i64 0, .int .i64 9]) (by simp [results, Tryd.results42, go_sem, y0, y1, y2, y3, y4, y5, y6, y7]) rfl ?_
        exact SeatOutEnd.none_ e0.out (below_set8 hbW.out (show w.heap.size ≤ w.heap.size + 1 + 1 by omega) _ _ _ _ _ _ _ _)
    · have hf' : ¬ (200 : Int) < (t.size : Int) + (x.size : Int) := by omega
      have e0 := Lib.hid (toldR_ok (b := b) (o := o) (s := s) (l := l) hD2.out hf)
      clear hf
      go_enter Tryd.func42, Tryd.ntmps42
      go_wp2
      refine wp_region_known [(.is (.agg #[.bool b, .bool o, .string s, .int .i64 q, .string t, .slice A l.length cap])), (.is (.int .i64 n)), (.is (.slice A2 m.length cap2)), (.is (.agg #[.string x, .slice A3 r.length cap3])), (.is (.int .i64 M)), (.is (.int .i64 (denyI none))), (.is (.int .i64 (denyI none)))] (by kernel_rfl) (by kernel_rfl) (by kernel_rfl) ⟨?_, ?_, ?_, ?_, ?_, ?_, ?_, trivial⟩ ?_
      · intro y W next hl hJ hd hn
        refine Or.inl ⟨wanted_free rfl, fun ev ec ef hev => ?_⟩
        have e4 : ev (.tmp 4) = .pointer (some ⟨w.heap.size, 0, none⟩) := hev 4 _ ((hl.2 4 (by kernel_rfl)).trans (by kernel_rfl))
        clear hd hl hev
        obtain ⟨u0, u1, u2, u3, u4, u5, -, -, -, -, -, -⟩ := (hB.out.below hJ hB.out.lt).six
        replace hJ := Lib.hid hJ
        go_simp
        exact hn _ _ (Below.refl _ _) rfl
      · intro y W next hl hJ hd hn
        refine Or.inl ⟨wanted_free rfl, fun ev ec ef hev => ?_⟩
        have e1 : ev (.tmp 1) = .int .i64 n := hev 1 _ ((hl.2 1 (by kernel_rfl)).trans (by kernel_rfl))
        clear hd hl hev
        replace hJ := Lib.hid hJ
        go_simp
        exact hn _ _ (Below.refl _ _) rfl
      · intro y W next hl hJ hd hn
        refine Or.inl ⟨wanted_free rfl, fun ev ec ef hev => ?_⟩
        have e2 : ev (.tmp 2) = .slice A2 m.length cap2 := hev 2 _ ((hl.2 2 (by kernel_rfl)).trans (by kernel_rfl))
        clear hd hl hev
        replace hJ := Lib.hid hJ
        go_simp
        exact hn _ _ (Below.refl _ _) rfl
      · intro y W next hl hJ hd hn
        refine Or.inl ⟨wanted_free rfl, fun ev ec ef hev => ?_⟩
        have e7 : ev (.tmp 7) = .pointer (some ⟨w.heap.size + 1, 0, none⟩) := hev 7 _ ((hl.2 7 (by kernel_rfl)).trans (by kernel_rfl))
        clear hd hl hev
        obtain ⟨u0, u1, -, -⟩ := (hC.out.below hJ hC.out.lt).two
        replace hJ := Lib.hid hJ
        go_simp
        exact hn _ _ (Below.refl _ _) rfl
      · intro y W next hl hJ hd hn
        refine Or.inl ⟨wanted_free rfl, fun ev ec ef hev => ?_⟩
        have e14 : ev (.tmp 14) =  (.agg #[.string x, .slice A3 r.length cap3]) := hev 14 _ ((hl.1 3 14 (by kernel_rfl) (by kernel_rfl)).trans (congrArg some (show y 3 =  (.agg #[.string x, .slice A3 r.length cap3]) from hd 3 (by kernel_rfl))))
        clear hd hl hev
        replace hJ := Lib.hid hJ
        go_simp
        refine (hMk.out _ _ (hv3'.out.below (Below.then_ hbW.out hJ.out (Nat.le_refl _)))).mono ?_
        rintro e w' ⟨rfl, hb⟩
        exact ⟨_, rfl, hn _ _ hb rfl⟩
      · intro y W next hl hJ hd hn
        refine Or.inl ⟨wanted_free rfl, fun ev ec ef hev => ?_⟩
        have e11 : ev (.tmp 11) =  (.agg #[.bool b, .bool o, .string s, .int .i64 q, .string t, .slice A l.length cap]) := hev 11 _ ((hl.1 0 11 (by kernel_rfl) (by kernel_rfl)).trans (congrArg some (show y 0 =  (.agg #[.bool b, .bool o, .string s, .int .i64 q, .string t, .slice A l.length cap]) from hd 0 (by kernel_rfl))))
        have e12 : ev (.tmp 12) =  (.int .i64 n) := hev 12 _ ((hl.1 1 12 (by kernel_rfl) (by kernel_rfl)).trans (congrArg some (show y 1 =  (.int .i64 n) from hd 1 (by kernel_rfl))))
        have e13 : ev (.tmp 13) =  (.slice A2 m.length cap2) := hev 13 _ ((hl.1 2 13 (by kernel_rfl) (by kernel_rfl)).trans (congrArg some (show y 2 =  (.slice A2 m.length cap2) from hd 2 (by kernel_rfl))))
        have e15 : ev (.tmp 15) =  (.int .i64 M) := hev 15 _ ((hl.1 4 15 (by kernel_rfl) (by kernel_rfl)).trans (congrArg some (show y 4 =  (.int .i64 M) from hd 4 (by kernel_rfl))))
        clear hd hl hev
        replace hJ := Lib.hid hJ
        go_simp
        refine (hDn.out _ _ _ (hv'.out.below (Below.then_ hbW.out hJ.out (Nat.le_refl _))) (hu'.out.below (Below.then_ hbW.out hJ.out (Nat.le_refl _)))).mono ?_
        rintro e w' ⟨rfl, hb⟩
        exact ⟨_, rfl, hn _ _ hb rfl⟩
      · intro y W next hl hJ hd hn
        refine Or.inl ⟨wanted_free rfl, fun ev ec ef hev => ?_⟩
        have e16 : ev (.tmp 16) =  (.int .i64 (denyI none)) := hev 16 _ ((hl.1 5 16 (by kernel_rfl) (by kernel_rfl)).trans (congrArg some (show y 5 =  (.int .i64 (denyI none)) from hd 5 (by kernel_rfl))))
        clear hd hl hev
        replace hJ := Lib.hid hJ
        go_simp
        exact hn _ _ (Below.refl _ _) rfl
      · intro y W hb3 hall
        have hy : y 6 = .int .i64 (denyI none) := hall 6 (by decide)
        replace hbW := Lib.hid (Below.then_ hbW.out hb3 (Nat.le_refl _))
        replace hB := Lib.hid (hB.out.up hb3)
        replace hC := Lib.hid (hC.out.up hb3)
        replace hR := Lib.hid (hR.out.up hb3)
        have hzW := Lib.hid (show w.heap.size + 1 + 1 < W.heap.size from hR.out.lt)
        clear hall hb3
        simp only [lay_cons, lay_nil]
        rw [hy]
        clear hy
        simp only [Act.put, List.setIfInBounds_toArray]
        simp only [List.set_cons_succ, List.set_cons_zero]
        rw [hdi]
        obtain ⟨x0, x1, x2, x3, x4, x5, xf0, xf1, xf2, xf3, xf4, xf5⟩ := hB.out.six
        obtain ⟨p0, p1, pf0, pf1⟩ := hC.out.two
        obtain ⟨y0, y1, y2, y3, y4, y5, y6, y7, yf0, yf1, yf2, yf3, yf4, yf5, yf6, yf7⟩ := hR.out.eight
        have hlx := hB.out.lt
        have hlp := hC.out.lt
        have hly := hR.out.lt
        go_wp2_with (first | (go_at_call 54; refine (specSeatCopy_any b o s q t _ l _ (hv'.out.below hbW.out)).mono ?_; rintro e5 w5 ⟨A1, cap1, rfl, -, hb5⟩; have z5 := Lib.hid (show w.heap.size + 1 + 1 < w5.heap.size from Nat.lt_of_lt_of_le hR.out.lt hb5.size); replace hbW := Lib.hid ((Below.then_ hbW.out hb5 (Nat.le_refl _)).alloc (by have := z5.out; omega) (.cells #[.bool b, .bool o, .string s, .int .i64 q, .string t, .slice A1 l.length cap1] 32)); replace hB := Lib.hid ((hB.out.up hb5).alloc (.cells #[.bool b, .bool o, .string s, .int .i64 q, .string t, .slice A1 l.length cap1] 32)); replace hC := Lib.hid ((hC.out.up hb5).alloc (.cells #[.bool b, .bool o, .string s, .int .i64 q, .string t, .slice A1 l.length cap1] 32)); replace hR := Lib.hid ((hR.out.up hb5).alloc (.cells #[.bool b, .bool o, .string s, .int .i64 q, .string t, .slice A1 l.length cap1] 32)); have hN := Lib.hid (show Blk (w5.alloc (.cells #[.bool b, .bool o, .string s, .int .i64 q, .string t, .slice A1 l.length cap1] 32)) w5.heap.size 32 [.bool b, .bool o, .string s, .int .i64 q, .string t, .slice A1 l.length cap1] from heap_alloc_new w5 _); obtain ⟨x0, x1, x2, x3, x4, x5, xf0, xf1, xf2, xf3, xf4, xf5⟩ := hB.out.six; obtain ⟨p0, p1, pf0, pf1⟩ := hC.out.two; obtain ⟨y0, y1, y2, y3, y4, y5, y6, y7, yf0, yf1, yf2, yf3, yf4, yf5, yf6, yf7⟩ := hR.out.eight; have hlx := hB.out.lt; have hlp := hC.out.lt; have hly := hR.out.lt; obtain ⟨k0, k1, k2, k3, k4, k5, kf0, kf1, kf2, kf3, kf4, kf5⟩ := hN.out.six; have hlk := hN.out.lt; have hz5 := z5.out; clear hb5) | (go_at_call 63; refine (hJn.out _ _ _ (hv'.out.below hbW.out) (hv3'.out.below hbW.out)).mono ?_; rintro e6 w6 ⟨A6, cap6, rfl, ho6, hb6⟩; have z6 := Lib.hid (show w5.heap.size < w6.heap.size from Nat.lt_of_lt_of_le hlk hb6.size); have zl := Lib.hid hlk; replace hN := Lib.hid (hN.out.up hb6); replace hbW := Lib.hid (Below.then_ hbW.out hb6 (Nat.le_refl _)); replace hB := Lib.hid (hB.out.up hb6); replace hC := Lib.hid (hC.out.up hb6); replace hR := Lib.hid (hR.out.up hb6); obtain ⟨x0, x1, x2, x3, x4, x5, xf0, xf1, xf2, xf3, xf4, xf5⟩ := hB.out.six; obtain ⟨p0, p1, pf0, pf1⟩ := hC.out.two; obtain ⟨y0, y1, y2, y3, y4, y5, y6, y7, yf0, yf1, yf2, yf3, yf4, yf5, yf6, yf7⟩ := hR.out.eight; have hlx := hB.out.lt; have hlp := hC.out.lt; have hly := hR.out.lt; clear hb6; obtain ⟨k0, k1, k2, k3, k4, k5, kf0, kf1, kf2, kf3, kf4, kf5⟩ := hN.out.six; have hlk := hN.out.lt; replace ho6 := Lib.hid ho6))
        refine bodyPost_ret (v := .agg #[.bool b, .bool o, .string s, .int .i64 0, .string (t ++ x), .slice A6 (l ++ r).length cap6, .int .i64 0, .int .i64 0]) (by simp [results, Tryd.results42, go_sem, y0, y1, y2, y3, y4, y5, y6, y7]) rfl ?_
        rw [e0.out]
        have hz5' := z5.out
        have hsza : (w5.alloc (.cells #[.bool b, .bool o, .string s, .int .i64 q, .string t, .slice A1 l.length cap1] 32)).heap.size = w5.heap.size + 1 := World.size_alloc ..
        have q1 := Lib.hid (((ho6.out.setCell w5.heap.size 4 (.string (t ++ x)) (by omega)).setCell w5.heap.size 5 (.slice A6 (l.length + r.length) cap6) (by omega)).setCell w5.heap.size 3 (.int .i64 0) (by omega))
        have q2 := Lib.hid (((hbW.out.setCell (p := ⟨w5.heap.size, 4, none⟩) (show w.heap.size ≤ w5.heap.size by omega) (.string (t ++ x))).setCell (p := ⟨w5.heap.size, 5, none⟩) (show w.heap.size ≤ w5.heap.size by omega) (.slice A6 (l.length + r.length) cap6)).setCell (p := ⟨w5.heap.size, 3, none⟩) (show w.heap.size ≤ w5.heap.size by omega) (.int .i64 0))
        exact SeatOutEnd.of (R := ⟨b, o, s, 0, t ++ x, l ++ r, 0, 0⟩) rfl ((q1.out.set8 (show w.heap.size + 1 + 1 < _ by omega) _ _ _ _ _ _ _ _).mono (by omega)) (below_set8 q2.out (show w.heap.size ≤ w.heap.size + 1 + 1 by omega) _ _ _ _ _ _ _ _)
/-- What Say hands back. -/
def sayR (b o : Bool) (s : ByteArray) (q : Int) (t : ByteArray) (l : List Int) (n : Int) (m : List Sec) (x : ByteArray) (r : List Int) : SeaR :=
  if 400 < m.length then noSeat 0 2 else if seatB s q t l = true ∧ vaultB m = true ∧ isB n 0 2 = true ∧ labB x r = true then toldR b o s q t l n m x r else noSeat 0 1
theorem sayR_size {b o : Bool} {s : ByteArray} {q : Int} {t : ByteArray} {l : List Int} {n : Int} {m : List Sec} {x : ByteArray} {r : List Int} (h : 400 < m.length) : sayR b o s q t l n m x r = noSeat 0 2 := if_pos h
theorem sayR_form {b o : Bool} {s : ByteArray} {q : Int} {t : ByteArray} {l : List Int} {n : Int} {m : List Sec} {x : ByteArray} {r : List Int} (h : ¬ 400 < m.length) (h2 : seatB s q t l = false ∨ vaultB m = false ∨ isB n 0 2 = false ∨ labB x r = false) : sayR b o s q t l n m x r = noSeat 0 1 := by
  rw [sayR, if_neg h, if_neg]
  rintro ⟨h3, h4, h5, h6⟩
  rcases h2 with h2 | h2 | h2 | h2 <;> simp_all
theorem sayR_ok {b o : Bool} {s : ByteArray} {q : Int} {t : ByteArray} {l : List Int} {n : Int} {m : List Sec} {x : ByteArray} {r : List Int} (h : ¬ 400 < m.length) (h1 : seatB s q t l = true) (h2 : vaultB m = true) (h3 : isB n 0 2 = true) (h4 : labB x r = true) : sayR b o s q t l n m x r = toldR b o s q t l n m x r := by
  rw [sayR, if_neg h, if_pos ⟨h1, h2, h3, h4⟩]
set_option maxRecDepth 100000 in
set_option maxHeartbeats 32000000 in
theorem specSay_any (b o : Bool) (s : ByteArray) (q : Int) (t : ByteArray) (v : Value) (l : List Int) (n : Int) (u : Value) (m : List Sec) (x : ByteArray) (v3 : Value) (r : List Int) (w : World) (hs : s.size ≤ 1048576) (ht : t.size ≤ 1048576) (hx : x.size ≤ 1048576) (hsml : ∀ x ∈ m, secSmall x) (hv : Ints w v l) (hu : Secs w u m) (hv3 : Ints w v3 r) :
    Calls Tryd.prog 19 #[.agg #[.bool b, .bool o, .string s, .int .i64 q, .string t, v], .int .i64 n, u, .agg #[.string x, v3]] w (SeatOutEnd w.heap.size (sayR b o s q t l n m x r) w) := by
  obtain ⟨A, cap, rfl⟩ := hv.form
  obtain ⟨A2, cap2, rfl⟩ := hu.form
  obtain ⟨A3, cap3, rfl⟩ := hv3.form
  have hml : (m.length : Int) ≤ 9223372036854775807 := by have := hu.1; unfold maxLen at this; omega
  have hbb := boxes3 w [.bool b, .bool o, .string s, .int .i64 q, .string t, .slice A l.length cap] [.string x, .slice A3 r.length cap3] [.bool false, .bool false, .string ⟨#[]⟩, .int .i64 0, .string ⟨#[]⟩, .slice none 0 0, .int .i64 0, .int .i64 0] 32 30 34
  have hB := Lib.hid hbb.1
  have hC := Lib.hid hbb.2.1
  have hR := Lib.hid hbb.2.2
  have hbW := Lib.hid ((((Below.refl w.heap.size w).alloc (Nat.le_refl _) (.cells #[.bool b, .bool o, .string s, .int .i64 q, .string t, .slice A l.length cap] 32)).alloc (by simp) (.cells #[.string x, .slice A3 r.length cap3] 30)).alloc (by simp; omega) (.cells #[.bool false, .bool false, .string ⟨#[]⟩, .int .i64 0, .string ⟨#[]⟩, .slice none 0 0, .int .i64 0, .int .i64 0] 34))
  have hv' := Lib.hid hv
  have hu' := Lib.hid hu
  have hv3' := Lib.hid hv3
  clear hv hu hv3 hbb
  replace hsml := Lib.hid hsml
  by_cases hsz : 400 < m.length
  · have h0' : (400 : Int) < (m.length : Int) := by omega
    have e0 := Lib.hid (sayR_size (b := b) (o := o) (s := s) (q := q) (t := t) (l := l) (n := n) (x := x) (r := r) hsz)
    clear hsz
    go_enter Tryd.func19, Tryd.ntmps19
    go_wp2_with (go_at_call 25; refine (specIll_any _ _).mono ?_; rintro e5 w5 ⟨rfl, hb5⟩; replace hbW := Lib.hid (Below.then_ hbW.out hb5 (Nat.le_refl _)); replace hB := Lib.hid (hB.out.up hb5); replace hC := Lib.hid (hC.out.up hb5); replace hR := Lib.hid (hR.out.up hb5); obtain ⟨x0, x1, x2, x3, x4, x5, xf0, xf1, xf2, xf3, xf4, xf5⟩ := hB.out.six; obtain ⟨p0, p1, pf0, pf1⟩ := hC.out.two; obtain ⟨y0, y1, y2, y3, y4, y5, y6, y7, yf0, yf1, yf2, yf3, yf4, yf5, yf6, yf7⟩ := hR.out.eight; have hlx := hB.out.lt; have hlp := hC.out.lt; have hly := hR.out.lt; clear hb5)
    refine bodyPost_ret (v := .agg #[.bool false, .bool false, .string ⟨#[]⟩, .int .i64 0, .string ⟨#[]⟩, .slice none 0 0, .int .i64 0, .int .i64 2]) (by simp [results, Tryd.results19, go_sem, y0, y1, y2, y3, y4, y5, y6, y7]) rfl ?_
    exact SeatOutEnd.none_ e0.out (below_set8 hbW.out (show w.heap.size ≤ w.heap.size + 1 + 1 by omega) _ _ _ _ _ _ _ _)
  have h0' : ¬ (400 : Int) < (m.length : Int) := by omega
  cases hsb : seatB s q t l with
  | false =>
    have e0 := Lib.hid (sayR_form (b := b) (o := o) (s := s) (q := q) (t := t) (l := l) (n := n) (m := m) (x := x) (r := r) hsz (.inl hsb))
    go_enter Tryd.func19, Tryd.ntmps19
    go_wp2_with (first | (go_at_call 26; refine (specSeatRight_any b o s q t _ l _ hs ht (hv'.out.below hbW.out)).mono ?_; rintro e1 w1 ⟨rfl, hb1⟩; rw [hsb]; replace hbW := Lib.hid (Below.then_ hbW.out hb1 (Nat.le_refl _)); replace hB := Lib.hid (hB.out.up hb1); replace hC := Lib.hid (hC.out.up hb1); replace hR := Lib.hid (hR.out.up hb1); obtain ⟨x0, x1, x2, x3, x4, x5, xf0, xf1, xf2, xf3, xf4, xf5⟩ := hB.out.six; obtain ⟨p0, p1, pf0, pf1⟩ := hC.out.two; obtain ⟨y0, y1, y2, y3, y4, y5, y6, y7, yf0, yf1, yf2, yf3, yf4, yf5, yf6, yf7⟩ := hR.out.eight; have hlx := hB.out.lt; have hlp := hC.out.lt; have hly := hR.out.lt; clear hb1) | (go_at_call 25; refine (specIll_any _ _).mono ?_; rintro e5 w5 ⟨rfl, hb5⟩; replace hbW := Lib.hid (Below.then_ hbW.out hb5 (Nat.le_refl _)); replace hB := Lib.hid (hB.out.up hb5); replace hC := Lib.hid (hC.out.up hb5); replace hR := Lib.hid (hR.out.up hb5); obtain ⟨x0, x1, x2, x3, x4, x5, xf0, xf1, xf2, xf3, xf4, xf5⟩ := hB.out.six; obtain ⟨p0, p1, pf0, pf1⟩ := hC.out.two; obtain ⟨y0, y1, y2, y3, y4, y5, y6, y7, yf0, yf1, yf2, yf3, yf4, yf5, yf6, yf7⟩ := hR.out.eight; have hlx := hB.out.lt; have hlp := hC.out.lt; have hly := hR.out.lt; clear hb5))
    refine bodyPost_ret (v := .agg #[.bool false, .bool false, .string ⟨#[]⟩, .int .i64 0, .string ⟨#[]⟩, .slice none 0 0, .int .i64 0, .int .i64 1]) (by simp [results, Tryd.results19, go_sem, y0, y1, y2, y3, y4, y5, y6, y7]) rfl ?_
    exact SeatOutEnd.none_ e0.out (below_set8 hbW.out (show w.heap.size ≤ w.heap.size + 1 + 1 by omega) _ _ _ _ _ _ _ _)
  | true =>
  cases hvb : vaultB m with
  | false =>
    have e0 := Lib.hid (sayR_form (b := b) (o := o) (s := s) (q := q) (t := t) (l := l) (n := n) (m := m) (x := x) (r := r) hsz (.inr (.inl hvb)))
    go_enter Tryd.func19, Tryd.ntmps19
    go_wp2_with (first | (go_at_call 26; refine (specSeatRight_any b o s q t _ l _ hs ht (hv'.out.below hbW.out)).mono ?_; rintro e1 w1 ⟨rfl, hb1⟩; rw [hsb]; replace hbW := Lib.hid (Below.then_ hbW.out hb1 (Nat.le_refl _)); replace hB := Lib.hid (hB.out.up hb1); replace hC := Lib.hid (hC.out.up hb1); replace hR := Lib.hid (hR.out.up hb1); obtain ⟨x0, x1, x2, x3, x4, x5, xf0, xf1, xf2, xf3, xf4, xf5⟩ := hB.out.six; obtain ⟨p0, p1, pf0, pf1⟩ := hC.out.two; obtain ⟨y0, y1, y2, y3, y4, y5, y6, y7, yf0, yf1, yf2, yf3, yf4, yf5, yf6, yf7⟩ := hR.out.eight; have hlx := hB.out.lt; have hlp := hC.out.lt; have hly := hR.out.lt; clear hb1) | (go_at_call 27; refine (specVault_any _ m _ (hu'.out.below hbW.out) hsml.out).mono ?_; rintro e2 w2 ⟨rfl, hb2⟩; rw [hvb]; replace hbW := Lib.hid (Below.then_ hbW.out hb2 (Nat.le_refl _)); replace hB := Lib.hid (hB.out.up hb2); replace hC := Lib.hid (hC.out.up hb2); replace hR := Lib.hid (hR.out.up hb2); obtain ⟨x0, x1, x2, x3, x4, x5, xf0, xf1, xf2, xf3, xf4, xf5⟩ := hB.out.six; obtain ⟨p0, p1, pf0, pf1⟩ := hC.out.two; obtain ⟨y0, y1, y2, y3, y4, y5, y6, y7, yf0, yf1, yf2, yf3, yf4, yf5, yf6, yf7⟩ := hR.out.eight; have hlx := hB.out.lt; have hlp := hC.out.lt; have hly := hR.out.lt; clear hb2) | (go_at_call 25; refine (specIll_any _ _).mono ?_; rintro e5 w5 ⟨rfl, hb5⟩; replace hbW := Lib.hid (Below.then_ hbW.out hb5 (Nat.le_refl _)); replace hB := Lib.hid (hB.out.up hb5); replace hC := Lib.hid (hC.out.up hb5); replace hR := Lib.hid (hR.out.up hb5); obtain ⟨x0, x1, x2, x3, x4, x5, xf0, xf1, xf2, xf3, xf4, xf5⟩ := hB.out.six; obtain ⟨p0, p1, pf0, pf1⟩ := hC.out.two; obtain ⟨y0, y1, y2, y3, y4, y5, y6, y7, yf0, yf1, yf2, yf3, yf4, yf5, yf6, yf7⟩ := hR.out.eight; have hlx := hB.out.lt; have hlp := hC.out.lt; have hly := hR.out.lt; clear hb5))
    refine bodyPost_ret (v := .agg #[.bool false, .bool false, .string ⟨#[]⟩, .int .i64 0, .string ⟨#[]⟩, .slice none 0 0, .int .i64 0, .int .i64 1]) (by simp [results, Tryd.results19, go_sem, y0, y1, y2, y3, y4, y5, y6, y7]) rfl ?_
    exact SeatOutEnd.none_ e0.out (below_set8 hbW.out (show w.heap.size ≤ w.heap.size + 1 + 1 by omega) _ _ _ _ _ _ _ _)
  | true =>
  cases hib : isB n 0 2 with
  | false =>
    have e0 := Lib.hid (sayR_form (b := b) (o := o) (s := s) (q := q) (t := t) (l := l) (n := n) (m := m) (x := x) (r := r) hsz (.inr (.inr (.inl hib))))
    go_enter Tryd.func19, Tryd.ntmps19
    go_wp2_with (first | (go_at_call 26; refine (specSeatRight_any b o s q t _ l _ hs ht (hv'.out.below hbW.out)).mono ?_; rintro e1 w1 ⟨rfl, hb1⟩; rw [hsb]; replace hbW := Lib.hid (Below.then_ hbW.out hb1 (Nat.le_refl _)); replace hB := Lib.hid (hB.out.up hb1); replace hC := Lib.hid (hC.out.up hb1); replace hR := Lib.hid (hR.out.up hb1); obtain ⟨x0, x1, x2, x3, x4, x5, xf0, xf1, xf2, xf3, xf4, xf5⟩ := hB.out.six; obtain ⟨p0, p1, pf0, pf1⟩ := hC.out.two; obtain ⟨y0, y1, y2, y3, y4, y5, y6, y7, yf0, yf1, yf2, yf3, yf4, yf5, yf6, yf7⟩ := hR.out.eight; have hlx := hB.out.lt; have hlp := hC.out.lt; have hly := hR.out.lt; clear hb1) | (go_at_call 27; refine (specVault_any _ m _ (hu'.out.below hbW.out) hsml.out).mono ?_; rintro e2 w2 ⟨rfl, hb2⟩; rw [hvb]; replace hbW := Lib.hid (Below.then_ hbW.out hb2 (Nat.le_refl _)); replace hB := Lib.hid (hB.out.up hb2); replace hC := Lib.hid (hC.out.up hb2); replace hR := Lib.hid (hR.out.up hb2); obtain ⟨x0, x1, x2, x3, x4, x5, xf0, xf1, xf2, xf3, xf4, xf5⟩ := hB.out.six; obtain ⟨p0, p1, pf0, pf1⟩ := hC.out.two; obtain ⟨y0, y1, y2, y3, y4, y5, y6, y7, yf0, yf1, yf2, yf3, yf4, yf5, yf6, yf7⟩ := hR.out.eight; have hlx := hB.out.lt; have hlp := hC.out.lt; have hly := hR.out.lt; clear hb2) | (go_at_call 28; refine (there_any _ _).mono ?_; rintro e3 w3 ⟨rfl, rfl⟩; rw [hib]) | (go_at_call 25; refine (specIll_any _ _).mono ?_; rintro e5 w5 ⟨rfl, hb5⟩; replace hbW := Lib.hid (Below.then_ hbW.out hb5 (Nat.le_refl _)); replace hB := Lib.hid (hB.out.up hb5); replace hC := Lib.hid (hC.out.up hb5); replace hR := Lib.hid (hR.out.up hb5); obtain ⟨x0, x1, x2, x3, x4, x5, xf0, xf1, xf2, xf3, xf4, xf5⟩ := hB.out.six; obtain ⟨p0, p1, pf0, pf1⟩ := hC.out.two; obtain ⟨y0, y1, y2, y3, y4, y5, y6, y7, yf0, yf1, yf2, yf3, yf4, yf5, yf6, yf7⟩ := hR.out.eight; have hlx := hB.out.lt; have hlp := hC.out.lt; have hly := hR.out.lt; clear hb5))
    refine bodyPost_ret (v := .agg #[.bool false, .bool false, .string ⟨#[]⟩, .int .i64 0, .string ⟨#[]⟩, .slice none 0 0, .int .i64 0, .int .i64 1]) (by simp [results, Tryd.results19, go_sem, y0, y1, y2, y3, y4, y5, y6, y7]) rfl ?_
    exact SeatOutEnd.none_ e0.out (below_set8 hbW.out (show w.heap.size ≤ w.heap.size + 1 + 1 by omega) _ _ _ _ _ _ _ _)
  | true =>
  cases hlb : labB x r with
  | false =>
    have e0 := Lib.hid (sayR_form (b := b) (o := o) (s := s) (q := q) (t := t) (l := l) (n := n) (m := m) (x := x) (r := r) hsz (.inr (.inr (.inr hlb))))
    go_enter Tryd.func19, Tryd.ntmps19
    go_wp2_with (first | (go_at_call 26; refine (specSeatRight_any b o s q t _ l _ hs ht (hv'.out.below hbW.out)).mono ?_; rintro e1 w1 ⟨rfl, hb1⟩; rw [hsb]; replace hbW := Lib.hid (Below.then_ hbW.out hb1 (Nat.le_refl _)); replace hB := Lib.hid (hB.out.up hb1); replace hC := Lib.hid (hC.out.up hb1); replace hR := Lib.hid (hR.out.up hb1); obtain ⟨x0, x1, x2, x3, x4, x5, xf0, xf1, xf2, xf3, xf4, xf5⟩ := hB.out.six; obtain ⟨p0, p1, pf0, pf1⟩ := hC.out.two; obtain ⟨y0, y1, y2, y3, y4, y5, y6, y7, yf0, yf1, yf2, yf3, yf4, yf5, yf6, yf7⟩ := hR.out.eight; have hlx := hB.out.lt; have hlp := hC.out.lt; have hly := hR.out.lt; clear hb1) | (go_at_call 27; refine (specVault_any _ m _ (hu'.out.below hbW.out) hsml.out).mono ?_; rintro e2 w2 ⟨rfl, hb2⟩; rw [hvb]; replace hbW := Lib.hid (Below.then_ hbW.out hb2 (Nat.le_refl _)); replace hB := Lib.hid (hB.out.up hb2); replace hC := Lib.hid (hC.out.up hb2); replace hR := Lib.hid (hR.out.up hb2); obtain ⟨x0, x1, x2, x3, x4, x5, xf0, xf1, xf2, xf3, xf4, xf5⟩ := hB.out.six; obtain ⟨p0, p1, pf0, pf1⟩ := hC.out.two; obtain ⟨y0, y1, y2, y3, y4, y5, y6, y7, yf0, yf1, yf2, yf3, yf4, yf5, yf6, yf7⟩ := hR.out.eight; have hlx := hB.out.lt; have hlp := hC.out.lt; have hly := hR.out.lt; clear hb2) | (go_at_call 28; refine (there_any _ _).mono ?_; rintro e3 w3 ⟨rfl, rfl⟩; rw [hib]) | (go_at_call 41; refine (specLabRight_any x _ r _ hx (hv3'.out.below hbW.out)).mono ?_; rintro e4 w4 ⟨rfl, hb4⟩; rw [hlb]; replace hbW := Lib.hid (Below.then_ hbW.out hb4 (Nat.le_refl _)); replace hB := Lib.hid (hB.out.up hb4); replace hC := Lib.hid (hC.out.up hb4); replace hR := Lib.hid (hR.out.up hb4); obtain ⟨x0, x1, x2, x3, x4, x5, xf0, xf1, xf2, xf3, xf4, xf5⟩ := hB.out.six; obtain ⟨p0, p1, pf0, pf1⟩ := hC.out.two; obtain ⟨y0, y1, y2, y3, y4, y5, y6, y7, yf0, yf1, yf2, yf3, yf4, yf5, yf6, yf7⟩ := hR.out.eight; have hlx := hB.out.lt; have hlp := hC.out.lt; have hly := hR.out.lt; clear hb4) | (go_at_call 25; refine (specIll_any _ _).mono ?_; rintro e5 w5 ⟨rfl, hb5⟩; replace hbW := Lib.hid (Below.then_ hbW.out hb5 (Nat.le_refl _)); replace hB := Lib.hid (hB.out.up hb5); replace hC := Lib.hid (hC.out.up hb5); replace hR := Lib.hid (hR.out.up hb5); obtain ⟨x0, x1, x2, x3, x4, x5, xf0, xf1, xf2, xf3, xf4, xf5⟩ := hB.out.six; obtain ⟨p0, p1, pf0, pf1⟩ := hC.out.two; obtain ⟨y0, y1, y2, y3, y4, y5, y6, y7, yf0, yf1, yf2, yf3, yf4, yf5, yf6, yf7⟩ := hR.out.eight; have hlx := hB.out.lt; have hlp := hC.out.lt; have hly := hR.out.lt; clear hb5))
    refine bodyPost_ret (v := .agg #[.bool false, .bool false, .string ⟨#[]⟩, .int .i64 0, .string ⟨#[]⟩, .slice none 0 0, .int .i64 0, .int .i64 1]) (by simp [results, Tryd.results19, go_sem, y0, y1, y2, y3, y4, y5, y6, y7]) rfl ?_
    exact SeatOutEnd.none_ e0.out (below_set8 hbW.out (show w.heap.size ≤ w.heap.size + 1 + 1 by omega) _ _ _ _ _ _ _ _)
  | true =>
    have hp := seatB_parts hsb
    have hp2 := labB_parts hp.2.2
    have hp3 := labB_parts hlb
    obtain ⟨R, hRR⟩ : ∃ R, R = toldR b o s q t l n m x r := ⟨_, rfl⟩
    have e0 := Lib.hid (show sayR b o s q t l n m x r = R by rw [hRR]; exact sayR_ok hsz hsb hvb hib hlb)
    have hTd := Lib.hid (fun v u v3 (w : World) (h : Ints w v l) (k : Secs w u m) (h3 : Ints w v3 r) => show Calls Tryd.prog 42 #[.agg #[.bool b, .bool o, .string s, .int .i64 q, .string t, v], .int .i64 n, u, .agg #[.string x, v3]] w (SeatOutEnd w.heap.size R w) by rw [hRR]; exact specTold_any b o s q t v l n u m x v3 r w hp.2.1 hp2.1 hp3.1 (by omega) hlb h k h3)
    clear hp hp2 hp3 hRR hsz
    go_enter Tryd.func19, Tryd.ntmps19
    go_wp2_with (first | (go_at_call 26; refine (specSeatRight_any b o s q t _ l _ hs ht (hv'.out.below hbW.out)).mono ?_; rintro e1 w1 ⟨rfl, hb1⟩; rw [hsb]; replace hbW := Lib.hid (Below.then_ hbW.out hb1 (Nat.le_refl _)); replace hB := Lib.hid (hB.out.up hb1); replace hC := Lib.hid (hC.out.up hb1); replace hR := Lib.hid (hR.out.up hb1); obtain ⟨x0, x1, x2, x3, x4, x5, xf0, xf1, xf2, xf3, xf4, xf5⟩ := hB.out.six; obtain ⟨p0, p1, pf0, pf1⟩ := hC.out.two; obtain ⟨y0, y1, y2, y3, y4, y5, y6, y7, yf0, yf1, yf2, yf3, yf4, yf5, yf6, yf7⟩ := hR.out.eight; have hlx := hB.out.lt; have hlp := hC.out.lt; have hly := hR.out.lt; clear hb1) | (go_at_call 27; refine (specVault_any _ m _ (hu'.out.below hbW.out) hsml.out).mono ?_; rintro e2 w2 ⟨rfl, hb2⟩; rw [hvb]; replace hbW := Lib.hid (Below.then_ hbW.out hb2 (Nat.le_refl _)); replace hB := Lib.hid (hB.out.up hb2); replace hC := Lib.hid (hC.out.up hb2); replace hR := Lib.hid (hR.out.up hb2); obtain ⟨x0, x1, x2, x3, x4, x5, xf0, xf1, xf2, xf3, xf4, xf5⟩ := hB.out.six; obtain ⟨p0, p1, pf0, pf1⟩ := hC.out.two; obtain ⟨y0, y1, y2, y3, y4, y5, y6, y7, yf0, yf1, yf2, yf3, yf4, yf5, yf6, yf7⟩ := hR.out.eight; have hlx := hB.out.lt; have hlp := hC.out.lt; have hly := hR.out.lt; clear hb2) | (go_at_call 28; refine (there_any _ _).mono ?_; rintro e3 w3 ⟨rfl, rfl⟩; rw [hib]) | (go_at_call 41; refine (specLabRight_any x _ r _ hx (hv3'.out.below hbW.out)).mono ?_; rintro e4 w4 ⟨rfl, hb4⟩; rw [hlb]; replace hbW := Lib.hid (Below.then_ hbW.out hb4 (Nat.le_refl _)); replace hB := Lib.hid (hB.out.up hb4); replace hC := Lib.hid (hC.out.up hb4); replace hR := Lib.hid (hR.out.up hb4); obtain ⟨x0, x1, x2, x3, x4, x5, xf0, xf1, xf2, xf3, xf4, xf5⟩ := hB.out.six; obtain ⟨p0, p1, pf0, pf1⟩ := hC.out.two; obtain ⟨y0, y1, y2, y3, y4, y5, y6, y7, yf0, yf1, yf2, yf3, yf4, yf5, yf6, yf7⟩ := hR.out.eight; have hlx := hB.out.lt; have hlp := hC.out.lt; have hly := hR.out.lt; clear hb4) | (go_at_call 42; refine (hTd.out _ _ _ _ (hv'.out.below hbW.out) (hu'.out.below hbW.out) (hv3'.out.below hbW.out)).mono ?_; rintro e6 w6 ⟨A6, cap6, rfl, ho6, hb6⟩; have zb := Lib.hid hR.out.lt; have hbS := Lib.hid hbW.out.size; replace hbW := Lib.hid (Below.then_ hbW.out hb6 (Nat.le_refl _)); replace hB := Lib.hid (hB.out.up hb6); replace hC := Lib.hid (hC.out.up hb6); replace hR := Lib.hid (hR.out.up hb6); obtain ⟨x0, x1, x2, x3, x4, x5, xf0, xf1, xf2, xf3, xf4, xf5⟩ := hB.out.six; obtain ⟨p0, p1, pf0, pf1⟩ := hC.out.two; obtain ⟨y0, y1, y2, y3, y4, y5, y6, y7, yf0, yf1, yf2, yf3, yf4, yf5, yf6, yf7⟩ := hR.out.eight; have hlx := hB.out.lt; have hlp := hC.out.lt; have hly := hR.out.lt; clear hb6; replace ho6 := Lib.hid ho6))
    refine bodyPost_ret (v := .agg #[.bool R.b, .bool R.o, .string R.s, .int .i64 R.q, .string R.t, .slice A6 R.l.length cap6, .int .i64 R.d, .int .i64 R.c]) (by simp [results, Tryd.results19, go_sem, y0, y1, y2, y3, y4, y5, y6, y7]) rfl ?_
    rw [e0.out]
    exact SeatOutEnd.of rfl ((ho6.out.set8 zb.out _ _ _ _ _ _ _ _).mono hbS.out) (below_set8 hbW.out (show w.heap.size ≤ w.heap.size + 1 + 1 by omega) _ _ _ _ _ _ _ _)
end Go.Proofs.YtajnligcngekcaaDoor
