/- The model's marked texts: LabJoin and LabCut. -/
import Derived.Test.YtlgedbgpekfobaaLabU
namespace Go.Proofs.Ytlgedbgpekfobaa
open Go.RowKit

set_option maxHeartbeats 4000000 in
theorem specLabJoin_any (t s : ByteArray) (v u : Value) (l m : List Int) (w : World) (ht : t.size ≤ 1048576) (hs : s.size ≤ 1048576) (hv : Ints w v l) (hu : Ints w u m) :
    Calls Try.prog 19 #[.agg #[.string t, v], .agg #[.string s, u]] w (LabOutEnd w.heap.size (joinR t s l m) w) := by
  obtain ⟨A1, cap1, rfl⟩ := hv.form
  obtain ⟨A2, cap2, rfl⟩ := hu.form
  have hbb := Lib.hid (fun (o1 o2 o3 : Obj) => (((Below.refl w.heap.size w).alloc (Nat.le_refl _) o1).alloc (by simp) o2).alloc (by simp; omega) o3)
  obtain ⟨B1, B2, B3⟩ := boxes3 w [.string t, .slice A1 l.length cap1] [.string s, .slice A2 m.length cap2] [.string ⟨#[]⟩, .slice none 0 0, .int .i64 0] 25 25 29
  replace B1 := Lib.hid B1
  replace B2 := Lib.hid B2
  replace B3 := Lib.hid B3
  have hva := Lib.hid (((hv.alloc (.cells #[.string t, .slice A1 l.length cap1] 25)).alloc (.cells #[.string s, .slice A2 m.length cap2] 25)).alloc (.cells #[.string ⟨#[]⟩, .slice none 0 0, .int .i64 0] 29))
  have hub := Lib.hid (((hu.alloc (.cells #[.string t, .slice A1 l.length cap1] 25)).alloc (.cells #[.string s, .slice A2 m.length cap2] 25)).alloc (.cells #[.string ⟨#[]⟩, .slice none 0 0, .int .i64 0] 29))
  have hv' := Lib.hid hv
  clear hv hu
  by_cases h1 : labB t l = true
  · by_cases h2 : labB s m = true
    · have hp := labB_parts h1
      have hq := labB_parts h2
      have hlm := Lib.hid (show l.length + m.length ≤ 1048576 by omega)
      by_cases h3 : 200 < t.size + s.size
      · have h3' : (200 : Int) < (t.size : Int) + (s.size : Int) := by omega
        have e := Lib.hid (joinR_full h1 h2 h3)
        clear hp hq h3
        go_enter Try.func19, Try.ntmps19
        go_wp2_with (first
          | (go_at_call_of 32 (Value.string t); refine (specLabRight_any t _ l _ ht (((hv'.out.alloc _).alloc _).alloc _)).mono ?_; rintro e1 w1 ⟨rfl, hb1⟩; replace hva := Lib.hid (hva.out.below hb1); replace hub := Lib.hid (hub.out.below hb1); replace B1 := Lib.hid (B1.out.up hb1); replace B2 := Lib.hid (B2.out.up hb1); replace B3 := Lib.hid (B3.out.up hb1); obtain ⟨x0, x1, xf0, xf1⟩ := B1.out.two; obtain ⟨y0, y1, yf0, yf1⟩ := B2.out.two; obtain ⟨r0, r1, r2, rf0, rf1, rf2⟩ := B3.out.three; replace hb1 := Lib.hid hb1)
          | (go_at_call_of 32 (Value.string s); refine (specLabRight_any s _ m _ hs hub.out).mono ?_; rintro e1 w2 ⟨rfl, hb2⟩; replace hva := Lib.hid (hva.out.below hb2); replace hub := Lib.hid (hub.out.below hb2); replace B1 := Lib.hid (B1.out.up hb2); replace B2 := Lib.hid (B2.out.up hb2); replace B3 := Lib.hid (B3.out.up hb2); clear x0 x1 xf0 xf1 y0 y1 yf0 yf1 r0 r1 r2 rf0 rf1 rf2; obtain ⟨x0, x1, xf0, xf1⟩ := B1.out.two; obtain ⟨y0, y1, yf0, yf1⟩ := B2.out.two; obtain ⟨r0, r1, r2, rf0, rf1, rf2⟩ := B3.out.three; replace hb2 := Lib.hid hb2)
          | (go_at_call 47; refine (specJoin_any t s _ _ l m _ ht hs hlm.out hva.out hub.out).mono ?_; rintro e1 w3 ⟨A, cap, rfl, ho, hb3⟩; have hz := B3.out.lt; replace B3 := Lib.hid (B3.out.up hb3); clear x0 x1 xf0 xf1 y0 y1 yf0 yf1 r0 r1 r2 rf0 rf1 rf2; obtain ⟨r0, r1, r2, rf0, rf1, rf2⟩ := B3.out.three; replace ho := Lib.hid ho; replace hb3 := Lib.hid hb3))
        exact bodyPost_ret (v := .agg #[.string ⟨#[]⟩, .slice none 0 0, .int .i64 9]) (by simp [results, Try.results19, go_sem, r0, r1, r2]) rfl (LabOutEnd.none_ e.out (below_set3 (Below.then_ (Below.then_ (hbb.out _ _ _) hb1.out (Nat.le_refl _)) hb2.out (Nat.le_refl _)) (by omega) _ _ _))
      · have h3' : ¬ (200 : Int) < (t.size : Int) + (s.size : Int) := by omega
        have e := Lib.hid (joinR_ok h1 h2 h3)
        rw [bytes_append] at e
        clear hp hq h3
        go_enter Try.func19, Try.ntmps19
        go_wp2_with (first
          | (go_at_call_of 32 (Value.string t); refine (specLabRight_any t _ l _ ht (((hv'.out.alloc _).alloc _).alloc _)).mono ?_; rintro e1 w1 ⟨rfl, hb1⟩; replace hva := Lib.hid (hva.out.below hb1); replace hub := Lib.hid (hub.out.below hb1); replace B1 := Lib.hid (B1.out.up hb1); replace B2 := Lib.hid (B2.out.up hb1); replace B3 := Lib.hid (B3.out.up hb1); obtain ⟨x0, x1, xf0, xf1⟩ := B1.out.two; obtain ⟨y0, y1, yf0, yf1⟩ := B2.out.two; obtain ⟨r0, r1, r2, rf0, rf1, rf2⟩ := B3.out.three; replace hb1 := Lib.hid hb1)
          | (go_at_call_of 32 (Value.string s); refine (specLabRight_any s _ m _ hs hub.out).mono ?_; rintro e1 w2 ⟨rfl, hb2⟩; replace hva := Lib.hid (hva.out.below hb2); replace hub := Lib.hid (hub.out.below hb2); replace B1 := Lib.hid (B1.out.up hb2); replace B2 := Lib.hid (B2.out.up hb2); replace B3 := Lib.hid (B3.out.up hb2); clear x0 x1 xf0 xf1 y0 y1 yf0 yf1 r0 r1 r2 rf0 rf1 rf2; obtain ⟨x0, x1, xf0, xf1⟩ := B1.out.two; obtain ⟨y0, y1, yf0, yf1⟩ := B2.out.two; obtain ⟨r0, r1, r2, rf0, rf1, rf2⟩ := B3.out.three; replace hb2 := Lib.hid hb2)
          | (go_at_call 47; refine (specJoin_any t s _ _ l m _ ht hs hlm.out hva.out hub.out).mono ?_; rintro e1 w3 ⟨A, cap, rfl, ho, hb3⟩; have hz := B3.out.lt; replace B3 := Lib.hid (B3.out.up hb3); clear x0 x1 xf0 xf1 y0 y1 yf0 yf1 r0 r1 r2 rf0 rf1 rf2; obtain ⟨r0, r1, r2, rf0, rf1, rf2⟩ := B3.out.three; replace ho := Lib.hid ho; replace hb3 := Lib.hid hb3))
        refine bodyPost_ret (v := .agg #[.string (t ++ s), .slice A (l ++ m).length cap, .int .i64 0]) (by simp [results, Try.results19, go_sem, r0, r1, r2]) rfl ?_
        rw [e.out]
        exact LabOutEnd.yes (R := ⟨0, t ++ s, l ++ m⟩) rfl (ho.out.set3 (by omega) (by omega) _ _ _) (below_set3 (Below.then_ (Below.then_ (Below.then_ (hbb.out _ _ _) hb1.out (Nat.le_refl _)) hb2.out (Nat.le_refl _)) hb3.out (Nat.le_refl _)) (by omega) _ _ _)
    · have h2' : labB s m = false := by simpa using h2
      have e := Lib.hid (joinR_no (t := t) (l := l) (.inr h2'))
      clear h2
      go_enter Try.func19, Try.ntmps19
      go_wp2_with (first
          | (go_at_call_of 32 (Value.string t); refine (specLabRight_any t _ l _ ht (((hv'.out.alloc _).alloc _).alloc _)).mono ?_; rintro e1 w1 ⟨rfl, hb1⟩; replace hva := Lib.hid (hva.out.below hb1); replace hub := Lib.hid (hub.out.below hb1); replace B1 := Lib.hid (B1.out.up hb1); replace B2 := Lib.hid (B2.out.up hb1); replace B3 := Lib.hid (B3.out.up hb1); obtain ⟨x0, x1, xf0, xf1⟩ := B1.out.two; obtain ⟨y0, y1, yf0, yf1⟩ := B2.out.two; obtain ⟨r0, r1, r2, rf0, rf1, rf2⟩ := B3.out.three; replace hb1 := Lib.hid hb1)
          | (go_at_call_of 32 (Value.string s); refine (specLabRight_any s _ m _ hs hub.out).mono ?_; rintro e1 w2 ⟨rfl, hb2⟩; replace hva := Lib.hid (hva.out.below hb2); replace hub := Lib.hid (hub.out.below hb2); replace B1 := Lib.hid (B1.out.up hb2); replace B2 := Lib.hid (B2.out.up hb2); replace B3 := Lib.hid (B3.out.up hb2); clear x0 x1 xf0 xf1 y0 y1 yf0 yf1 r0 r1 r2 rf0 rf1 rf2; obtain ⟨x0, x1, xf0, xf1⟩ := B1.out.two; obtain ⟨y0, y1, yf0, yf1⟩ := B2.out.two; obtain ⟨r0, r1, r2, rf0, rf1, rf2⟩ := B3.out.three; replace hb2 := Lib.hid hb2)
          | (go_at_call 47; refine (specJoin_any t s _ _ l m _ ht hs hlm.out hva.out hub.out).mono ?_; rintro e1 w3 ⟨A, cap, rfl, ho, hb3⟩; have hz := B3.out.lt; replace B3 := Lib.hid (B3.out.up hb3); clear x0 x1 xf0 xf1 y0 y1 yf0 yf1 r0 r1 r2 rf0 rf1 rf2; obtain ⟨r0, r1, r2, rf0, rf1, rf2⟩ := B3.out.three; replace ho := Lib.hid ho; replace hb3 := Lib.hid hb3))
      exact bodyPost_ret (v := .agg #[.string ⟨#[]⟩, .slice none 0 0, .int .i64 1]) (by simp [results, Try.results19, go_sem, r0, r1, r2]) rfl (LabOutEnd.none_ e.out (below_set3 (Below.then_ (Below.then_ (hbb.out _ _ _) hb1.out (Nat.le_refl _)) hb2.out (Nat.le_refl _)) (by omega) _ _ _))
  · have h1' : labB t l = false := by simpa using h1
    have e := Lib.hid (joinR_no (s := s) (m := m) (.inl h1'))
    clear h1
    go_enter Try.func19, Try.ntmps19
    go_wp2_with (first
          | (go_at_call_of 32 (Value.string t); refine (specLabRight_any t _ l _ ht (((hv'.out.alloc _).alloc _).alloc _)).mono ?_; rintro e1 w1 ⟨rfl, hb1⟩; replace hva := Lib.hid (hva.out.below hb1); replace hub := Lib.hid (hub.out.below hb1); replace B1 := Lib.hid (B1.out.up hb1); replace B2 := Lib.hid (B2.out.up hb1); replace B3 := Lib.hid (B3.out.up hb1); obtain ⟨x0, x1, xf0, xf1⟩ := B1.out.two; obtain ⟨y0, y1, yf0, yf1⟩ := B2.out.two; obtain ⟨r0, r1, r2, rf0, rf1, rf2⟩ := B3.out.three; replace hb1 := Lib.hid hb1)
          | (go_at_call_of 32 (Value.string s); refine (specLabRight_any s _ m _ hs hub.out).mono ?_; rintro e1 w2 ⟨rfl, hb2⟩; replace hva := Lib.hid (hva.out.below hb2); replace hub := Lib.hid (hub.out.below hb2); replace B1 := Lib.hid (B1.out.up hb2); replace B2 := Lib.hid (B2.out.up hb2); replace B3 := Lib.hid (B3.out.up hb2); clear x0 x1 xf0 xf1 y0 y1 yf0 yf1 r0 r1 r2 rf0 rf1 rf2; obtain ⟨x0, x1, xf0, xf1⟩ := B1.out.two; obtain ⟨y0, y1, yf0, yf1⟩ := B2.out.two; obtain ⟨r0, r1, r2, rf0, rf1, rf2⟩ := B3.out.three; replace hb2 := Lib.hid hb2)
          | (go_at_call 47; refine (specJoin_any t s _ _ l m _ ht hs hlm.out hva.out hub.out).mono ?_; rintro e1 w3 ⟨A, cap, rfl, ho, hb3⟩; have hz := B3.out.lt; replace B3 := Lib.hid (B3.out.up hb3); clear x0 x1 xf0 xf1 y0 y1 yf0 yf1 r0 r1 r2 rf0 rf1 rf2; obtain ⟨r0, r1, r2, rf0, rf1, rf2⟩ := B3.out.three; replace ho := Lib.hid ho; replace hb3 := Lib.hid hb3))
    exact bodyPost_ret (v := .agg #[.string ⟨#[]⟩, .slice none 0 0, .int .i64 1]) (by simp [results, Try.results19, go_sem, r0, r1, r2]) rfl (LabOutEnd.none_ e.out (below_set3 (Below.then_ (hbb.out _ _ _) hb1.out (Nat.le_refl _)) (by omega) _ _ _))
theorem bytes_cut (t : ByteArray) (p q : Nat) : bytesOf ((t.data.toList.drop p).take (q - p)) = t.extract p q := by
  apply ByteArray.ext
  show ((t.data.toList.drop p).take (q - p)).toArray = _
  rw [ByteArray.data_extract]
  apply Array.toList_inj.1
  simp
theorem Ints.sliced {w : World} {A : Option Addr} {n cap p q : Nat} {l : List Int} (h : Ints w (.slice A n cap) l) (h1 : p ≤ q) (h2 : q ≤ l.length) : Ints w (Go.sliced A p q cap 1) ((l.drop p).take (q - p)) := by
  have hl : ((l.drop p).take (q - p)).length = q - p := by simp; omega
  have hcap := h.cap_le
  unfold Go.sliced
  refine ⟨by have := h.1; omega, _, _, by rw [hl], by rw [hl]; omega, fun h0 => ?_⟩
  rw [hl] at h0
  obtain ⟨b, off, rfl, hb, hc⟩ := h.at_ p (by omega)
  refine ⟨b, off + p, ?_, fun i hi => ?_⟩
  · rw [if_neg (by omega)]
    have e1 : (⟨b, off, none⟩ : Addr).add p = ⟨b, off + p, none⟩ := by unfold Addr.add; split <;> simp_all
    rw [Nat.mul_one]; exact congrArg some e1
  · rw [hl] at hi
    obtain ⟨b', off', e, _, hc'⟩ := h.at_ (p + i) (by omega)
    cases e
    rw [Nat.add_assoc, hc']
    simp
set_option maxHeartbeats 8000000 in
theorem specCut_any (t : ByteArray) (v : Value) (l : List Int) (p q : Nat) (w : World) (hpq : p ≤ q) (hqt : q ≤ t.size) (hlt : l.length = t.size) (hv : Ints w v l) :
    Calls Try.prog 49 #[.agg #[.string t, v], .int .i64 (p : Int), .int .i64 (q : Int)] w (LabEnd w.heap.size (t.extract p q) ((l.drop p).take (q - p)) w) := by
  obtain ⟨i0, hi, hz0, hz1, hz2⟩ := info_parts Try.info2
  obtain ⟨A1, cap1, rfl⟩ := hv.form
  have hcap := hv.cap_le
  have hbb := Lib.hid (fun (o1 o2 : Obj) => ((Below.refl w.heap.size w).alloc (Nat.le_refl _) o1).alloc (by simp) o2)
  obtain ⟨B1, B2⟩ := boxes2' w (.string t) (.slice A1 l.length cap1) (.string ⟨#[]⟩) (.slice none 0 0) 25 25
  replace B1 := Lib.hid B1
  replace B2 := Lib.hid B2
  have hpi := hv.sliced hpq (by omega)
  obtain ⟨X, hX⟩ : ∃ X, X = Go.sliced A1 p q cap1 1 := ⟨_, rfl⟩
  rw [← hX] at hpi
  have hel : Try.prog.elem 23 = 2 := by kernel_rfl
  have hsl : ∀ (W : World), (Instr.slice 23 (.slice A1 l.length cap1) (some (.int .i64 (p : Int))) (some (.int .i64 (q : Int))) none).run Try.prog W = .ok X W := by
    intro W
    rw [run_slice_lh W _ _ _ _ Try.underlying23 _ _ _ _ (by omega) (by omega) (by omega), hX]
    simp [sizeOf, typeInfo, hel, hi, hz1]
  have hst : ∀ (W : World), (Instr.slice 9 (.string t) (some (.int .i64 (p : Int))) (some (.int .i64 (q : Int))) none).run Try.prog W = .ok (.string (t.extract p q)) W := fun (W : World) => run_slice_string (P := Try.prog) W 9 t .i64 .i64 (p : Int) (q : Int) Try.underlying9 (by omega) (by omega) (by omega)
  have hp0 : (0 : Int) ≤ (p : Int) := by omega
  have hp1 : (p : Int) ≤ (q : Int) := by omega
  have hp2 : (q : Int) ≤ (t.size : Int) := by omega
  have hp3 : (q : Int) ≤ (cap1 : Int) := by omega
  have hbW := Lib.hid (below_drew' (hbb.out (.cells #[.string t, .slice A1 l.length cap1] 25) (.cells #[.string ⟨#[]⟩, .slice none 0 0] 25)))
  have hE := Lib.hid (empty_own (((w.alloc (.cells #[.string t, .slice A1 l.length cap1] 25)).alloc (.cells #[.string ⟨#[]⟩, .slice none 0 0] 25)).drew) 2 (w.heap.size + 1 + 1) (w.heap.size + 2) (by simp) (Nat.le_refl _))
  have hbA := Lib.hid (hbW.out.alloc (by simp; omega) (.cells #[] 2))
  have hRv := Lib.hid (hpi.below hbA.out).reads
  have hLl : ((l.drop p).take (q - p)).length ≤ 1048576 := hpi.1
  obtain ⟨L, hL⟩ : ∃ L, L = (l.drop p).take (q - p) := ⟨_, rfl⟩
  rw [← hL] at hRv hLl hpi ⊢
  replace hL := Lib.hid hL
  replace hLl := Lib.hid hLl
  have hl0 := Lib.hid (show (([] : List Value).length + (L.map intV).length ≤ 1048576) by have := hLl.out; simp; omega)
  have hsz := Lib.hid (show w.heap.size + 2 ≤ (((w.alloc (.cells #[.string t, .slice A1 l.length cap1] 25)).alloc (.cells #[.string ⟨#[]⟩, .slice none 0 0] 25)).drew.alloc (.cells #[] 2)).heap.size by simp)
  have hne1 : ¬ w.heap.size = w.heap.size + 1 := by omega
  have hne2 : ¬ w.heap.size + 1 = w.heap.size := by omega
  clear hv hpi hX
  replace hlt := Lib.hid hlt
  go_enter Try.func49, Try.ntmps49
  go_wp2
  go_region_held3 (fun w' => w'.cell? ⟨w.heap.size, 0, none⟩ = some (.string t) ∧ w'.cell? ⟨w.heap.size, 1, none⟩ = some (.slice A1 l.length cap1)) (first | exact ⟨x0, x1⟩ | go_keep)
    ((refine step_append_reads (by rfl) (.tmp 12) (.tmp 17) 23 (by rfl) (w.heap.size + 2) 2 i0 (.int .i64 0) 8 Try.underlying23 hi hz0 hz1 hz2 rfl (by decide) _ _ [] (L.map intV) (by rfl) hE.out (by rfl) hRv.out ints_one hl0.out (Below.refl _ _) hsz.out ?_; intro v1 w1 ho1 hb1; rw [List.nil_append] at ho1; replace ho1 := own_ints (l := L) ho1 rfl hLl.out; obtain ⟨A, cap, rfl⟩ := ho1.form; replace B1 := Lib.hid ((B1.out.drew.alloc _).below hb1 (by omega)); replace B2 := Lib.hid ((B2.out.drew.alloc _).below hb1 (by omega)); obtain ⟨x0, x1, xf0, xf1⟩ := B1.out.two; obtain ⟨r0, r1, rf0, rf1⟩ := B2.out.two; have hbw1 := Lib.hid (hbA.out.trans (hb1.mono (by omega))); replace ho1 := Lib.hid ho1; clear hb1))
  all_goals
    go_wp2
    refine bodyPost_ret (v := .agg #[.string (t.extract p q), .slice A L.length cap]) (by simp [results, Try.results49, go_sem, r0, r1]) rfl ?_
    exact LabEnd.of rfl (ho1.out.set2 (by omega) (by omega) _ _) (below_set2 hbw1.out (by omega) _ _)
theorem isB_yes {n lo hi : Int} (h : lo ≤ n) (h' : n ≤ hi) : isB n lo hi = true := by simp [isB, h, h']
theorem isB_no {n lo hi : Int} (h : ¬ (lo ≤ n ∧ n ≤ hi)) : isB n lo hi = false := by unfold isB; exact decide_eq_false h
set_option maxHeartbeats 4000000 in
theorem specLabCut_any (t : ByteArray) (v : Value) (l : List Int) (a b : Int) (w : World) (ht : t.size ≤ 1048576) (hv : Ints w v l) :
    Calls Try.prog 21 #[.agg #[.string t, v], .int .i64 a, .int .i64 b] w (LabOutEnd w.heap.size (cutR t l a b) w) := by
  obtain ⟨A1, cap1, rfl⟩ := hv.form
  have hbb := Lib.hid (fun (o1 o2 : Obj) => ((Below.refl w.heap.size w).alloc (Nat.le_refl _) o1).alloc (by simp) o2)
  obtain ⟨B1, B2⟩ := boxes2 w [.string t, .slice A1 l.length cap1] [.string ⟨#[]⟩, .slice none 0 0, .int .i64 0] 25 29
  replace B1 := Lib.hid B1
  replace B2 := Lib.hid B2
  have hva := Lib.hid ((hv.alloc (.cells #[.string t, .slice A1 l.length cap1] 25)).alloc (.cells #[.string ⟨#[]⟩, .slice none 0 0, .int .i64 0] 29))
  clear hv
  by_cases h1 : labB t l = true
  · have hp1 := Lib.hid (labB_parts h1).2.1
    by_cases h2 : 0 ≤ a ∧ a ≤ b ∧ b ≤ (t.size : Int)
    · obtain ⟨h20, h21, h22⟩ := h2
      obtain ⟨p, rfl⟩ : ∃ p : Nat, a = (p : Int) := ⟨a.toNat, by omega⟩
      obtain ⟨q, rfl⟩ : ∃ q : Nat, b = (q : Int) := ⟨b.toNat, by omega⟩
      have hpq : p ≤ q := by omega
      have hqt : q ≤ t.size := by omega
      have e := Lib.hid (cutR_ok h1 hpq hqt)
      rw [bytes_cut t p q] at e
      have i1 := isB_yes h20 (show (p : Int) ≤ (t.size : Int) by omega)
      have i2 := isB_yes h21 h22
      go_enter Try.func21, Try.ntmps21
      go_wp2_with (first
          | (go_at_call 32; refine (specLabRight_any t _ l _ ht hva.out).mono ?_; rintro e1 w1 ⟨rfl, hb1⟩; replace hva := Lib.hid (hva.out.below hb1); replace B1 := Lib.hid (B1.out.up hb1); replace B2 := Lib.hid (B2.out.up hb1); obtain ⟨x0, x1, xf0, xf1⟩ := B1.out.two; obtain ⟨r0, r1, r2, rf0, rf1, rf2⟩ := B2.out.three; replace hb1 := Lib.hid hb1)
          | (go_at_call 48; refine (is_any _ _ _ _).mono ?_; rintro e2 w' ⟨rfl, rfl⟩)
          | (go_at_call 49; refine (specCut_any t _ l p q _ hpq hqt hp1.out hva.out).mono ?_; rintro e1 w3 ⟨A, cap, rfl, ho, hb3⟩; have hz := B2.out.lt; replace B2 := Lib.hid (B2.out.up hb3); clear x0 x1 xf0 xf1 r0 r1 r2 rf0 rf1 rf2; obtain ⟨r0, r1, r2, rf0, rf1, rf2⟩ := B2.out.three; replace ho := Lib.hid ho; replace hb3 := Lib.hid hb3))
      refine bodyPost_ret (v := .agg #[.string (t.extract p q), .slice A ((l.drop p).take (q - p)).length cap, .int .i64 0]) (by simp [results, Try.results21, go_sem, r0, r1, r2]) rfl ?_
      rw [e.out]
      exact LabOutEnd.yes (R := ⟨0, t.extract p q, (l.drop p).take (q - p)⟩) rfl (ho.out.set3 (by omega) (by omega) _ _ _) (below_set3 (Below.then_ (Below.then_ (hbb.out _ _) hb1.out (Nat.le_refl _)) hb3.out (Nat.le_refl _)) (by omega) _ _ _)
    · have e := Lib.hid (cutR_range h1 h2)
      by_cases c1 : 0 ≤ a ∧ a ≤ (t.size : Int)
      · have i1 := isB_yes c1.1 c1.2
        have i2 := isB_no (n := b) (lo := a) (hi := (t.size : Int)) (by omega)
        clear h2 c1
        go_enter Try.func21, Try.ntmps21
        go_wp2_with (first
          | (go_at_call 32; refine (specLabRight_any t _ l _ ht hva.out).mono ?_; rintro e1 w1 ⟨rfl, hb1⟩; replace hva := Lib.hid (hva.out.below hb1); replace B1 := Lib.hid (B1.out.up hb1); replace B2 := Lib.hid (B2.out.up hb1); obtain ⟨x0, x1, xf0, xf1⟩ := B1.out.two; obtain ⟨r0, r1, r2, rf0, rf1, rf2⟩ := B2.out.three; replace hb1 := Lib.hid hb1)
          | (go_at_call 48; refine (is_any _ _ _ _).mono ?_; rintro e2 w' ⟨rfl, rfl⟩)
          | (go_at_call 49; refine (specCut_any t _ l p q _ hpq hqt hp1.out hva.out).mono ?_; rintro e1 w3 ⟨A, cap, rfl, ho, hb3⟩; have hz := B2.out.lt; replace B2 := Lib.hid (B2.out.up hb3); clear x0 x1 xf0 xf1 r0 r1 r2 rf0 rf1 rf2; obtain ⟨r0, r1, r2, rf0, rf1, rf2⟩ := B2.out.three; replace ho := Lib.hid ho; replace hb3 := Lib.hid hb3))
        exact bodyPost_ret (v := .agg #[.string ⟨#[]⟩, .slice none 0 0, .int .i64 8]) (by simp [results, Try.results21, go_sem, r0, r1, r2]) rfl (LabOutEnd.none_ e.out (below_set3 (Below.then_ (hbb.out _ _) hb1.out (Nat.le_refl _)) (by omega) _ _ _))
      · have i1 := isB_no c1
        clear h2 c1
        go_enter Try.func21, Try.ntmps21
        go_wp2_with (first
          | (go_at_call 32; refine (specLabRight_any t _ l _ ht hva.out).mono ?_; rintro e1 w1 ⟨rfl, hb1⟩; replace hva := Lib.hid (hva.out.below hb1); replace B1 := Lib.hid (B1.out.up hb1); replace B2 := Lib.hid (B2.out.up hb1); obtain ⟨x0, x1, xf0, xf1⟩ := B1.out.two; obtain ⟨r0, r1, r2, rf0, rf1, rf2⟩ := B2.out.three; replace hb1 := Lib.hid hb1)
          | (go_at_call 48; refine (is_any _ _ _ _).mono ?_; rintro e2 w' ⟨rfl, rfl⟩)
          | (go_at_call 49; refine (specCut_any t _ l p q _ hpq hqt hp1.out hva.out).mono ?_; rintro e1 w3 ⟨A, cap, rfl, ho, hb3⟩; have hz := B2.out.lt; replace B2 := Lib.hid (B2.out.up hb3); clear x0 x1 xf0 xf1 r0 r1 r2 rf0 rf1 rf2; obtain ⟨r0, r1, r2, rf0, rf1, rf2⟩ := B2.out.three; replace ho := Lib.hid ho; replace hb3 := Lib.hid hb3))
        exact bodyPost_ret (v := .agg #[.string ⟨#[]⟩, .slice none 0 0, .int .i64 8]) (by simp [results, Try.results21, go_sem, r0, r1, r2]) rfl (LabOutEnd.none_ e.out (below_set3 (Below.then_ (hbb.out _ _) hb1.out (Nat.le_refl _)) (by omega) _ _ _))
  · have h1' : labB t l = false := by simpa using h1
    have e := Lib.hid (cutR_no (a := a) (b := b) h1')
    clear h1
    go_enter Try.func21, Try.ntmps21
    go_wp2_with (first
          | (go_at_call 32; refine (specLabRight_any t _ l _ ht hva.out).mono ?_; rintro e1 w1 ⟨rfl, hb1⟩; replace hva := Lib.hid (hva.out.below hb1); replace B1 := Lib.hid (B1.out.up hb1); replace B2 := Lib.hid (B2.out.up hb1); obtain ⟨x0, x1, xf0, xf1⟩ := B1.out.two; obtain ⟨r0, r1, r2, rf0, rf1, rf2⟩ := B2.out.three; replace hb1 := Lib.hid hb1)
          | (go_at_call 48; refine (is_any _ _ _ _).mono ?_; rintro e2 w' ⟨rfl, rfl⟩)
          | (go_at_call 49; refine (specCut_any t _ l p q _ hpq hqt hp1.out hva.out).mono ?_; rintro e1 w3 ⟨A, cap, rfl, ho, hb3⟩; have hz := B2.out.lt; replace B2 := Lib.hid (B2.out.up hb3); clear x0 x1 xf0 xf1 r0 r1 r2 rf0 rf1 rf2; obtain ⟨r0, r1, r2, rf0, rf1, rf2⟩ := B2.out.three; replace ho := Lib.hid ho; replace hb3 := Lib.hid hb3))
    exact bodyPost_ret (v := .agg #[.string ⟨#[]⟩, .slice none 0 0, .int .i64 1]) (by simp [results, Try.results21, go_sem, r0, r1, r2]) rfl (LabOutEnd.none_ e.out (below_set3 (Below.then_ (hbb.out _ _) hb1.out (Nat.le_refl _)) (by omega) _ _ _))
end Go.Proofs.Ytlgedbgpekfobaa
