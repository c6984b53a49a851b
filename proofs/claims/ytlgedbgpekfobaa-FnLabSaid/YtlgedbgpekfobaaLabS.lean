/- The model's marked texts: made, redacted, all marks, compared. -/
import Derived.Test.YtlgedbgpekfobaaLabI
namespace Go.Proofs.Ytlgedbgpekfobaa
open Go.RowKit

theorem one_ints (w : World) (m : Int) : Ints (w.alloc (.cells #[.int .i64 m] 2)) (.slice (some ⟨w.heap.size, 0, none⟩) 1 1) [m] :=
  ⟨by simp, _, _, rfl, by simp, fun _ => ⟨_, _, rfl, fun i hi => by
    have h0 : i = 0 := by simpa using hi
    subst h0
    exact World.cell?_alloc_new w _ _ _⟩⟩
theorem repl_snoc (k : Nat) (m : Int) : List.replicate k m ++ [m] = List.replicate (k + 1) m := by rw [List.replicate_succ', ]
theorem LabEnd.of {base : Nat} {t : ByteArray} {l : List Int} {w w' : World} {A : Option Addr} {n cap : Nat} (hn : n = l.length) (ho : OwnInts w' base (.slice A n cap) l) (k : Below base w w') : LabEnd base t l w (.returned (.agg #[.string t, .slice A n cap])) w' := by
  subst hn; exact ⟨A, cap, rfl, ho, k⟩
theorem OwnInts.set2 {w : World} {b c g : Nat} {v : Value} {l : List Int} (h : OwnInts w c v l) (hg : g < c) (hb : b ≤ c) (x y : Value) : OwnInts ((w.setCell ⟨g, 0, none⟩ x).setCell ⟨g, 1, none⟩ y) b v l :=
  ((h.setCell _ _ _ hg).setCell _ _ _ hg).mono hb
theorem below_set2 {w w' : World} {b g : Nat} (h : Below b w w') (hg : b ≤ g) (x y : Value) : Below b w ((w'.setCell ⟨g, 0, none⟩ x).setCell ⟨g, 1, none⟩ y) :=
  (h.setCell (p := ⟨g, 0, none⟩) hg x).setCell (p := ⟨g, 1, none⟩) hg y
set_option maxHeartbeats 2000000 in
theorem specOf_any (t : ByteArray) (m : Int) (w : World) (ht : t.size ≤ 1048576) : Calls Try.prog 53 #[.string t, .int .i64 m] w (LabEnd w.heap.size t (List.replicate t.size m) w) := by
  have hbb := Lib.hid (fun (o1 o2 : Obj) => ((Below.refl w.heap.size w).alloc (Nat.le_refl _) o1).alloc (by simp) o2)
  obtain ⟨B1, B2⟩ := boxes2' w (.string ⟨#[]⟩) (.slice none 0 0) (.string t) (.slice none 0 0) 25 25
  replace B1 := Lib.hid B1
  replace B2 := Lib.hid B2
  go_enter Try.func53, Try.ntmps53
  go_wp2
  go_loopw [6] (fun i wr => ∃ (k : Nat) (A : Option Addr) (cap : Nat), k ≤ t.size ∧ i = .int .i64 k ∧ Blk wr w.heap.size 25 [.string ⟨#[]⟩, .slice none 0 0] ∧ Blk wr (w.heap.size + 1) 25 [.string t, .slice A k cap] ∧ OwnInts wr (w.heap.size + 2) (.slice A k cap) (List.replicate k m) ∧ Below w.heap.size w wr) (fun i _ => t.size - (intOf i).toNat)
  case atStart => exact ⟨0, none, 0, Nat.zero_le _, rfl, B1.out, B2.out, OwnInts.nil _ _, hbb.out _ _⟩
  case round =>
    obtain ⟨k, A, cap, hk, rfl, h1, h2, ho, hb⟩ := hrel
    obtain ⟨r0, r1, rf0, rf1⟩ := h1.two
    obtain ⟨x0, x1, xf0, xf1⟩ := h2.two
    have hwlt := h2.lt
    have hwl1 := h1.lt
    by_cases hlt : k < t.size
    · have hlt' : (k : Int) < (t.size : Int) := by omega
      replace h1 := Lib.hid (h1.alloc (.cells #[.int .i64 m] 2))
      replace h2 := Lib.hid (h2.alloc (.cells #[.int .i64 m] 2))
      replace ho := Lib.hid (ho.alloc (.cells #[.int .i64 m] 2))
      replace hb := Lib.hid (hb.alloc (by omega) (.cells #[.int .i64 m] 2))
      have hl1 := Lib.hid (show (List.replicate k m).length + [m].length ≤ 1048576 by simp; omega)
      go_wp2_with (at_builtin; refine wpList_append_ints (w0 := wr.alloc (.cells #[.int .i64 m] 2)) rfl (.tmp 16) (.tmp 18) rfl (w.heap.size + 2) _ _ (List.replicate k m) [m] rfl ho.out rfl (one_ints _ _) hl1.out (Below.refl _ _) (by simp; omega) ?_; intro v' w2 ho2 hb2; obtain ⟨A2, cap2, hv2⟩ := ho2.form; rw [repl_snoc, List.length_replicate] at hv2; rw [repl_snoc] at ho2; subst hv2; obtain ⟨y0, y1, yf0, yf1⟩ := (h2.out.below hb2 (by omega)).two; have k1 := Lib.hid (h1.out.below hb2 (by omega)); have k2 := Lib.hid (h2.out.below hb2 (by omega)); replace ho2 := Lib.hid ho2; replace hb2 := Lib.hid (hb.out.trans (hb2.mono (by omega))))
      go_roundw
      case rel =>
        exact ⟨k + 1, A2, cap2, by omega, by go_num, k1.out.other (by omega) _, k2.out.set 1 _, ho2.out.setCell _ _ _ (by omega), hb2.out.setCell (p := ⟨w.heap.size + 1, 1, none⟩) (by show w.heap.size ≤ w.heap.size + 1; omega) _⟩
      case measure => simp [intOf]; omega
    · have hlt' : ¬ (k : Int) < (t.size : Int) := by omega
      obtain rfl : k = t.size := by omega
      replace h1 := Lib.hid h1
      replace h2 := Lib.hid h2
      replace ho := Lib.hid ho
      replace hb := Lib.hid hb
      go_wp2
      refine bodyPost_ret (v := .agg #[.string t, .slice A t.size cap]) (by simp [results, Try.results53, go_sem, r0, r1]) rfl ?_
      exact LabEnd.of (by simp) (ho.out.set2 (by omega) (by omega) _ _) (below_set2 hb.out (Nat.le_refl _) _ _)
set_option maxHeartbeats 2000000 in
theorem specLabOf_any (t : ByteArray) (m : Int) (w : World) (ht : t.size ≤ maxLen) : Calls Try.prog 25 #[.string t, .int .i64 m] w (LabOutEnd w.heap.size (labOfR t m) w) := by
  have ht1 : (t.size : Int) ≤ 9223372036854775807 := by unfold maxLen at ht; omega
  have hbb := Lib.hid (fun (o1 : Obj) => ((Below.refl w.heap.size w).alloc (Nat.le_refl _) o1))
  by_cases h0 : 8000 < t.size
  · have h0' : (8000 : Int) < (t.size : Int) := by omega
    have e := Lib.hid (labOfR_size (m := m) h0)
    clear h0
    go_enter Try.func25, Try.ntmps25
    go_wp2
    exact bodyPost_ret (v := .agg #[.string ⟨#[]⟩, .slice none 0 0, .int .i64 2]) (by simp [results, Try.results25, go_sem]) rfl (LabOutEnd.none_ e.out (hbb.out _))
  · have h0' : ¬ (8000 : Int) < (t.size : Int) := by omega
    by_cases h1 : 200 < t.size
    · have h1' : (200 : Int) < (t.size : Int) := by omega
      have e := Lib.hid (labOfR_form (m := m) h0 (.inl h1))
      clear h0 h1
      go_enter Try.func25, Try.ntmps25
      go_wp2
      exact bodyPost_ret (v := .agg #[.string ⟨#[]⟩, .slice none 0 0, .int .i64 1]) (by simp [results, Try.results25, go_sem]) rfl (LabOutEnd.none_ e.out (hbb.out _))
    · have h1' : ¬ (200 : Int) < (t.size : Int) := by omega
      by_cases h2 : markB m = true
      · have e := Lib.hid (labOfR_ok h1 h2)
        have hB : Blk (w.alloc (.cells #[.string ⟨#[]⟩, .slice none 0 0, .int .i64 0] 29)) w.heap.size 29 [.string ⟨#[]⟩, .slice none 0 0, .int .i64 0] := heap_alloc_new w _
        replace hB := Lib.hid hB
        go_enter Try.func25, Try.ntmps25
        go_wp2_with (first
          | (go_at_call 48; refine (is_any _ _ _ _).mono ?_; rintro e1 w' ⟨rfl, rfl⟩; rw [markB_is])
          | (go_at_call 53; refine (specOf_any t m _ (by omega)).mono ?_; rintro e1 w1 ⟨A, cap, rfl, ho, hb⟩; rw [List.length_replicate] at ho ⊢; obtain ⟨r0, r1, r2, rf0, rf1, rf2⟩ := (hB.out.up hb).three; have hz := hb.size; simp only [World.size_alloc] at hz; replace ho := Lib.hid ho; replace hb := Lib.hid hb))
        refine bodyPost_ret (v := .agg #[.string t, .slice A t.size cap, .int .i64 0]) (by simp [results, Try.results25, go_sem, r0, r1, r2]) rfl ?_
        rw [e.out]
        exact LabOutEnd.yes (R := ⟨0, t, List.replicate t.size m⟩) (by simp) (ho.out.set3 (by simp) (by simp) _ _ _) (below_set3 (Below.then_ (hbb.out _) hb.out (Nat.le_refl _)) (by omega) _ _ _)
      · have h2' : markB m = false := by simpa using h2
        have e := Lib.hid (labOfR_form (m := m) h0 (.inr h2'))
        clear h0 h1 h2
        go_enter Try.func25, Try.ntmps25
        go_wp2_with (go_at_call 48; refine (is_any _ _ _ _).mono ?_; rintro e1 w' ⟨rfl, rfl⟩; rw [markB_is])
        exact bodyPost_ret (v := .agg #[.string ⟨#[]⟩, .slice none 0 0, .int .i64 1]) (by simp [results, Try.results25, go_sem]) rfl (LabOutEnd.none_ e.out (hbb.out _))
set_option maxHeartbeats 2000000 in
theorem specMark_any (t : ByteArray) (v : Value) (l : List Int) (w : World) (hv : Ints w v l) :
    Calls Try.prog 55 #[.agg #[.string t, v]] w (IntIs (markL l) w) := by
  have hl1 := hv.1
  obtain ⟨A1, cap1, rfl⟩ := hv.form
  have hva := Lib.hid (hv.alloc (.cells #[.string t, .slice A1 l.length cap1] 25))
  clear hv
  have hbb := Lib.hid (fun (o1 : Obj) => (Below.refl w.heap.size w).alloc (Nat.le_refl _) o1)
  go_enter Try.func55, Try.ntmps55
  go_wp2
  go_loop [3, 4] (fun a i => ∃ k : Nat, k ≤ l.length ∧ i = .int .i64 k ∧ a = .int .i64 (markL (l.take k))) (fun _ i => l.length - (intOf i).toNat)
  case atStart => exact ⟨0, Nat.zero_le _, rfl, rfl⟩
  case round =>
    obtain ⟨k, hk, rfl, rfl⟩ := hrel
    by_cases hlt : k < l.length
    · obtain ⟨b, off, rfl, hbk, hck⟩ := hva.out.at_ k hlt
      have hlt' : (k : Int) < (l.length : Int) := by omega
      have hs := Lib.hid (markL_succ l k hlt)
      go_wp2
      go_round
      case rel => exact ⟨k + 1, by omega, by go_num, by rw [hs.out]; rfl⟩
      case measure => simp [intOf]; omega
    · have hlt' : ¬ (k : Int) < (l.length : Int) := by omega
      have hs := Lib.hid (show markL (l.take k) = markL l by rw [List.take_of_length_le (by omega)])
      go_wp2
      go_ret
      exact IntIs.of hs.out (hbb.out _)
set_option maxHeartbeats 2000000 in
theorem specMarkOf_any (t : ByteArray) (v : Value) (l : List Int) (w : World) (ht : t.size ≤ 1048576) (hv : Ints w v l) :
    Calls Try.prog 28 #[.agg #[.string t, v]] w (IntIs (markT t l) w) := by
  obtain ⟨A1, cap1, rfl⟩ := hv.form
  have hv' := Lib.hid hv
  clear hv
  have hbb := Lib.hid (fun (o1 : Obj) => (Below.refl w.heap.size w).alloc (Nat.le_refl _) o1)
  by_cases h1 : labB t l = true
  · have e := Lib.hid (markT_ok h1)
    go_enter Try.func28, Try.ntmps28
    go_wp2_with (first
      | (go_at_call 32; refine (specLabRight_any t _ l _ ht (hv'.out.alloc _)).mono ?_; rintro e1 w1 ⟨rfl, hb1⟩; have B1 : Blk w1 w.heap.size 25 [.string t, .slice A1 l.length cap1] := Blk.up (heap_alloc_new w (.cells #[.string t, .slice A1 l.length cap1] 25)) hb1; obtain ⟨x0, x1, xf0, xf1⟩ := B1.two; replace hb1 := Lib.hid hb1; replace B1 := Lib.hid B1)
      | (go_at_call 55; refine (specMark_any t _ l _ ((hv'.out.alloc _).below hb1.out)).mono ?_; rintro e1 w2 ⟨rfl, hb2⟩; replace hb2 := Lib.hid hb2))
    go_ret
    exact IntIs.of e.out.symm (Below.then_ (Below.then_ (hbb.out _) hb1.out (Nat.le_refl _)) hb2.out (Nat.le_refl _))
  · have h1' : labB t l = false := by simpa using h1
    have e := Lib.hid (markT_no h1')
    clear h1
    go_enter Try.func28, Try.ntmps28
    go_wp2_with (go_at_call 32; refine (specLabRight_any t _ l _ ht (hv'.out.alloc _)).mono ?_; rintro e1 w1 ⟨rfl, hb1⟩; have B1 : Blk w1 w.heap.size 25 [.string t, .slice A1 l.length cap1] := Blk.up (heap_alloc_new w (.cells #[.string t, .slice A1 l.length cap1] 25)) hb1; obtain ⟨x0, x1, xf0, xf1⟩ := B1.two; replace hb1 := Lib.hid hb1; replace B1 := Lib.hid B1)
    go_ret
    exact IntIs.of e.out.symm (Below.then_ (hbb.out _) hb1.out (Nat.le_refl _))
set_option maxHeartbeats 4000000 in
theorem specRed_any (t : ByteArray) (v : Value) (l : List Int) (w : World) (hp : l.length = t.size) (hv : Ints w v l) :
    Calls Try.prog 54 #[.agg #[.string t, v]] w (TextIs (bytesOf (redL t.data.toList l)) w) := by
  have hl1 := hv.1
  obtain ⟨A1, cap1, rfl⟩ := hv.form
  have hp1 := Lib.hid hp
  have hT := Lib.hid (show t.data.toList.length = l.length by rw [hp]; simp)
  have htl : (t.size : Int) ≤ 1048576 := by omega
  have hv' := Lib.hid hv
  clear hv hp
  obtain ⟨capX, w2, hcv, hbuf, hb2⟩ := to_bytes (w.alloc (.cells #[.string t, .slice A1 l.length cap1] 25)) t.data.toList t.size (by simp)
  rw [bytesOf_data] at hcv
  have B1 : Blk w2 w.heap.size 25 [.string t, .slice A1 l.length cap1] := Blk.up (heap_alloc_new w (.cells #[.string t, .slice A1 l.length cap1] 25)) hb2
  replace B1 := Lib.hid B1
  have hbw := Lib.hid (Below.then_ ((Below.refl w.heap.size w).alloc (Nat.le_refl _) _) hb2 (Nat.le_refl _))
  have hva := Lib.hid ((hv'.out.alloc _).below hb2)
  rw [World.size_alloc] at hcv hbuf hb2
  have hbw' := Lib.hid (fun (k : Nat) (hk : k < l.length) (b off : Nat) (hA : A1 = some ⟨b, off, none⟩) => show b < w.heap.size by
    obtain ⟨b', off', e, h2, _⟩ := hv'.out.at_ k hk
    rw [e] at hA; cases hA; exact h2)
  have hbr := Lib.hid (Below.refl (w.heap.size + 1) w2)
  replace hbuf := Lib.hid hbuf
  replace hb2 := Lib.hid hb2
  go_enter Try.func54, Try.ntmps54
  go_wp2
  clear hcv
  go_loopw [4] (fun i wr => ∃ k : Nat, k ≤ l.length ∧ i = .int .i64 k ∧ Buf wr (w.heap.size + 1) (redK t.data.toList l k) ∧ Below (w.heap.size + 1) w2 wr) (fun i _ => l.length - (intOf i).toNat)
  case atStart => exact ⟨0, Nat.zero_le _, rfl, by rw [redK_zero]; exact hbuf.out, hbr.out⟩
  case round =>
    obtain ⟨k, hk, rfl, hr, hb⟩ := hrel
    have hwlt := hr.1
    obtain ⟨x0, x1, xf0, xf1⟩ := (B1.out.below hb (by omega)).two
    by_cases hlt : k < l.length
    · have hltT : k < t.data.toList.length := by rw [hT.out]; exact hlt
      have hltt : k < t.size := by have := hp1.out; omega
      have hltS : (k : Int) < (t.size : Int) := by omega
      obtain ⟨b, off, rfl, hbk, hck⟩ := hva.out.at_ k hlt
      have hbG := hbw'.out k hlt b off rfl
      have hck2 : wr.cell? ⟨b, off + k, none⟩ = some (.int .i64 l[k]) := (World.cell?_of_block (hb.block b (by omega))).trans hck
      have hlt' : (k : Int) < (l.length : Int) := by omega
      obtain ⟨hx1, hf1⟩ := hr.2 k (by rw [redK_len _ _ _ hT.out]; exact hltT)
      clear hck
      by_cases hm : l[k] = 0
      · have hm1 : (l[k] == 0) = true := by simp [hm]
        have hm2 : (l[k] != 0) = false := by simp [hm]
        have hn := Lib.hid (redK_skip _ _ k hT.out hlt hm)
        replace hr := Lib.hid hr
        replace hb := Lib.hid hb
        clear hm
        go_wp2
        go_roundw
        case rel => exact ⟨k + 1, by omega, by go_num, by rw [hn.out]; exact hr.out, hb.out⟩
        case measure => simp [intOf]; omega
      · have hm2 : (l[k] != 0) = true := by simp [hm]
        have hm1 : (l[k] == 0) = false := by simp [hm]
        have hn := hr.set' (v := k) (by rw [redK_len _ _ _ hT.out]; exact hltT)
        rw [← redK_star _ _ k hT.out hlt hm] at hn
        have hb2 := hb.setCell (p := ⟨w.heap.size + 1, k, none⟩) (Nat.le_refl _) (.int .u8 42)
        replace hn := Lib.hid hn
        replace hb2 := Lib.hid hb2
        clear hm hr hb
        go_wp2
        go_roundw
        case rel => exact ⟨k + 1, by omega, by go_num, hn.out, hb2.out⟩
        case measure => simp [intOf]; omega
    · have hlt' : ¬ (k : Int) < (t.size : Int) := by have := hp1.out; omega
      rw [redK_all _ _ k hT.out (by omega)] at hr
      have hconv := hr.string (k := t.size) (cap := capX) (by unfold redL; rw [List.length_zipWith, hT.out]; have := hp1.out; omega)
      replace hb := Lib.hid hb
      clear hr
      go_wp2
      go_ret
      exact TextIs.of rfl (hbw.out.trans (hb.out.mono (by omega)))
set_option maxHeartbeats 2000000 in
theorem specRedact_any (t : ByteArray) (v : Value) (l : List Int) (w : World) (ht : t.size ≤ 1048576) (hv : Ints w v l) :
    Calls Try.prog 26 #[.agg #[.string t, v]] w (TextIs (redT t l) w) := by
  obtain ⟨A1, cap1, rfl⟩ := hv.form
  have hv' := Lib.hid hv
  clear hv
  have hbb := Lib.hid (fun (o1 : Obj) => (Below.refl w.heap.size w).alloc (Nat.le_refl _) o1)
  by_cases h1 : labB t l = true
  · have e := Lib.hid (redT_ok h1)
    have hp1 := (labB_parts h1).2.1
    replace hp1 := Lib.hid hp1
    go_enter Try.func26, Try.ntmps26
    go_wp2_with (first
      | (go_at_call 32; refine (specLabRight_any t _ l _ ht (hv'.out.alloc _)).mono ?_; rintro e1 w1 ⟨rfl, hb1⟩; have B1 : Blk w1 w.heap.size 25 [.string t, .slice A1 l.length cap1] := Blk.up (heap_alloc_new w (.cells #[.string t, .slice A1 l.length cap1] 25)) hb1; obtain ⟨x0, x1, xf0, xf1⟩ := B1.two; replace hb1 := Lib.hid hb1; replace B1 := Lib.hid B1)
      | (go_at_call 54; refine (specRed_any t _ l _ hp1.out ((hv'.out.alloc _).below hb1.out)).mono ?_; rintro e1 w2 ⟨rfl, hb2⟩; replace hb2 := Lib.hid hb2))
    go_ret
    exact TextIs.of e.out.symm (Below.then_ (Below.then_ (hbb.out _) hb1.out (Nat.le_refl _)) hb2.out (Nat.le_refl _))
  · have h1' : labB t l = false := by simpa using h1
    have e := Lib.hid (redT_no h1')
    clear h1
    go_enter Try.func26, Try.ntmps26
    go_wp2_with (go_at_call 32; refine (specLabRight_any t _ l _ ht (hv'.out.alloc _)).mono ?_; rintro e1 w1 ⟨rfl, hb1⟩; have B1 : Blk w1 w.heap.size 25 [.string t, .slice A1 l.length cap1] := Blk.up (heap_alloc_new w (.cells #[.string t, .slice A1 l.length cap1] 25)) hb1; obtain ⟨x0, x1, xf0, xf1⟩ := B1.two; replace hb1 := Lib.hid hb1; replace B1 := Lib.hid B1)
    go_ret
    exact TextIs.of e.out.symm (Below.then_ (hbb.out _) hb1.out (Nat.le_refl _))
end Go.Proofs.Ytlgedbgpekfobaa
