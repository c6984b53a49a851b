/- What FnLab wants of joined, cut and redacted texts; lwLabs. -/
import Derived.Test.YtlgedbgpekfobaaLabV
import Derived.Test.YtlgedbgpekfobaaLabI
import Derived.Test.YtlgedbgpekfobaaLabH
namespace Go.Proofs.Ytlgedbgpekfobaa
open Go.RowKit

def RightR (R : LabR) : Prop := R.c = 0 → labB R.t R.l = true
theorem rightR_no {c : Int} (h : c ≠ 0) : RightR (noLab c) := fun e => absurd e h
theorem labB_all3 {t : ByteArray} {l : List Int} (h : labB t l = true) : t.size ≤ 200 ∧ l.length = t.size ∧ l.all markB = true := by
  simp only [labB, Bool.and_eq_true, decide_eq_true_eq] at h
  exact ⟨h.1.1, h.1.2, h.2⟩
theorem joinR_right (t s : ByteArray) (l m : List Int) : RightR (joinR t s l m) := by
  unfold joinR
  split
  · rename_i h
    split
    · exact rightR_no (by decide)
    · rename_i h2
      intro _
      obtain ⟨a1, a2, a3⟩ := labB_all3 h.1
      obtain ⟨b1, b2, b3⟩ := labB_all3 h.2
      refine labB_all ?_ ?_ ?_
      · rw [bytesOf_size, List.length_append]; show t.data.toList.length + s.data.toList.length ≤ 200
        have e1 : t.data.toList.length = t.size := by simp
        have e2 : s.data.toList.length = s.size := by simp
        omega
      · rw [bytesOf_size, List.length_append, List.length_append]
        have e1 : t.data.toList.length = t.size := by simp
        have e2 : s.data.toList.length = s.size := by simp
        omega
      · rw [List.all_append, a3, b3]; rfl
  · exact rightR_no (by decide)
theorem cutR_right (t : ByteArray) (l : List Int) (a b : Int) : RightR (cutR t l a b) := by
  unfold cutR
  split
  · rename_i h
    split
    · rename_i h2
      intro _
      obtain ⟨a1, a2, a3⟩ := labB_all3 h
      have e1 : t.data.toList.length = t.size := by simp
      refine labB_all ?_ ?_ ?_
      · rw [bytesOf_size, List.length_take, List.length_drop]; omega
      · rw [bytesOf_size, List.length_take, List.length_drop, List.length_take, List.length_drop]; omega
      · rw [List.all_eq_true] at a3 ⊢
        intro x hx
        exact a3 x (List.mem_of_mem_drop (List.mem_of_mem_take hx))
    · exact rightR_no (by decide)
  · exact rightR_no (by decide)
theorem labOfR_right (t : ByteArray) (m : Int) : RightR (labOfR t m) := by
  unfold labOfR
  split
  · exact rightR_no (by decide)
  · split
    · exact rightR_no (by decide)
    · rename_i h1 h2
      intro _
      refine labB_all (show t.size ≤ 200 by omega) (by simp) ?_
      rw [List.all_eq_true]
      intro x hx
      obtain rfl := List.eq_of_mem_replicate hx
      cases hb : markB x with
      | true => rfl
      | false => exact absurd (.inr hb) h2
/-- Two that are the same but for marks are redacted the same. -/
theorem redT_same {t s : ByteArray} {l m : List Int} (h : sameB t s l m 15 = true) : redT t l = redT s m := by
  have h' := @of_decide_eq_true _ (Classical.propDecidable _) h
  obtain ⟨h1, h2, rfl, h4⟩ := h'
  rw [redT_ok h1, redT_ok h2]
  obtain ⟨a1, a2, a3⟩ := labB_all3 h1
  obtain ⟨b1, b2, b3⟩ := labB_all3 h2
  have e1 : t.data.toList.length = t.size := by simp
  have e2 : s.data.toList.length = s.size := by simp
  congr 1
  unfold redL
  apply List.ext_getElem
  · simp; omega
  · intro i g1 g2
    rw [List.getElem_zipWith, List.getElem_zipWith]
    split
    · rename_i h0
      have hi : i < l.length := by simp at g1; omega
      have := h4 i hi (by omega) (by omega) hi (by rw [h0]; decide)
      show t.data.toList[i] = s.data.toList[i]
      rw [Array.getElem_toList, Array.getElem_toList]
      exact this
    · rfl
theorem redT_len {t : ByteArray} {l : List Int} (h : labB t l = true) : (redT t l).size = t.size := by
  obtain ⟨a1, a2, a3⟩ := labB_all3 h
  have e1 : t.data.toList.length = t.size := by simp
  rw [redT_ok h, bytesOf_size]; unfold redL; rw [List.length_zipWith]; omega
theorem redT_at {t : ByteArray} {l : List Int} (h : labB t l = true) (i : Nat) (h1 : i < l.length) (h2 : i < t.size) (h3 : i < (redT t l).size) : (redT t l)[i] = if l[i] = 0 then t[i] else 42 := by
  have e : redT t l = bytesOf (redL t.data.toList l) := redT_ok h
  have h4 : i < (bytesOf (redL t.data.toList l)).size := by rw [← e]; exact h3
  have : (redT t l)[i] = (bytesOf (redL t.data.toList l))[i] := by congr 1
  rw [this]
  show (redL t.data.toList l).toArray[i]'(by have := h4; rw [bytesOf_size] at this; simpa using this) = _
  simp only [redL, List.getElem_toArray, List.getElem_zipWith]
  rfl
theorem cut_join1 {t s : ByteArray} {l m : List Int} (h : (joinR t s l m).c = 0) : cutR (joinR t s l m).t (joinR t s l m).l 0 (t.size : Int) = ⟨0, t, l⟩ := by
  have hr := joinR_right t s l m h
  unfold joinR at h hr ⊢
  split at h
  · rename_i hh
    rw [if_pos hh] at hr ⊢
    split at h
    · cases h
    · rename_i h2
      rw [if_neg h2] at hr ⊢
      obtain ⟨a1, a2, a3⟩ := labB_all3 hh.1
      obtain ⟨b1, b2, b3⟩ := labB_all3 hh.2
      have e1 : t.data.toList.length = t.size := by simp
      have e2 : s.data.toList.length = s.size := by simp
      have hc := cutR_ok (a := 0) (b := t.size) hr (Nat.zero_le _) (by rw [bytesOf_size, List.length_append]; omega)
      rw [show ((0 : Nat) : Int) = 0 from rfl] at hc
      rw [hc, bytesOf_list, List.drop_zero, List.drop_zero, Nat.sub_zero, List.take_append_of_le_length (by omega), List.take_append_of_le_length (by omega), List.take_of_length_le (by omega), List.take_of_length_le (by omega), bytesOf_data]
  · cases h
theorem cut_join2 {t s : ByteArray} {l m : List Int} (h : (joinR t s l m).c = 0) : cutR (joinR t s l m).t (joinR t s l m).l (t.size : Int) ((t.size : Int) + (s.size : Int)) = ⟨0, s, m⟩ := by
  have hr := joinR_right t s l m h
  unfold joinR at h hr ⊢
  split at h
  · rename_i hh
    rw [if_pos hh] at hr ⊢
    split at h
    · cases h
    · rename_i h2
      rw [if_neg h2] at hr ⊢
      obtain ⟨a1, a2, a3⟩ := labB_all3 hh.1
      obtain ⟨b1, b2, b3⟩ := labB_all3 hh.2
      have e1 : t.data.toList.length = t.size := by simp
      have e2 : s.data.toList.length = s.size := by simp
      have hc := cutR_ok (a := t.size) (b := t.size + s.size) hr (by omega) (by rw [bytesOf_size, List.length_append]; omega)
      rw [show ((t.size + s.size : Nat) : Int) = (t.size : Int) + (s.size : Int) from by omega] at hc
      rw [hc, bytesOf_list, List.drop_append_of_le_length (by omega), List.drop_of_length_le (by omega), List.nil_append, List.drop_append_of_le_length (by omega), List.drop_of_length_le (by omega), List.nil_append, List.take_of_length_le (by omega), List.take_of_length_le (by omega), bytesOf_data]
  · cases h
theorem or_fin : ∀ a b : Fin 16, bits .or .i64 (a.val : Int) (b.val : Int) = ((a.val ||| b.val : Nat) : Int) := by decide +kernel
theorem orI_nat {a b : Nat} (ha : a < 16) (hb : b < 16) : orI (a : Int) (b : Int) = ((a ||| b : Nat) : Int) := or_fin ⟨a, ha⟩ ⟨b, hb⟩
theorem fold_or (l : List Int) (hl : l.all markB = true) : ∀ (k : Nat), k < 16 → ∃ n : Nat, n < 16 ∧ l.foldl orI (k : Int) = (n : Int) ∧ ∃ n0 : Nat, n0 < 16 ∧ l.foldl orI 0 = (n0 : Int) ∧ n = k ||| n0 := by
  induction l with
  | nil => intro k hk; exact ⟨k, hk, rfl, 0, by omega, rfl, by simp⟩
  | cons x l ih =>
    intro k hk
    simp only [List.all_cons, Bool.and_eq_true] at hl
    obtain ⟨h0, h1⟩ := markB_range hl.1
    obtain ⟨x', hx'⟩ : ∃ x' : Nat, x = (x' : Int) := ⟨x.toNat, by omega⟩
    subst hx'
    have hx16 : x' < 16 := by omega
    rw [List.foldl_cons, List.foldl_cons, orI_nat hk hx16, show (0 : Int) = ((0 : Nat) : Int) from rfl, orI_nat (by omega) hx16, Nat.zero_or]
    obtain ⟨n, hn, e, n0, hn0, e0, en⟩ := ih hl.2 (k ||| x') (Nat.or_lt_two_pow (n := 4) hk hx16)
    obtain ⟨n', hn', e', n0', hn0', e0', en'⟩ := ih hl.2 x' hx16
    refine ⟨n, hn, e, n', hn', e', ?_⟩
    have : n0 = n0' := by have := e0.symm.trans e0'; omega
    rw [en, en', this, Nat.or_assoc]
theorem markL_append {l m : List Int} (hl : l.all markB = true) (hm : m.all markB = true) : markL (l ++ m) = orI (markL l) (markL m) := by
  unfold markL
  rw [List.foldl_append]
  obtain ⟨n, hn, e, _⟩ := fold_or l hl 0 (by omega)
  rw [show ((0 : Nat) : Int) = 0 from rfl] at e
  rw [e]
  obtain ⟨p, hp, e1, p0, hp0, e2, e3⟩ := fold_or m hm n hn
  rw [e1, e2, orI_nat hn hp0, e3]
theorem mark_join {t s : ByteArray} {l m : List Int} (h : (joinR t s l m).c = 0) : markT (joinR t s l m).t (joinR t s l m).l = orI (markT t l) (markT s m) := by
  have hr := joinR_right t s l m h
  rw [markT_ok hr]
  unfold joinR at h ⊢
  split at h
  · rename_i hh
    rw [if_pos hh]
    split at h
    · cases h
    · rename_i h2
      rw [if_neg h2, markT_ok hh.1, markT_ok hh.2]
      exact markL_append (labB_all3 hh.1).2.2 (labB_all3 hh.2).2.2
  · cases h
theorem join_right {t s : ByteArray} {l m : List Int} (h : (joinR t s l m).c = 0) : labB t l = true ∧ labB s m = true := by
  unfold joinR at h
  split at h
  · rename_i hh; exact hh
  · cases h
set_option maxHeartbeats 2000000 in
theorem lwLabs_any (t : ByteArray) (l : List Int) (c : Int) (A A' : Option Addr) (cap cap' : Nat) (w : World) (ht : t.size ≤ 1048576) (hv : Ints w (.slice A l.length cap) l) (hu : Ints w (.slice A' l.length cap') l) (hr : c = 0 → labB t l = true) :
    Calls Try.prog 18 #[.agg #[.string t, .slice A l.length cap, .int .i64 c], .agg #[.string t, .slice A' l.length cap', .int .i64 c]] w (LookEnd true w) := by
  obtain ⟨B1, B2⟩ := boxes2 w [.string t, .slice A l.length cap, .int .i64 c] [.string t, .slice A' l.length cap', .int .i64 c] 29 29
  have hW := ((Below.refl w.heap.size w).alloc (Nat.le_refl _) (.cells #[.string t, .slice A l.length cap, .int .i64 c] 29)).alloc (by simp) (.cells #[.string t, .slice A' l.length cap', .int .i64 c] 29)
  have h1 := (hv.alloc (.cells #[.string t, .slice A l.length cap, .int .i64 c] 29)).alloc (.cells #[.string t, .slice A' l.length cap', .int .i64 c] 29)
  have h2 := (hu.alloc (.cells #[.string t, .slice A l.length cap, .int .i64 c] 29)).alloc (.cells #[.string t, .slice A' l.length cap', .int .i64 c] 29)
  replace B1 := Lib.hid B1
  replace B2 := Lib.hid B2
  replace hW := Lib.hid hW
  replace h1 := Lib.hid h1
  replace h2 := Lib.hid h2
  clear hv hu
  have hcc : ((c == c) : Bool) = true := by simp
  go_enter Try.func18, Try.ntmps18
  go_wp2_with (go_at_call 30; refine (specLabSame_any t t _ _ l l _ h1.out h2.out).mono ?_; rw [alike_same]; rintro e w1 ⟨rfl, hb1⟩; replace h1 := Lib.hid (h1.out.below hb1); replace B1 := Lib.hid (B1.out.up hb1); replace hW := Lib.hid (Below.then_ hW.out hb1 (Nat.le_refl _)); clear hb1; obtain ⟨x0, x1, x2, xf⟩ := B1.out.three; clear xf)
  · go_wp2_with (go_at_call 32; refine (specLabRight_any t _ l _ ht h1.out).mono ?_; rw [hr (by first | assumption | simp_all)]; rintro e w2 ⟨rfl, hb2⟩; replace hW := Lib.hid (Below.then_ hW.out hb2 (Nat.le_refl _)); clear hb2)
    go_ret
    exact ⟨rfl, hW.out⟩
  · go_ret
    exact ⟨rfl, hW.out⟩
end Go.Proofs.Ytlgedbgpekfobaa
