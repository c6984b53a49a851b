/- Texts put together and cut: PutText's bytes, the program's joined and piece. -/
import Derived.Test.YtgbfndfjcolpjaaDoorPut
namespace Go.Proofs.YtgbfndfjcolpjaaDoor
open Go.RowKit

theorem Tryd.size5 : (Tryd.prog.info? 5).map (·.size) = some 1 := by kernel_rfl

theorem len_data (x : ByteArray) : x.data.toList.length = x.size := by simp
theorem at_full {b : ByteArray} (hp : 0 < b.size) {α : Type} (x y z : α) (h : y = z) : (if b = ByteArray.empty then x else y) = z := by
  rw [if_neg, h]
  intro e; subst e; simp at hp
set_option maxRecDepth 20000 in
set_option maxHeartbeats 1000000 in
theorem joined_any (a b : ByteArray) (ha : a.size ≤ 1048576) (hb : b.size ≤ 1048576) (w : World) :
    Calls Tryd.prog 27 #[.string a, .string b] w fun e w' => e = .returned (strV (a.data.toList ++ b.data.toList)) ∧ Below w.heap.size w w' := by
  obtain ⟨i0, hi, hz0, hz1, hz2⟩ := info_parts Tryd.info5
  have h0a : (0 : Int) ≤ (a.size : Int) := by omega
  have h0b : (0 : Int) ≤ (b.size : Int) := by omega
  have h1a : (a.size : Int) ≤ 1048576 := by omega
  have h1b : (b.size : Int) ≤ 1048576 := by omega
  have hbel := Lib.hid (Below.refl w.heap.size w)
  go_enter Tryd.func27, Tryd.ntmps27
  go_wp2_with (first
    | (at_make; refine wpList_make_bytes rfl (.tmp 11) (.tmp 11) 22 rfl w.heap.size 5 i0 Tryd.underlying22 hi hz0 hz1 hz2 _ _ _ _ (a.size + b.size) rfl rfl (by first | rfl | omega) (by first | rfl | omega) (by omega) hbel.out (Nat.le_refl _) ?_; intro w1 hr1 hb1; replace hr1 := Lib.hid hr1; replace hb1 := Lib.hid hb1)
    | ((with_reducible show wpList _ _ _ (⟨some 15, _, _, _, _, _⟩ :: _) _ _); refine wpList_copy_fill rfl (.tmp 13) (.tmp 14) 22 9 rfl 5 Tryd.underlying22 Tryd.size5 _ _ _ a rfl rfl w.heap.size (a.size + b.size) 5 [] hr1.out (by omega) (by simp) (fun _ => rfl) w.heap.size hb1.out (Nat.le_refl _) ?_; intro w2 hr2 hb2; rw [List.nil_append] at hr2; replace hr2 := Lib.hid hr2; replace hb2 := Lib.hid hb2)
    | ((with_reducible show wpList _ _ _ (⟨some 20, _, _, _, _, _⟩ :: _) _ _); refine wpList_copy_fill rfl (.tmp 18) (.tmp 19) 22 9 rfl 5 Tryd.underlying22 Tryd.size5 _ _ _ b rfl rfl w.heap.size (a.size + b.size) 5 a.data.toList hr2.out (Nat.le_refl _) (by simp) (fun hp => at_full hp _ _ _ (by simp)) w.heap.size hb2.out (Nat.le_refl _) ?_; intro w3 hr3 hb3; have hconv := hr3.string (P := Tryd.prog) (cap := a.size + b.size) (k := a.size + b.size) Tryd.underlying22 Tryd.underlying5 Tryd.underlying9 (by simp); replace hb3 := Lib.hid hb3; clear hr3))
  all_goals
    go_ret
    exact ⟨rfl, hb3.out⟩

set_option maxRecDepth 20000 in
set_option maxHeartbeats 1000000 in
theorem piece_any (a : ByteArray) (f t : Nat) (hf : f ≤ t) (ht : t ≤ a.size) (ha : a.size ≤ 1048576) (w : World) :
    Calls Tryd.prog 35 #[.string a, .int .i64 f, .int .i64 t] w fun e w' => e = .returned (.string (a.extract f t)) ∧ Below w.heap.size w w' := by
  obtain ⟨i0, hi, hz0, hz1, hz2⟩ := info_parts Tryd.info5
  have h0a : (0 : Int) ≤ (t : Int) - (f : Int) := by omega
  have h1a : (t : Int) - (f : Int) ≤ 1048576 := by omega
  have h2a : (t : Int) ≤ (a.size : Int) := by omega
  have hbel := Lib.hid (Below.refl w.heap.size w)
  have hxs : (a.extract f t).size = t - f := by rw [ByteArray.size_extract]; omega
  obtain ⟨m, hm⟩ : ∃ m, m = t - f := ⟨_, rfl⟩
  have hxm := Lib.hid (hxs.trans hm.symm)
  have hml : m ≤ 1048576 := by omega
  have hmI : (t : Int) - (f : Int) = (m : Int) := by omega
  replace hm := Lib.hid hm
  replace hmI := Lib.hid hmI
  clear hxs
  go_enter Tryd.func35, Tryd.ntmps35
  go_wp2_with (first
    | (at_make; refine wpList_make_bytes rfl (.tmp 10) (.tmp 10) 22 rfl w.heap.size 5 i0 Tryd.underlying22 hi hz0 hz1 hz2 _ _ _ _ m rfl rfl hmI.out hmI.out (by omega) hbel.out (Nat.le_refl _) ?_; intro w1 hr1 hb1; replace hr1 := Lib.hid hr1; replace hb1 := Lib.hid hb1)
    | ((with_reducible show wpList _ _ _ (⟨some 17, _, _, _, _, _⟩ :: _) _ _); refine wpList_copy_fill rfl (.tmp 12) (.tmp 16) 22 9 rfl 5 Tryd.underlying22 Tryd.size5 _ _ _ (a.extract f t) rfl rfl w.heap.size m 5 [] hr1.out (Nat.le_of_eq hxm.out) (Nat.le_of_eq ((Nat.zero_add _).trans hxm.out)) (fun _ => rfl) w.heap.size hb1.out (Nat.le_refl _) ?_; intro w2 hr2 hb2; rw [List.nil_append] at hr2; have hconv := hr2.string (P := Tryd.prog) (cap := m) (k := m) Tryd.underlying22 Tryd.underlying5 Tryd.underlying9 ((len_data _).trans hxm.out); rw [strV_data] at hconv; replace hb2 := Lib.hid hb2; clear hr2))
  all_goals
    go_ret
    exact ⟨rfl, hb2.out⟩
theorem piece_at (a : ByteArray) (lo hi : Int) (f t : Nat) (h1 : lo = f) (h2 : hi = t) (hf : f ≤ t) (ht : t ≤ a.size) (ha : a.size ≤ 1048576) (w : World) :
    Calls Tryd.prog 35 #[.string a, .int .i64 lo, .int .i64 hi] w fun e w' => e = .returned (.string (a.extract f t)) ∧ Below w.heap.size w w' := by
  subst h1 h2; exact piece_any a f t hf ht ha w
theorem varF_len (f u : Nat) : (varF f u).length ≤ f + 1 := by
  induction f generalizing u with
  | zero => simp [varF]
  | succ f ih =>
    rw [varF]; split
    · simp
    · have := ih (u / 128); simp; omega
theorem wf_small {n : Int} (h : -9223372036854775808 ≤ n ∧ n ≤ 9223372036854775807) : (Lit.int .i64 n).wf = true := by
  simpa [Lit.wf, show IntKind.i64.min = -9223372036854775808 from by decide] using h
def textBytes (s : ByteArray) : List UInt8 := if 8000 < s.size then [] else numBytes s.size ++ s.data.toList
theorem textBytes_long (s : ByteArray) (h : 8000 < s.size) : textBytes s = [] := by rw [textBytes, if_pos h]
theorem textBytes_fits (s : ByteArray) (h : s.size ≤ 8000) : textBytes s = numBytes s.size ++ s.data.toList := by rw [textBytes, if_neg (by omega)]
theorem add_strV (l : List UInt8) (s : ByteArray) : Value.string ((⟨l.toArray⟩ : ByteArray) ++ s) = strV (l ++ s.data.toList) := by
  unfold strV
  congr 1
theorem strV_nil : strV [] = .string { data := #[] } := rfl

set_option maxRecDepth 20000 in
set_option maxHeartbeats 1000000 in
theorem specPutText_any (s : ByteArray) (hs : s.size ≤ maxLen) (w : World) :
    Calls Tryd.prog 12 #[.string s] w fun e w' => e = .returned (strV (textBytes s)) ∧ Below w.heap.size w w' := by
  unfold maxLen at hs
  by_cases hb : s.size ≤ 8000
  · have hb' : ¬ (8000 : Int) < (s.size : Int) := by omega
    have hstr : strV (numBytes s.size) = .string ⟨(numBytes s.size).toArray⟩ := rfl
    have hln : (⟨(numBytes s.size).toArray⟩ : ByteArray).size ≤ 11 := varF_len 10 (fold s.size)
    go_enter Tryd.func12, Tryd.ntmps12
    go_wp2_with (go_at_call 8; refine (specPutNum_any _ (wf_small (by omega)) _).mono ?_; rintro e w1 ⟨rfl, hb1⟩; replace hb1 := Lib.hid hb1)
    go_ret
    exact ⟨ret_val (show _ = _ from (by rw [textBytes_fits s hb]; exact add_strV _ _)), hb1.out⟩
  · have hb' : (8000 : Int) < (s.size : Int) := by omega
    go_enter Tryd.func12, Tryd.ntmps12
    go_wp2
    go_ret
    exact ⟨ret_val (by rw [textBytes_long s (by omega)]; rfl), Below.refl _ _⟩

set_option maxRecDepth 20000 in
set_option maxHeartbeats 1000000 in
theorem implPutText_any (s : ByteArray) (hs : s.size ≤ maxLen) (w : World) :
    Calls Tryd.prog 11 #[.string s] w fun e w' => e = .returned (strV (textBytes s)) ∧ Below w.heap.size w w' := by
  unfold maxLen at hs
  by_cases hb : s.size ≤ 8000
  · have hb' : ¬ (8000 : Int) < (s.size : Int) := by omega
    have hstr : strV (numBytes s.size) = .string ⟨(numBytes s.size).toArray⟩ := rfl
    have hln : (⟨(numBytes s.size).toArray⟩ : ByteArray).size ≤ 1048576 := Nat.le_trans (varF_len 10 (fold s.size)) (by decide)
    go_enter Tryd.func11, Tryd.ntmps11
    go_wp2_with (first
      | (go_at_call 7; refine (implPutNum_any _ (wf_small (by omega)) _).mono ?_; rintro e w1 ⟨rfl, hb1⟩; replace hb1 := Lib.hid hb1)
      | (go_at_call 27; refine (joined_any _ _ hln (by omega) _).mono ?_; rintro e w2 ⟨rfl, hb2⟩; replace hb2 := Lib.hid hb2))
    go_ret
    exact ⟨ret_val (congrArg strV (textBytes_fits s hb).symm), hb1.out.trans (hb2.out.mono hb1.out.size)⟩
  · have hb' : (8000 : Int) < (s.size : Int) := by omega
    go_enter Tryd.func11, Tryd.ntmps11
    go_wp2
    go_ret
    exact ⟨ret_val (by rw [textBytes_long s (by omega)]; rfl), Below.refl _ _⟩
end Go.Proofs.YtgbfndfjcolpjaaDoor
