/- Marked texts: what is right; slices of int64 compared. -/
import Derived.Test.YtbadpmghlclfkaaDoorInts
import Derived.Test.YtbadpmghlclfkaaDoorIs
import Derived.Deep.QuietTactic
import Derived.BigQuiet
import Derived.IntWalk
namespace Go.Proofs.YtbadpmghlclfkaaDoor
open Go.RowKit

def markB (m : Int) : Bool := decide (0 ≤ m ∧ m ≤ 15)
theorem markB_is (m : Int) : isB m 0 15 = markB m := rfl
/-- A right Lab. -/
def labB (t : ByteArray) (l : List Int) : Bool := decide (t.size ≤ 200) && decide (l.length = t.size) && l.all markB
theorem labB_long {t : ByteArray} {l : List Int} (h : ¬ t.size ≤ 200) : labB t l = false := by simp [labB, h]
theorem labB_not {t : ByteArray} {l : List Int} (h : ¬ l.length = t.size) : labB t l = false := by simp [labB, h]
theorem labB_all {t : ByteArray} {l : List Int} (h1 : t.size ≤ 200) (h2 : l.length = t.size) (h : l.all markB = true) : labB t l = true := by simp only [labB, h1, h2, h]; rfl
theorem labB_bad {t : ByteArray} {l : List Int} (k : Nat) (hk : k < l.length) (h : markB l[k] = false) : labB t l = false := by
  have : l.all markB = false := by
    rw [Bool.eq_false_iff]; intro ha
    rw [List.all_eq_true] at ha
    have := ha _ (List.getElem_mem hk)
    rw [h] at this; cases this
  simp [labB, this]
theorem labB_parts {t : ByteArray} {l : List Int} (h : labB t l = true) : t.size ≤ 200 ∧ l.length = t.size ∧ ∀ m ∈ l, 0 ≤ m ∧ m ≤ 15 := by
  unfold labB at h
  rw [Bool.and_eq_true, Bool.and_eq_true] at h
  obtain ⟨⟨h1, h2⟩, h3⟩ := h
  refine ⟨of_decide_eq_true h1, of_decide_eq_true h2, fun m hm => ?_⟩
  have := List.all_eq_true.1 h3 m hm
  exact of_decide_eq_true this
theorem take_all {l : List Int} {k : Nat} (hk : k < l.length) (h : (l.take k).all markB = true) (hm : markB l[k] = true) : (l.take (k + 1)).all markB = true := by
  rw [List.take_succ_eq_append_getElem hk, List.all_append, h]; simp [hm]

theorem markRight_any (m : Int) (w : World) : Calls Tryd.prog 96 #[.int .i64 m] w fun e w' => e = .returned (.bool (markB m)) ∧ w = w' := by
  by_cases h0 : 0 ≤ m
  · have e := Lib.hid (show markB m = decide (m ≤ 15) by simp [markB, h0])
    go_enter Tryd.func96, Tryd.ntmps96
    go_wp2
    go_ret
    exact ⟨ret_bool (by rw [e.out]), rfl⟩
  · have e := Lib.hid (show markB m = false by simp [markB, h0])
    go_enter Tryd.func96, Tryd.ntmps96
    go_wp2
    go_ret
    exact ⟨ret_bool (by rw [e.out]), rfl⟩
set_option maxHeartbeats 1000000 in
theorem implLabRight_any (t : ByteArray) (v : Value) (l : List Int) (w : World) (ht : t.size ≤ 1048576) (hv : Ints w v l) :
    Calls Tryd.prog 97 #[.agg #[.string t, v]] w (LookEnd (labB t l) w) := by
  have hl1 := hv.1
  obtain ⟨A, cap, rfl⟩ := hv.form
  have hv' := Lib.hid hv
  clear hv
  have hbel := Lib.hid ((Below.refl w.heap.size w).alloc (Nat.le_refl _) (.cells #[.string t, .slice A l.length cap] 54))
  by_cases h1 : t.size ≤ 200
  · have h1' : (t.size : Int) ≤ 200 := by omega
    by_cases h2 : l.length = t.size
    · have h2' : decide (((l.length : Nat) : Int) = (t.size : Int)) = true := by simp [h2]
      have h3' : ((l.length : Nat) : Int) = (t.size : Int) := by omega
      have h2'' := Lib.hid h2
      clear h2
      go_enter Tryd.func97, Tryd.ntmps97
      go_wp2
      go_loop [21] (fun i => ∃ k : Nat, k ≤ l.length ∧ i = .int .i64 k ∧ (l.take k).all markB = true) (fun i => l.length - (intOf i).toNat)
      case atStart => exact ⟨0, Nat.zero_le _, rfl, rfl⟩
      case round =>
        obtain ⟨k, hk, rfl, hall⟩ := hrel
        have hall' := Lib.hid hall
        clear hall
        by_cases hlt : k < l.length
        · obtain ⟨b, off, rfl, hbk, hck⟩ := hv'.out.at_ k hlt
          have hlt' : (k : Int) < (t.size : Int) := by omega
          by_cases hm : markB l[k] = true
          · go_wp2_with (go_at_call 96; refine (markRight_any _ _).mono ?_; rintro e w' ⟨rfl, rfl⟩)
            go_round
            case rel => exact ⟨k + 1, by omega, by go_num, take_all hlt hall'.out hm⟩
            case measure => simp [intOf]; omega
          · have hm' : markB l[k] = false := by simpa using hm
            clear hm
            go_wp2_with (go_at_call 96; refine (markRight_any _ _).mono ?_; rintro e w' ⟨rfl, rfl⟩)
            go_ret
            exact LookEnd.of (labB_bad k hlt hm').symm hbel.out
        · have hlt' : ¬ (k : Int) < (t.size : Int) := by omega
          go_wp2
          go_ret
          exact LookEnd.of (labB_all h1 h2''.out (by rw [← hall'.out, List.take_of_length_le (by omega)])).symm hbel.out
    · have h2' : (((l.length : Nat) : Int) != (t.size : Int)) = true := by simp; omega
      have h3' : ¬ ((l.length : Nat) : Int) = (t.size : Int) := by omega
      have hb := Lib.hid (labB_not (t := t) (l := l) h2)
      clear h2
      go_enter Tryd.func97, Tryd.ntmps97
      go_wp2
      go_ret
      exact LookEnd.of hb.out.symm hbel.out
  · have h1' : ¬ (t.size : Int) ≤ 200 := by omega
    have hb := Lib.hid (labB_long (t := t) (l := l) h1)
    clear h1
    go_enter Tryd.func97, Tryd.ntmps97
    go_wp2
    go_ret
    exact LookEnd.of hb.out.symm hbel.out
set_option maxHeartbeats 1000000 in
theorem specLabRight_any (t : ByteArray) (v : Value) (l : List Int) (w : World) (ht : t.size ≤ 1048576) (hv : Ints w v l) :
    Calls Tryd.prog 90 #[.agg #[.string t, v]] w (LookEnd (labB t l) w) := by
  have hl1 := hv.1
  obtain ⟨A, cap, rfl⟩ := hv.form
  have hv' := Lib.hid hv
  clear hv
  have hbel := Lib.hid ((Below.refl w.heap.size w).alloc (Nat.le_refl _) (.cells #[.string t, .slice A l.length cap] 54))
  by_cases h1 : t.size ≤ 200
  · have h1' : (t.size : Int) ≤ 200 := by omega
    by_cases h2 : l.length = t.size
    · have h2' : decide (((l.length : Nat) : Int) = (t.size : Int)) = true := by simp [h2]
      have h3' : ((l.length : Nat) : Int) = (t.size : Int) := by omega
      have h2'' := Lib.hid h2
      clear h2
      go_enter Tryd.func90, Tryd.ntmps90
      go_wp2
      go_loop [3] (fun i => ∃ k : Nat, k ≤ l.length ∧ i = .int .i64 k ∧ (l.take k).all markB = true) (fun i => l.length - (intOf i).toNat)
      case atStart => exact ⟨0, Nat.zero_le _, rfl, rfl⟩
      case round =>
        obtain ⟨k, hk, rfl, hall⟩ := hrel
        have hall' := Lib.hid hall
        clear hall
        by_cases hlt : k < l.length
        · obtain ⟨b, off, rfl, hbk, hck⟩ := hv'.out.at_ k hlt
          have hlt' : (k : Int) < (t.size : Int) := by omega
          by_cases hm : markB l[k] = true
          · go_wp2_with (go_at_call 57; refine (is_any _ _ _ _).mono ?_; rintro e w' ⟨rfl, rfl⟩; rw [markB_is])
            go_round
            case rel => exact ⟨k + 1, by omega, by go_num, take_all hlt hall'.out hm⟩
            case measure => simp [intOf]; omega
          · have hm' : markB l[k] = false := by simpa using hm
            clear hm
            go_wp2_with (go_at_call 57; refine (is_any _ _ _ _).mono ?_; rintro e w' ⟨rfl, rfl⟩; rw [markB_is])
            go_ret
            exact LookEnd.of (labB_bad k hlt hm').symm hbel.out
        · have hlt' : ¬ (k : Int) < (t.size : Int) := by omega
          go_wp2
          go_ret
          exact LookEnd.of (labB_all h1 h2''.out (by rw [← hall'.out, List.take_of_length_le (by omega)])).symm hbel.out
    · have h2' : (((l.length : Nat) : Int) != (t.size : Int)) = true := by simp; omega
      have h3' : ¬ ((l.length : Nat) : Int) = (t.size : Int) := by omega
      have hb := Lib.hid (labB_not (t := t) (l := l) h2)
      clear h2
      go_enter Tryd.func90, Tryd.ntmps90
      go_wp2
      go_ret
      exact LookEnd.of hb.out.symm hbel.out
  · have h1' : ¬ (t.size : Int) ≤ 200 := by omega
    have hb := Lib.hid (labB_long (t := t) (l := l) h1)
    clear h1
    go_enter Tryd.func90, Tryd.ntmps90
    go_wp2
    go_ret
    exact LookEnd.of hb.out.symm hbel.out
end Go.Proofs.YtbadpmghlclfkaaDoor
