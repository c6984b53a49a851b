/- WorldRight of the program and of the model. -/
import Derived.Test.YtbadpmghlclfkaaDoorTckT
namespace Go.Proofs.YtbadpmghlclfkaaDoor
open Go.RowKit

set_option maxHeartbeats 4000000 in
theorem implWorld_any (v : Value) (l : List Tik) (w : World) (hv : Tiks w v l) :
    Calls Tryd.prog 17 #[v] w (Gives (.bool (worldB l)) w) := by
  obtain ⟨A, cap, rfl⟩ := hv.form
  have hl := hv.1
  unfold maxLen at hl
  have hv' := Lib.hid hv
  clear hv
  by_cases h6 : l.length ≤ 60
  · have h6' : ¬ (60 : Int) < (l.length : Int) := by omega
    go_enter Tryd.func17, Tryd.ntmps17
    go_wp2
    go_loopw [10] (fun i wr => ∃ k : Nat, k ≤ l.length ∧ i = .int .i64 (k : Int) ∧ Hid (∀ j (hj : j < k) (h : j < l.length), tikOk l[j] = true) ∧ Hid (Below w.heap.size w wr)) (fun i _ => l.length - (intOf i).toNat)
    case atStart => exact ⟨0, Nat.zero_le _, rfl, Lib.hid (fun j hj => by omega), Lib.hid (Below.refl _ _)⟩
    case round =>
      obtain ⟨k, hk, rfl, hall, hb⟩ := hrel
      by_cases hlt : k < l.length
      · have hlt' : (k : Int) < (l.length : Int) := by omega
        have hs := Lib.hid (hv'.out.below hb.out)
        obtain ⟨b, off, rfl, hbk, c0, c1, c2⟩ := hs.out.three k hlt
        have hwf := Lib.hid (hs.out.wf hlt)
        replace hb := Lib.hid (hb.out.alloc hb.out.size (.cells #[.int .i64 l[k].kind, .int .i64 l[k].seat, .string l[k].text] 31))
        cases ho : tikOk l[k] with
        | true =>
          have hall2 := Lib.hid (fun j (hj : j < k + 1) (h : j < l.length) => (show tikOk l[j] = true from by
            by_cases e : j = k
            · subst e; exact ho
            · exact hall.out j (by omega) h))
          clear hall
          go_wp2_with (go_at_call 15; refine (implTick_any l[k] hwf.out.1 _).mono ?_; rintro e w1 ⟨rfl, hb1⟩; rw [ho]; replace hb := Lib.hid (Below.then_ hb.out hb1 (Nat.le_refl _)); clear hb1 c0 c1 c2)
          go_roundw
          case rel => exact ⟨k + 1, by omega, by go_num, hall2, hb⟩
          case measure => simp [intOf]; omega
        | false =>
          have hbad := Lib.hid (worldB_bad hlt ho)
          go_wp2_with (go_at_call 15; refine (implTick_any l[k] hwf.out.1 _).mono ?_; rintro e w1 ⟨rfl, hb1⟩; rw [ho]; replace hb := Lib.hid (Below.then_ hb.out hb1 (Nat.le_refl _)); clear hb1 c0 c1 c2)
          go_ret
          exact ⟨by rw [hbad.out]; rfl, hb.out⟩
      · have hlt' : ¬ (k : Int) < (l.length : Int) := by omega
        have hyes := Lib.hid (worldB_yes h6 fun j hj => hall.out j (by omega) hj)
        go_wp2
        go_ret
        exact ⟨by rw [hyes.out]; rfl, hb.out⟩
  · have hbad := Lib.hid (worldB_long h6)
    have h6' : (60 : Int) < (l.length : Int) := by omega
    go_enter Tryd.func17, Tryd.ntmps17
    go_wp2
    go_ret
    exact ⟨by rw [hbad.out]; rfl, Below.refl _ _⟩
set_option maxHeartbeats 4000000 in
theorem specWorld_any (v : Value) (l : List Tik) (w : World) (hv : Tiks w v l) :
    Calls Tryd.prog 18 #[v] w (Gives (.bool (worldB l)) w) := by
  obtain ⟨A, cap, rfl⟩ := hv.form
  have hl := hv.1
  unfold maxLen at hl
  have hv' := Lib.hid hv
  clear hv
  go_enter Tryd.func18, Tryd.ntmps18
  go_wp2
  go_loopw [3] (fun i wr => ∃ k : Nat, k ≤ l.length ∧ i = .int .i64 (k : Int) ∧ Hid (∀ j (hj : j < k) (h : j < l.length), tikOk l[j] = true) ∧ Hid (Below w.heap.size w wr)) (fun i _ => l.length - (intOf i).toNat)
  case atStart => exact ⟨0, Nat.zero_le _, rfl, Lib.hid (fun j hj => by omega), Lib.hid (Below.refl _ _)⟩
  case round =>
    obtain ⟨k, hk, rfl, hall, hb⟩ := hrel
    by_cases hlt : k < l.length
    · have hlt' : (k : Int) < (l.length : Int) := by omega
      have hs := Lib.hid (hv'.out.below hb.out)
      obtain ⟨b, off, rfl, hbk, c0, c1, c2⟩ := hs.out.three k hlt
      have hwf := Lib.hid (hs.out.wf hlt)
      cases ho : tikOk l[k] with
      | true =>
        have hall2 := Lib.hid (fun j (hj : j < k + 1) (h : j < l.length) => (show tikOk l[j] = true from by
          by_cases e : j = k
          · subst e; exact ho
          · exact hall.out j (by omega) h))
        clear hall
        go_wp2_with (go_at_call 16; refine (specTick_any l[k] hwf.out.1 _).mono ?_; rintro e w1 ⟨rfl, hb1⟩; rw [ho]; replace hb := Lib.hid (Below.then_ hb.out hb1 (Nat.le_refl _)); clear hb1 c0 c1 c2)
        go_roundw
        case rel => exact ⟨k + 1, by omega, by go_num, hall2, hb⟩
        case measure => simp [intOf]; omega
      | false =>
        have hbad := Lib.hid (worldB_bad hlt ho)
        go_wp2_with (go_at_call 16; refine (specTick_any l[k] hwf.out.1 _).mono ?_; rintro e w1 ⟨rfl, hb1⟩; rw [ho]; replace hb := Lib.hid (Below.then_ hb.out hb1 (Nat.le_refl _)); clear hb1 c0 c1 c2)
        go_ret
        exact ⟨by rw [hbad.out]; rfl, hb.out⟩
    · have hlt' : ¬ (k : Int) < (l.length : Int) := by omega
      by_cases h6 : l.length ≤ 60
      · have h6' : (l.length : Int) ≤ 60 := by omega
        have hyes := Lib.hid (worldB_yes h6 fun j hj => hall.out j (by omega) hj)
        go_wp2
        go_ret
        exact ⟨by rw [hyes.out]; rfl, hb.out⟩
      · have h6' : ¬ (l.length : Int) ≤ 60 := by omega
        have hbad := Lib.hid (worldB_long h6)
        go_wp2
        go_ret
        exact ⟨by rw [hbad.out]; rfl, hb.out⟩
end Go.Proofs.YtbadpmghlclfkaaDoor
