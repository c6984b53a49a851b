/- ProgRight of the program and of the model. -/
import Derived.Test.YtejmfpaegkgkjaaStmX
import Derived.Test.YtejmfpaegkgkjaaStmE0
import Derived.Test.YtejmfpaegkgkjaaStmF0
namespace Go.Proofs.Ytejmfpaegkgkjaa
open Go.RowKit

/-- A right program. -/
def progB (l : List Stm) : Bool := decide (l.length ≤ 40) && l.all stmtOk
theorem progB_long {l : List Stm} (h : ¬ l.length ≤ 40) : progB l = false := by simp [progB, h]
theorem progB_bad {l : List Stm} {k : Nat} (hk : k < l.length) (h : stmtOk l[k] = false) : progB l = false := by
  have : l.all stmtOk = false := by rw [List.all_eq_false]; exact ⟨l[k], List.getElem_mem hk, by simp [h]⟩
  simp [progB, this]
theorem progB_yes {l : List Stm} (h6 : l.length ≤ 40) (h : ∀ j (hj : j < l.length), stmtOk l[j] = true) : progB l = true := by
  have : l.all stmtOk = true := by rw [List.all_eq_true]; intro x hx; obtain ⟨j, hj, rfl⟩ := List.mem_iff_getElem.1 hx; exact h j hj
  simp [progB, this, h6]
set_option maxHeartbeats 4000000 in
theorem implProg_any (v : Value) (l : List Stm) (w : World) (hv : Stms w v l) :
    Calls Try.prog 20 #[v] w (Gives (.bool (progB l)) w) := by
  obtain ⟨A, cap, rfl⟩ := hv.form
  have hl := hv.1
  unfold maxLen at hl
  have hv' := Lib.hid hv
  clear hv
  by_cases h6 : l.length ≤ 40
  · have h6' : ¬ (40 : Int) < (l.length : Int) := by omega
    go_enter Try.func20, Try.ntmps20
    go_wp2
    go_loopw [10] (fun i wr => ∃ k : Nat, k ≤ l.length ∧ i = .int .i64 (k : Int) ∧ Hid (∀ j (hj : j < k) (h : j < l.length), stmtOk l[j] = true) ∧ Hid (Below w.heap.size w wr)) (fun i _ => l.length - (intOf i).toNat)
    case atStart => exact ⟨0, Nat.zero_le _, rfl, Lib.hid (fun j hj => by omega), Lib.hid (Below.refl _ _)⟩
    case round =>
      obtain ⟨k, hk, rfl, hall, hb⟩ := hrel
      by_cases hlt : k < l.length
      · have hlt' : (k : Int) < (l.length : Int) := by omega
        have hs := Lib.hid (hv'.out.below hb.out)
        obtain ⟨b, off, B, n, c, rfl, hbk, hp, c0, c1, c2, c3, c4, c5⟩ := hs.out.six k hlt
        replace hp := Lib.hid hp
        have hwf := Lib.hid (hs.out.wf hlt)
        replace hb := Lib.hid (hb.out.alloc hb.out.size (.cells #[.int .i64 l[k].kind, .string l[k].name, .string l[k].text, .int .i64 l[k].num, .int .i64 l[k].dest, .slice B n c] 36))
        replace hp := Lib.hid (hp.out.alloc (.cells #[.int .i64 l[k].kind, .string l[k].name, .string l[k].text, .int .i64 l[k].num, .int .i64 l[k].dest, .slice B n c] 36))
        cases ho : stmtOk l[k] with
        | true =>
          have hall2 := Lib.hid (fun j (hj : j < k + 1) (h : j < l.length) => (show stmtOk l[j] = true from by
            by_cases e : j = k
            · subst e; exact ho
            · exact hall.out j (by omega) h))
          clear hall
          go_wp2_with (go_at_call 15; refine (implStmt_any l[k] _ _ hwf.out hp.out).mono ?_; rintro e w1 ⟨rfl, hb1⟩; rw [ho]; replace hb := Lib.hid (Below.then_ hb.out hb1 (Nat.le_refl _)); clear hb1 c0 c1 c2 c3 c4 c5)
          go_roundw
          case rel => exact ⟨k + 1, by omega, by go_num, hall2, hb⟩
          case measure => simp [intOf]; omega
        | false =>
          have hbad := Lib.hid (progB_bad hlt ho)
          go_wp2_with (go_at_call 15; refine (implStmt_any l[k] _ _ hwf.out hp.out).mono ?_; rintro e w1 ⟨rfl, hb1⟩; rw [ho]; replace hb := Lib.hid (Below.then_ hb.out hb1 (Nat.le_refl _)); clear hb1 c0 c1 c2 c3 c4 c5)
          go_ret
          exact ⟨by rw [hbad.out]; rfl, hb.out⟩
      · have hlt' : ¬ (k : Int) < (l.length : Int) := by omega
        have hyes := Lib.hid (progB_yes h6 fun j hj => hall.out j (by omega) hj)
        go_wp2
        go_ret
        exact ⟨by rw [hyes.out]; rfl, hb.out⟩
  · have hbad := Lib.hid (progB_long h6)
    have h6' : (40 : Int) < (l.length : Int) := by omega
    go_enter Try.func20, Try.ntmps20
    go_wp2
    go_ret
    exact ⟨by rw [hbad.out]; rfl, Below.refl _ _⟩
set_option maxHeartbeats 4000000 in
theorem specProg_any (v : Value) (l : List Stm) (w : World) (hsm : ∀ x ∈ l, x.text.size ≤ 1048576) (hv : Stms w v l) :
    Calls Try.prog 18 #[v] w (Gives (.bool (progB l)) w) := by
  obtain ⟨A, cap, rfl⟩ := hv.form
  have hl := hv.1
  unfold maxLen at hl
  have hv' := Lib.hid hv
  replace hsm := Lib.hid hsm
  clear hv
  go_enter Try.func18, Try.ntmps18
  go_wp2
  go_loopw [3] (fun i wr => ∃ k : Nat, k ≤ l.length ∧ i = .int .i64 (k : Int) ∧ Hid (∀ j (hj : j < k) (h : j < l.length), stmtOk l[j] = true) ∧ Hid (Below w.heap.size w wr)) (fun i _ => l.length - (intOf i).toNat)
  case atStart => exact ⟨0, Nat.zero_le _, rfl, Lib.hid (fun j hj => by omega), Lib.hid (Below.refl _ _)⟩
  case round =>
    obtain ⟨k, hk, rfl, hall, hb⟩ := hrel
    by_cases hlt : k < l.length
    · have hlt' : (k : Int) < (l.length : Int) := by omega
      have hs := Lib.hid (hv'.out.below hb.out)
      obtain ⟨b, off, B, n, c, rfl, hbk, hp, c0, c1, c2, c3, c4, c5⟩ := hs.out.six k hlt
      replace hp := Lib.hid hp
      have hwf := Lib.hid (hs.out.wf hlt)
      have hts := Lib.hid (hsm.out l[k] (List.getElem_mem hlt))
      cases ho : stmtOk l[k] with
      | true =>
        have hall2 := Lib.hid (fun j (hj : j < k + 1) (h : j < l.length) => (show stmtOk l[j] = true from by
          by_cases e : j = k
          · subst e; exact ho
          · exact hall.out j (by omega) h))
        clear hall
        go_wp2_with (go_at_call 13; refine (specStmt_any l[k] _ _ hwf.out hts.out hp.out).mono ?_; rintro e w1 ⟨rfl, hb1⟩; rw [ho]; replace hb := Lib.hid (Below.then_ hb.out hb1 (Nat.le_refl _)); clear hb1 c0 c1 c2 c3 c4 c5)
        go_roundw
        case rel => exact ⟨k + 1, by omega, by go_num, hall2, hb⟩
        case measure => simp [intOf]; omega
      | false =>
        have hbad := Lib.hid (progB_bad hlt ho)
        go_wp2_with (go_at_call 13; refine (specStmt_any l[k] _ _ hwf.out hts.out hp.out).mono ?_; rintro e w1 ⟨rfl, hb1⟩; rw [ho]; replace hb := Lib.hid (Below.then_ hb.out hb1 (Nat.le_refl _)); clear hb1 c0 c1 c2 c3 c4 c5)
        go_ret
        exact ⟨by rw [hbad.out]; rfl, hb.out⟩
    · have hlt' : ¬ (k : Int) < (l.length : Int) := by omega
      by_cases h6 : l.length ≤ 40
      · have h6' : (l.length : Int) ≤ 40 := by omega
        have hyes := Lib.hid (progB_yes h6 fun j hj => hall.out j (by omega) hj)
        go_wp2
        go_ret
        exact ⟨by rw [hyes.out]; rfl, hb.out⟩
      · have h6' : ¬ (l.length : Int) ≤ 40 := by omega
        have hbad := Lib.hid (progB_long h6)
        go_wp2
        go_ret
        exact ⟨by rw [hbad.out]; rfl, hb.out⟩
end Go.Proofs.Ytejmfpaegkgkjaa
