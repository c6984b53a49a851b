/- VaultMarks of the program (the marks lie in a table) and of the model. The premise 'Four': the table holds 1, 2, 4, 8. -/
import Derived.Test.YtlkgdnkfjijneaaDoorVaultU
namespace Go.Proofs.YtlkgdnkfjijneaaDoor
open Go.RowKit

/-- The table of the marks. -/
def Four (w : World) : Prop := w.cell? ⟨0, 0, none⟩ = some (.int .i64 1) ∧ w.cell? ⟨0, 1, none⟩ = some (.int .i64 2) ∧ w.cell? ⟨0, 2, none⟩ = some (.int .i64 4) ∧ w.cell? ⟨0, 3, none⟩ = some (.int .i64 8)
theorem Four.pos {w : World} (h : Four w) : 0 < w.heap.size := World.block_lt_of_cell? w _ h.1
theorem Four.below {w w' : World} (h : Four w) (hb : Below w.heap.size w w') : Four w' := by
  have hp := h.pos
  unfold Four at h ⊢
  rw [hb.cell (p := ⟨0, 0, none⟩) hp, hb.cell (p := ⟨0, 1, none⟩) hp, hb.cell (p := ⟨0, 2, none⟩) hp, hb.cell (p := ⟨0, 3, none⟩) hp]; exact h
theorem marks_no {l : List Sec} (h : vaultB l = false) : marksOf l = 0 := if_neg (by rw [h]; simp)
theorem marks_yes {l : List Sec} (h : vaultB l = true) : marksOf l = 2 ^ l.length - 1 := if_pos h
set_option maxHeartbeats 2000000 in
theorem implMarks_any (v : Value) (l : List Sec) (w : World) (hv : Secs w v l) (hg : Four w) :
    Calls Tryd.prog 7 #[v] w (Gives (.int .i64 (marksOf l)) w) := by
  obtain ⟨A, cap, rfl⟩ := hv.form
  have hv' := Lib.hid hv
  replace hg := Lib.hid hg
  clear hv
  cases hok : vaultB l with
  | false =>
    have e1 := Lib.hid (marks_no hok)
    go_enter Tryd.func7, Tryd.ntmps7
    go_wp2_with (go_at_call 12; refine (implVault_any _ l _ hv'.out).mono ?_; rintro e w1 ⟨rfl, hb1⟩; rw [hok]; replace hb1 := Lib.hid hb1)
    go_ret
    exact ⟨ret_int e1.out.symm, hb1.out⟩
  | true =>
    have h4 := vaultB_len hok
    have e1 := Lib.hid (marks_yes hok)
    go_enter Tryd.func7, Tryd.ntmps7
    go_wp2_with (go_at_call 12; refine (implVault_any _ l _ hv'.out).mono ?_; rintro e w1 ⟨rfl, hb1⟩; rw [hok]; replace hg := Lib.hid (hg.out.below hb1); replace hb1 := Lib.hid hb1)
    obtain ⟨g0, g1, g2, g3⟩ := hg.out
    go_loop [3, 10] (fun u i => ∃ k : Nat, k ≤ l.length ∧ i = .int .i64 (k : Int) ∧ u = .int .i64 ((2 : Int) ^ k - 1)) (fun _ i => l.length - (intOf i).toNat)
    case atStart => exact ⟨0, Nat.zero_le _, rfl, rfl⟩
    case round =>
      obtain ⟨k, hk, rfl, rfl⟩ := hrel
      by_cases hlt : k < l.length
      · have hlt' : (k : Int) < (l.length : Int) := by omega
        rcases (show k = 0 ∨ k = 1 ∨ k = 2 ∨ k = 3 by omega) with rfl | rfl | rfl | rfl
        · go_wp2
          go_round
          case rel => exact ⟨1, by omega, by go_num, by kernel_rfl⟩
          case measure => simp [intOf]; omega
        · go_wp2
          go_round
          case rel => exact ⟨2, by omega, by go_num, by kernel_rfl⟩
          case measure => simp [intOf]; omega
        · go_wp2
          go_round
          case rel => exact ⟨3, by omega, by go_num, by kernel_rfl⟩
          case measure => simp [intOf]; omega
        · go_wp2
          go_round
          case rel => exact ⟨4, by omega, by go_num, by kernel_rfl⟩
          case measure => simp [intOf]; omega
      · have hlt' : ¬ (k : Int) < (l.length : Int) := by omega
        obtain rfl : k = l.length := by omega
        go_wp2
        go_ret
        exact ⟨ret_int e1.out.symm, hb1.out⟩
set_option maxHeartbeats 2000000 in
theorem specMarks_any (v : Value) (l : List Sec) (w : World) (hv : Secs w v l) (hsml : ∀ x ∈ l, secSmall x) :
    Calls Tryd.prog 5 #[v] w (Gives (.int .i64 (marksOf l)) w) := by
  obtain ⟨A, cap, rfl⟩ := hv.form
  have hv' := Lib.hid hv
  clear hv
  cases hok : vaultB l with
  | false =>
    have e1 := Lib.hid (marks_no hok)
    go_enter Tryd.func5, Tryd.ntmps5
    go_wp2_with (go_at_call 10; refine (specVault_any _ l _ hv'.out hsml).mono ?_; rintro e w1 ⟨rfl, hb1⟩; rw [hok]; replace hb1 := Lib.hid hb1)
    go_ret
    exact ⟨ret_int e1.out.symm, hb1.out⟩
  | true =>
    have h4 := vaultB_len hok
    have e1 := Lib.hid (marks_yes hok)
    obtain ⟨n, hn⟩ : ∃ n, n = l.length := ⟨_, rfl⟩
    rw [← hn] at e1 h4 ⊢
    replace hv' := Lib.hid (show Secs w (.slice A n cap) l by rw [hn]; exact hv'.out)
    clear hn
    rcases (show n = 0 ∨ n = 1 ∨ n = 2 ∨ n = 3 ∨ n = 4 by omega) with rfl | rfl | rfl | rfl | rfl
    all_goals
      go_enter Tryd.func5, Tryd.ntmps5
      go_wp2_with (go_at_call 10; refine (specVault_any _ l _ hv'.out hsml).mono ?_; rintro e w1 ⟨rfl, hb1⟩; rw [hok]; replace hb1 := Lib.hid hb1)
      go_ret
      exact ⟨by rw [e1.out]; first | rfl | decide, hb1.out⟩
end Go.Proofs.YtlkgdnkfjijneaaDoor
