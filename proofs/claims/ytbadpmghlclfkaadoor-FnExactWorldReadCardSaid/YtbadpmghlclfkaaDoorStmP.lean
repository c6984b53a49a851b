/- plain of the program, l06Plain and l06Has of the model. -/
import Derived.Test.YtbadpmghlclfkaaDoorStmM
import Derived.Test.YtbadpmghlclfkaaDoorVaultT
import Derived.Test.YtbadpmghlclfkaaDoorIs
namespace Go.Proofs.YtbadpmghlclfkaaDoor
open Go.RowKit

theorem plainC_parts {lo : Nat} {c : UInt8} (h : plainC lo c = true) : lo ≤ c.toNat ∧ c.toNat ≤ 126 ∧ c.toNat ≠ 34 := by
  simpa [plainC] using h
theorem plainC_no {lo : Nat} {c : UInt8} (h : plainC lo c = false) : c.toNat < lo ∨ (lo ≤ c.toNat ∧ 126 < c.toNat) ∨ (lo ≤ c.toNat ∧ c.toNat ≤ 126 ∧ c.toNat = 34) := by
  simp [plainC] at h
  omega
theorem rangeC_no {lo : Nat} {c : UInt8} (h : rangeC lo c = false) : c.toNat < lo ∨ (lo ≤ c.toNat ∧ 126 < c.toNat) := by
  simp [rangeC] at h
  omega
set_option maxHeartbeats 1000000 in
theorem specPlain_any (t : ByteArray) (lo : Nat) (most : Int) (ht : t.size ≤ maxLen) (w : World) :
    Calls Tryd.prog 58 #[.string t, .int .u8 (lo : Int), .int .i64 most] w fun e w' => e = .returned (.bool (rangeB lo t.data.toList && decide ((t.size : Int) ≤ most))) ∧ w = w' := by
  have hlen := Lib.hid (str_len t)
  unfold maxLen at ht
  go_enter Tryd.func58, Tryd.ntmps58
  go_wp2
  go_loop [7] (fun i => ∃ k : Nat, k ≤ t.size ∧ i = .int .i64 (k : Int) ∧ Hid (∀ j (hj : j < k) (h : j < t.size), rangeC lo t[j] = true)) (fun i => t.size - (intOf i).toNat)
  case atStart => exact ⟨0, by omega, rfl, Lib.hid (fun j hj => by omega)⟩
  case round =>
    obtain ⟨k, hk, rfl, hall⟩ := hrel
    by_cases hlt : k < t.size
    · have hlt' : (k : Int) < (t.size : Int) := by omega
      cases hl : rangeC lo t[k] with
      | true =>
        have hb : lo ≤ t[k].toNat ∧ t[k].toNat ≤ 126 := by simpa [rangeC] using hl
        have c1 : ¬ (t[k].toNat : Int) < (lo : Int) := by omega
        have c2 : ¬ (126 : Int) < (t[k].toNat : Int) := by omega
        have hall2 := Lib.hid (fun j (hj : j < k + 1) (h : j < t.size) => (show rangeC lo t[j] = true from by
          by_cases e : j = k
          · subst e; exact hl
          · exact hall.out j (by omega) h))
        clear hb hl hall
        go_wp2
        go_round
        case rel => exact ⟨k + 1, by omega, by go_num, hall2⟩
        case measure => simp [intOf]; omega
      | false =>
        have hbad := Lib.hid (show rangeB lo t.data.toList = false from all_bad (k := k) (by rw [hlen.out]; exact hlt) hl)
        rcases rangeC_no hl with c1 | ⟨c1, c2⟩
        · have c1' : (t[k].toNat : Int) < (lo : Int) := by omega
          clear hl hall
          go_wp2
          go_ret
          exact ⟨by rw [hbad.out]; rfl, rfl⟩
        · have c1' : ¬ (t[k].toNat : Int) < (lo : Int) := by omega
          have c2' : (126 : Int) < (t[k].toNat : Int) := by omega
          clear hl hall
          go_wp2
          go_ret
          exact ⟨by rw [hbad.out]; rfl, rfl⟩
    · have hlt' : ¬ (k : Int) < (t.size : Int) := by omega
      have hyes := Lib.hid (show rangeB lo t.data.toList = true from all_yes fun j hj => hall.out j (by rw [hlen.out] at hj; omega) (by rw [hlen.out] at hj; omega))
      go_wp2
      go_ret
      exact ⟨by rw [hyes.out]; rfl, rfl⟩
end Go.Proofs.YtbadpmghlclfkaaDoor
