/- A tick read from its line by the program. -/
import Derived.Test.YtbadpmghlclfkaaDoorTckP
import Derived.Test.YtbadpmghlclfkaaDoorVaultC
namespace Go.Proofs.YtbadpmghlclfkaaDoor
open Go.RowKit

theorem cut_len (l s : List UInt8) : (Lib.cut l s).1.length ≤ l.length ∧ (Lib.cut l s).2.1.length ≤ l.length := by
  unfold Lib.cut
  split
  · simp
    omega
  · simp
/-- strings.Cut. -/
theorem cut_any (s sep : ByteArray) (w : World) (hs : s.size ≤ 1048576) (hE : Env w) :
    Calls Tryd.prog 109 #[.string s, .string sep] w fun e w' => e = .returned (.tuple #[.string (bytesOf (Lib.cut (tx s) (tx sep)).1), .string (bytesOf (Lib.cut (tx s) (tx sep)).2.1), .bool (Lib.cut (tx s) (tx sep)).2.2]) ∧ Below w.heap.size w w' := by
  obtain ⟨_, _, _, _, m, hm⟩ := hE
  refine (Tryd.strings_Cut s sep m w (by omega) hm).mono ?_
  rintro e w' ⟨rfl, n, rfl⟩
  exact ⟨rfl, below_drewN (Below.refl w.heap.size w) n⟩
theorem kindT_at {l : List UInt8} (k : Nat) (hk : k < 6) (h : l = wordOf k) : kindT l = (k : Int) := by
  subst h
  rcases (show k = 0 ∨ k = 1 ∨ k = 2 ∨ k = 3 ∨ k = 4 ∨ k = 5 by omega) with rfl | rfl | rfl | rfl | rfl | rfl <;> decide
theorem kindT_none {l : List UInt8} (h : ∀ k, k < 6 → l ≠ wordOf k) : kindT l = 0 := by
  unfold kindT
  rw [if_neg (show ¬ l = [] from h 0 (by omega)), if_neg (show ¬ l = wSays from h 1 (by omega)), if_neg (show ¬ l = wShow from h 2 (by omega)), if_neg (show ¬ l = wHide from h 3 (by omega)), if_neg (show ¬ l = wOver from h 4 (by omega)), if_neg (show ¬ l = wTime from h 5 (by omega))]
set_option maxHeartbeats 4000000 in
theorem tickKind_any (s : ByteArray) (w : World) (hT : TWords w) :
    Calls Tryd.prog 110 #[.string s] w fun e w' => e = .returned (.int .i64 (kindT (tx s))) ∧ w = w' := by
  obtain ⟨W0, hW0⟩ : ∃ W, W = bytesOf (wordOf 0) := ⟨_, rfl⟩
  obtain ⟨W1, hW1⟩ : ∃ W, W = bytesOf (wordOf 1) := ⟨_, rfl⟩
  obtain ⟨W2, hW2⟩ : ∃ W, W = bytesOf (wordOf 2) := ⟨_, rfl⟩
  obtain ⟨W3, hW3⟩ : ∃ W, W = bytesOf (wordOf 3) := ⟨_, rfl⟩
  obtain ⟨W4, hW4⟩ : ∃ W, W = bytesOf (wordOf 4) := ⟨_, rfl⟩
  obtain ⟨W5, hW5⟩ : ∃ W, W = bytesOf (wordOf 5) := ⟨_, rfl⟩
  have c0 : w.cell? ⟨0, 0, none⟩ = some (.string W0) := by rw [hW0]; exact hT 0 (by omega)
  have c1 : w.cell? ⟨0, 1, none⟩ = some (.string W1) := by rw [hW1]; exact hT 1 (by omega)
  have c2 : w.cell? ⟨0, 2, none⟩ = some (.string W2) := by rw [hW2]; exact hT 2 (by omega)
  have c3 : w.cell? ⟨0, 3, none⟩ = some (.string W3) := by rw [hW3]; exact hT 3 (by omega)
  have c4 : w.cell? ⟨0, 4, none⟩ = some (.string W4) := by rw [hW4]; exact hT 4 (by omega)
  have c5 : w.cell? ⟨0, 5, none⟩ = some (.string W5) := by rw [hW5]; exact hT 5 (by omega)
  have i0 : ∀ w, (Instr.index 111 (.agg #[.string W0, .string W1, .string W2, .string W3, .string W4, .string W5]) (.int .i64 0)).run Tryd.prog w = .ok (.string W0) w := fun w => by kernel_rfl
  have i1 : ∀ w, (Instr.index 111 (.agg #[.string W0, .string W1, .string W2, .string W3, .string W4, .string W5]) (.int .i64 1)).run Tryd.prog w = .ok (.string W1) w := fun w => by kernel_rfl
  have i2 : ∀ w, (Instr.index 111 (.agg #[.string W0, .string W1, .string W2, .string W3, .string W4, .string W5]) (.int .i64 2)).run Tryd.prog w = .ok (.string W2) w := fun w => by kernel_rfl
  have i3 : ∀ w, (Instr.index 111 (.agg #[.string W0, .string W1, .string W2, .string W3, .string W4, .string W5]) (.int .i64 3)).run Tryd.prog w = .ok (.string W3) w := fun w => by kernel_rfl
  have i4 : ∀ w, (Instr.index 111 (.agg #[.string W0, .string W1, .string W2, .string W3, .string W4, .string W5]) (.int .i64 4)).run Tryd.prog w = .ok (.string W4) w := fun w => by kernel_rfl
  have i5 : ∀ w, (Instr.index 111 (.agg #[.string W0, .string W1, .string W2, .string W3, .string W4, .string W5]) (.int .i64 5)).run Tryd.prog w = .ok (.string W5) w := fun w => by kernel_rfl
  have hW := Lib.hid (show ∀ k, k < 6 → [W0, W1, W2, W3, W4, W5].getD k noText = bytesOf (wordOf k) by
    intro k hk
    rcases (show k = 0 ∨ k = 1 ∨ k = 2 ∨ k = 3 ∨ k = 4 ∨ k = 5 by omega) with rfl | rfl | rfl | rfl | rfl | rfl
    · exact hW0
    · exact hW1
    · exact hW2
    · exact hW3
    · exact hW4
    · exact hW5)
  clear hW0 hW1 hW2 hW3 hW4 hW5 hT
  go_enter Tryd.func110, Tryd.ntmps110
  go_wp2
  go_loop [6] (fun i => ∃ k : Nat, k ≤ 6 ∧ i = .int .i64 (k : Int) ∧ Hid (∀ j, j < k → tx s ≠ wordOf j)) (fun i => 6 - (intOf i).toNat)
  case atStart => exact ⟨0, Nat.zero_le _, rfl, Lib.hid (fun j hj => by omega)⟩
  case round =>
    obtain ⟨k, hk, rfl, hno⟩ := hrel
    rcases (show k = 0 ∨ k = 1 ∨ k = 2 ∨ k = 3 ∨ k = 4 ∨ k = 5 ∨ k = 6 by omega) with rfl | rfl | rfl | rfl | rfl | rfl | rfl
    · by_cases h : s = W0
      · subst h
        have e := Lib.hid (kindT_at (l := tx s) 0 (by omega) (by have := hW.out 0 (by omega); rw [show s = bytesOf (wordOf 0) from this, tx_bytes]))
        clear hW hno
        go_wp2
        go_ret
        exact ⟨by rw [e.out]; rfl, rfl⟩
      · have h2 := str_ne h
        have hno2 := Lib.hid (show ∀ j, j < 0 + 1 → tx s ≠ wordOf j by
          intro j hj
          by_cases e : j = 0
          · subst e
            intro e2
            exact h (by rw [show W0 = bytesOf (wordOf 0) from hW.out 0 (by omega), ← e2, bytes_tx])
          · exact hno.out j (by omega))
        clear h hno
        go_wp2
        go_round
        case rel => exact ⟨0 + 1, by omega, by go_num, hno2⟩
        case measure => simp [intOf]
    · by_cases h : s = W1
      · subst h
        have e := Lib.hid (kindT_at (l := tx s) 1 (by omega) (by have := hW.out 1 (by omega); rw [show s = bytesOf (wordOf 1) from this, tx_bytes]))
        clear hW hno
        go_wp2
        go_ret
        exact ⟨by rw [e.out]; rfl, rfl⟩
      · have h2 := str_ne h
        have hno2 := Lib.hid (show ∀ j, j < 1 + 1 → tx s ≠ wordOf j by
          intro j hj
          by_cases e : j = 1
          · subst e
            intro e2
            exact h (by rw [show W1 = bytesOf (wordOf 1) from hW.out 1 (by omega), ← e2, bytes_tx])
          · exact hno.out j (by omega))
        clear h hno
        go_wp2
        go_round
        case rel => exact ⟨1 + 1, by omega, by go_num, hno2⟩
        case measure => simp [intOf]
    · by_cases h : s = W2
      · subst h
        have e := Lib.hid (kindT_at (l := tx s) 2 (by omega) (by have := hW.out 2 (by omega); rw [show s = bytesOf (wordOf 2) from this, tx_bytes]))
        clear hW hno
        go_wp2
        go_ret
        exact ⟨by rw [e.out]; rfl, rfl⟩
      · have h2 := str_ne h
        have hno2 := Lib.hid (show ∀ j, j < 2 + 1 → tx s ≠ wordOf j by
          intro j hj
          by_cases e : j = 2
          · subst e
            intro e2
            exact h (by rw [show W2 = bytesOf (wordOf 2) from hW.out 2 (by omega), ← e2, bytes_tx])
          · exact hno.out j (by omega))
        clear h hno
        go_wp2
        go_round
        case rel => exact ⟨2 + 1, by omega, by go_num, hno2⟩
        case measure => simp [intOf]
    · by_cases h : s = W3
      · subst h
        have e := Lib.hid (kindT_at (l := tx s) 3 (by omega) (by have := hW.out 3 (by omega); rw [show s = bytesOf (wordOf 3) from this, tx_bytes]))
        clear hW hno
        go_wp2
        go_ret
        exact ⟨by rw [e.out]; rfl, rfl⟩
      · have h2 := str_ne h
        have hno2 := Lib.hid (show ∀ j, j < 3 + 1 → tx s ≠ wordOf j by
          intro j hj
          by_cases e : j = 3
          · subst e
            intro e2
            exact h (by rw [show W3 = bytesOf (wordOf 3) from hW.out 3 (by omega), ← e2, bytes_tx])
          · exact hno.out j (by omega))
        clear h hno
        go_wp2
        go_round
        case rel => exact ⟨3 + 1, by omega, by go_num, hno2⟩
        case measure => simp [intOf]
    · by_cases h : s = W4
      · subst h
        have e := Lib.hid (kindT_at (l := tx s) 4 (by omega) (by have := hW.out 4 (by omega); rw [show s = bytesOf (wordOf 4) from this, tx_bytes]))
        clear hW hno
        go_wp2
        go_ret
        exact ⟨by rw [e.out]; rfl, rfl⟩
      · have h2 := str_ne h
        have hno2 := Lib.hid (show ∀ j, j < 4 + 1 → tx s ≠ wordOf j by
          intro j hj
          by_cases e : j = 4
          · subst e
            intro e2
            exact h (by rw [show W4 = bytesOf (wordOf 4) from hW.out 4 (by omega), ← e2, bytes_tx])
          · exact hno.out j (by omega))
        clear h hno
        go_wp2
        go_round
        case rel => exact ⟨4 + 1, by omega, by go_num, hno2⟩
        case measure => simp [intOf]
    · by_cases h : s = W5
      · subst h
        have e := Lib.hid (kindT_at (l := tx s) 5 (by omega) (by have := hW.out 5 (by omega); rw [show s = bytesOf (wordOf 5) from this, tx_bytes]))
        clear hW hno
        go_wp2
        go_ret
        exact ⟨by rw [e.out]; rfl, rfl⟩
      · have h2 := str_ne h
        have hno2 := Lib.hid (show ∀ j, j < 5 + 1 → tx s ≠ wordOf j by
          intro j hj
          by_cases e : j = 5
          · subst e
            intro e2
            exact h (by rw [show W5 = bytesOf (wordOf 5) from hW.out 5 (by omega), ← e2, bytes_tx])
          · exact hno.out j (by omega))
        clear h hno
        go_wp2
        go_round
        case rel => exact ⟨5 + 1, by omega, by go_num, hno2⟩
        case measure => simp [intOf]
    · have e := Lib.hid (kindT_none (l := tx s) hno.out)
      clear hno hW
      go_wp2
      go_ret
      exact ⟨by rw [e.out]; rfl, rfl⟩
set_option maxHeartbeats 4000000 in
theorem readTick_any (s : ByteArray) (w : World) (hs : s.size ≤ 8000) (hE : Env w) (hT : TWords w) :
    Calls Tryd.prog 85 #[.string s] w (Gives (tikA (readI (tx s))) w) := by
  have hz : ∀ t : List UInt8, (bytesOf t).size = t.length := bytesOf_size
  obtain ⟨A, hA⟩ : ∃ A, A = bytesOf (Lib.cut (tx s) [32]).1 := ⟨_, rfl⟩
  obtain ⟨B, hB⟩ : ∃ B, B = bytesOf (Lib.cut (tx s) [32]).2.1 := ⟨_, rfl⟩
  obtain ⟨C, hC⟩ : ∃ C, C = bytesOf (Lib.cut (tx B) [32]).1 := ⟨_, rfl⟩
  obtain ⟨D, hD⟩ : ∃ D, D = bytesOf (Lib.cut (tx B) [32]).2.1 := ⟨_, rfl⟩
  obtain ⟨b1, hb1⟩ : ∃ b, b = (Lib.cut (tx s) [32]).2.2 := ⟨_, rfl⟩
  obtain ⟨b2, hb2⟩ : ∃ b, b = (Lib.cut (tx B) [32]).2.2 := ⟨_, rfl⟩
  have l0 := tx_size s
  have l1 := cut_len (tx s) [32]
  have lB : B.size ≤ 8000 := by rw [hB, hz]; omega
  have l2 := cut_len (tx B) [32]
  have lb := tx_size B
  have lC : C.size ≤ 8000 := by rw [hC, hz]; omega
  have lD : D.size ≤ 8000 := by rw [hD, hz]; omega
  have c1 := Lib.hid (fun w (hE : Env w) => show Calls Tryd.prog 109 #[.string s, .string ⟨#[32]⟩] w fun e w' => e = .returned (.tuple #[.string A, .string B, .bool b1]) ∧ Below w.heap.size w w' by rw [hA, hB, hb1]; exact cut_any s ⟨#[32]⟩ w (by omega) hE)
  have c2 := Lib.hid (fun w (hE : Env w) => show Calls Tryd.prog 109 #[.string B, .string ⟨#[32]⟩] w fun e w' => e = .returned (.tuple #[.string C, .string D, .bool b2]) ∧ Below w.heap.size w w' by rw [hC, hD, hb2]; exact cut_any B ⟨#[32]⟩ w (by omega) hE)
  have hR := Lib.hid (show readI (tx s) = ⟨kindT (tx A), readD (tx C), D⟩ by
    unfold readI
    rw [hD, hC, hA, hB, tx_bytes, tx_bytes, tx_bytes])
  replace hE := Lib.hid hE
  replace hT := Lib.hid hT
  have hb0 := Lib.hid ((Below.refl w.heap.size w).alloc (Nat.le_refl _) (.cells #[.int .i64 0, .int .i64 0, .string ByteArray.empty] 31))
  have hx := Lib.hid (show Blk (w.alloc (.cells #[.int .i64 0, .int .i64 0, .string ByteArray.empty] 31)) w.heap.size 31 [.int .i64 0, .int .i64 0, .string ByteArray.empty] from heap_alloc_new w _)
  clear hA hB hC hD hb1 hb2 l0 l1 l2 lb hz
  go_enter Tryd.func85, Tryd.ntmps85
  go_wp2_with (first
    | (go_at_call_of 109 (Value.string s); refine (c1.out _ (hE.out.below hb0.out)).mono ?_; rintro e1 w1 ⟨rfl, h1⟩; replace hx := Lib.hid (hx.out.up h1); have hb1 := Lib.hid (Below.then_ hb0.out h1 (Nat.le_refl _)); clear h1)
    | (go_at_call_of 109 (Value.string B); refine (c2.out _ (hE.out.below hb1.out)).mono ?_; rintro e2 w2 ⟨rfl, h1⟩; replace hx := Lib.hid (hx.out.up h1); have hb2 := Lib.hid (Below.then_ hb1.out h1 (Nat.le_refl _)); clear h1)
    | (go_at_call 110; refine (tickKind_any A _ (hT.out.below hb2.out)).mono ?_; rintro e3 w3 ⟨rfl, rfl⟩)
    | (go_at_call 111; refine (readDigits_any C (by omega) _ (hE.out.below hb2.out)).mono ?_; rintro e4 w4 ⟨rfl, h1⟩; replace hx := Lib.hid (hx.out.up h1); have hb4 := Lib.hid (Below.then_ hb2.out h1 (Nat.le_refl _)); clear h1)
    | (go_at_call 101; refine (clone_any D _ (by omega)).mono ?_; rintro e5 w5 ⟨rfl, h1⟩; replace hx := Lib.hid (hx.out.up h1); have hb5 := Lib.hid (Below.then_ hb4.out h1 (Nat.le_refl _)); clear h1; obtain ⟨y0, y1, y2, yf0, yf1, yf2⟩ := hx.out.three; have hly := hx.out.lt))
  refine bodyPost_ret (v := .agg #[.int .i64 (kindT (tx A)), .int .i64 (readD (tx C)), .string D]) (by simp [results, Tryd.results85, go_sem, y0, y1, y2]) rfl ?_
  exact ⟨by rw [hR.out]; rfl, below_trip hb5.out (Nat.le_refl _) 0 1 2 _ _ _⟩
end Go.Proofs.YtbadpmghlclfkaaDoor
