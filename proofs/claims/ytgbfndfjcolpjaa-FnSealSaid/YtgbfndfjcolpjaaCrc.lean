/- The CRC: the plain function, and that the model's l01Crc, Crc, CrcMore and the program's compute it. -/
import Derived.Test.YtgbfndfjcolpjaaText
namespace Go.Proofs.Ytgbfndfjcolpjaa
open Go.RowKit

def crcStep (r : Nat) : Nat := if r % 2 = 1 then (r / 2) ^^^ 3988292384 else r / 2
def crcSteps : Nat → Nat → Nat
  | 0, r => r
  | k + 1, r => crcStep (crcSteps k r)
def crcByte (r b : Nat) : Nat := crcSteps 8 (r ^^^ b)
def crcList (r : Nat) (l : List UInt8) : Nat := l.foldl (fun r b => crcByte r b.toNat) r
def ones32 : Nat := 4294967295
def crcOf (c : Nat) (l : List UInt8) : Nat := crcList (c ^^^ ones32) l ^^^ ones32

theorem xor_lt32 {a b : Nat} (ha : a < 4294967296) (hb : b < 4294967296) : a ^^^ b < 4294967296 := Nat.xor_lt_two_pow (n := 32) ha hb
theorem crcStep_lt {r : Nat} (h : r < 4294967296) : crcStep r < 4294967296 := by
  unfold crcStep; split
  · exact xor_lt32 (by omega) (by omega)
  · omega
theorem crcSteps_lt {r : Nat} (h : r < 4294967296) (k : Nat) : crcSteps k r < 4294967296 := by
  induction k with
  | zero => exact h
  | succ k ih => exact crcStep_lt ih
theorem crcByte_lt {r : Nat} (h : r < 4294967296) (b : UInt8) : crcByte r b.toNat < 4294967296 := crcSteps_lt (xor_lt32 h (by have := b.toNat_lt; omega)) 8
theorem crcList_lt {r : Nat} (h : r < 4294967296) (l : List UInt8) : crcList r l < 4294967296 := by
  induction l generalizing r with
  | nil => exact h
  | cons b l ih => exact ih (crcByte_lt h b)
theorem crcList_snoc (r : Nat) (l : List UInt8) (b : UInt8) : crcList r (l ++ [b]) = crcByte (crcList r l) b.toNat := by simp [crcList]
theorem crcList_append (r : Nat) (l m : List UInt8) : crcList r (l ++ m) = crcList (crcList r l) m := by simp [crcList]
theorem crcOf_lt {c : Nat} (h : c < 4294967296) (l : List UInt8) : crcOf c l < 4294967296 := xor_lt32 (crcList_lt (xor_lt32 h (by decide)) l) (by decide)

/-- The test on the lowest bit, and what either way stores, as the walk spells them. -/
theorem bit_yes {r : Nat} (hr : r < 4294967296) (h : (bits BinOp.and IntKind.u32 (r : Int) 1 == 1) = true) : r % 2 = 1 := by
  have e := u32_and_nat r 1 hr (by omega)
  rw [nat_mask1] at e
  rw [show ((1 : Nat) : Int) = 1 from rfl] at e
  rw [e] at h
  simp at h
  omega
theorem bit_no {r : Nat} (hr : r < 4294967296) (h : (bits BinOp.and IntKind.u32 (r : Int) 1 == 1) = false) : ¬ r % 2 = 1 := by
  have e := u32_and_nat r 1 hr (by omega)
  rw [nat_mask1] at e
  rw [show ((1 : Nat) : Int) = 1 from rfl] at e
  rw [e] at h
  simp at h
  omega
theorem step_yes {r : Nat} (hr : r < 4294967296) (h : r % 2 = 1) : bits BinOp.xor IntKind.u32 ((r : Int) / 2) 3988292384 = ((crcStep r : Nat) : Int) := by
  rw [crcStep, if_pos h]
  exact u32_xor_nat (r / 2) 3988292384 (by omega) (by omega)
theorem step_no {r : Nat} (h : ¬ r % 2 = 1) : (r : Int) / 2 = ((crcStep r : Nat) : Int) := by
  rw [crcStep, if_neg h]; rfl
theorem byte_start {r : Nat} (hr : r < 4294967296) (b : UInt8) : bits BinOp.xor IntKind.u32 (r : Int) ((b.toNat : Int) % 4294967296) = ((crcSteps 0 (r ^^^ b.toNat) : Nat) : Int) := by
  have hb := b.toNat_lt
  rw [show ((b.toNat : Int) % 4294967296) = (b.toNat : Int) by omega]
  exact u32_xor_nat r b.toNat hr (by omega)

set_option maxHeartbeats 1000000 in
theorem shiftedBy_any (r : Nat) (hr : r < 4294967296) (b : UInt8) (w : World) :
    Calls Try.prog 39 #[.int .u32 r, .int .u8 b.toNat] w fun e w' => e = .returned (.int .u32 (crcByte r b.toNat)) ∧ w = w' := by
  have hx : r ^^^ b.toNat < 4294967296 := xor_lt32 hr (by have := b.toNat_lt; omega)
  have hH := Lib.hid (And.intro hr hx)
  clear hr hx
  go_enter Try.func39, Try.ntmps39
  go_wp2
  go_loop [0, 10] (fun r' i => ∃ k : Nat, k ≤ 8 ∧ i = .int .i64 k ∧ r' = .int .u32 (crcSteps k (r ^^^ b.toNat))) (fun _ i => 8 - (intOf i).toNat)
  case atStart => exact ⟨0, by omega, rfl, by rw [byte_start hH.out.1]⟩
  case round =>
    obtain ⟨k, hk, rfl, rfl⟩ := hrel
    by_cases hlt : k < 8
    · go_wp2
      · have ht : (bits BinOp.and IntKind.u32 (crcSteps k (r ^^^ b.toNat) : Int) 1 == 1) = true := by assumption
        go_round
        case rel => exact ⟨k + 1, by omega, by go_num, by rw [step_yes (crcSteps_lt hH.out.2 k) (bit_yes (crcSteps_lt hH.out.2 k) ht)]; rfl⟩
        case measure => simp [intOf]; omega
      · have ht : (bits BinOp.and IntKind.u32 (crcSteps k (r ^^^ b.toNat) : Int) 1 == 1) = false := by assumption
        go_round
        case rel => exact ⟨k + 1, by omega, by go_num, by rw [step_no (bit_no (crcSteps_lt hH.out.2 k) ht)]; rfl⟩
        case measure => simp [intOf]; omega
    · obtain rfl : k = 8 := by omega
      go_wp2
      go_ret
      exact ⟨rfl, rfl⟩

/-- The register behind the first k bytes. -/
def crcUpto (c : Nat) (s : ByteArray) (k : Nat) : Nat := crcList (c ^^^ ones32) (s.data.toList.take k)
theorem take_snoc (s : ByteArray) (k : Nat) (h : k < s.size) : s.data.toList.take (k + 1) = s.data.toList.take k ++ [s[k]] := by
  rw [List.take_succ_eq_append_getElem (by simpa using h)]; rfl
theorem crcUpto_lt {c : Nat} (hc : c < 4294967296) (s : ByteArray) (k : Nat) : crcUpto c s k < 4294967296 := crcList_lt (xor_lt32 hc (by decide)) _
theorem crcUpto_zero (c : Nat) (s : ByteArray) : crcUpto c s 0 = c ^^^ ones32 := rfl
theorem crcUpto_next (c : Nat) (s : ByteArray) (k : Nat) (h : k < s.size) : crcUpto c s (k + 1) = crcByte (crcUpto c s k) s[k].toNat := by
  unfold crcUpto; rw [take_snoc s k h, crcList_snoc]
theorem crcUpto_all (c : Nat) (s : ByteArray) {k : Nat} (h : s.size ≤ k) : crcUpto c s k ^^^ ones32 = crcOf c s.data.toList := by
  unfold crcUpto crcOf; rw [List.take_of_length_le (by simpa using h)]
theorem wrap_u32_nat {c : Nat} (hc : c < 4294967296) : IntKind.u32.wrap (c : Int) = c := by rw [IntKind.wrap_u32]; omega
theorem xor_ones_u32 {c : Nat} (hc : c < 4294967296) : bits BinOp.xor IntKind.u32 (c : Int) 4294967295 = ((c ^^^ ones32 : Nat) : Int) := u32_xor_nat c 4294967295 hc (by omega)

theorem fin_u32 {x y : Nat} (hx : x < 4294967296) (hy : y < 4294967296) (h : x ^^^ ones32 = y) : wrap64 (bits BinOp.xor IntKind.u32 (x : Int) 4294967295) = (y : Int) := by
  rw [xor_ones_u32 hx, h]
  unfold wrap64; omega
theorem max_xor_u32 {c : Nat} (hc : c < 4294967296) : bits BinOp.xor IntKind.u32 IntKind.u32.max (c : Int) = ((c ^^^ ones32 : Nat) : Int) := by
  rw [show IntKind.u32.max = ((4294967295 : Nat) : Int) from by decide, u32_xor_nat 4294967295 c (by omega) hc, Nat.xor_comm]; rfl
theorem fin_max {x y : Nat} (hx : x < 4294967296) (hy : y < 4294967296) (h : x ^^^ ones32 = y) : wrap64 (bits BinOp.xor IntKind.u32 IntKind.u32.max (x : Int)) = (y : Int) := by
  rw [max_xor_u32 hx, h]
  unfold wrap64; omega
set_option maxHeartbeats 1000000 in
theorem l01Crc_any (c : Nat) (hc : c < 4294967296) (s : ByteArray) (hs : s.size ≤ 1048576) (w : World) :
    Calls Try.prog 36 #[.int .i64 c, .string s] w fun e w' => e = .returned (.int .i64 (crcOf c s.data.toList)) ∧ w = w' := by
  have hC := Lib.hid hc
  have hc' : (c : Int) ≤ 4294967295 := by omega
  clear hc
  go_enter Try.func36, Try.ntmps36
  go_wp2
  go_loop [5, 6] (fun r' i => ∃ k : Nat, k ≤ s.size ∧ i = .int .i64 k ∧ r' = .int .u32 (crcUpto c s k)) (fun _ i => s.size - (intOf i).toNat)
  case atStart => exact ⟨0, Nat.zero_le _, rfl, by rw [crcUpto_zero, xor_ones_u32 hC.out]⟩
  case round =>
    obtain ⟨k, hk, rfl, rfl⟩ := hrel
    have hlt32 := Lib.hid (crcUpto_lt hC.out s k)
    by_cases hlt : k < s.size
    · have hx32 := Lib.hid (xor_lt32 (b := s[k].toNat) hlt32.out (by have := s[k].toNat_lt; omega))
      have hnext := Lib.hid (crcUpto_next c s k hlt)
      have hb0 := Lib.hid (byte_start hlt32.out s[k])
      obtain ⟨R, hR⟩ : ∃ R, R = crcUpto c s k ^^^ s[k].toNat := ⟨_, rfl⟩
      have hR := Lib.hid hR
      go_wp2
      go_loop [5, 7] (fun r' j => ∃ m : Nat, m ≤ 8 ∧ j = .int .i64 m ∧ r' = .int .u32 (crcSteps m (crcUpto c s k ^^^ s[k].toNat))) (fun _ j => 8 - (intOf j).toNat)
      case atStart => exact ⟨0, by omega, rfl, by rw [hb0.out]⟩
      case round =>
        obtain ⟨m, hm, rfl, rfl⟩ := hrel
        by_cases hm8 : m < 8
        · go_wp2
          · have ht : (bits BinOp.and IntKind.u32 (crcSteps m (crcUpto c s k ^^^ s[k].toNat) : Int) 1 == 1) = true := by assumption
            go_round
            case rel => exact ⟨m + 1, by omega, by go_num, by rw [step_yes (crcSteps_lt hx32.out m) (bit_yes (crcSteps_lt hx32.out m) ht)]; rfl⟩
            case measure => simp [intOf]; omega
          · have ht : (bits BinOp.and IntKind.u32 (crcSteps m (crcUpto c s k ^^^ s[k].toNat) : Int) 1 == 1) = false := by assumption
            go_round
            case rel => exact ⟨m + 1, by omega, by go_num, by rw [step_no (bit_no (crcSteps_lt hx32.out m) ht)]; rfl⟩
            case measure => simp [intOf]; omega
        · obtain rfl : m = 8 := by omega
          go_wp2
          go_round
          case rel => exact ⟨k + 1, by omega, by go_num, by rw [hnext.out]; rfl⟩
          case measure => simp [intOf]; omega
    · have hall := Lib.hid (crcUpto_all c s (k := k) (by omega))
      have hlt' := Lib.hid (crcOf_lt hC.out s.data.toList)
      go_wp2
      go_ret
      exact ⟨ret_int (fin_u32 hlt32.out hlt'.out hall.out), rfl⟩

def crcMore (crc : Int) (s : ByteArray) : Nat := if 8000 < s.size ∨ crc < 0 ∨ 4294967295 < crc then 0 else crcOf crc.toNat s.data.toList

set_option maxHeartbeats 1000000 in
theorem implCrcMore_good (c : Nat) (hc : c < 4294967296) (s : ByteArray) (hs : s.size ≤ 8000) (w : World) :
    Calls Try.prog 17 #[.int .i64 c, .string s] w fun e w' => e = .returned (.int .i64 (crcOf c s.data.toList)) ∧ w = w' := by
  have hC := Lib.hid hc
  have hc' : ¬ (4294967295 : Int) < (c : Int) := by omega
  have hs' : ¬ (8000 : Int) < (s.size : Int) := by omega
  have hc0 : ¬ (c : Int) < 0 := by omega
  clear hc
  go_enter Try.func17, Try.ntmps17
  go_wp2
  go_loop [5, 6] (fun r' i => ∃ k : Nat, k ≤ s.size ∧ i = .int .i64 k ∧ r' = .int .u32 (crcUpto c s k)) (fun _ i => s.size - (intOf i).toNat)
  case atStart => exact ⟨0, Nat.zero_le _, rfl, by rw [crcUpto_zero, max_xor_u32 hC.out]⟩
  case round =>
    obtain ⟨k, hk, rfl, rfl⟩ := hrel
    have hlt32 := Lib.hid (crcUpto_lt hC.out s k)
    by_cases hlt : k < s.size
    · have hnext := Lib.hid (crcUpto_next c s k hlt)
      go_wp2_with (go_at_call 39; refine (shiftedBy_any _ hlt32.out _ _).mono ?_; rintro e w' ⟨rfl, rfl⟩)
      go_round
      case rel => exact ⟨k + 1, by omega, by go_num, by rw [hnext.out]⟩
      case measure => simp [intOf]; omega
    · have hall := Lib.hid (crcUpto_all c s (k := k) (by omega))
      have hlt' := Lib.hid (crcOf_lt hC.out s.data.toList)
      go_wp2
      go_ret
      exact ⟨ret_int (fin_max hlt32.out hlt'.out hall.out), rfl⟩

set_option maxHeartbeats 1000000 in
theorem implCrcMore_bad (crc : Int) (s : ByteArray) (hs : s.size ≤ maxLen) (hb : 8000 < s.size ∨ crc < 0 ∨ 4294967295 < crc) (w : World) :
    Calls Try.prog 17 #[.int .i64 crc, .string s] w fun e w' => e = .returned (.int .i64 0) ∧ w = w' := by
  unfold maxLen at hs
  by_cases h1 : (8000 : Int) < (s.size : Int)
  · go_enter Try.func17, Try.ntmps17
    go_wp2
    go_ret
    exact ⟨rfl, rfl⟩
  · by_cases h2 : crc < 0
    · go_enter Try.func17, Try.ntmps17
      go_wp2
      go_ret
      exact ⟨rfl, rfl⟩
    · have h3 : (4294967295 : Int) < crc := by omega
      go_enter Try.func17, Try.ntmps17
      go_wp2
      go_ret
      exact ⟨rfl, rfl⟩

theorem implCrcMore_any (crc : Int) (s : ByteArray) (hs : s.size ≤ maxLen) (w : World) :
    Calls Try.prog 17 #[.int .i64 crc, .string s] w fun e w' => e = .returned (.int .i64 (crcMore crc s)) ∧ w = w' := by
  unfold crcMore
  by_cases hb : 8000 < s.size ∨ crc < 0 ∨ 4294967295 < crc
  · rw [if_pos hb]; exact implCrcMore_bad crc s hs hb w
  · rw [if_neg hb]
    obtain ⟨c, rfl⟩ : ∃ c : Nat, crc = (c : Int) := ⟨crc.toNat, by omega⟩
    rw [Int.toNat_natCast]
    exact implCrcMore_good c (by omega) s (by omega) w

set_option maxHeartbeats 1000000 in
theorem specCrcMore_good (c : Nat) (hc : c < 4294967296) (s : ByteArray) (hs : s.size ≤ 8000) (w : World) :
    Calls Try.prog 18 #[.int .i64 c, .string s] w fun e w' => e = .returned (.int .i64 (crcOf c s.data.toList)) ∧ w = w' := by
  have hC := Lib.hid hc
  have hc' : ¬ (4294967295 : Int) < (c : Int) := by omega
  have hs' : ¬ (8000 : Int) < (s.size : Int) := by omega
  have hc0 : ¬ (c : Int) < 0 := by omega
  clear hc
  go_enter Try.func18, Try.ntmps18
  go_wp2_with (go_at_call 36; refine (l01Crc_any _ hC.out _ (by omega) _).mono ?_; rintro e w' ⟨rfl, rfl⟩)
  go_ret
  exact ⟨rfl, rfl⟩

set_option maxHeartbeats 1000000 in
theorem specCrcMore_bad (crc : Int) (s : ByteArray) (hs : s.size ≤ maxLen) (hb : 8000 < s.size ∨ crc < 0 ∨ 4294967295 < crc) (w : World) :
    Calls Try.prog 18 #[.int .i64 crc, .string s] w fun e w' => e = .returned (.int .i64 0) ∧ w = w' := by
  unfold maxLen at hs
  by_cases h1 : (8000 : Int) < (s.size : Int)
  · go_enter Try.func18, Try.ntmps18
    go_wp2
    go_ret
    exact ⟨rfl, rfl⟩
  · by_cases h2 : crc < 0
    · go_enter Try.func18, Try.ntmps18
      go_wp2
      go_ret
      exact ⟨rfl, rfl⟩
    · have h3 : (4294967295 : Int) < crc := by omega
      go_enter Try.func18, Try.ntmps18
      go_wp2
      go_ret
      exact ⟨rfl, rfl⟩

theorem specCrcMore_any (crc : Int) (s : ByteArray) (hs : s.size ≤ maxLen) (w : World) :
    Calls Try.prog 18 #[.int .i64 crc, .string s] w fun e w' => e = .returned (.int .i64 (crcMore crc s)) ∧ w = w' := by
  unfold crcMore
  by_cases hb : 8000 < s.size ∨ crc < 0 ∨ 4294967295 < crc
  · rw [if_pos hb]; exact specCrcMore_bad crc s hs hb w
  · rw [if_neg hb]
    obtain ⟨c, rfl⟩ : ∃ c : Nat, crc = (c : Int) := ⟨crc.toNat, by omega⟩
    rw [Int.toNat_natCast]
    exact specCrcMore_good c (by omega) s (by omega) w

set_option maxHeartbeats 1000000 in
theorem implCrc_any (s : ByteArray) (hs : s.size ≤ maxLen) (w : World) :
    Calls Try.prog 19 #[.string s] w fun e w' => e = .returned (.int .i64 (crcMore 0 s)) ∧ w = w' := by
  go_enter Try.func19, Try.ntmps19
  go_wp2_with (go_at_call 17; refine (implCrcMore_any _ _ hs _).mono ?_; rintro e w' ⟨rfl, rfl⟩)
  go_ret
  exact ⟨rfl, rfl⟩
theorem crcMore_good {c : Nat} (hc : c < 4294967296) {s : ByteArray} (h : s.size ≤ 8000) : crcMore c s = crcOf c s.data.toList := by rw [crcMore, if_neg (by omega), Int.toNat_natCast]
theorem crcMore_long {s : ByteArray} (h : 8000 < s.size) : crcMore 0 s = 0 := by rw [crcMore, if_pos (by omega)]
set_option maxHeartbeats 1000000 in
theorem specCrc_any (s : ByteArray) (hs : s.size ≤ maxLen) (w : World) :
    Calls Try.prog 26 #[.string s] w fun e w' => e = .returned (.int .i64 (crcMore 0 s)) ∧ w = w' := by
  unfold maxLen at hs
  by_cases hb : (8000 : Int) < (s.size : Int)
  · go_enter Try.func26, Try.ntmps26
    go_wp2
    go_ret
    exact ⟨ret_int (by rw [crcMore_long (by omega)]; rfl), rfl⟩
  · go_enter Try.func26, Try.ntmps26
    go_wp2_with (go_at_call 36; refine (l01Crc_any 0 (by omega) _ (by omega) _).mono ?_; rintro e w' ⟨rfl, rfl⟩)
    go_ret
    exact ⟨ret_int (by rw [show (0 : Int) = ((0 : Nat) : Int) from rfl, crcMore_good (by omega) (by omega)]), rfl⟩
end Go.Proofs.Ytgbfndfjcolpjaa
