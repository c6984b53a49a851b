/- What is a name: the plain function, and that the model's and the program's NameRight compute it. No conditions but a string's own length. -/
import Derived.Test.YtgbfndfjcolpjaaBase
namespace Go.Proofs.Ytgbfndfjcolpjaa
open Go.RowKit

def letter (c : UInt8) : Bool := decide (97 ≤ c.toNat) && decide (c.toNat ≤ 122)
def digit (c : UInt8) : Bool := decide (48 ≤ c.toNat) && decide (c.toNat ≤ 57)
def nameCh (i : Nat) (c : UInt8) : Bool := letter c || (decide (0 < i) && (digit c || decide (c.toNat = 95)))
def nameOk (s : ByteArray) : Bool := decide (1 ≤ s.size) && decide (s.size ≤ 20) && (List.range s.size).all fun i => nameCh i (s.data.getD i 0)

theorem getD_at (s : ByteArray) (k : Nat) (hk : k < s.size) : s.data.getD k 0 = s[k] := by
  unfold Array.getD
  rw [dif_pos (show k < s.data.size from hk)]; rfl
theorem nameOk_short (s : ByteArray) (h : ¬ (1 ≤ s.size ∧ s.size ≤ 20)) : nameOk s = false := by
  unfold nameOk
  by_cases h1 : 1 ≤ s.size
  · have h2 : ¬ s.size ≤ 20 := fun h2 => h ⟨h1, h2⟩
    simp [h2]
  · simp [h1]
theorem nameOk_bad (s : ByteArray) (k : Nat) (hk : k < s.size) (h : nameCh k s[k] = false) : nameOk s = false := by
  unfold nameOk
  have : ((List.range s.size).all fun i => nameCh i (s.data.getD i 0)) = false := by
    rw [List.all_eq_false]
    exact ⟨k, by simpa using hk, by
      rw [getD_at s k hk, h]; simp⟩
  rw [this]; simp
theorem nameOk_good (s : ByteArray) (h1 : 1 ≤ s.size) (h2 : s.size ≤ 20) (h : ∀ k (hk : k < s.size), nameCh k s[k] = true) : nameOk s = true := by
  unfold nameOk
  simp only [h1, h2, decide_true, Bool.true_and, List.all_eq_true, List.mem_range]
  intro i hi
  rw [getD_at s i hi]; exact h i hi

/-- Every byte lies in one of six ranges; the facts are laid as the walk spells its tests. -/
theorem byte_ranges (c : UInt8) : (¬ 48 ≤ (c.toNat : Int) ∧ ¬ 97 ≤ (c.toNat : Int) ∧ ((c.toNat : Int) != 95) = true) ∨ (48 ≤ (c.toNat : Int) ∧ (c.toNat : Int) ≤ 57 ∧ ¬ 97 ≤ (c.toNat : Int)) ∨
    (48 ≤ (c.toNat : Int) ∧ ¬ (c.toNat : Int) ≤ 57 ∧ ¬ 97 ≤ (c.toNat : Int) ∧ ((c.toNat : Int) != 95) = true) ∨ (48 ≤ (c.toNat : Int) ∧ ¬ (c.toNat : Int) ≤ 57 ∧ ¬ 97 ≤ (c.toNat : Int) ∧ ((c.toNat : Int) != 95) = false) ∨
    (97 ≤ (c.toNat : Int) ∧ (c.toNat : Int) ≤ 122) ∨ (97 ≤ (c.toNat : Int) ∧ 48 ≤ (c.toNat : Int) ∧ ¬ (c.toNat : Int) ≤ 57 ∧ ¬ (c.toNat : Int) ≤ 122 ∧ ((c.toNat : Int) != 95) = true) := by
  by_cases h1 : c.toNat < 48
  · exact .inl ⟨by omega, by omega, by simp; omega⟩
  by_cases h2 : c.toNat ≤ 57
  · exact .inr (.inl ⟨by omega, by omega, by omega⟩)
  by_cases h3 : c.toNat < 97
  · by_cases h4 : c.toNat = 95
    · exact .inr (.inr (.inr (.inl ⟨by omega, by omega, by omega, by simp; omega⟩)))
    · exact .inr (.inr (.inl ⟨by omega, by omega, by omega, by simp; omega⟩))
  by_cases h5 : c.toNat ≤ 122
  · exact .inr (.inr (.inr (.inr (.inl ⟨by omega, by omega⟩))))
  · exact .inr (.inr (.inr (.inr (.inr ⟨by omega, by omega, by omega, by omega, by simp; omega⟩))))
theorem letter_yes {c : UInt8} (h : 97 ≤ (c.toNat : Int) ∧ (c.toNat : Int) ≤ 122) : letter c = true := by simp [letter]; omega
theorem letter_no {c : UInt8} (h : (c.toNat : Int) < 97 ∨ 122 < (c.toNat : Int)) : letter c = false := by simp [letter]; omega
theorem digit_yes {c : UInt8} (h : 48 ≤ (c.toNat : Int) ∧ (c.toNat : Int) ≤ 57) : digit c = true := by simp [digit]; omega
theorem digit_no {c : UInt8} (h : (c.toNat : Int) < 48 ∨ 57 < (c.toNat : Int)) : digit c = false := by simp [digit]; omega
theorem nameCh_letter {i : Nat} {c : UInt8} (h : 97 ≤ (c.toNat : Int) ∧ (c.toNat : Int) ≤ 122) : nameCh i c = true := by simp [nameCh, letter_yes h]
theorem nameCh_first {c : UInt8} (h : (c.toNat : Int) < 97 ∨ 122 < (c.toNat : Int)) : nameCh 0 c = false := by simp [nameCh, letter_no h]
theorem nameCh_digit {i : Nat} {c : UInt8} (hi : 0 < i) (h : 48 ≤ (c.toNat : Int) ∧ (c.toNat : Int) ≤ 57) : nameCh i c = true := by simp [nameCh, digit_yes h, hi]
theorem nameCh_line {i : Nat} {c : UInt8} (hi : 0 < i) (h : ((c.toNat : Int) != 95) = false) : nameCh i c = true := by
  have : c.toNat = 95 := by simp at h; omega
  simp [nameCh, this, hi]
theorem nameCh_no {i : Nat} {c : UInt8} (h : (c.toNat : Int) < 97 ∨ 122 < (c.toNat : Int)) (h2 : (c.toNat : Int) < 48 ∨ 57 < (c.toNat : Int)) (h3 : ((c.toNat : Int) != 95) = true) : nameCh i c = false := by
  have : ¬ c.toNat = 95 := by intro e; simp [e] at h3
  simp [nameCh, this, letter_no h, digit_no h2]

set_option maxHeartbeats 400000 in
theorem specName_any (s : ByteArray) (hs : s.size ≤ maxLen) (w : World) :
    Calls Try.prog 24 #[.string s] w fun e w' => e = .returned (.bool (nameOk s)) ∧ w = w' := by
  unfold maxLen at hs
  go_enter Try.func24, Try.ntmps24
  go_wp2
  · go_ret
    exact ⟨ret_bool (nameOk_short s (by omega)).symm, rfl⟩
  · go_loop [3] (fun i => ∃ k : Nat, k ≤ s.size ∧ i = .int .i64 k ∧ ∀ j (hj : j < s.size), j < k → nameCh j s[j] = true) (fun i => s.size - (intOf i).toNat)
    case atStart => exact ⟨0, Nat.zero_le _, rfl, fun j hj h => by omega⟩
    case round =>
      obtain ⟨k, hk, rfl, hall⟩ := hrel
      by_cases hlt : k < s.size
      · rcases Nat.eq_zero_or_pos k with rfl | hk0
        · rcases byte_ranges s[0] with ⟨c1, c2, c3⟩ | ⟨c1, c2, c3⟩ | ⟨c1, c2, c3, c4⟩ | ⟨c1, c2, c3, c4⟩ | ⟨c1, c2⟩ | ⟨c1, c2, c3, c4, c5⟩
          case inr.inr.inr.inr.inl =>
            go_wp2
            go_round
            case rel => exact ⟨1, by omega, by go_num, fun j hj h => by
              obtain rfl : j = 0 := by omega
              exact nameCh_letter ⟨c1, c2⟩⟩
            case measure => simp [intOf]; omega
          all_goals
            go_wp2
            go_ret
            exact ⟨ret_bool (nameOk_bad s 0 hlt (nameCh_first (by omega))).symm, rfl⟩
        · have hk0' : ((k : Int) == 0) = false := by simp; omega
          rcases byte_ranges s[k] with ⟨c1, c2, c3⟩ | ⟨c1, c2, c3⟩ | ⟨c1, c2, c3, c4⟩ | ⟨c1, c2, c3, c4⟩ | ⟨c1, c2⟩ | ⟨c1, c2, c3, c4, c5⟩
          · go_wp2
            go_ret
            exact ⟨ret_bool (nameOk_bad s k hlt (nameCh_no (by omega) (by omega) c3)).symm, rfl⟩
          · go_wp2
            go_round
            case rel => exact ⟨k + 1, by omega, by go_num, fun j hj h => by
              by_cases hj' : j = k
              · subst hj'; exact nameCh_digit hk0 ⟨c1, c2⟩
              · exact hall j hj (by omega)⟩
            case measure => simp [intOf]; omega
          · go_wp2
            go_ret
            exact ⟨ret_bool (nameOk_bad s k hlt (nameCh_no (by omega) (by omega) c4)).symm, rfl⟩
          · go_wp2
            go_round
            case rel => exact ⟨k + 1, by omega, by go_num, fun j hj h => by
              by_cases hj' : j = k
              · subst hj'; exact nameCh_line hk0 c4
              · exact hall j hj (by omega)⟩
            case measure => simp [intOf]; omega
          · go_wp2
            go_round
            case rel => exact ⟨k + 1, by omega, by go_num, fun j hj h => by
              by_cases hj' : j = k
              · subst hj'; exact nameCh_letter ⟨c1, c2⟩
              · exact hall j hj (by omega)⟩
            case measure => simp [intOf]; omega
          · go_wp2
            go_ret
            exact ⟨ret_bool (nameOk_bad s k hlt (nameCh_no (by omega) (by omega) c5)).symm, rfl⟩
      · go_wp2
        go_ret
        exact ⟨ret_bool (nameOk_good s (by omega) (by omega) (fun j hj => hall j hj (by omega))).symm, rfl⟩
  · go_ret
    exact ⟨ret_bool (nameOk_short s (by omega)).symm, rfl⟩

theorem isLetter_any (c : UInt8) (w : World) :
    Calls Try.prog 42 #[.int .u8 c.toNat] w fun e w' => e = .returned (.bool (letter c)) ∧ w = w' := by
  rcases byte_ranges c with ⟨c1, c2, c3⟩ | ⟨c1, c2, c3⟩ | ⟨c1, c2, c3, c4⟩ | ⟨c1, c2, c3, c4⟩ | ⟨c1, c2⟩ | ⟨c1, c2, c3, c4, c5⟩
  all_goals
    go_enter Try.func42, Try.ntmps42
    go_wp2
    go_ret
    exact ⟨ret_bool (by first | exact (letter_yes ⟨c1, c2⟩).symm | exact (letter_no (by omega)).symm), rfl⟩
theorem isDigit_any (c : UInt8) (w : World) :
    Calls Try.prog 43 #[.int .u8 c.toNat] w fun e w' => e = .returned (.bool (digit c)) ∧ w = w' := by
  rcases byte_ranges c with ⟨c1, c2, c3⟩ | ⟨c1, c2, c3⟩ | ⟨c1, c2, c3, c4⟩ | ⟨c1, c2, c3, c4⟩ | ⟨c1, c2⟩ | ⟨c1, c2, c3, c4, c5⟩
  case inr.inr.inr.inr.inl => 
    have c3 : 48 ≤ (c.toNat : Int) := by omega
    have c4 : ¬ (c.toNat : Int) ≤ 57 := by omega
    go_enter Try.func43, Try.ntmps43
    go_wp2
    go_ret
    exact ⟨ret_bool (digit_no (by omega)).symm, rfl⟩
  all_goals
    go_enter Try.func43, Try.ntmps43
    go_wp2
    go_ret
    exact ⟨ret_bool (by first | exact (digit_yes ⟨c1, c2⟩).symm | exact (digit_no (by omega)).symm), rfl⟩

set_option maxHeartbeats 400000 in
theorem implName_any (s : ByteArray) (hs : s.size ≤ maxLen) (w : World) :
    Calls Try.prog 25 #[.string s] w fun e w' => e = .returned (.bool (nameOk s)) ∧ w = w' := by
  unfold maxLen at hs
  by_cases hsz : 1 ≤ s.size ∧ s.size ≤ 20
  · obtain ⟨hz1, hz2⟩ := hsz
    by_cases hb : letter s[0] = true
    · go_enter Try.func25, Try.ntmps25
      go_wp2_with (first | (go_at_call 42; refine (isLetter_any _ _).mono ?_; rintro e w' ⟨rfl, rfl⟩) | (go_at_call 43; refine (isDigit_any _ _).mono ?_; rintro e w' ⟨rfl, rfl⟩))
      go_loop [3] (fun i => ∃ k : Nat, 1 ≤ k ∧ k ≤ s.size ∧ i = .int .i64 k ∧ ∀ j (hj : j < s.size), j < k → nameCh j s[j] = true) (fun i => s.size - (intOf i).toNat)
      case atStart => exact ⟨1, by omega, by omega, rfl, fun j hj h => by
        obtain rfl : j = 0 := by omega
        simp [nameCh, hb]⟩
      case round =>
        obtain ⟨k, hk0, hk, rfl, hall⟩ := hrel
        by_cases hlt : k < s.size
        · by_cases hl : letter s[k] = true
          · go_wp2_with (first | (go_at_call 42; refine (isLetter_any _ _).mono ?_; rintro e w' ⟨rfl, rfl⟩) | (go_at_call 43; refine (isDigit_any _ _).mono ?_; rintro e w' ⟨rfl, rfl⟩))
            go_round
            case rel => exact ⟨k + 1, by omega, by omega, by go_num, fun j hj h => by
              by_cases hj' : j = k
              · subst hj'; exact (by simp [nameCh, hl])
              · exact hall j hj (by omega)⟩
            case measure => simp [intOf]; omega
          · by_cases hd : digit s[k] = true
            · go_wp2_with (first | (go_at_call 42; refine (isLetter_any _ _).mono ?_; rintro e w' ⟨rfl, rfl⟩) | (go_at_call 43; refine (isDigit_any _ _).mono ?_; rintro e w' ⟨rfl, rfl⟩))
              go_round
              case rel => exact ⟨k + 1, by omega, by omega, by go_num, fun j hj h => by
                by_cases hj' : j = k
                · subst hj'; exact (by simp [nameCh, hd]; omega)
                · exact hall j hj (by omega)⟩
              case measure => simp [intOf]; omega
            · by_cases h95 : ((s[k].toNat : Int) != 95) = true
              · go_wp2_with (first | (go_at_call 42; refine (isLetter_any _ _).mono ?_; rintro e w' ⟨rfl, rfl⟩) | (go_at_call 43; refine (isDigit_any _ _).mono ?_; rintro e w' ⟨rfl, rfl⟩))
                go_ret
                exact ⟨ret_bool (nameOk_bad s k hlt (by
                  have : ¬ s[k].toNat = 95 := by intro e; simp [e] at h95
                  simp [nameCh, hl, hd, this])).symm, rfl⟩
              · go_wp2_with (first | (go_at_call 42; refine (isLetter_any _ _).mono ?_; rintro e w' ⟨rfl, rfl⟩) | (go_at_call 43; refine (isDigit_any _ _).mono ?_; rintro e w' ⟨rfl, rfl⟩))
                go_round
                case rel => exact ⟨k + 1, by omega, by omega, by go_num, fun j hj h => by
                  by_cases hj' : j = k
                  · subst hj'; exact (nameCh_line (by omega) (by simpa using h95))
                  · exact hall j hj (by omega)⟩
                case measure => simp [intOf]; omega
        · go_wp2
          go_ret
          exact ⟨ret_bool (nameOk_good s (by omega) (by omega) (fun j hj => hall j hj (by omega))).symm, rfl⟩
    · go_enter Try.func25, Try.ntmps25
      go_wp2_with (first | (go_at_call 42; refine (isLetter_any _ _).mono ?_; rintro e w' ⟨rfl, rfl⟩) | (go_at_call 43; refine (isDigit_any _ _).mono ?_; rintro e w' ⟨rfl, rfl⟩))
      go_ret
      exact ⟨ret_bool (nameOk_bad s 0 (by omega) (by simp [nameCh, hb])).symm, rfl⟩
  · by_cases h1 : 1 ≤ s.size
    · have h2 : (20 : Int) < (s.size : Int) := by omega
      go_enter Try.func25, Try.ntmps25
      go_wp2
      go_ret
      exact ⟨ret_bool (nameOk_short s hsz).symm, rfl⟩
    · have h1' : (s.size : Int) < 1 := by omega
      go_enter Try.func25, Try.ntmps25
      go_wp2
      go_ret
      exact ⟨ret_bool (nameOk_short s hsz).symm, rfl⟩
end Go.Proofs.Ytgbfndfjcolpjaa
