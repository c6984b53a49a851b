/- WordRight of the program (a range over runes) and of the model. -/
import Derived.Test.YtlkgdnkfjijneaaDoorVaultM
import Derived.Test.YtlkgdnkfjijneaaDoorBase
import Derived.Laws.RangeAny
namespace Go.Proofs.YtlkgdnkfjijneaaDoor
open Go.RowKit

theorem below_iter {B : Nat} {w0 w : World} (h : Below B w0 w) (hB : B ≤ w.heap.size) (s : ByteArray) (pos : Nat) : Below B w0 (w.iter s pos) := h.alloc hB _
theorem str_len (t : ByteArray) : t.data.toList.length = t.size := by simp
theorem letter_yes {c : UInt8} (h : letterB c = true) : 97 ≤ c.toNat ∧ c.toNat ≤ 122 := by simpa [letterB] using h
theorem letter_no {c : UInt8} (h : letterB c = false) : c.toNat < 97 ∨ 122 < c.toNat := by simp [letterB] at h; omega
/-- The rune that begins at a byte is a letter just if the byte is. -/
theorem rune_letter (t : ByteArray) (k : Nat) (h : k < t.size) (hl : letterB t[k] = true) : Utf8.decode t k = (t[k].toNat, 1) := decode_ascii t k h (by have := letter_yes hl; omega)
theorem rune_other (t : ByteArray) (k : Nat) (h : k < t.size) (hl : letterB t[k] = false) : (Utf8.decode t k).1 < 97 ∨ 122 < (Utf8.decode t k).1 := by
  by_cases ha : t[k].toNat < 128
  · rw [decode_ascii t k h ha]; exact letter_no hl
  · have := (decode_high t k h (by omega)).1; omega

set_option maxRecDepth 20000 in
set_option maxHeartbeats 1000000 in
theorem implWord_any (t : ByteArray) (ht : t.size ≤ maxLen) (w : World) :
    Calls Tryd.prog 19 #[.string t] w fun e w' => e = .returned (.bool (wordB t.data.toList)) ∧ Below w.heap.size w w' := by
  have hlen := Lib.hid (str_len t)
  unfold maxLen at ht
  by_cases h1 : 1 ≤ t.size
  · by_cases h12 : t.size ≤ 12
    · go_enter Tryd.func19, Tryd.ntmps19
      have h1' : ¬ (t.size : Int) < 1 := by omega
      have h12' : ¬ (12 : Int) < (t.size : Int) := by omega
      go_wp2
      go_loopw [] (fun wr => ∃ k : Nat, k ≤ t.size ∧ wr = w.iter t k ∧ Hid (∀ j (hj : j < k) (h : j < t.size), letterB t[j] = true)) (fun wr => t.size - wr.iterPos w.heap.size)
      case atStart => exact ⟨0, by omega, rfl, Lib.hid (fun j hj => by omega)⟩
      case round =>
        obtain ⟨k, hk, rfl, hall⟩ := hrel
        by_cases hlt : k < t.size
        · have hnx : ∀ ty, (Instr.next (.pointer (some ⟨w.heap.size, 0, none⟩)) true ty).run Tryd.prog (w.iter t k) = _ := fun ty => run_next_any w t k ty hlt
          cases hl : letterB t[k] with
          | true =>
            have hd := rune_letter t k hlt hl
            rw [hd] at hnx
            have hb := letter_yes hl
            have c1 : ¬ (t[k].toNat : Int) < 97 := by omega
            have c2 : ¬ (122 : Int) < (t[k].toNat : Int) := by omega
            have hall2 := Lib.hid (fun j (hj : j < k + 1) (h : j < t.size) => (show letterB t[j] = true from by
              by_cases e : j = k
              · subst e; exact hl
              · exact hall.out j (by omega) h))
            clear hd hb hl hall
            go_wp2
            go_roundw
            case rel => exact ⟨k + 1, by omega, rfl, hall2⟩
            case measure => simp; omega
          | false =>
            have hd := rune_other t k hlt hl
            have hbad := Lib.hid (word_bad (l := t.data.toList) (k := k) (by rw [hlen.out]; exact hlt) hl)
            obtain ⟨r, hr⟩ : ∃ r, r = (Utf8.decode t k).1 := ⟨_, rfl⟩
            rw [← hr] at hnx hd
            clear hl hall hr
            by_cases c1 : r < 97
            · have c1' : (r : Int) < 97 := by omega
              go_wp2
              go_ret
              exact ⟨by rw [hbad.out]; rfl, below_iter (Below.refl _ _) (Nat.le_refl _) _ _⟩
            · have c1' : ¬ (r : Int) < 97 := by omega
              have c2' : (122 : Int) < (r : Int) := by omega
              go_wp2
              go_ret
              exact ⟨by rw [hbad.out]; rfl, below_iter (Below.refl _ _) (Nat.le_refl _) _ _⟩
        · have hnx : ∀ ty, (Instr.next (.pointer (some ⟨w.heap.size, 0, none⟩)) true ty).run Tryd.prog (w.iter t k) = _ := fun ty => run_next_end w t k ty hlt
          have hyes := Lib.hid (word_yes (l := t.data.toList) (by rw [hlen.out]; exact h1) (by rw [hlen.out]; exact h12) fun j hj => hall.out j (by rw [hlen.out] at hj; omega) (by rw [hlen.out] at hj; omega))
          go_wp2
          go_ret
          exact ⟨by rw [hyes.out]; rfl, below_iter (Below.refl _ _) (Nat.le_refl _) _ _⟩
    · have hbad := Lib.hid (word_short (l := t.data.toList) (by rw [hlen.out]; exact .inr h12))
      have h1' : ¬ (t.size : Int) < 1 := by omega
      have h12' : (12 : Int) < (t.size : Int) := by omega
      go_enter Tryd.func19, Tryd.ntmps19
      go_wp2
      go_ret
      exact ⟨by rw [hbad.out]; rfl, Below.refl _ _⟩
  · have hbad := Lib.hid (word_short (l := t.data.toList) (by rw [hlen.out]; exact .inl h1))
    have h1' : (t.size : Int) < 1 := by omega
    go_enter Tryd.func19, Tryd.ntmps19
    go_wp2
    go_ret
    exact ⟨by rw [hbad.out]; rfl, Below.refl _ _⟩

set_option maxHeartbeats 1000000 in
theorem specWord_any (t : ByteArray) (ht : t.size ≤ maxLen) (w : World) :
    Calls Tryd.prog 14 #[.string t] w fun e w' => e = .returned (.bool (wordB t.data.toList)) ∧ w = w' := by
  have hlen := Lib.hid (str_len t)
  unfold maxLen at ht
  go_enter Tryd.func14, Tryd.ntmps14
  go_wp2
  go_loop [3] (fun i => ∃ k : Nat, k ≤ t.size ∧ i = .int .i64 (k : Int) ∧ Hid (∀ j (hj : j < k) (h : j < t.size), letterB t[j] = true)) (fun i => t.size - (intOf i).toNat)
  case atStart => exact ⟨0, by omega, rfl, Lib.hid (fun j hj => by omega)⟩
  case round =>
    obtain ⟨k, hk, rfl, hall⟩ := hrel
    by_cases hlt : k < t.size
    · have hlt' : (k : Int) < (t.size : Int) := by omega
      cases hl : letterB t[k] with
      | true =>
        have hb := letter_yes hl
        have c1 : ¬ (t[k].toNat : Int) < 97 := by omega
        have c2 : ¬ (122 : Int) < (t[k].toNat : Int) := by omega
        have hall2 := Lib.hid (fun j (hj : j < k + 1) (h : j < t.size) => (show letterB t[j] = true from by
          by_cases e : j = k
          · subst e; exact hl
          · exact hall.out j (by omega) h))
        clear hb hl hall
        go_wp2
        go_round
        case rel => exact ⟨k + 1, by omega, by go_num, hall2⟩
        case measure => simp [intOf]; omega
      | false =>
        have hd := letter_no hl
        have hbad := Lib.hid (word_bad (l := t.data.toList) (k := k) (by rw [hlen.out]; exact hlt) hl)
        clear hl hall
        by_cases c1 : t[k].toNat < 97
        · have c1' : (t[k].toNat : Int) < 97 := by omega
          go_wp2
          go_ret
          exact ⟨by rw [hbad.out]; rfl, rfl⟩
        · have c1' : ¬ (t[k].toNat : Int) < 97 := by omega
          have c2' : (122 : Int) < (t[k].toNat : Int) := by omega
          go_wp2
          go_ret
          exact ⟨by rw [hbad.out]; rfl, rfl⟩
    · have hlt' : ¬ (k : Int) < (t.size : Int) := by omega
      by_cases h1 : 1 ≤ t.size
      · have h1' : (1 : Int) ≤ (t.size : Int) := by omega
        by_cases h12 : t.size ≤ 12
        · have h12' : (t.size : Int) ≤ 12 := by omega
          have hyes := Lib.hid (word_yes (l := t.data.toList) (by rw [hlen.out]; exact h1) (by rw [hlen.out]; exact h12) fun j hj => hall.out j (by rw [hlen.out] at hj; omega) (by rw [hlen.out] at hj; omega))
          go_wp2
          go_ret
          exact ⟨by rw [hyes.out]; rfl, rfl⟩
        · have h12' : ¬ (t.size : Int) ≤ 12 := by omega
          have hbad := Lib.hid (word_short (l := t.data.toList) (by rw [hlen.out]; exact .inr h12))
          go_wp2
          go_ret
          exact ⟨by rw [hbad.out]; rfl, rfl⟩
      · have h1' : ¬ (1 : Int) ≤ (t.size : Int) := by omega
        have hbad := Lib.hid (word_short (l := t.data.toList) (by rw [hlen.out]; exact .inl h1))
        go_wp2
        go_ret
        exact ⟨by rw [hbad.out]; rfl, rfl⟩
end Go.Proofs.YtlkgdnkfjijneaaDoor
