/- WordRight of the program (a range over runes) and of the model. -/
import Derived.Test.YtajnligcngekcaaVaultM
import Derived.Test.YtajnligcngekcaaBase
import Derived.Laws.RangeAny
namespace Go.Proofs.Ytajnligcngekcaa
open Go.RowKit

theorem below_iter {B : Nat} {w0 w : World} (h : Below B w0 w) (hB : B ≤ w.heap.size) (s : ByteArray) (pos : Nat) : Below B w0 (w.iter s pos) := h.alloc hB _
theorem str_len (t : ByteArray) : t.data.toList.length = t.size := by simp
theorem isLetter {c : UInt8} (h : letterB c = true) : 97 ≤ c.toNat ∧ c.toNat ≤ 122 := by simpa [letterB] using h
theorem noLetter {c : UInt8} (h : letterB c = false) : c.toNat < 97 ∨ 122 < c.toNat := by simp [letterB] at h; omega
/-- The rune that begins at a byte is a letter just if the byte is. -/
theorem rune_letter (t : ByteArray) (k : Nat) (h : k < t.size) (hl : letterB t[k] = true) : Utf8.decode t k = (t[k].toNat, 1) := decode_ascii t k h (by have := isLetter hl; omega)
theorem rune_other (t : ByteArray) (k : Nat) (h : k < t.size) (hl : letterB t[k] = false) : (Utf8.decode t k).1 < 97 ∨ 122 < (Utf8.decode t k).1 := by
  by_cases ha : t[k].toNat < 128
  · rw [decode_ascii t k h ha]; exact noLetter hl
  · have := (decode_high t k h (by omega)).1; omega

end Go.Proofs.Ytajnligcngekcaa
