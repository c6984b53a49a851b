/- The CRC tells a text from the same with one byte turned; and goes on from text to text. A seal with one byte turned is refused. -/
import Derived.Test.YtgbfndfjcolpjaaSeal
namespace Go.Proofs.Ytgbfndfjcolpjaa
open Go.RowKit
theorem xor_cancel {a b c : Nat} (h : a ^^^ c = b ^^^ c) : a = b := by
  have h1 : a ^^^ c ^^^ c = b ^^^ c ^^^ c := by rw [h]
  rwa [Nat.xor_assoc, Nat.xor_assoc, Nat.xor_self, Nat.xor_zero, Nat.xor_zero] at h1
theorem xor_cancel_left {a b c : Nat} (h : c ^^^ a = c ^^^ b) : a = b := by rw [Nat.xor_comm c, Nat.xor_comm c] at h; exact xor_cancel h
theorem bit_half (r i : Nat) : (r / 2).testBit i = r.testBit (i + 1) := by
  rw [Nat.testBit_succ]
theorem crcStep_top {r : Nat} (h : r < 4294967296) : (crcStep r).testBit 31 = decide (r % 2 = 1) := by
  unfold crcStep
  have h31 : (r / 2).testBit 31 = false := Nat.testBit_lt_two_pow (by omega)
  by_cases hr : r % 2 = 1
  · rw [if_pos hr, Nat.testBit_xor, h31]; simp [hr]; decide
  · rw [if_neg hr, h31]; simp [hr]
theorem crcStep_inj {r q : Nat} (hr : r < 4294967296) (hq : q < 4294967296) (h : crcStep r = crcStep q) : r = q := by
  have ht : decide (r % 2 = 1) = decide (q % 2 = 1) := by rw [← crcStep_top hr, ← crcStep_top hq, h]
  unfold crcStep at h
  by_cases h1 : r % 2 = 1
  · have h2 : q % 2 = 1 := by simpa [h1] using ht.symm
    rw [if_pos h1, if_pos h2] at h
    have : r / 2 = q / 2 := xor_cancel h
    omega
  · have h2 : ¬ q % 2 = 1 := by intro e; simp [h1, e] at ht
    rw [if_neg h1, if_neg h2] at h
    omega
theorem crcSteps_inj {r q : Nat} (hr : r < 4294967296) (hq : q < 4294967296) (k : Nat) (h : crcSteps k r = crcSteps k q) : r = q := by
  induction k with
  | zero => exact h
  | succ k ih => exact ih (crcStep_inj (crcSteps_lt hr k) (crcSteps_lt hq k) h)
theorem crcList_inj {r q : Nat} (hr : r < 4294967296) (hq : q < 4294967296) (l : List UInt8) (h : crcList r l = crcList q l) : r = q := by
  induction l generalizing r q with
  | nil => exact h
  | cons b l ih =>
    have hb : b.toNat < 4294967296 := by have := b.toNat_lt; omega
    have h1 := ih (crcByte_lt hr b) (crcByte_lt hq b) h
    exact xor_cancel (crcSteps_inj (xor_lt32 hr hb) (xor_lt32 hq hb) 8 h1)
theorem crcByte_ne {r : Nat} (hr : r < 4294967296) {b c : UInt8} (h : crcByte r b.toNat = crcByte r c.toNat) : b = c := by
  have hb : b.toNat < 4294967296 := by have := b.toNat_lt; omega
  have hc : c.toNat < 4294967296 := by have := c.toNat_lt; omega
  have h1 := xor_cancel_left (crcSteps_inj (xor_lt32 hr hb) (xor_lt32 hr hc) 8 h)
  exact UInt8.toNat_inj.mp h1
theorem crcOf_append (c : Nat) (l m : List UInt8) : crcOf (crcOf c l) m = crcOf c (l ++ m) := by
  unfold crcOf
  rw [Nat.xor_assoc, Nat.xor_self, Nat.xor_zero, crcList_append]
/-- One byte turned: another sum. -/
theorem crcOf_set {c : Nat} (hc : c < 4294967296) (l : List UInt8) (i : Nat) (b : UInt8) (hi : i < l.length) (hb : b ≠ l[i]) : crcOf c (l.set i b) ≠ crcOf c l := by
  intro h
  have h0 := xor_cancel h
  have e1 : l.set i b = l.take i ++ b :: l.drop (i + 1) := List.set_eq_take_append_cons_drop.trans (by rw [if_pos hi])
  have e2 : l = l.take i ++ l[i] :: l.drop (i + 1) := by rw [← List.drop_eq_getElem_cons hi, List.take_append_drop]
  rw [e1] at h0
  conv at h0 => rhs; rw [e2]
  rw [crcList_append, crcList_append] at h0
  have hl := crcList_lt (xor_lt32 hc (by decide : ones32 < _)) (l.take i)
  have h2 := crcList_inj (crcByte_lt hl _) (crcByte_lt hl _) _ (show crcList (crcByte _ _) _ = crcList (crcByte _ _) _ from h0)
  exact hb (crcByte_ne hl h2)
theorem crcMore_cat {t u : ByteArray} (h : t.size + u.size ≤ 8000) : crcMore (crcMore 0 t : Nat) u = crcMore 0 (t ++ u) := by
  have hlt : crcOf 0 t.data.toList < 4294967296 := crcOf_lt (c := 0) (by decide) _
  have h0 := crcMore_good (c := 0) (by decide) (s := t) (by omega)
  have h1 := crcMore_good (c := 0) (by decide) (s := t ++ u) (by rw [ByteArray.size_append]; omega)
  rw [show ((0 : Nat) : Int) = 0 from rfl] at h0 h1
  rw [h0, h1, crcMore_good hlt (by omega), crcOf_append]
  congr 1
theorem fourB_eq {n m k : Nat} (h : fourB n k = fourB m k) : n / k % 256 = m / k % 256 := by
  have h1 := congrArg (fun x : UInt8 => (x.toNat : Int)) h
  simp only [← fourB_int] at h1
  omega
theorem four_inj {n m : Nat} (hn : n < 4294967296) (hm : m < 4294967296) (h : four n = four m) : n = m := by
  unfold four at h
  simp only [List.cons.injEq, and_true] at h
  have h1 := fourB_eq h.1
  have h2 := fourB_eq h.2.1
  have h3 := fourB_eq h.2.2.1
  have h4 := fourB_eq h.2.2.2
  omega
theorem four_length (n : Nat) : (four n).length = 4 := rfl
theorem ahead_list (s : ByteArray) : (ahead4 s).data.toList = s.data.toList.take (s.size - 4) := by
  unfold ahead4
  rw [ByteArray.data_extract]
  simp [Array.toList_extract, List.extract]
/-- The bytes of a seal, and the same with byte i turned into c. -/
def bytesOf (l : List UInt8) : ByteArray := ⟨l.toArray⟩
theorem bytesOf_list (l : List UInt8) : (bytesOf l).data.toList = l := by simp [bytesOf]
theorem bytesOf_size (l : List UInt8) : (bytesOf l).size = l.length := by show l.toArray.size = _; simp
theorem unseal_fits {s : ByteArray} (h8 : ¬ 8000 < s.size) (h4 : ¬ s.size < 4) (hf : sumFits s = true) : unsealV s = textOutV (ahead4 s).data.toList 0 0 := by
  unfold unsealV; rw [if_neg h8, if_neg h4, if_pos hf]
theorem unseal_not {s : ByteArray} (h8 : ¬ 8000 < s.size) (h4 : ¬ s.size < 4) (hf : ¬ sumFits s = true) : unsealV s = textOutV [] 0 5 := by
  unfold unsealV; rw [if_neg h8, if_neg h4, if_neg hf]
theorem seal_len {t : ByteArray} (h : t.size ≤ 7996) : (sealOf t).length = t.size + 4 := by
  rw [sealOf_fits t h, List.length_append, four_length]; simp
theorem ahead_bytes (l m : List UInt8) (hm : m.length = 4) : (ahead4 (bytesOf (l ++ m))).data.toList = l := by
  rw [ahead_list, bytesOf_list, bytesOf_size, List.length_append, hm, Nat.add_sub_cancel, List.take_left' rfl]
theorem unseal_seal {t : ByteArray} (h : t.size ≤ 7996) : unsealV (bytesOf (sealOf t)) = textOutV t.data.toList 0 0 := by
  have hl := seal_len h
  have ha : (ahead4 (bytesOf (sealOf t))).data.toList = t.data.toList := by rw [sealOf_fits t h]; exact ahead_bytes _ _ rfl
  rw [unseal_fits (by rw [bytesOf_size, hl]; omega) (by rw [bytesOf_size, hl]; omega) ?_, ha]
  unfold sumFits
  rw [ha, bytesOf_list]
  exact decide_eq_true (sealOf_fits t h)
theorem unseal_turned {t : ByteArray} (h : t.size ≤ 7996) (i : Nat) (c : UInt8) (hi : i < (sealOf t).length) (hc : c ≠ (sealOf t)[i]) : unsealV (bytesOf ((sealOf t).set i c)) = textOutV [] 0 5 := by
  have hl := seal_len h
  refine unseal_not (by rw [bytesOf_size, List.length_set, hl]; omega) (by rw [bytesOf_size, List.length_set, hl]; omega) fun hf => ?_
  unfold sumFits at hf
  have hf := of_decide_eq_true hf
  have htl : t.data.toList.length = t.size := by simp
  have h32 : ∀ l, crcOf 0 l < 4294967296 := fun l => crcOf_lt (c := 0) (by decide) l
  generalize hT : t.data.toList = T at *
  have hs : sealOf t = T ++ four (crcOf 0 T) := by rw [sealOf_fits t h, hT]
  by_cases hlt : i < T.length
  · have e1 : (sealOf t).set i c = T.set i c ++ four (crcOf 0 T) := by rw [hs, List.set_append_left _ _ hlt]
    have ha : (ahead4 (bytesOf ((sealOf t).set i c))).data.toList = T.set i c := by rw [e1]; exact ahead_bytes _ _ rfl
    rw [ha, bytesOf_list, e1] at hf
    have hf := four_inj (h32 _) (h32 _) (List.append_cancel_left hf)
    refine crcOf_set (c := 0) (by decide) T i c hlt ?_ hf.symm
    intro e; apply hc; rw [e]
    simp only [hs]
    rw [List.getElem_append_left hlt]
  · have e1 : (sealOf t).set i c = T ++ (four (crcOf 0 T)).set (i - T.length) c := by rw [hs, List.set_append_right _ _ (by omega)]
    have ha : (ahead4 (bytesOf ((sealOf t).set i c))).data.toList = T := by rw [e1]; exact ahead_bytes _ _ (by rw [List.length_set]; rfl)
    rw [ha, bytesOf_list, e1] at hf
    have hf := List.append_cancel_left hf
    have hi4 : i - T.length < (four (crcOf 0 T)).length := by rw [four_length]; omega
    have hg : ((four (crcOf 0 T)).set (i - T.length) c)[i - T.length]'(by rw [List.length_set]; exact hi4) = (four (crcOf 0 T))[i - T.length] := by simp only [hf]
    rw [List.getElem_set_self] at hg
    apply hc; rw [hg]
    simp only [hs]
    rw [List.getElem_append_right (by omega)]
end Go.Proofs.Ytgbfndfjcolpjaa
