/- A number, and a text, got back from its bytes; and short without the last. -/
import Derived.Test.YtgbfndfjcolpjaaDoorGetText
namespace Go.Proofs.YtgbfndfjcolpjaaDoor
open Go.RowKit
theorem drop_cons {s : ByteArray} {k : Nat} {c : UInt8} {l : List UInt8} (h : s.data.toList.drop k = c :: l) : k < s.size ∧ s.data.getD k 0 = c ∧ s.data.toList.drop (k + 1) = l := by
  have hlen : k < s.data.toList.length := by
    rcases Nat.lt_or_ge k s.data.toList.length with h1 | h1
    · exact h1
    · rw [List.drop_eq_nil_of_le h1] at h; cases h
  rw [List.drop_eq_getElem_cons hlen] at h
  injection h with h1 h2
  have hk : k < s.size := by simpa using hlen
  exact ⟨hk, by rw [at_byte hk, ← h1]; rfl, h2⟩
theorem drop_nil {s : ByteArray} {k : Nat} (h : s.data.toList.drop k = []) : s.size ≤ k := by
  have := List.drop_eq_nil_iff.mp h
  simpa using this
theorem lastB_nat {u : Nat} (h : u < 128) : (lastB u).toNat = u := by have := lastB_int h; omega
theorem contB_nat (u : Nat) : (contB u).toNat = u % 128 + 128 := by have := contB_int u; omega
theorem small_at {u i : Nat} (h : u * 2 ^ (7 * i) < 18446744073709551616) : (i = 9 → u ≤ 1) ∧ (9 < i → u = 0) := by
  constructor
  · rintro rfl; omega
  · intro hi
    have h1 : 2 ^ 70 ≤ 2 ^ (7 * i) := Nat.pow_le_pow_right (by decide) (by omega)
    have h2 : u * 2 ^ 70 ≤ u * 2 ^ (7 * i) := Nat.mul_le_mul_left _ h1
    omega
theorem seven_more (u i : Nat) : u * 2 ^ (7 * i) = u % 128 * 2 ^ (7 * i) + u / 128 * 2 ^ (7 * (i + 1)) := by
  have e : 2 ^ (7 * (i + 1)) = 128 * 2 ^ (7 * i) := by rw [show 7 * (i + 1) = 7 * i + 7 by omega, Nat.pow_add]; omega
  rw [e, ← Nat.mul_assoc, ← Nat.add_mul]
  congr 1
  omega
/-- What was written is read. -/
theorem scan_varF (s : ByteArray) (a : Nat) : ∀ (f i u acc : Nat) (rest : List UInt8), f + i = 10 → u * 2 ^ (7 * i) < 18446744073709551616 → (0 < i → 0 < u) → s.data.toList.drop (a + i) = varF f u ++ rest →
    scan s a f i acc = (0, acc + u * 2 ^ (7 * i), a + i + (varF f u).length)
  | 0, i, u, acc, rest, hf, hu, hi, hd => by
    have := (small_at hu).2 (by omega)
    have := hi (by omega)
    omega
  | f + 1, i, u, acc, rest, hf, hu, hi, hd => by
    have h9 := (small_at hu).1
    by_cases h : u < 128
    · rw [varF_last f u h] at hd ⊢
      obtain ⟨hk, hc, _⟩ := drop_cons hd
      have hb : s[a + i].toNat = u := by rw [← at_byte hk, hc, lastB_nat h]
      rw [scan_end hk (fun e => by rw [hb]; exact h9 e) (by rw [hb]; exact h), hb, if_neg (by rintro ⟨h1, h2⟩; have := hi h2; omega), Nat.mod_eq_of_lt h]
      rfl
    · rw [varF_more f u (by omega)] at hd ⊢
      obtain ⟨hk, hc, hd'⟩ := drop_cons hd
      have hb : s[a + i].toNat = u % 128 + 128 := by rw [← at_byte hk, hc, contB_nat]
      have h9' : i < 9 := by
        rcases Nat.lt_or_ge i 9 with h1 | h1
        · exact h1
        · rcases Nat.eq_or_lt_of_le h1 with h2 | h2
          · have := h9 h2.symm; omega
          · have := (small_at hu).2 h2; omega
      have hsm := seven_more u i
      rw [scan_on hk h9' (by omega), hb, scan_varF s a f (i + 1) (u / 128) _ rest (by omega) (by omega) (fun _ => by omega) (by rw [show a + (i + 1) = a + i + 1 by omega]; exact hd')]
      have e1 : (u % 128 + 128) % 128 = u % 128 := by omega
      rw [e1, hsm]
      simp only [List.length_cons, Prod.mk.injEq, true_and]
      omega
theorem varF_ne (f u : Nat) (h : f ≠ 0) : varF f u ≠ [] := by
  cases f with
  | zero => exact absurd rfl h
  | succ f => rw [varF]; split <;> simp
/-- What was written and lost its last byte is short. -/
theorem scan_cut (s : ByteArray) (a : Nat) : ∀ (f i u acc : Nat), f + i = 10 → u * 2 ^ (7 * i) < 18446744073709551616 → (0 < i → 0 < u) → s.data.toList.drop (a + i) = (varF f u).dropLast →
    scan s a f i acc = (4, 0, 0)
  | 0, i, u, acc, hf, hu, hi, hd => by
    have := (small_at hu).2 (by omega)
    have := hi (by omega)
    omega
  | f + 1, i, u, acc, hf, hu, hi, hd => by
    have h9 := (small_at hu).1
    by_cases h : u < 128
    · rw [varF_last f u h] at hd
      exact scan_short (drop_nil hd)
    · have h9' : i < 9 := by
        rcases Nat.lt_or_ge i 9 with h1 | h1
        · exact h1
        · rcases Nat.eq_or_lt_of_le h1 with h2 | h2
          · have := h9 h2.symm; omega
          · have := (small_at hu).2 h2; omega
      rw [varF_more f u (by omega), List.dropLast_cons_of_ne_nil (varF_ne f _ (by omega))] at hd
      obtain ⟨hk, hc, hd'⟩ := drop_cons hd
      have hb : s[a + i].toNat = u % 128 + 128 := by rw [← at_byte hk, hc, contB_nat]
      have hsm := seven_more u i
      rw [scan_on hk h9' (by omega)]
      exact scan_cut s a f (i + 1) (u / 128) _ (by omega) (by omega) (fun _ => by omega) (by rw [show a + (i + 1) = a + i + 1 by omega]; exact hd')
theorem numBytes_pos (n : Int) : 0 < (numBytes n).length := List.length_pos_iff.mpr (varF_ne 10 _ (by decide))
theorem varF_le : ∀ (f i u : Nat), f + i = 10 → u * 2 ^ (7 * i) < 18446744073709551616 → (0 < i → 0 < u) → i + (varF f u).length ≤ 10
  | 0, i, u, hf, hu, hi => by
    have := (small_at hu).2 (by omega)
    have := hi (by omega)
    omega
  | f + 1, i, u, hf, hu, hi => by
    by_cases h : u < 128
    · rw [varF_last f u h]; simp; omega
    · rw [varF_more f u (by omega)]
      have hsm := seven_more u i
      have := varF_le f (i + 1) (u / 128) (by omega) (by omega) (fun _ => by omega)
      simp only [List.length_cons]
      omega
theorem numBytes_le {n : Int} (hn : -9223372036854775808 ≤ n ∧ n ≤ 9223372036854775807) : (numBytes n).length ≤ 10 := by
  have := varF_le 10 0 (fold n) rfl (by have := fold_lt n hn; omega) (by omega)
  unfold numBytes; omega
theorem unfold_fold {n : Int} (hn : -9223372036854775808 ≤ n ∧ n ≤ 9223372036854775807) : unfoldN (fold n) = n := by
  unfold unfoldN fold
  split <;> split <;> omega
theorem scan_num {s : ByteArray} {a : Nat} {n : Int} {rest : List UInt8} (hn : -9223372036854775808 ≤ n ∧ n ≤ 9223372036854775807) (hd : s.data.toList.drop a = numBytes n ++ rest) : scan s a 10 0 0 = (0, fold n, a + (numBytes n).length) := by
  have h := scan_varF s a 10 0 (fold n) 0 rest rfl (by have := fold_lt n hn; omega) (by omega) hd
  rw [h]; simp [numBytes]
theorem scan_num_cut {s : ByteArray} {a : Nat} {n : Int} (hn : -9223372036854775808 ≤ n ∧ n ≤ 9223372036854775807) (hd : s.data.toList.drop a = (numBytes n).dropLast) : scan s a 10 0 0 = (4, 0, 0) :=
  scan_cut s a 10 0 (fold n) 0 rfl (by have := fold_lt n hn; omega) (by omega) hd
def bytesL (l : List UInt8) : ByteArray := ⟨l.toArray⟩
theorem bytesL_list (l : List UInt8) : (bytesL l).data.toList = l := by simp [bytesL]
theorem bytesL_size (l : List UInt8) : (bytesL l).size = l.length := by show l.toArray.size = _; simp
theorem cat_list (s t : ByteArray) : (s ++ t).data.toList = s.data.toList ++ t.data.toList := by rw [ByteArray.data_append, Array.toList_append]
theorem cut_list (s : ByteArray) : (s.extract 0 (s.size - 1)).data.toList = s.data.toList.dropLast := by
  rw [ByteArray.data_extract]
  simp [List.dropLast_eq_take]
theorem num_back {n : Int} (hn : -9223372036854775808 ≤ n ∧ n ≤ 9223372036854775807) : numOutV (getNumR (⟨#[120, 121]⟩ ++ bytesL (numBytes n) ++ ⟨#[122]⟩) 2) = .agg #[.int .i64 n, .int .i64 (((numBytes n).length : Int) + 2), .int .i64 0] := by
  have hl := numBytes_le hn
  have hsz : (⟨#[120, 121]⟩ ++ bytesL (numBytes n) ++ ⟨#[122]⟩ : ByteArray).size ≤ 13 := by
    rw [ByteArray.size_append, ByteArray.size_append, bytesL_size]
    show 2 + (numBytes n).length + 1 ≤ 13
    omega
  have hd : (⟨#[120, 121]⟩ ++ bytesL (numBytes n) ++ ⟨#[122]⟩ : ByteArray).data.toList.drop 2 = numBytes n ++ [122] := by
    rw [cat_list, cat_list, bytesL_list]; rfl
  unfold getNumR
  rw [if_neg (by omega), if_neg (by omega), show (2 : Int).toNat = 2 from rfl, scan_num hn hd]
  unfold numOutV
  rw [if_pos rfl, unfold_fold hn]
  congr 4
  simp only [Value.int.injEq, true_and]
  omega
theorem num_cut {n : Int} (hn : -9223372036854775808 ≤ n ∧ n ≤ 9223372036854775807) : numOutV (getNumR ((bytesL (numBytes n)).extract 0 ((bytesL (numBytes n)).size - 1)) 0) = .agg #[.int .i64 0, .int .i64 0, .int .i64 4] := by
  have hl := numBytes_le hn
  have hd : ((bytesL (numBytes n)).extract 0 ((bytesL (numBytes n)).size - 1)).data.toList.drop 0 = (numBytes n).dropLast := by rw [cut_list, bytesL_list]; rfl
  have hsz : ((bytesL (numBytes n)).extract 0 ((bytesL (numBytes n)).size - 1)).size ≤ 10 := by rw [ByteArray.size_extract, bytesL_size]; omega
  unfold getNumR
  rw [if_neg (by omega), if_neg (by omega), show (0 : Int).toNat = 0 from rfl, scan_num_cut hn hd]
  rfl
theorem len_wf {k : Nat} (h : k ≤ 8000) : -9223372036854775808 ≤ (k : Int) ∧ (k : Int) ≤ 9223372036854775807 := by omega
theorem bytes_ext {s t : ByteArray} (h : s.data.toList = t.data.toList) : s = t := by
  cases s; cases t
  simp at h ⊢
  exact h
theorem text_back {u : ByteArray} (hu : u.size ≤ 8000) (hp : (textBytes u).length + 1 ≤ 8000) : textOutV (⟨#[120]⟩ ++ bytesL (textBytes u)) (getTextR (⟨#[120]⟩ ++ bytesL (textBytes u)) 1) = .agg #[.string u, .int .i64 (((textBytes u).length : Int) + 1), .int .i64 0] := by
  have hf := textBytes_fits u hu
  have hsz : (⟨#[120]⟩ ++ bytesL (textBytes u) : ByteArray).size = 1 + (textBytes u).length := by rw [ByteArray.size_append, bytesL_size]; rfl
  have hul : u.data.toList.length = u.size := by simp
  have hlen : (textBytes u).length = (numBytes u.size).length + u.size := by rw [hf, List.length_append, hul]
  have hlist : (⟨#[120]⟩ ++ bytesL (textBytes u) : ByteArray).data.toList = 120 :: (numBytes u.size ++ u.data.toList) := by rw [cat_list, bytesL_list, hf]; rfl
  have hn : getNumR (⟨#[120]⟩ ++ bytesL (textBytes u)) 1 = (0, fold u.size, 1 + (numBytes u.size).length) := by
    unfold getNumR
    rw [if_neg (by omega), if_neg (by omega), show (1 : Int).toNat = 1 from rfl, scan_num (len_wf hu) (rest := u.data.toList) (by rw [hlist]; rfl)]
  have hg : getTextR (⟨#[120]⟩ ++ bytesL (textBytes u)) 1 = (0, 1 + (numBytes u.size).length, 1 + (numBytes u.size).length + u.size) := by
    unfold getTextR
    rw [hn]
    simp only [unfold_fold (len_wf hu)]
    rw [if_neg (by simp), if_neg (by omega), if_neg (by rw [hsz]; omega)]
    simp
  rw [hg]
  unfold textOutV
  rw [if_pos rfl]
  have he : (⟨#[120]⟩ ++ bytesL (textBytes u) : ByteArray).extract (1 + (numBytes u.size).length) (1 + (numBytes u.size).length + u.size) = u := by
    apply bytes_ext
    rw [ByteArray.data_extract, Array.toList_extract, hlist]
    unfold List.extract
    rw [show 1 + (numBytes u.size).length + u.size - (1 + (numBytes u.size).length) = u.size by omega, Nat.add_comm 1, List.drop_succ_cons, List.drop_left' rfl, ← hul, List.take_length]
  rw [he]
  congr 4
  simp only [Value.int.injEq, true_and]
  omega
theorem text_cut {u : ByteArray} (hu : u.size ≤ 8000) (hp : (textBytes u).length ≤ 8000) : textOutV ((bytesL (textBytes u)).extract 0 ((bytesL (textBytes u)).size - 1)) (getTextR ((bytesL (textBytes u)).extract 0 ((bytesL (textBytes u)).size - 1)) 0) = .agg #[.string ⟨#[]⟩, .int .i64 0, .int .i64 4] := by
  have hf := textBytes_fits u hu
  have hul : u.data.toList.length = u.size := by simp
  have hlen : (textBytes u).length = (numBytes u.size).length + u.size := by rw [hf, List.length_append, hul]
  have hpos := numBytes_pos u.size
  have hsz : ((bytesL (textBytes u)).extract 0 ((bytesL (textBytes u)).size - 1)).size = (textBytes u).length - 1 := by rw [ByteArray.size_extract, bytesL_size]; omega
  have hd := cut_list (bytesL (textBytes u))
  rw [bytesL_list] at hd
  generalize hX : (bytesL (textBytes u)).extract 0 ((bytesL (textBytes u)).size - 1) = X at *
  have hg : getTextR X 0 = (4, 0, 0) := by
    by_cases h0 : u.size = 0
    · have hul0 : u.data.toList = [] := List.eq_nil_of_length_eq_zero (by omega)
      rw [hf, hul0, List.append_nil] at hd
      have hn : getNumR X 0 = (4, 0, 0) := by
        unfold getNumR
        rw [if_neg (by omega), if_neg (by omega), show (0 : Int).toNat = 0 from rfl, scan_num_cut (a := 0) (len_wf hu) (show X.data.toList.drop 0 = _ from hd)]
      unfold getTextR
      rw [hn]; rfl
    · have hne : u.data.toList ≠ [] := by intro e; rw [e] at hul; simp at hul; omega
      rw [hf, List.dropLast_append_of_ne_nil hne] at hd
      have hn : getNumR X 0 = (0, fold u.size, 0 + (numBytes u.size).length) := by
        unfold getNumR
        rw [if_neg (by omega), if_neg (by omega), show (0 : Int).toNat = 0 from rfl, scan_num (len_wf hu) (rest := u.data.toList.dropLast) (a := 0) (show X.data.toList.drop 0 = _ from hd)]
      unfold getTextR
      rw [hn]
      simp only [unfold_fold (len_wf hu)]
      rw [if_neg (by simp), if_neg (by omega), if_pos (by rw [hsz]; omega)]
  rw [hg]
  rfl
end Go.Proofs.YtgbfndfjcolpjaaDoor
