/- Seal and Unseal: the plain functions, and that the model's and the program's compute them. -/
import Derived.Test.YtgbfndfjcolpjaaCrc
import Derived.Deep.RegionWith
import Derived.BigRegion
namespace Go.Proofs.Ytgbfndfjcolpjaa
open Go.RowKit

def fourB (n k : Nat) : UInt8 := UInt8.ofNat (n / k % 256)
def four (n : Nat) : List UInt8 := [fourB n 1, fourB n 256, fourB n 65536, fourB n 16777216]
theorem fourB_int (n k : Nat) : ((n / k % 256 : Nat) : Int) = ((fourB n k).toNat : Int) := by rw [fourB, ofNat_int _ (by omega)]

theorem fourI0 (c : Nat) : (c : Int) % 256 = ((fourB c 1).toNat : Int) := by rw [← fourB_int, Nat.div_one]; rfl
theorem fourI1 (c : Nat) : (c : Int) / 256 % 256 = ((fourB c 256).toNat : Int) := by rw [← fourB_int]; rfl
theorem fourI2 (c : Nat) : (c : Int) / 65536 % 256 = ((fourB c 65536).toNat : Int) := by rw [← fourB_int]; rfl
theorem fourI3 (c : Nat) (hc : c < 4294967296) : (c : Int) / 16777216 = ((fourB c 16777216).toNat : Int) := by rw [← fourB_int, Nat.mod_eq_of_lt (by omega)]; rfl
theorem four_at (c : Nat) : ∀ j (hj : j < (four c).length), (#[byteV (fourB c 1), byteV (fourB c 256), byteV (fourB c 65536), byteV (fourB c 16777216)] : Array Value)[j]? = some (byteV (four c)[j])
  | 0, _ => rfl
  | 1, _ => rfl
  | 2, _ => rfl
  | 3, _ => rfl
  | n + 4, h => absurd h (by simp [four])
/-- The four bytes in a new block, turned into a string. -/
theorem four_conv (c : Nat) (hc : c < 4294967296) (w : World) (t : TypeId) : (convert 22 9 (.slice (some ⟨w.heap.size, 0, none⟩) 4 4)).run Try.prog
      (w.alloc (.cells #[.int .u8 ((c : Int) % 256), .int .u8 ((c : Int) / 256 % 256), .int .u8 ((c : Int) / 65536 % 256), .int .u8 ((c : Int) / 16777216)] t)) =
    .ok (strV (four c)) (w.alloc (.cells #[.int .u8 ((c : Int) % 256), .int .u8 ((c : Int) / 256 % 256), .int .u8 ((c : Int) / 65536 % 256), .int .u8 ((c : Int) / 16777216)] t)) := by
  rw [fourI0, fourI1, fourI2, fourI3 c hc]
  exact block_string (n := 4) Try.underlying22 Try.underlying5 Try.underlying9 (heap_alloc_new _ _) rfl (four_at c)

set_option maxHeartbeats 1000000 in
theorem l01Four_any (c : Nat) (hc : c < 4294967296) (w : World) :
    Calls Try.prog 35 #[.int .i64 c] w fun e w' => e = .returned (strV (four c)) ∧ Below w.heap.size w w' := by
  have hc' : (c : Int) ≤ 4294967295 := by omega
  go_enter Try.func35, Try.ntmps35
  have hconv := four_conv c hc w 5
  go_wp2
  go_ret
  exact ⟨rfl, (Below.refl _ _).alloc (Nat.le_refl _) _⟩
set_option maxHeartbeats 1000000 in
theorem sumOf_any (s : ByteArray) (hs : s.size ≤ 8000) (w : World) :
    Calls Try.prog 34 #[.string s] w fun e w' => e = .returned (strV (four (crcOf 0 s.data.toList))) ∧ Below w.heap.size w w' := by
  have hm : s.size ≤ maxLen := by unfold maxLen; omega
  have hlt : crcOf 0 s.data.toList < 4294967296 := crcOf_lt (c := 0) (by decide) s.data.toList
  have hcr := Lib.hid (show crcMore 0 s = crcOf 0 s.data.toList from crcMore_good (c := 0) (by decide) hs)
  have hc' : (crcOf 0 s.data.toList : Int) ≤ 4294967295 := by omega
  have hconv := four_conv (crcOf 0 s.data.toList) hlt w 54
  go_enter Try.func34, Try.ntmps34
  go_wp2_with (go_at_call 19; refine (implCrc_any s hm _).mono ?_; rintro e w' ⟨rfl, rfl⟩; rw [hcr.out])
  refine wp_loop_rounds 5 ?_
  rw [rounds_succ]; go_wp2
  rw [rounds_succ]; go_wp2
  rw [rounds_succ]; go_wp2
  rw [rounds_succ]; go_wp2
  rw [rounds_succ]; go_wp2
  go_ret
  exact ⟨rfl, (Below.refl _ _).alloc (Nat.le_refl _) _⟩
def sealOf (s : ByteArray) : List UInt8 := if 7996 < s.size then [] else s.data.toList ++ four (crcOf 0 s.data.toList)
theorem sealOf_long (s : ByteArray) (h : 7996 < s.size) : sealOf s = [] := by rw [sealOf, if_pos h]
theorem sealOf_fits (s : ByteArray) (h : s.size ≤ 7996) : sealOf s = s.data.toList ++ four (crcOf 0 s.data.toList) := by rw [sealOf, if_neg (by omega)]
theorem str_add (l : List UInt8) (s : ByteArray) : Value.string (s ++ (⟨l.toArray⟩ : ByteArray)) = strV (s.data.toList ++ l) := by
  unfold strV
  congr 1

set_option maxHeartbeats 1000000 in
theorem specSeal_any (s : ByteArray) (hs : s.size ≤ maxLen) (w : World) :
    Calls Try.prog 13 #[.string s] w fun e w' => e = .returned (strV (sealOf s)) ∧ Below w.heap.size w w' := by
  unfold maxLen at hs
  by_cases hb : s.size ≤ 7996
  · have hb' : ¬ (7996 : Int) < (s.size : Int) := by omega
    have hstr : strV (four (crcOf 0 s.data.toList)) = .string ⟨(four (crcOf 0 s.data.toList)).toArray⟩ := rfl
    have hln : (⟨(four (crcOf 0 s.data.toList)).toArray⟩ : ByteArray).size ≤ 4 := Nat.le_refl _
    go_enter Try.func13, Try.ntmps13
    go_wp2_with (first
      | (go_at_call 36; refine (l01Crc_any 0 (by omega) _ (by omega) _).mono ?_; rintro e w' ⟨rfl, rfl⟩)
      | (go_at_call 35; refine (l01Four_any _ (crcOf_lt (c := 0) (by decide) s.data.toList) _).mono ?_; rintro e w1 ⟨rfl, hb1⟩; replace hb1 := Lib.hid hb1))
    go_ret
    exact ⟨ret_val (show _ = _ from (by rw [sealOf_fits s hb]; exact str_add _ _)), hb1.out⟩
  · have hb' : (7996 : Int) < (s.size : Int) := by omega
    go_enter Try.func13, Try.ntmps13
    go_wp2
    go_ret
    exact ⟨ret_val (by rw [sealOf_long s (by omega)]; rfl), Below.refl _ _⟩

set_option maxHeartbeats 1000000 in
theorem implSeal_any (s : ByteArray) (hs : s.size ≤ maxLen) (w : World) :
    Calls Try.prog 12 #[.string s] w fun e w' => e = .returned (strV (sealOf s)) ∧ Below w.heap.size w w' := by
  unfold maxLen at hs
  by_cases hb : s.size ≤ 7996
  · have hb' : ¬ (7996 : Int) < (s.size : Int) := by omega
    have hstr : strV (four (crcOf 0 s.data.toList)) = .string ⟨(four (crcOf 0 s.data.toList)).toArray⟩ := rfl
    have hln : (⟨(four (crcOf 0 s.data.toList)).toArray⟩ : ByteArray).size ≤ 1048576 := Nat.le_trans (show _ ≤ 4 from Nat.le_refl _) (by decide)
    go_enter Try.func12, Try.ntmps12
    go_wp2_with (first
      | (go_at_call 34; refine (sumOf_any _ (by omega) _).mono ?_; rintro e w1 ⟨rfl, hb1⟩; replace hb1 := Lib.hid hb1)
      | (go_at_call 33; refine (joined_any _ _ (by omega) hln _).mono ?_; rintro e w2 ⟨rfl, hb2⟩; replace hb2 := Lib.hid hb2))
    go_ret
    exact ⟨ret_val (congrArg strV (sealOf_fits s hb).symm), hb1.out.trans (hb2.out.mono hb1.out.size)⟩
  · have hb' : (7996 : Int) < (s.size : Int) := by omega
    go_enter Try.func12, Try.ntmps12
    go_wp2
    go_ret
    exact ⟨ret_val (by rw [sealOf_long s (by omega)]; rfl), Below.refl _ _⟩

def textOutV (t : List UInt8) (at_ code : Int) : Value := .agg #[strV t, .int .i64 at_, .int .i64 code]
def ahead4 (s : ByteArray) : ByteArray := s.extract 0 (s.size - 4)
def last4 (s : ByteArray) : ByteArray := s.extract (s.size - 4) s.size
def sumFits (s : ByteArray) : Bool := decide (s.data.toList = (ahead4 s).data.toList ++ four (crcOf 0 (ahead4 s).data.toList))
def unsealV (s : ByteArray) : Value :=
  if 8000 < s.size then textOutV [] 0 2 else if s.size < 4 then textOutV [] 0 4 else if sumFits s = true then textOutV (ahead4 s).data.toList 0 0 else textOutV [] 0 5

theorem seal_ahead {s : ByteArray} (h : ¬ 8000 < s.size) (h4 : ¬ s.size < 4) : sealOf (s.extract 0 (s.size - 4)) = (ahead4 s).data.toList ++ four (crcOf 0 (ahead4 s).data.toList) := by
  rw [sealOf_fits _ (by rw [ByteArray.size_extract]; omega)]; rfl
theorem fits_no {s : ByteArray} (h : ¬ 8000 < s.size) (h4 : ¬ s.size < 4) (ht : (!sealOf (s.extract 0 (s.size - 4)) == s.toList) = true) : ¬ sumFits s = true := by
  rw [seal_ahead h h4, ByteArray.toList_eq] at ht
  intro hf
  have hf := of_decide_eq_true hf
  rw [← hf] at ht
  simp at ht
theorem fits_yes {s : ByteArray} (h : ¬ 8000 < s.size) (h4 : ¬ s.size < 4) (ht : (!sealOf (s.extract 0 (s.size - 4)) == s.toList) = false) : sumFits s = true := by
  rw [seal_ahead h h4, ByteArray.toList_eq] at ht
  simp at ht
  exact decide_eq_true ht.symm
/-- A new block, calls behind it, stores into it: nothing that was there has turned. -/
theorem below_new {w w1 w2 : World} {o : Obj} (h1 : Below (w.alloc o).heap.size (w.alloc o) w1) (h2 : Below w1.heap.size w1 w2) : Below w.heap.size w w2 := by
  have hz := h1.size
  have e : (w.alloc o).heap.size = w.heap.size + 1 := by simp
  exact (((Below.refl _ _).alloc (Nat.le_refl _) o).trans (h1.mono (by omega))).trans (h2.mono (by omega))
theorem below_set3 {B g : Nat} {w w' : World} (h : Below B w w') (hg : B ≤ g) (x y z : Value) : Below B w (((w'.setCell ⟨g, 0, none⟩ x).setCell ⟨g, 1, none⟩ y).setCell ⟨g, 2, none⟩ z) :=
  ((h.setCell (p := ⟨g, 0, none⟩) hg x).setCell (p := ⟨g, 1, none⟩) hg y).setCell (p := ⟨g, 2, none⟩) hg z
set_option maxHeartbeats 1000000 in
theorem implUnseal_any (s : ByteArray) (hs : s.size ≤ maxLen) (w : World) :
    Calls Try.prog 15 #[.string s] w fun e w' => e = .returned (unsealV s) ∧ Below w.heap.size w w' := by
  unfold maxLen at hs
  by_cases h1 : 8000 < s.size
  · have h1' : (8000 : Int) < (s.size : Int) := by omega
    go_enter Try.func15, Try.ntmps15
    go_wp2
    exact bodyPost_ret (v := textOutV [] 0 2) (by simp [results, Try.results15, go_sem]; rfl) rfl ⟨by rw [unsealV, if_pos h1], (Below.refl _ _).alloc (Nat.le_refl _) _⟩
  · have h1' : ¬ (8000 : Int) < (s.size : Int) := by omega
    by_cases h2 : s.size < 4
    · have h2' : (s.size : Int) < 4 := by omega
      go_enter Try.func15, Try.ntmps15
      go_wp2
      exact bodyPost_ret (v := textOutV [] 0 4) (by simp [results, Try.results15, go_sem]; rfl) rfl ⟨by rw [unsealV, if_neg h1, if_pos h2], (Below.refl _ _).alloc (Nat.le_refl _) _⟩
    · have h2' : ¬ (s.size : Int) < 4 := by omega
      have hstr : strV (sealOf (s.extract 0 (s.size - 4))) = .string ⟨(sealOf (s.extract 0 (s.size - 4))).toArray⟩ := rfl
      go_enter Try.func15, Try.ntmps15
      go_wp2_with (first
        | (go_at_call 37; refine (piece_at _ _ _ 0 (s.size - 4) rfl (by omega) (by omega) (by omega) (by omega) _).mono ?_; rintro e w1 ⟨rfl, hb1⟩; have hT1 := Lib.hid ((Trio.new w _ _ _ _).below hb1 (by simp)); replace hb1 := Lib.hid hb1)
        | (go_at_call 12; refine (implSeal_any _ (by rw [ByteArray.size_extract]; unfold maxLen; omega) _).mono ?_; rintro e w2 ⟨rfl, hb2⟩; have hT2 := hT1.out.below hb2 (by have := hb1.out.size; simp at this; omega); obtain ⟨c0, c1, c2, f0, f1, f2⟩ := hT2.facts; replace hT2 := Lib.hid hT2; replace hb2 := Lib.hid hb2)
        | fail)
      · have ht : (!sealOf (s.extract 0 (s.size - 4)) == s.toList) = true := by assumption
        obtain ⟨d0, d1, d2, _⟩ := (hT2.out.set (.string { data := #[] }) (.int .i64 0) (.int .i64 5)).facts
        refine bodyPost_ret (v := textOutV [] 0 5) (by simp [results, Try.results15, go_sem, d0, d1, d2]; rfl) rfl ⟨by rw [unsealV, if_neg h1, if_neg h2, if_neg (fits_no h1 h2 ht)], below_set3 (below_new hb1.out hb2.out) (Nat.le_refl _) _ _ _⟩
      · have ht : (!sealOf (s.extract 0 (s.size - 4)) == s.toList) = false := by assumption
        obtain ⟨d0, d1, d2, _⟩ := (hT2.out.set (.string (s.extract 0 (s.size - 4))) (.int .i64 0) (.int .i64 0)).facts
        refine bodyPost_ret (v := textOutV (ahead4 s).data.toList 0 0) (by simp [results, Try.results15, go_sem, d0, d1, d2]; rfl) rfl ⟨by rw [unsealV, if_neg h1, if_neg h2, if_pos (fits_yes h1 h2 ht)], below_set3 (below_new hb1.out hb2.out) (Nat.le_refl _) _ _ _⟩
theorem split4 (s : ByteArray) : s.data.toList = (ahead4 s).data.toList ++ (s.extract (s.size - 4) s.size).data.toList := by
  unfold ahead4
  rw [ByteArray.data_extract, ByteArray.data_extract, Array.toList_extract, Array.toList_extract]
  simp [List.extract]
  rw [List.take_of_length_le (l := s.data.toList.drop (s.size - 4)) (by simp), List.take_append_drop]
theorem four_no {s : ByteArray} {C : Nat} (hC : C = crcOf 0 (s.extract 0 (s.size - 4)).data.toList) (ht : (!four C == (s.extract (s.size - 4) s.size).toList) = true) : ¬ sumFits s = true := by
  intro hf
  have hf := of_decide_eq_true hf
  have h := split4 s
  rw [hf] at h
  have h := List.append_cancel_left h
  rw [ByteArray.toList_eq, hC] at ht
  have h' : four (crcOf 0 (s.extract 0 (s.size - 4)).data.toList) = (s.extract (s.size - 4) s.size).data.toList := h
  rw [← h'] at ht
  simp at ht
theorem four_yes {s : ByteArray} {C : Nat} (hC : C = crcOf 0 (s.extract 0 (s.size - 4)).data.toList) (ht : (!four C == (s.extract (s.size - 4) s.size).toList) = false) : sumFits s = true := by
  rw [ByteArray.toList_eq, hC] at ht
  have ht : four (crcOf 0 (s.extract 0 (s.size - 4)).data.toList) = (s.extract (s.size - 4) s.size).data.toList := by
    by_cases e : four (crcOf 0 (s.extract 0 (s.size - 4)).data.toList) = (s.extract (s.size - 4) s.size).data.toList
    · exact e
    · rw [beq_eq_false_iff_ne.2 e] at ht; simp at ht
  refine decide_eq_true ?_
  have h := split4 s
  rw [← ht] at h
  exact h
theorem below_new1 {w w1 : World} {o : Obj} (h1 : Below (w.alloc o).drew.heap.size (w.alloc o).drew w1) : Below w.heap.size w w1 := by
  have e : (w.alloc o).drew.heap.size = w.heap.size + 1 := by show (w.alloc o).heap.size = _; simp
  exact ((Below.refl _ _).alloc (Nat.le_refl _) o).drew.trans (h1.mono (by omega))
set_option maxHeartbeats 1000000 in
theorem specUnseal_any (s : ByteArray) (hs : s.size ≤ maxLen) (w : World) :
    Calls Try.prog 27 #[.string s] w fun e w' => e = .returned (unsealV s) ∧ Below w.heap.size w w' := by
  unfold maxLen at hs
  by_cases h1 : 8000 < s.size
  · have h1' : (8000 : Int) < (s.size : Int) := by omega
    go_enter Try.func27, Try.ntmps27
    go_wp2
    exact bodyPost_ret (v := textOutV [] 0 2) (by simp [results, Try.results27, go_sem]; rfl) rfl ⟨by rw [unsealV, if_pos h1], (Below.refl _ _).alloc (Nat.le_refl _) _⟩
  · have h1' : ¬ (8000 : Int) < (s.size : Int) := by omega
    by_cases h2 : s.size < 4
    · have h2' : (s.size : Int) < 4 := by omega
      go_enter Try.func27, Try.ntmps27
      go_wp2
      exact bodyPost_ret (v := textOutV [] 0 4) (by simp [results, Try.results27, go_sem]; rfl) rfl ⟨by rw [unsealV, if_neg h1, if_pos h2], (Below.refl _ _).alloc (Nat.le_refl _) _⟩
    · have h2' : ¬ (s.size : Int) < 4 := by omega
      obtain ⟨C, hC0⟩ : ∃ C, C = crcOf 0 (s.extract 0 (s.size - 4)).data.toList := ⟨_, rfl⟩
      have hClt : C < 4294967296 := hC0 ▸ crcOf_lt (c := 0) (by decide) _
      replace hC0 := Lib.hid hC0
      replace hClt := Lib.hid hClt
      have hstr : strV (four C) = .string ⟨(four C).toArray⟩ := rfl
      go_enter Try.func27, Try.ntmps27
      go_wp2
      have h4a : (4 : Int) ≤ (s.size : Int) := by omega
      have h4w : IntKind.i64.wrap ((s.size : Int) - 4) = (s.size : Int) - 4 := IntWalk.i64_in _ (by omega)
      have h4c : (s.size : Int) - 4 ≤ (s.size : Int) := by omega
      have h4d : ((s.size : Int) - 4).toNat = s.size - 4 := by clear h4w; omega
      go_region_with (first
        | (go_at_call 36; refine (l01Crc_any 0 (by omega) _ (by rw [ByteArray.size_extract]; omega) _).mono ?_; rintro e w' ⟨rfl, rfl⟩; rw [← hC0.out])
        | (go_at_call 35; refine (l01Four_any _ hClt.out _).mono ?_; rintro e w1 ⟨rfl, hb1⟩; have hT := (Trio.new w 27 (.string { data := #[] }) (.int .i64 0) (.int .i64 0)).drew.below hb1 (by simp); obtain ⟨c0, c1, c2, f0, f1, f2⟩ := hT.facts; replace hT := Lib.hid hT; replace hb1 := Lib.hid hb1))
      clear h4w h4c h4d
      go_wp2
      · have ht : (!four C == (s.extract (s.size - 4) s.size).toList) = true := by assumption
        obtain ⟨d0, d1, d2, _⟩ := (hT.out.set (.string { data := #[] }) (.int .i64 0) (.int .i64 5)).facts
        exact bodyPost_ret (v := textOutV [] 0 5) (by simp [results, Try.results27, go_sem, d0, d1, d2]; rfl) rfl ⟨by rw [unsealV, if_neg h1, if_neg h2, if_neg (four_no hC0.out ht)], below_set3 (below_new1 hb1.out) (Nat.le_refl _) _ _ _⟩
      · have ht : (!four C == (s.extract (s.size - 4) s.size).toList) = false := by assumption
        obtain ⟨d0, d1, d2, _⟩ := (hT.out.set (.string (s.extract 0 (s.size - 4))) (.int .i64 0) (.int .i64 0)).facts
        exact bodyPost_ret (v := textOutV (ahead4 s).data.toList 0 0) (by simp [results, Try.results27, go_sem, d0, d1, d2]; rfl) rfl ⟨by rw [unsealV, if_neg h1, if_neg h2, if_pos (four_yes hC0.out ht)], below_set3 (below_new1 hb1.out) (Nat.le_refl _) _ _ _⟩
theorem below_new2 {w w1 : World} {o : Obj} (h1 : Below (w.alloc o).heap.size (w.alloc o) w1) : Below w.heap.size w w1 := by
  have e : (w.alloc o).heap.size = w.heap.size + 1 := by simp
  exact ((Below.refl _ _).alloc (Nat.le_refl _) o).trans (h1.mono (by omega))
/-- A new block ahead of a call that leaves all below its own world's size: seen from an elder base. -/
theorem below_in {B : Nat} {w w1 : World} {o : Obj} (h1 : Below (w.alloc o).heap.size (w.alloc o) w1) (hB : B ≤ w.heap.size) : Below B w w1 := (below_new2 h1).mono hB
theorem unsealV_form (s : ByteArray) : ∃ (t : ByteArray) (a c : Int), unsealV s = .agg #[.string t, .int .i64 a, .int .i64 c] := by
  unfold unsealV
  split
  · exact ⟨_, _, _, rfl⟩
  · split
    · exact ⟨_, _, _, rfl⟩
    · split
      · exact ⟨_, _, _, rfl⟩
      · exact ⟨_, _, _, rfl⟩
set_option maxHeartbeats 1000000 in
theorem eqTextOut_same (t : ByteArray) (a c : Int) (w : World) :
    Calls Try.prog 28 #[.agg #[.string t, .int .i64 a, .int .i64 c], .agg #[.string t, .int .i64 a, .int .i64 c]] w fun e w' => e = .returned (.bool true) ∧ Below w.heap.size w w' := by
  go_enter Try.func28, Try.ntmps28
  go_wp2
  go_ret
  exact ⟨rfl, ((Below.refl _ _).alloc (Nat.le_refl _) _).alloc (by simp) _⟩
end Go.Proofs.Ytgbfndfjcolpjaa
