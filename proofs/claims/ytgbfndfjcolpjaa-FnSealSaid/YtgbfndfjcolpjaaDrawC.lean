/- The law's own small draw, and the inputs of Seal and CrcMore. -/
import Derived.Test.YtgbfndfjcolpjaaDrawB
import Derived.Test.YtgbfndfjcolpjaaTurn
namespace Go.Proofs.Ytgbfndfjcolpjaa
open Go.RowKit

set_option maxRecDepth 100000 in
set_option maxHeartbeats 2000000 in
theorem lwAt_any (A : Option Addr) (len cap B i : Nat) (n : Int) (hi : i < 1000000) (hn : n ≤ 9223372036854775807) (w : World) (hr : Readable w B A len) :
    Calls Try.prog 14 #[.slice A len cap, .int .i64 (i : Int), .int .i64 n] w fun e w' => NumEnd n e ∧ w = w' := by
  have hr1 := hr.1
  by_cases h1 : n ≤ 1
  · clear hr
    go_enter Try.func14, Try.ntmps14
    go_wp2
    go_ret
    exact ⟨⟨0, .inl rfl, rfl⟩, rfl⟩
  · by_cases h0 : len = 0
    · subst h0
      clear hr
      go_enter Try.func14, Try.ntmps14
      go_wp2
      go_ret
      exact ⟨⟨0, .inl rfl, rfl⟩, rfl⟩
    · obtain ⟨b, off, rfl, hbB, hcell⟩ := hr.2 (by omega)
      obtain ⟨q, hq, hcq⟩ := hcell (i % len) (Nat.mod_lt _ (by omega))
      have hr' := Lib.hid hr
      have hmod : i % len < len := Nat.mod_lt _ (by omega)
      clear hr hcell
      have h0' : ¬ (len : Int) = 0 := by omega
      go_enter Try.func14, Try.ntmps14
      go_wp2
      go_ret
      refine ⟨⟨((q : Int) % n).toNat, .inr ?_, ?_⟩, rfl⟩
      · rw [Int.toNat_of_nonneg (Int.emod_nonneg _ (by omega))]; exact Int.emod_lt_of_pos _ (by omega)
      · rw [Int.toNat_of_nonneg (Int.emod_nonneg _ (by omega))]; rfl
/-- A text of at most m bytes. -/
def StrEnd (m : Nat) (e : Ending) : Prop := ∃ s : ByteArray, s.size ≤ m ∧ e = .returned (.string s)
theorem TextEnd.str {n m : Nat} {e : Ending} (h : TextEnd n e) (hn : n ≤ m) : StrEnd m e := by
  obtain ⟨l, hl, rfl⟩ := h
  exact ⟨⟨l.toArray⟩, by show l.toArray.size ≤ m; simp; omega, rfl⟩
theorem StrEnd.of {m : Nat} (l : List UInt8) (h : l.length ≤ m) : StrEnd m (.returned (strV l)) := ⟨⟨l.toArray⟩, by show l.toArray.size ≤ m; simpa using h, rfl⟩
theorem own_zeros {w : World} {base n : Nat} {e : TypeId} {v : Value} (h : w.ownsRow base e 1 v n (madeCells (Value.int .u8 0).cells (n * 1)).toList) : OwnBytes w base e v (List.replicate n 0) := by
  have e1 : (madeCells (Value.int .u8 0).cells (n * 1)).toList = (List.replicate n (0 : UInt8)).map byteV := by
    rw [List.map_replicate, Nat.mul_one]
    unfold madeCells
    simp only [Value.cells, Array.toList_map, Array.toList_range]
    have e2 : (fun x : Nat => (#[Value.int IntKind.u8 0] : Array Value)[x % (#[Value.int IntKind.u8 0] : Array Value).size]!) = fun _ => byteV 0 := by
      funext x
      show (#[Value.int IntKind.u8 0] : Array Value)[x % 1]! = _
      rw [Nat.mod_one]; rfl
    rw [e2, List.map_const', List.length_range]
  unfold OwnBytes
  rw [← e1, List.length_replicate]; exact h
theorem below_step {b g : Nat} {w w1 w2 : World} (h : Below b w w1) (k : w1.grownBy w2 (some g)) (hb : b ≤ w.heap.size) (hg : b ≤ g) : Below b w w2 :=
  h.grown k (Nat.le_trans hb h.size) (fun _ e => by cases e; exact hg)
set_option maxRecDepth 100000 in
set_option maxHeartbeats 2000000 in
theorem drawSeal_any (A : Option Addr) (len cap B : Nat) (w : World) (hB : B ≤ w.heap.size) (hr : Readable w B A len) :
    Calls Try.prog 11 #[.slice A len cap] w fun e w' => StrEnd 20000 e ∧ Below w.heap.size w w' := by
  obtain ⟨i0, hi, hz0, hz1, hz2⟩ := info_parts Try.uinfo5
  have hr' := Lib.hid hr
  have hr1 := hr.1
  clear hr
  go_enter Try.func11, Try.ntmps11
  go_wp2_with (first
    | (go_at_call 29; refine (source_any A len cap B _ hB hr'.out).mono ?_; rintro e w1 ⟨rfl, hs, hb⟩; replace hs := Lib.hid hs; replace hb := Lib.hid hb)
    | (go_at_call 30; refine (one_any _ _ A len B (by omega) _ hs.out).mono ?_; rintro e w2 ⟨⟨q, rfl⟩, hs', hg⟩; replace hs := Lib.hid hs'; replace hb := Lib.hid (below_step hb.out hg (Nat.le_refl _) (Nat.le_refl _)); clear hg hs')
    | (go_at_call 31; refine (n_any _ _ A len B (by omega) _ hs.out).mono ?_; rintro e w3 ⟨⟨v, hv, rfl⟩, hs', hg⟩; have hv2 : (v : Int) < 100 := (by omega); replace hs := Lib.hid hs'; replace hb := Lib.hid (below_step hb.out hg (Nat.le_refl _) (Nat.le_refl _)); clear hg hs')
    | (go_at_call 32; refine (bytes_any _ _ A len B (by omega) _ hs.out).mono ?_; rintro e w4 ⟨⟨l, hl, rfl⟩, hs', hg⟩; replace hs := Lib.hid hs'; replace hb := Lib.hid (below_step hb.out hg (Nat.le_refl _) (Nat.le_refl _)); clear hg hs')
    | (at_make; refine wpList_make_full _ rfl _ _ _ rfl w.heap.size 5 i0 (.int .u8 0) 1 Try.underlying22 hi hz0 hz1 _ _ _ _ (19995 + v) rfl rfl (by first | rfl | omega) (by first | rfl | omega) (by rw [hz2]; omega) (by unfold maxLen; omega) hb.out.size ?_; intro w5 ho hg; have hconv := own_string (P := Try.prog) (dst := 9) Try.underlying22 Try.underlying5 Try.underlying9 (own_zeros ho); replace hb := Lib.hid (hb.out.grown hg hb.out.size (fun _ e => by cases e)); clear ho hg))
  all_goals go_ret
  · exact ⟨StrEnd.of (List.replicate (19995 + v) 0) (by rw [List.length_replicate]; omega), hb.out⟩
  · exact ⟨StrEnd.of l (by omega), hb.out⟩
theorem crcMore_lt (c : Int) (s : ByteArray) : crcMore c s < 4294967296 := by
  unfold crcMore
  split
  · decide
  · exact crcOf_lt (by omega) _
def CrcEnd (e : Ending) : Prop := ∃ (x : Int) (s : ByteArray), (-9223372036854775808 ≤ x ∧ x ≤ 9223372036854775807) ∧ s.size ≤ 9 ∧ e = .returned (.tuple #[.int .i64 x, .string s])
set_option maxRecDepth 100000 in
set_option maxHeartbeats 2000000 in
theorem drawCrcMore_any (A : Option Addr) (len cap B : Nat) (w : World) (hB : B ≤ w.heap.size) (hr : Readable w B A len) :
    Calls Try.prog 16 #[.slice A len cap] w fun e w' => CrcEnd e ∧ Below w.heap.size w w' := by
  have hr' := Lib.hid hr
  have hr1 := hr.1
  clear hr
  go_enter Try.func16, Try.ntmps16
  go_wp2_with (first
    | (go_at_call 29; refine (source_any A len cap B _ hB hr'.out).mono ?_; rintro e w1 ⟨rfl, hs, hb⟩; replace hs := Lib.hid hs; replace hb := Lib.hid hb)
    | (go_at_call 30; refine (one_any _ _ A len B (by omega) _ hs.out).mono ?_; rintro e w2 ⟨⟨q, rfl⟩, hs', hg⟩; replace hs := Lib.hid hs'; replace hb := Lib.hid (below_step hb.out hg (Nat.le_refl _) (Nat.le_refl _)); clear hg hs')
    | (go_at_call 31; refine (n_any _ _ A len B (by omega) _ hs.out).mono ?_; rintro e w3 ⟨⟨v, hv, rfl⟩, hs', hg⟩; have hv2 : (v : Int) < 100 := (by omega); replace hs := Lib.hid hs'; replace hb := Lib.hid (below_step hb.out hg (Nat.le_refl _) (Nat.le_refl _)); clear hg hs')
    | (go_at_call 32; refine (bytes_any _ _ A len B (by omega) _ hs.out).mono ?_; rintro e w4 ⟨⟨l, hl, rfl⟩, hs', hg⟩; replace hs := Lib.hid hs'; replace hb := Lib.hid (below_step hb.out hg (Nat.le_refl _) (Nat.le_refl _)); clear hg hs'; obtain ⟨s, hs2, hs3⟩ : ∃ s : ByteArray, strV l = .string s ∧ s.size ≤ 9 := ⟨⟨l.toArray⟩, rfl, (by show l.toArray.size ≤ 9; simp; omega)⟩; rw [hs2]; clear hs2)
    | (go_at_call 38; refine (edge_any _ A len B _ hs.out).mono ?_; rintro e w5 ⟨⟨x, hx, rfl⟩, hs', hg⟩; replace hs := Lib.hid hs'; replace hb := Lib.hid (below_step hb.out hg (Nat.le_refl _) (Nat.le_refl _)); clear hg hs')
    | (go_at_call 26; have hcl := crcMore_lt 0 s; refine (specCrc_any s (by unfold maxLen; omega) _).mono ?_; rintro e w6 ⟨rfl, rfl⟩))
  · exact bodyPost_ret (v := .tuple #[.int .i64 x, .string s]) (by simp [results, Try.results16, go_sem]) rfl ⟨⟨_, _, hx, hs3, rfl⟩, hb.out⟩
  · rename_i s1 hs1 _
    exact bodyPost_ret (v := .tuple #[.int .i64 ((crcMore 0 s : Nat) : Int), .string s1]) (by simp [results, Try.results16, go_sem]) rfl ⟨⟨_, _, by omega, hs1, rfl⟩, hb.out⟩
end Go.Proofs.Ytgbfndfjcolpjaa
