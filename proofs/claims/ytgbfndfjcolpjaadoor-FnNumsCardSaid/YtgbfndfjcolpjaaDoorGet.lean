/- A number read: the plain function, and that the model's and the program's GetNum compute it. -/
import Derived.Test.YtgbfndfjcolpjaaDoorAs
import Derived.Test.YtgbfndfjcolpjaaDoorText
import Derived.Test.YtgbfndfjcolpjaaDoorLabels
namespace Go.Proofs.YtgbfndfjcolpjaaDoor
open Go.RowKit

/-- What stands from place a on, i bytes read, u gathered: the code, the number folded, the place behind it. -/
def scan (s : ByteArray) (a : Nat) : Nat → Nat → Nat → Nat × Nat × Nat
  | 0, _, _ => (3, 0, 0)
  | f + 1, i, u =>
    if s.size ≤ a + i then (4, 0, 0)
    else if i = 9 ∧ 1 < (s.data.getD (a + i) 0).toNat then (3, 0, 0)
    else if (s.data.getD (a + i) 0).toNat < 128 then
      (if (s.data.getD (a + i) 0).toNat = 0 ∧ 0 < i then (3, 0, 0) else (0, u + (s.data.getD (a + i) 0).toNat % 128 * 2 ^ (7 * i), a + i + 1))
    else scan s a f (i + 1) (u + (s.data.getD (a + i) 0).toNat % 128 * 2 ^ (7 * i))
theorem scan_short {s : ByteArray} {a f i u : Nat} (h : s.size ≤ a + i) : scan s a (f + 1) i u = (4, 0, 0) := by rw [scan, if_pos h]
theorem at_byte {s : ByteArray} {k : Nat} (hk : k < s.size) : s.data.getD k 0 = s[k] := by
  unfold Array.getD
  rw [dif_pos (show k < s.data.size from hk)]; rfl
theorem scan_ten {s : ByteArray} {a f u : Nat} (h : a + 9 < s.size) (h1 : 1 < s[a + 9].toNat) : scan s a (f + 1) 9 u = (3, 0, 0) := by
  rw [scan, if_neg (by omega), at_byte h, if_pos ⟨rfl, h1⟩]
theorem scan_end {s : ByteArray} {a f i u : Nat} (h : a + i < s.size) (h9 : i = 9 → s[a + i].toNat ≤ 1) (hc : s[a + i].toNat < 128) :
    scan s a (f + 1) i u = if s[a + i].toNat = 0 ∧ 0 < i then (3, 0, 0) else (0, u + s[a + i].toNat % 128 * 2 ^ (7 * i), a + i + 1) := by
  rw [scan, if_neg (by omega), at_byte h, if_neg (by rintro ⟨h1, h2⟩; have := h9 h1; omega), if_pos hc]
theorem scan_on {s : ByteArray} {a f i u : Nat} (h : a + i < s.size) (h9 : i < 9) (hc : 128 ≤ s[a + i].toNat) :
    scan s a (f + 1) i u = scan s a f (i + 1) (u + s[a + i].toNat % 128 * 2 ^ (7 * i)) := by
  rw [scan, if_neg (by omega), at_byte h, if_neg (by omega), if_neg (by omega)]

/-- Where the reading is: at place p, i bytes read, u gathered, the next bit is b. -/
def St (s : ByteArray) (a p i u b : Nat) : Prop := p = a + i ∧ b = 7 * i ∧ i ≤ 9 ∧ u < 2 ^ b ∧ scan s a 10 0 0 = scan s a (10 - i) i u
def gath (u c b : Nat) : Nat := u + c % 128 * 2 ^ b
theorem St.start (s : ByteArray) (a : Nat) : St s a a 0 0 0 := ⟨rfl, rfl, by omega, by decide, rfl⟩
theorem St.short {s : ByteArray} {a p i u b : Nat} (h : St s a p i u b) (hp : s.size ≤ p) : scan s a 10 0 0 = (4, 0, 0) := by
  obtain ⟨h1, h2, h3, h4, h5⟩ := h
  rw [h5, show 10 - i = (9 - i) + 1 by omega]
  exact scan_short (by omega)
theorem St.ten {s : ByteArray} {a p i u b : Nat} (h : St s a p i u b) (hp : p < s.size) (hb : b = 63) (hc : 1 < s[p].toNat) : scan s a 10 0 0 = (3, 0, 0) := by
  obtain ⟨h1, h2, h3, h4, h5⟩ := h
  obtain rfl : i = 9 := by omega
  subst h1
  rw [h5]
  exact scan_ten hp hc
theorem gath_lt {u b c : Nat} (hb : b ≤ 63) (hu : u < 2 ^ b) (hi : b ≤ 56 ∨ c ≤ 1) : c % 128 * 2 ^ b < 18446744073709551616 ∧ gath u c b < 18446744073709551616 := by
  unfold gath
  rcases hi with h | h
  · have h1 : 2 ^ b ≤ 2 ^ 56 := Nat.pow_le_pow_right (by decide) h
    have h2 : c % 128 * 2 ^ b ≤ 127 * 2 ^ 56 := Nat.mul_le_mul (by omega) h1
    omega
  · have h1 : 2 ^ b ≤ 2 ^ 63 := Nat.pow_le_pow_right (by decide) hb
    have h2 : c % 128 * 2 ^ b ≤ 1 * 2 ^ 63 := Nat.mul_le_mul (by omega) h1
    omega
theorem St.last {s : ByteArray} {a p i u b : Nat} (h : St s a p i u b) (hp : p < s.size) (h63 : b = 63 → s[p].toNat ≤ 1) (hc : s[p].toNat < 128) :
    scan s a 10 0 0 = (if s[p].toNat = 0 ∧ 0 < b then (3, 0, 0) else (0, gath u s[p].toNat b, p + 1)) ∧ gath u s[p].toNat b < 18446744073709551616 ∧ s[p].toNat % 128 * 2 ^ b < 18446744073709551616 ∧ u < 2 ^ b ∧ b ≤ 63 := by
  obtain ⟨h1, h2, h3, h4, h5⟩ := h
  have hl := gath_lt (u := u) (b := b) (c := s[p].toNat) (by omega) h4 (by by_cases e : b = 63; exact .inr (h63 e); exact .inl (by omega))
  refine ⟨?_, hl.2, hl.1, h4, by omega⟩
  subst h1
  rw [h5, show 10 - i = (9 - i) + 1 by omega, scan_end hp (fun e => h63 (by omega)) hc]
  subst h2
  have e : (0 < i) = (0 < 7 * i) := by simp
  simp only [e]; rfl
theorem St.next {s : ByteArray} {a p i u b : Nat} (h : St s a p i u b) (hp : p < s.size) (hb : ¬ b = 63) (hc : 128 ≤ s[p].toNat) :
    St s a (p + 1) (i + 1) (gath u s[p].toNat b) (b + 7) ∧ s[p].toNat % 128 * 2 ^ b < 18446744073709551616 ∧ u < 2 ^ b ∧ b ≤ 56 := by
  obtain ⟨h1, h2, h3, h4, h5⟩ := h
  have hl := gath_lt (u := u) (b := b) (c := s[p].toNat) (by omega) h4 (.inl (by omega))
  refine ⟨⟨by omega, by omega, by omega, ?_, ?_⟩, hl.1, h4, by omega⟩
  · unfold gath
    have h2 : s[p].toNat % 128 * 2 ^ b ≤ 127 * 2 ^ b := Nat.mul_le_mul_right _ (by omega)
    have h3 : 2 ^ (b + 7) = 128 * 2 ^ b := by rw [Nat.pow_add]; omega
    omega
  · subst h1
    rw [h5, show 10 - i = (9 - i) + 1 by omega, scan_on hp (by omega) hc, show 10 - (i + 1) = 9 - i by omega]
    subst h2; rfl
/-- The byte put in, as the walk spells it. -/
theorem gath_bits {u b c : Nat} (hb : b ≤ 63) (hu : u < 2 ^ b) (hc : c < 256) (hp : c % 128 * 2 ^ b < 18446744073709551616) :
    bits BinOp.or IntKind.u64 (u : Int) (IntKind.u64.wrap (IntKind.u64.wrap (bits BinOp.and IntKind.u8 (c : Int) 127) * 2 ^ b)) = ((gath u c b : Nat) : Int) := by
  have e1 : bits BinOp.and IntKind.u8 (c : Int) 127 = ((c % 128 : Nat) : Int) := by
    have := u8_and_nat c 127 hc (by omega)
    rw [nat_mask7] at this
    exact this
  have hu64 : u < 18446744073709551616 := Nat.lt_of_lt_of_le hu (Nat.le_trans (Nat.pow_le_pow_right (by decide) hb) (by decide))
  rw [e1, show IntKind.u64.wrap ((c % 128 : Nat) : Int) = ((c % 128 : Nat) : Int) by rw [IntKind.wrap_u64]; omega]
  have e2 : ((c % 128 : Nat) : Int) * 2 ^ b = ((c % 128 * 2 ^ b : Nat) : Int) := by rw [Int.natCast_mul, Int.natCast_pow]; rfl
  rw [e2, show IntKind.u64.wrap ((c % 128 * 2 ^ b : Nat) : Int) = ((c % 128 * 2 ^ b : Nat) : Int) by rw [IntKind.wrap_u64]; omega, u64_or_nat _ _ hu64 hp, Nat.or_comm,
    nat_join b _ _ (Nat.mul_mod_left _ _) hu, Nat.add_comm]
  rfl
theorem gath_bits63 {u c : Nat} (hu : u < 2 ^ 63) (hc : c < 256) (hp : c % 128 * 2 ^ 63 < 18446744073709551616) :
    bits BinOp.or IntKind.u64 (u : Int) (IntKind.u64.wrap (IntKind.u64.wrap (bits BinOp.and IntKind.u8 (c : Int) 127) * 9223372036854775808)) = ((gath u c 63 : Nat) : Int) := gath_bits (b := 63) (by omega) hu hc hp

/-- What holds at the labels: 0: more; 1: wrong; 2: last. -/
def RJ (s : ByteArray) (a : Nat) (w0 : World) : Nat → Act → World → Prop
  | 0, a', w => w0 = w ∧ ∃ (p i u b : Nat) (u2 u3 u4 u5 u6 u8 u10 u11 u12 u13 u14 u15 u16 u17 u18 u19 u20 u21 u22 u23 u24 u25 u26 u27 u28 u29 u30 u31 u32 u33 u34 u35 u36 u37 u38 u39 u40 u41 u42 u43 u44 u45 u46 u47 u48 u49 u50 u51 u52 u53 u54 u55 u56 u57 : Value), a' = { tmps := #[.string s, .int .i64 (p : Int), u2, u3, u4, u5, u6, .int .u64 (u : Int), u8, .int .i64 (b : Int), u10, u11, u12, u13, u14, u15, u16, u17, u18, u19, u20, u21, u22, u23, u24, u25, u26, u27, u28, u29, u30, u31, u32, u33, u34, u35, u36, u37, u38, u39, u40, u41, u42, u43, u44, u45, u46, u47, u48, u49, u50, u51, u52, u53, u54, u55, u56, u57], defers := [] } ∧ Hid (St s a p i u b)
  | 1, a', w => w0 = w ∧ ∃ (u1 u2 u3 u4 u5 u6 u7 u8 u9 u10 u11 u12 u13 u14 u15 u16 u17 u18 u19 u20 u21 u22 u23 u24 u25 u26 u27 u28 u29 u30 u31 u32 u33 u34 u35 u36 u37 u38 u39 u40 u41 u42 u43 u44 u45 u46 u47 u48 u49 u50 u51 u52 u53 u54 u55 u56 u57 : Value), a' = { tmps := #[.string s, u1, u2, u3, u4, u5, u6, u7, u8, u9, u10, u11, u12, u13, u14, u15, u16, u17, u18, u19, u20, u21, u22, u23, u24, u25, u26, u27, u28, u29, u30, u31, u32, u33, u34, u35, u36, u37, u38, u39, u40, u41, u42, u43, u44, u45, u46, u47, u48, u49, u50, u51, u52, u53, u54, u55, u56, u57], defers := [] } ∧ Hid (scan s a 10 0 0 = (3, 0, 0))
  | 2, a', w => w0 = w ∧ ∃ (p u b c : Nat) (u2 u3 u4 u5 u6 u10 u11 u12 u13 u14 u15 u16 u17 u18 u19 u20 u21 u22 u23 u24 u25 u26 u27 u28 u29 u30 u31 u32 u33 u34 u35 u36 u37 u38 u39 u40 u41 u42 u43 u44 u45 u46 u47 u48 u49 u50 u51 u52 u53 u54 u55 u56 u57 : Value), a' = { tmps := #[.string s, .int .i64 (p : Int), u2, u3, u4, u5, u6, .int .u64 (u : Int), .int .u8 (c : Int), .int .i64 (b : Int), u10, u11, u12, u13, u14, u15, u16, u17, u18, u19, u20, u21, u22, u23, u24, u25, u26, u27, u28, u29, u30, u31, u32, u33, u34, u35, u36, u37, u38, u39, u40, u41, u42, u43, u44, u45, u46, u47, u48, u49, u50, u51, u52, u53, u54, u55, u56, u57], defers := [] } ∧ Hid (p ≤ 8000 ∧ b ≤ 63 ∧ u < 18446744073709551616 ∧ c < 128 ∧ scan s a 10 0 0 = if c = 0 ∧ 0 < b then (3, 0, 0) else (0, u, p))
  | _, _, _ => False
def Rμ : Nat → Act → World → Nat
  | 0, a', _ => 1000 - (intOf (a'.tmps.getD 9 undef)).toNat
  | 2, _, _ => 1
  | _, _, _ => 0
/-- A folded number taken back. -/
def unfoldN (u : Nat) : Int := if u % 2 = 0 then (u / 2 : Nat) else -((u / 2 : Nat) : Int) - 1
/-- What readNum answers. -/
def numV (r : Nat × Nat × Nat) : Value :=
  if r.1 = 0 then .tuple #[.int .i64 (unfoldN r.2.1), .int .i64 (r.2.2 : Int), .nilIface] else .tuple #[.int .i64 0, .int .i64 0, .iface 49 (.agg #[.int .i64 (r.1 : Int)])]

theorem unfold_bits (u : Nat) (hu : u < 18446744073709551616) : bits BinOp.xor IntKind.i64 ((u : Int) / 2) (wrap64 (-wrap64 (bits BinOp.and IntKind.u64 (u : Int) 1))) = unfoldN u := by
  have e1 : bits BinOp.and IntKind.u64 (u : Int) 1 = ((u % 2 : Nat) : Int) := by
    have := u64_and_nat u 1 hu (by omega)
    rw [nat_mask1] at this
    exact this
  rw [e1]
  unfold unfoldN
  by_cases h : u % 2 = 0
  · rw [if_pos h, h, show wrap64 (-wrap64 ((0 : Nat) : Int)) = ((0 : Nat) : Int) by unfold wrap64; rfl]
    show IntKind.i64.wrap ((BitVec.ofInt 64 ((u : Int) / 2) ^^^ BitVec.ofInt 64 ((0 : Nat) : Int)).toNat : Int) = _
    rw [show BitVec.ofInt 64 ((0 : Nat) : Int) = 0#64 by rfl, BitVec.xor_zero, show ((u : Int) / 2) = ((u / 2 : Nat) : Int) from rfl, BitVec.ofInt_natCast, BitVec.toNat_ofNat, Nat.mod_eq_of_lt (by omega), IntKind.wrap_i64]
    omega
  · rw [if_neg h, show u % 2 = 1 by omega, show wrap64 (-wrap64 ((1 : Nat) : Int)) = -1 by unfold wrap64; rfl]
    show IntKind.i64.wrap ((BitVec.ofInt 64 ((u : Int) / 2) ^^^ BitVec.ofInt 64 (-1)).toNat : Int) = _
    rw [show BitVec.ofInt 64 (-1) = BitVec.allOnes 64 by rfl, BitVec.xor_allOnes, BitVec.toNat_not, show ((u : Int) / 2) = ((u / 2 : Nat) : Int) from rfl, BitVec.ofInt_natCast, BitVec.toNat_ofNat, Nat.mod_eq_of_lt (show u / 2 < 2 ^ 64 by omega), IntKind.wrap_i64]
    omega
set_option maxHeartbeats 1000000 in
theorem unfolded_any (u : Nat) (hu : u < 18446744073709551616) (w : World) :
    Calls Tryd.prog 30 #[.int .u64 u] w fun e w' => e = .returned (.int .i64 (unfoldN u)) ∧ w = w' := by
  have hu' : (u : Int) ≤ 18446744073709551615 := by omega
  go_enter Tryd.func30, Tryd.ntmps30
  go_wp2
  go_ret
  exact ⟨ret_int (unfold_bits u hu), rfl⟩
set_option maxRecDepth 100000 in
set_option maxHeartbeats 4000000 in
theorem readNum_good (s : ByteArray) (a : Nat) (h8 : s.size ≤ 8000) (ha : a ≤ 9223372036854775807) (w : World) :
    Calls Tryd.prog 22 #[.string s, .int .i64 a] w fun e w' => e = .returned (numV (scan s a 10 0 0)) ∧ w = w' := by
  have h8' : ¬ (8000 : Int) < (s.size : Int) := by omega
  have h0' : ¬ (a : Int) < 0 := by omega
  have hA := Lib.hid ha
  clear ha
  go_enter Tryd.func22, Tryd.ntmps22
  go_wp2
  refine wp_scope_labels2 (RJ s a w) Rμ ?_ ?_
  · intro l a' w' hJ
    match l, hJ with
    | 0, hJ =>
      obtain ⟨rfl, p, i, u, b, u2, u3, u4, u5, u6, u8, u10, u11, u12, u13, u14, u15, u16, u17, u18, u19, u20, u21, u22, u23, u24, u25, u26, u27, u28, u29, u30, u31, u32, u33, u34, u35, u36, u37, u38, u39, u40, u41, u42, u43, u44, u45, u46, u47, u48, u49, u50, u51, u52, u53, u54, u55, u56, u57, rfl, hH⟩ := hJ
      refine ⟨_, rfl, ?_⟩
      have hb63 : b ≤ 63 := by have := hH.out.2.1; have := hH.out.2.2.1; omega
      have hp9 : p ≤ 9223372036854775807 + 9 := by have := hH.out.1; have := hH.out.2.2.1; have := hA.out; omega
      by_cases hp : s.size ≤ p
      · have hp' : (s.size : Int) ≤ (p : Int) := by omega
        have hE := Lib.hid (hH.out.short hp)
        clear hp9
        go_wp2
        rw [jumpsTo_ret]
        go_ret3
        exact ⟨ret_val (congrArg numV hE.out).symm, rfl⟩
      · have hp' : p < s.size := by omega
        have hp2 : ¬ (s.size : Int) ≤ (p : Int) := by omega
        have hc256 : s[p].toNat < 256 := s[p].toNat_lt
        clear hp9
        by_cases hi : b = 63
        · subst hi
          by_cases hc1 : 1 < s[p].toNat
          · have hc1' : (1 : Int) < (s[p].toNat : Int) := by omega
            have hE := Lib.hid (hH.out.ten hp' rfl hc1)
            go_wp2
            go_step3
            show RJ s a w 1 _ _ ∧ _
            exact ⟨⟨rfl, _, _, _, _, _, _, _, _, _, _, _, _, _, _, _, _, _, _, _, _, _, _, _, _, _, _, _, _, _, _, _, _, _, _, _, _, _, _, _, _, _, _, _, _, _, _, _, _, _, _, _, _, _, _, _, _, _, rfl, hE⟩, by show (0 : Nat) < 1000 - (intOf (Value.int IntKind.i64 (63 : Int))).toNat; decide⟩
          · have hc1' : (s[p].toNat : Int) ≤ 1 := by omega
            have hc128 : (s[p].toNat : Int) < 128 := by omega
            have hL := Lib.hid (hH.out.last hp' (fun _ => by omega) (by omega))
            have hG := Lib.hid (gath_bits63 (c := s[p].toNat) hL.out.2.2.2.1 hc256 hL.out.2.2.1)
            go_wp2
            go_step3
            show RJ s a w 2 _ _ ∧ _
            exact ⟨⟨rfl, p + 1, gath u s[p].toNat 63, 63, s[p].toNat, _, _, _, _, _, _, _, _, _, _, _, _, _, _, _, _, _, _, _, _, _, _, _, _, _, _, _, _, _, _, _, _, _, _, _, _, _, _, _, _, _, _, _, _, _, _, _, _, _, _, _, _, _, by rw [hG.out]; rfl, show _ ∧ _ from ⟨by omega, by omega, hL.out.2.1, by omega, hL.out.1⟩⟩, by show (1 : Nat) < 1000 - (intOf (Value.int IntKind.i64 (63 : Int))).toNat; decide⟩
        · have hi' : ((b : Int) == 63) = false := by simp; omega
          by_cases hc1 : s[p].toNat < 128
          · have hc128 : (s[p].toNat : Int) < 128 := by omega
            have hL := Lib.hid (hH.out.last hp' (fun e => absurd e hi) hc1)
            have hG := Lib.hid (gath_bits (c := s[p].toNat) hb63 hL.out.2.2.2.1 hc256 hL.out.2.2.1)
            go_wp2
            go_step3
            show RJ s a w 2 _ _ ∧ _
            exact ⟨⟨rfl, p + 1, gath u s[p].toNat b, b, s[p].toNat, _, _, _, _, _, _, _, _, _, _, _, _, _, _, _, _, _, _, _, _, _, _, _, _, _, _, _, _, _, _, _, _, _, _, _, _, _, _, _, _, _, _, _, _, _, _, _, _, _, _, _, _, _, by rw [hG.out]; rfl, show _ ∧ _ from ⟨by omega, hb63, hL.out.2.1, by omega, hL.out.1⟩⟩, by show (1 : Nat) < 1000 - (intOf (Value.int IntKind.i64 (b : Int))).toNat; simp only [intOf]; omega⟩
          · have hc128 : ¬ (s[p].toNat : Int) < 128 := by omega
            have hL := Lib.hid (hH.out.next hp' hi (by omega))
            have hG := Lib.hid (gath_bits (c := s[p].toNat) hb63 hL.out.2.2.1 hc256 hL.out.2.1)
            go_wp2
            go_step3
            show RJ s a w 0 _ _ ∧ _
            exact ⟨⟨rfl, p + 1, i + 1, gath u s[p].toNat b, b + 7, _, _, _, _, _, _, _, _, _, _, _, _, _, _, _, _, _, _, _, _, _, _, _, _, _, _, _, _, _, _, _, _, _, _, _, _, _, _, _, _, _, _, _, _, _, _, _, _, _, _, _, _, _, _, by rw [hG.out]; rfl, hL.out.1⟩, by show 1000 - (intOf (Value.int IntKind.i64 ((b : Int) + 7))).toNat < 1000 - (intOf (Value.int IntKind.i64 (b : Int))).toNat; simp only [intOf]; omega⟩
    | 1, hJ =>
      obtain ⟨rfl, u1, u2, u3, u4, u5, u6, u7, u8, u9, u10, u11, u12, u13, u14, u15, u16, u17, u18, u19, u20, u21, u22, u23, u24, u25, u26, u27, u28, u29, u30, u31, u32, u33, u34, u35, u36, u37, u38, u39, u40, u41, u42, u43, u44, u45, u46, u47, u48, u49, u50, u51, u52, u53, u54, u55, u56, u57, rfl, hH⟩ := hJ
      refine ⟨_, rfl, ?_⟩
      go_wp2
      rw [jumpsTo_ret]
      go_ret3
      exact ⟨ret_val (congrArg numV hH.out).symm, rfl⟩
    | 2, hJ =>
      obtain ⟨rfl, p, u, b, c, u2, u3, u4, u5, u6, u10, u11, u12, u13, u14, u15, u16, u17, u18, u19, u20, u21, u22, u23, u24, u25, u26, u27, u28, u29, u30, u31, u32, u33, u34, u35, u36, u37, u38, u39, u40, u41, u42, u43, u44, u45, u46, u47, u48, u49, u50, u51, u52, u53, u54, u55, u56, u57, rfl, hH⟩ := hJ
      refine ⟨_, rfl, ?_⟩
      by_cases hz : c = 0 ∧ 0 < b
      · have hE := Lib.hid (show scan s a 10 0 0 = (3, 0, 0) from hH.out.2.2.2.2.trans (if_pos hz))
        obtain ⟨rfl, hb⟩ := hz
        have hb' : (0 : Int) < (b : Int) := by omega
        go_wp2
        go_step3
        show RJ s a w 1 _ _ ∧ _
        exact ⟨⟨rfl, _, _, _, _, _, _, _, _, _, _, _, _, _, _, _, _, _, _, _, _, _, _, _, _, _, _, _, _, _, _, _, _, _, _, _, _, _, _, _, _, _, _, _, _, _, _, _, _, _, _, _, _, _, _, _, _, _, rfl, hE⟩, by show (0 : Nat) < 1; decide⟩
      · have hE := Lib.hid (show scan s a 10 0 0 = (0, u, p) from hH.out.2.2.2.2.trans (if_neg hz))
        by_cases hc : c = 0
        · subst hc
          have hb' : ¬ (0 : Int) < (b : Int) := by omega
          go_wp2_with (go_at_call 30; refine (unfolded_any _ hH.out.2.2.1 _).mono ?_; rintro e w' ⟨rfl, rfl⟩)
          rw [jumpsTo_ret]
          go_ret3
          exact ⟨ret_val (congrArg numV hE.out).symm, rfl⟩
        · have hz' : ((c : Int) == 0) = false := by simp; omega
          go_wp2_with (go_at_call 30; refine (unfolded_any _ hH.out.2.2.1 _).mono ?_; rintro e w' ⟨rfl, rfl⟩)
          rw [jumpsTo_ret]
          go_ret3
          exact ⟨ret_val (congrArg numV hE.out).symm, rfl⟩
    | n + 3, hJ => exact hJ.elim
  · intro hk
    go_wp2
    go_step3
    rename_i K hK
    refine hK _ _ (hk 0 _ _ _ rfl ?_)
    exact ⟨rfl, a, 0, 0, 0, _, _, _, _, _, _, _, _, _, _, _, _, _, _, _, _, _, _, _, _, _, _, _, _, _, _, _, _, _, _, _, _, _, _, _, _, _, _, _, _, _, _, _, _, _, _, _, _, _, _, _, _, _, _, rfl, Lib.hid (St.start s a)⟩
end Go.Proofs.YtgbfndfjcolpjaaDoor
