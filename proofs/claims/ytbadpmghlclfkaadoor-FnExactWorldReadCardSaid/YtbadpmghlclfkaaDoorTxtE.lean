/- The library's variables; numbers as texts, and back. -/
import Derived.Test.YtbadpmghlclfkaaDoorShelf
import Derived.Test.YtbadpmghlclfkaaDoorTxtS
import Derived.Test.YtbadpmghlclfkaaDoorVaultK
import Derived.Lib.SmallJoins
import Derived.Lib.LaidTab
namespace Go.Proofs.YtbadpmghlclfkaaDoor
open Go.RowKit

theorem var_below {P : Program} {w w' : World} {n : String} {g B : Nat} {cs : Array Value} (h : w.var? P n = some cs) (hg : P.globalNamed n = some g) (hb : Below B w w') (hlt : g < B) : w'.var? P n = some cs := by
  unfold World.var? at h ⊢
  simp only [hg, Option.bind_some] at h ⊢
  rw [hb.block g hlt]
  exact h
/-- What the library's variables hold. -/
def Env (w : World) : Prop :=
  8 ≤ w.heap.size ∧ Lib.TabIs Tryd.prog w "internal/strconv.uint64pow10" .u64 Lib.pow10Tab ∧ (∃ tp p, w.var? Tryd.prog "strconv.ErrSyntax" = some #[.iface tp p]) ∧ (∃ tp p, w.var? Tryd.prog "strconv.ErrRange" = some #[.iface tp p]) ∧ ∃ m, w.cell? ⟨3, 0, none⟩ = some (.int .i64 m)
theorem Tryd.named_pow : Tryd.prog.globalNamed "internal/strconv.uint64pow10" = some 2 := by kernel_rfl
theorem Tryd.named_syn : Tryd.prog.globalNamed "strconv.ErrSyntax" = some 4 := by kernel_rfl
theorem Tryd.named_rng : Tryd.prog.globalNamed "strconv.ErrRange" = some 5 := by kernel_rfl
theorem Env.below {w w' : World} (h : Env w) (k : Below w.heap.size w w') : Env w' := by
  obtain ⟨h1, h2, ⟨t1, p1, h3⟩, ⟨t2, p2, h4⟩, m, h5⟩ := h
  exact ⟨Nat.le_trans h1 k.size, var_below h2 Tryd.named_pow k (by omega), ⟨t1, p1, var_below h3 Tryd.named_syn k (by omega)⟩, ⟨t2, p2, var_below h4 Tryd.named_rng k (by omega)⟩, m, cell_below k (Nat.le_refl _) _ _ h5⟩
theorem Env.alloc {w : World} (h : Env w) (o : Obj) : Env (w.alloc o) := h.below ((Below.refl _ _).alloc (Nat.le_refl _) _)
theorem Env.drew {w : World} (h : Env w) : Env w.drew := h
theorem below_grow (w : World) (os : Array Obj) : Below w.heap.size w (Sort.grow w os) := by
  refine ⟨rfl, rfl, rfl, ?_, fun i hi => ?_⟩
  · show w.heap.size ≤ (w.heap ++ os).size
    simp
  · show (w.heap ++ os)[i]? = w.heap[i]?
    rw [Array.getElem?_append_left hi]
/-- What the table of the powers of ten holds. -/
def Pow (w : World) : Prop := 2 < w.heap.size ∧ Lib.TabIs Tryd.prog w "internal/strconv.uint64pow10" .u64 Lib.pow10Tab
theorem Pow.below {w w' : World} (h : Pow w) (k : Below w.heap.size w w') : Pow w' := ⟨Nat.lt_of_lt_of_le h.1 k.size, var_below h.2 Tryd.named_pow k h.1⟩
theorem Pow.alloc {w : World} (h : Pow w) (o : Obj) : Pow (w.alloc o) := h.below ((Below.refl _ _).alloc (Nat.le_refl _) _)
theorem Env.pow {w : World} (h : Env w) : Pow w := ⟨by have := h.1; omega, h.2.1⟩
set_option maxHeartbeats 1000000 in
theorem digits_pow (n : Int) (h0 : -9223372036854775808 ≤ n) (h1 : n ≤ 9223372036854775807) (w : World) (hE : Pow w) :
    Calls Tryd.prog 81 #[.int .i64 n] w (Gives (.string (bytesOf (Lib.itoa n))) w) := by
  have ht := Lib.hid hE.2
  clear hE
  go_enter Tryd.func81, Tryd.ntmps81
  go_wp2_with (go_at_call 105; refine (Tryd.strconv_FormatInt_10 n h0 h1 _ ht.out).mono ?_; rintro e w1 ⟨rfl, k, os, rfl⟩)
  go_ret
  exact ⟨rfl, (below_drewN (Below.refl w.heap.size w) k).trans (below_grow (w.drewN k) os)⟩
theorem digits_any (n : Int) (h0 : -9223372036854775808 ≤ n) (h1 : n ≤ 9223372036854775807) (w : World) (hE : Env w) :
    Calls Tryd.prog 81 #[.int .i64 n] w (Gives (.string (bytesOf (Lib.itoa n))) w) := digits_pow n h0 h1 w hE.pow
set_option maxHeartbeats 1000000 in
theorem readDigits_any (s : ByteArray) (hs : s.size ≤ 281474976710656) (w : World) (hE : Env w) :
    Calls Tryd.prog 111 #[.string s] w (Gives (.int .i64 (readD (tx s))) w) := by
  obtain ⟨_, _, ⟨t1, p1, h3⟩, ⟨t2, p2, h4⟩, _⟩ := hE
  replace h3 := Lib.hid h3
  replace h4 := Lib.hid h4
  rcases hp : Lib.parseIntB 64 (tx s) with v | _ | _
  · have e := Lib.hid (show readD (tx s) = v by unfold readD; rw [hp])
    replace hp := Lib.hid hp
    go_enter Tryd.func111, Tryd.ntmps111
    go_wp2_with (go_at_call 123; refine (Tryd.strconv_ParseInt_10_at64_ok s (by omega) v hp.out _).mono ?_; rintro e w1 ⟨rfl, hw⟩; have hb := Lib.hid (show Below w.heap.size w w1 by rcases hw with rfl | ⟨t, rfl⟩; exact Below.refl _ _; exact Joins.below_bytesWorld _ _ _ _ (Nat.le_refl _)); clear hw)
    go_ret
    exact ⟨by rw [e.out]; rfl, hb.out⟩
  · have e := Lib.hid (show readD (tx s) = 0 by unfold readD; rw [hp])
    replace hp := Lib.hid hp
    go_enter Tryd.func111, Tryd.ntmps111
    go_wp2_with (go_at_call 123; refine (Tryd.strconv_ParseInt_10_at64_syntax_var s hs hp.out t1 p1 _ h3.out).mono ?_; rintro e w1 ⟨N, rfl, -, -, hb⟩; replace hb := Lib.hid hb)
    go_ret
    exact ⟨by rw [e.out]; rfl, hb.out⟩
  · have e := Lib.hid (show readD (tx s) = Lib.intSat 64 (tx s) by unfold readD; rw [hp])
    replace hp := Lib.hid hp
    go_enter Tryd.func111, Tryd.ntmps111
    go_wp2_with (go_at_call 123; refine (Tryd.strconv_ParseInt_10_at64_range_var s hs hp.out t2 p2 _ h4.out).mono ?_; rintro e w1 ⟨N, rfl, -, -, hb⟩; replace hb := Lib.hid hb)
    go_ret
    exact ⟨by rw [e.out]; rfl, hb.out⟩
theorem dec_step (m : Nat) (out : List UInt8) (h : 0 < m) : Lib.decDigits m ++ out = (if m / 10 = 0 then dig m :: out else Lib.decDigits (m / 10) ++ dig m :: out) := by
  rw [Lib.decDigits]
  by_cases h1 : m < 10
  · rw [dif_pos h1, if_pos (by omega)]
    unfold dig
    rw [Nat.mod_eq_of_lt h1]; rfl
  · rw [dif_neg h1, if_neg (by omega), List.append_assoc]; rfl
set_option maxHeartbeats 2000000 in
theorem specDec_any (k : Nat) (w : World) (hk : k ≤ 1000000) :
    Calls Tryd.prog 88 #[.int .i64 (k : Int)] w (Gives (.string (bytesOf (Lib.itoa (k : Int)))) w) := by
  have hit : Lib.itoa (k : Int) = Lib.decDigits k := by unfold Lib.itoa; rw [if_neg (by omega)]; simp
  by_cases hz : k = 0
  · subst hz
    have e := Lib.hid (show bytesOf (Lib.itoa ((0 : Nat) : Int)) = ⟨#[48]⟩ by rw [hit, Lib.decDigits, dif_pos (by omega)]; rfl)
    clear hit
    have c0 : (((0 : Nat) : Int) == 0) = true := rfl
    go_enter Tryd.func88, Tryd.ntmps88
    go_wp2
    go_ret
    exact ⟨by rw [e.out]; rfl, Below.refl _ _⟩
  · have c0 : ((k : Int) == 0) = false := by simp; omega
    have c1 : ¬ (k : Int) < 0 := by omega
    have e := Lib.hid hit
    clear hit
    have hkp := Lib.hid (show 0 < k by omega)
    clear hz
    go_enter Tryd.func88, Tryd.ntmps88
    go_wp2
    go_loopw [0, 4, 5] (fun i v _ wr => ∃ (m f : Nat) (out : List UInt8), i = .int .i64 (m : Int) ∧ v = .string (bytesOf out) ∧ m ≤ 1000000 ∧ m < 10 ^ f ∧ Hid (out.length + f = 20) ∧ Hid ((if m = 0 then out else Lib.decDigits m ++ out) = Lib.decDigits k) ∧ Hid (Below w.heap.size w wr)) (fun i _ _ _ => (intOf i).toNat)
    case atStart => exact ⟨k, 20, [], rfl, rfl, hk, by omega, Lib.hid rfl, Lib.hid (by rw [if_neg (by have := hkp.out; omega)]; simp), Lib.hid (Below.refl _ _)⟩
    case round =>
      obtain ⟨m, f, out, rfl, rfl, hm, hf, hl, hd, hb⟩ := hrel
      by_cases h0 : 0 < m
      · have h0' : ((m : Int) != 0) = true := by simp; omega
        have h5 : ¬ (m : Int) % 10 < 0 := by omega
        obtain ⟨f', rfl⟩ : ∃ f', f = f' + 1 := ⟨f - 1, by cases f with | zero => omega | succ n => rfl⟩
        have hcv := one_byte_string (P := Tryd.prog) (w := wr) (t := 5) Tryd.underlying22 Tryd.underlying5 Tryd.underlying9 (dig m) _ (dig_val m).symm rfl
        have hcat : (bytesOf [dig m] ++ bytesOf out : ByteArray) = bytesOf (dig m :: out) := bytesOf_append [dig m] out
        have h9 : ¬ m = 0 := by omega
        have hd2 := Lib.hid (show (if m / 10 = 0 then dig m :: out else Lib.decDigits (m / 10) ++ dig m :: out) = Lib.decDigits k from (dec_step m out h0).symm.trans ((if_neg h9).symm.trans hd.out))
        clear h9
        have hb2 := Lib.hid (hb.out.alloc hb.out.size (.cells #[.int .u8 (48 + (m : Int) % 10)] 5))
        have hm10 := Lib.hid (show m / 10 < 10 ^ f' by rw [Nat.div_lt_iff_lt_mul (by omega), ← Nat.pow_succ]; exact hf)
        have hsz : ¬ 9223372036854775807 < (bytesOf [dig m]).size + (bytesOf out).size := by rw [bytesOf_size, bytesOf_size]; have := hl.out; simp; omega
        have hl2 := Lib.hid (show (dig m :: out).length + f' = 20 by have := hl.out; simp; omega)
        clear hd hb hl hf
        go_wp2
        go_roundw
        case rel => exact ⟨m / 10, f', dig m :: out, by go_num, rfl, by omega, hm10.out, hl2, hd2, hb2⟩
        case measure => simp [intOf]; omega
      · have hm0 : m = 0 := by omega
        subst hm0
        have h0' : (((0 : Nat) : Int) != 0) = false := rfl
        have hd2 := Lib.hid (show out = Lib.decDigits k by have := hd.out; rwa [if_pos rfl] at this)
        clear hd hl
        go_wp2
        go_ret
        exact ⟨by rw [e.out, ← hd2.out]; rfl, hb.out⟩
end Go.Proofs.YtbadpmghlclfkaaDoor
