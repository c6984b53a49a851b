/- A number read: the model's l06Num. -/
import Derived.Test.YtbadpmghlclfkaaDoorTxtW
namespace Go.Proofs.YtbadpmghlclfkaaDoor
open Go.RowKit

theorem numF_step {l : List UInt8} {i n : Nat} (h : i < l.length) (h1 : 48 ≤ l[i].toNat) (h2 : l[i].toNat ≤ 57) : numF (n : Int) (l.drop i) = numF ((10 * n + (l[i].toNat - 48) : Nat) : Int) (l.drop (i + 1)) := by
  rw [List.drop_eq_getElem_cons h, numF, if_pos ⟨h1, h2⟩]
  congr 1
  omega
theorem numF_bad {l : List UInt8} {i n : Nat} (h : i < l.length) (h1 : ¬ (48 ≤ l[i].toNat ∧ l[i].toNat ≤ 57)) : numF (n : Int) (l.drop i) = -1 := by
  rw [List.drop_eq_getElem_cons h, numF, if_neg h1]
theorem numS_in {l : List UInt8} (h1 : ¬ l.length < 1) (h2 : ¬ 9 < l.length) (h3 : ¬ (1 < l.length ∧ l[0]? = some 48)) : numS l = numF 0 l := by
  rw [numS, if_neg (fun h => h.elim h1 (fun h => h.elim h2 h3))]
set_option maxRecDepth 20000 in
set_option maxHeartbeats 8000000 in
theorem num_any (s : ByteArray) (w : World) (hs : s.size ≤ 8000) :
    Calls Tryd.prog 87 #[.string s] w (Gives (.int .i64 (numS (tx s))) w) := by
  have hln := tx_size s
  by_cases h1 : s.size < 1
  · have h1' : (s.size : Int) < 1 := by omega
    have e := Lib.hid (show numS (tx s) = -1 by rw [numS, if_pos (.inl (by omega))])
    clear hln
    go_enter Tryd.func87, Tryd.ntmps87
    go_wp2
    go_ret
    exact ⟨by rw [e.out]; rfl, Below.refl _ _⟩
  by_cases h2 : 9 < s.size
  · have h2' : (9 : Int) < (s.size : Int) := by omega
    have h1' : ¬ (s.size : Int) < 1 := by omega
    have e := Lib.hid (show numS (tx s) = -1 by rw [numS, if_pos (.inr (.inl (by omega)))])
    clear hln
    go_enter Tryd.func87, Tryd.ntmps87
    go_wp2
    go_ret
    exact ⟨by rw [e.out]; rfl, Below.refl _ _⟩
  have h0 : 0 < s.size := by omega
  have h0l := Lib.hid (show 0 < (tx s).length by omega)
  have h1' : ¬ (s.size : Int) < 1 := by omega
  have h2' : ¬ (9 : Int) < (s.size : Int) := by omega
  by_cases h3 : 1 < s.size ∧ s[0].toNat = 48
  · have h3' : (1 : Int) < (s.size : Int) := by omega
    have h4 : ((s[0].toNat : Int) == 48) = true := by simp; omega
    have h4I : (s[0].toNat : Int) = 48 := by omega
    have e := Lib.hid (show numS (tx s) = -1 by rw [numS, if_pos (.inr (.inr ⟨by omega, by rw [List.getElem?_eq_getElem h0l.out]; exact congrArg some (byte_is h0l.out h0 48 h3.2 rfl)⟩))])
    clear hln h3
    go_enter Tryd.func87, Tryd.ntmps87
    go_wp2
    go_ret
    exact ⟨by rw [e.out]; rfl, Below.refl _ _⟩
  have e0 := Lib.hid (numS_in (l := tx s) (by omega) (by omega) (by
    rintro ⟨ha, hb⟩
    refine h3 ⟨by omega, ?_⟩
    rw [List.getElem?_eq_getElem h0l.out] at hb
    exact congrArg UInt8.toNat (Option.some.inj hb)))
  replace hln := Lib.hid hln
  replace h3 := Lib.hid h3
  have hgo : ∀ (_ : (((1 : Int) < (s.size : Int)) ∧ ((s[0].toNat : Int) == 48) = false ∧ ¬ (s[0].toNat : Int) = 48) ∨ ¬ (1 : Int) < (s.size : Int)), Calls Tryd.prog 87 #[.string s] w (Gives (.int .i64 (numS (tx s))) w) := by
    intro hor
    rcases hor with ⟨h5, h6, h7⟩ | h5 <;>
    (go_enter Tryd.func87, Tryd.ntmps87
     go_wp2
     go_loopw [3, 4] (fun a c wr => ∃ (n i : Nat), a = .int .i64 (n : Int) ∧ c = .int .i64 (i : Int) ∧ n ≤ 1000000000 ∧ i ≤ s.size ∧ Hid (n < 10 ^ i) ∧ Hid (numF 0 (tx s) = numF (n : Int) ((tx s).drop i)) ∧ wr = w) (fun _ c _ => s.size + 1 - (intOf c).toNat)
     case atStart => exact ⟨0, 0, rfl, rfl, by omega, by omega, Lib.hid (by decide), Lib.hid (by simp), rfl⟩
     case round =>
       obtain ⟨n, i, rfl, rfl, hn, hi, hp, hf, rfl⟩ := hrel
       by_cases hlt : i < s.size
       · have hlt' : (i : Int) < (s.size : Int) := by omega
         have hil2 := Lib.hid (show i < (tx s).length by rw [hln.out]; exact hlt)
         by_cases hlo : s[i].toNat < 48
         · have hlo' : (s[i].toNat : Int) < 48 := by omega
           have hbad := Lib.hid (hf.out.trans (numF_bad hil2.out (by show ¬ (48 ≤ s[i].toNat ∧ s[i].toNat ≤ 57); omega)))
           go_wp2
           go_ret
           exact ⟨by rw [e0.out, hbad.out]; rfl, Below.refl _ _⟩
         by_cases hhi : 57 < s[i].toNat
         · have hlo' : ¬ (s[i].toNat : Int) < 48 := by omega
           have hhi' : (57 : Int) < (s[i].toNat : Int) := by omega
           have hbad := Lib.hid (hf.out.trans (numF_bad hil2.out (by show ¬ (48 ≤ s[i].toNat ∧ s[i].toNat ≤ 57); omega)))
           go_wp2
           go_ret
           exact ⟨by rw [e0.out, hbad.out]; rfl, Below.refl _ _⟩
         have hlo' : ¬ (s[i].toNat : Int) < 48 := by omega
         have hhi' : ¬ (57 : Int) < (s[i].toNat : Int) := by omega
         have hgood := Lib.hid (hf.out.trans (numF_step hil2.out (show 48 ≤ s[i].toNat by omega) (show s[i].toNat ≤ 57 by omega)))
         have hpow := Lib.hid (show 10 * n + (s[i].toNat - 48) < 10 ^ (i + 1) by have := hp.out; rw [Nat.pow_succ]; omega)
         have hle : 10 * n + (s[i].toNat - 48) ≤ 1000000000 := by
           have h9 : 10 ^ (i + 1) ≤ 10 ^ 9 := Nat.pow_le_pow_right (by decide) (by omega)
           have := hpow.out
           omega
         go_wp2
         go_roundw
         case rel => exact ⟨10 * n + (s[i].toNat - 48), i + 1, by go_num, by go_num, hle, by omega, hpow, hgood, trivial⟩
         case measure => simp [intOf]; omega
       · have hlt' : ¬ (i : Int) < (s.size : Int) := by omega
         obtain rfl : i = s.size := by omega
         have hend := Lib.hid (show numF 0 (tx s) = (n : Int) by rw [hf.out, ← hln.out, List.drop_length, numF])
         go_wp2
         go_ret
         exact ⟨by rw [e0.out, hend.out]; rfl, Below.refl _ _⟩)
  by_cases h5 : 1 < s.size
  · have h6 : ¬ s[0].toNat = 48 := fun h => h3.out ⟨h5, h⟩
    exact hgo (.inl ⟨by omega, by simp; omega, by omega⟩)
  · exact hgo (.inr (by omega))
end Go.Proofs.YtbadpmghlclfkaaDoor
