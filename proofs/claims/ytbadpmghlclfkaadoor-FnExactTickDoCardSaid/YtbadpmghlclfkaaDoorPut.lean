/- A number's bytes: the plain function, and that the model's and the program's PutNum compute it. -/
import Derived.Test.YtbadpmghlclfkaaDoorFold
namespace Go.Proofs.YtbadpmghlclfkaaDoor
open Go.RowKit

def contB (u : Nat) : UInt8 := UInt8.ofNat (u % 128 + 128)
def lastOfB (u : Nat) : UInt8 := UInt8.ofNat u
theorem contB_int (u : Nat) : ((u : Int) % 128 + 128) = ((contB u).toNat : Int) := by rw [contB, ofNat_int _ (by omega)]; rfl
theorem lastB_int {u : Nat} (h : u < 128) : (u : Int) = ((lastOfB u).toNat : Int) := by rw [lastOfB, ofNat_int _ (by omega)]
def varF : Nat → Nat → List UInt8
  | 0, u => [lastOfB u]
  | f + 1, u => if u < 128 then [lastOfB u] else contB u :: varF f (u / 128)
def numBytes (n : Int) : List UInt8 := varF 10 (fold n)

theorem varF_more (f u : Nat) (h : 128 ≤ u) : varF (f + 1) u = contB u :: varF f (u / 128) := by rw [varF, if_neg (by omega)]
theorem varF_last (f u : Nat) (h : u < 128) : varF (f + 1) u = [lastOfB u] := by rw [varF, if_pos h]
/-- How far the writing has come: xs is written, u is left. -/
def Put (U : Nat) (xs : List UInt8) (u : Nat) : Prop := varF 10 U = xs ++ varF (10 - xs.length) u ∧ u * 128 ^ xs.length ≤ U ∧ xs.length ≤ 9
theorem Put.start (U : Nat) : Put U [] U := ⟨rfl, by simp, by simp⟩
theorem Put.step {U u : Nat} {xs : List UInt8} (hU : U < 18446744073709551616) (h : Put U xs u) (hu : 128 ≤ u) : Put U (xs ++ [contB u]) (u / 128) ∧ xs.length ≤ 8 := by
  obtain ⟨h1, h2, h3⟩ := h
  have h8 : xs.length ≤ 8 := by
    by_cases h9 : xs.length = 9
    · rw [h9] at h2
      omega
    · omega
  refine ⟨⟨?_, ?_, by simp; omega⟩, h8⟩
  · rw [h1, show 10 - xs.length = (10 - (xs.length + 1)) + 1 by omega, varF_more _ _ hu]
    simp
  · have : u / 128 * 128 ^ (xs ++ [contB u]).length ≤ u * 128 ^ xs.length := by
      simp only [List.length_append, List.length_cons, List.length_nil, Nat.zero_add, Nat.pow_succ]
      calc u / 128 * (128 ^ xs.length * 128) = u / 128 * 128 * 128 ^ xs.length := by rw [Nat.mul_comm (128 ^ xs.length), ← Nat.mul_assoc]
        _ ≤ u * 128 ^ xs.length := Nat.mul_le_mul_right _ (Nat.div_mul_le_self _ _)
    omega
theorem Put.done {U u : Nat} {xs : List UInt8} (h : Put U xs u) (hu : u < 128) : varF 10 U = xs ++ [lastOfB u] := by
  obtain ⟨h1, h2, h3⟩ := h
  rw [h1, show 10 - xs.length = (9 - xs.length) + 1 by omega, varF_last _ _ hu]
theorem Put.small {U u : Nat} {xs : List UInt8} (hU : U < 18446744073709551616) (h : Put U xs u) : u < 18446744073709551616 := by
  have := h.2.1
  have h1 : u * 1 ≤ u * 128 ^ xs.length := Nat.mul_le_mul_left _ (Nat.one_le_pow _ _ (by decide))
  omega

theorem Tryd.info5 : (Tryd.prog.info? 5).map (fun i => (i.zero, i.size, i.bytes)) = some (some (.int .u8 0), 1, 1) := by kernel_rfl

theorem impl_byte (u : Nat) (h : u < 18446744073709551616) : bits BinOp.or IntKind.u8 (bits BinOp.and IntKind.u64 (u : Int) 127 % 256) 128 = ((contB u).toNat : Int) := by
  have e1 : bits BinOp.and IntKind.u64 (u : Int) 127 = ((u % 128 : Nat) : Int) := by
    have := u64_and_nat u 127 h (by omega)
    rw [nat_mask7] at this
    exact this
  rw [e1, show (((u % 128 : Nat) : Int) % 256) = ((u % 128 : Nat) : Int) by omega]
  have e2 := u8_or_nat (u % 128) 128 (by omega) (by omega)
  rw [show u % 128 ||| 128 = 128 ||| u % 128 from Nat.or_comm _ _, nat_join 7 128 (u % 128) (by omega) (by omega)] at e2
  rw [show ((128 : Nat) : Int) = 128 from rfl] at e2
  rw [e2, ← contB_int]
  omega
end Go.Proofs.YtbadpmghlclfkaaDoor
