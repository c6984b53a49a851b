/- A number's bytes: the plain function, and that the model's and the program's PutNum compute it. -/
import Derived.Test.YtgbfndfjcolpjaaDoorFold
namespace Go.Proofs.YtgbfndfjcolpjaaDoor
open Go.RowKit

def contB (u : Nat) : UInt8 := UInt8.ofNat (u % 128 + 128)
def lastB (u : Nat) : UInt8 := UInt8.ofNat u
theorem contB_int (u : Nat) : ((u : Int) % 128 + 128) = ((contB u).toNat : Int) := by rw [contB, ofNat_int _ (by omega)]; rfl
theorem lastB_int {u : Nat} (h : u < 128) : (u : Int) = ((lastB u).toNat : Int) := by rw [lastB, ofNat_int _ (by omega)]
def varF : Nat → Nat → List UInt8
  | 0, u => [lastB u]
  | f + 1, u => if u < 128 then [lastB u] else contB u :: varF f (u / 128)
def numBytes (n : Int) : List UInt8 := varF 10 (fold n)

theorem varF_more (f u : Nat) (h : 128 ≤ u) : varF (f + 1) u = contB u :: varF f (u / 128) := by rw [varF, if_neg (by omega)]
theorem varF_last (f u : Nat) (h : u < 128) : varF (f + 1) u = [lastB u] := by rw [varF, if_pos h]
/-- How far the writing has come: xs is written, u is left. -/
def Put (U : Nat) (xs : List UInt8) (u : Nat) : Prop := varF 10 U = xs ++ varF (10 - xs.length) u ∧ u * 128 ^ xs.length ≤ U ∧ xs.length ≤ 9
theorem Put.start (U : Nat) : Put U [] U := ⟨rfl, by simp, by simp⟩
theorem Put.step {U u : Nat} {xs : List UInt8} (hU : U < 18446744073709551616) (h : Put U xs u) (hu : 128 ≤ u) : Put U (xs ++ [contB u]) (u / 128) ∧ xs.length ≤ 8 := by
  obtain ⟨h1, h2, h3⟩ := h
  have h8 : xs.length ≤ 8 := by
    by_cases h9 : xs.length = 9
    · rw [h9] at h2
      omega
    · omega
  refine ⟨⟨?_, ?_, by simp; omega⟩, h8⟩
  · rw [h1, show 10 - xs.length = (10 - (xs.length + 1)) + 1 by omega, varF_more _ _ hu]
    simp
  · have : u / 128 * 128 ^ (xs ++ [contB u]).length ≤ u * 128 ^ xs.length := by
      simp only [List.length_append, List.length_cons, List.length_nil, Nat.zero_add, Nat.pow_succ]
      calc u / 128 * (128 ^ xs.length * 128) = u / 128 * 128 * 128 ^ xs.length := by rw [Nat.mul_comm (128 ^ xs.length), ← Nat.mul_assoc]
        _ ≤ u * 128 ^ xs.length := Nat.mul_le_mul_right _ (Nat.div_mul_le_self _ _)
    omega
theorem Put.done {U u : Nat} {xs : List UInt8} (h : Put U xs u) (hu : u < 128) : varF 10 U = xs ++ [lastB u] := by
  obtain ⟨h1, h2, h3⟩ := h
  rw [h1, show 10 - xs.length = (9 - xs.length) + 1 by omega, varF_last _ _ hu]
theorem Put.small {U u : Nat} {xs : List UInt8} (hU : U < 18446744073709551616) (h : Put U xs u) : u < 18446744073709551616 := by
  have := h.2.1
  have h1 : u * 1 ≤ u * 128 ^ xs.length := Nat.mul_le_mul_left _ (Nat.one_le_pow _ _ (by decide))
  omega

theorem Tryd.info5 : (Tryd.prog.info? 5).map (fun i => (i.zero, i.size, i.bytes)) = some (some (.int .u8 0), 1, 1) := by kernel_rfl

set_option maxHeartbeats 1000000 in
theorem specPutNum_any (n : Int) (hn : (Lit.int .i64 n).wf = true) (w : World) :
    Calls Tryd.prog 8 #[.int .i64 n] w fun e w' => e = .returned (strV (numBytes n)) ∧ Below w.heap.size w w' := by
  have hU := Lib.hid (fold_lt n (wf_i64 hn))
  obtain ⟨i0, hi, hz0, hz1, hz2⟩ := info_parts Tryd.info5
  go_enter Tryd.func8, Tryd.ntmps8
  go_wp2_with (go_at_call 21; refine (specFold_any n hn _).mono ?_; rintro e w' ⟨rfl, rfl⟩)
  go_loopw [3, 4] (fun u v wr => ∃ (xs : List UInt8) (u' : Nat), Put (fold n) xs u' ∧ u = .int .u64 (u' : Int) ∧ OwnBytes wr w.heap.size 5 v xs ∧ Below w.heap.size w wr) (fun u _ _ => (intOf u).toNat)
  case atStart => exact ⟨[], fold n, Put.start _, rfl, World.ownsRow_made w #[] 0 (Nat.le_refl _) (by simp) rfl, (Below.refl _ _).alloc (Nat.le_refl _) _⟩
  case round =>
    obtain ⟨xs, u, hput, rfl, hown, hbel⟩ := hrel
    have hsz := hbel.size
    have hx9 : xs.length ≤ 9 := hput.2.2
    by_cases hlt : u < 128
    · have hD := Lib.hid (hput.done hlt)
      have hput' := Lib.hid hput
      clear hput
      have hlt' : ¬ (128 : Int) ≤ (u : Int) := by omega
      have hH := Lib.hid (lastB_int hlt)
      have hR : strV (xs ++ [lastB u]) = strV (numBytes n) := by rw [numBytes, hD.out]
      go_wp2_with (at_builtin; refine wpList_append_byte rfl (.tmp 19) (.tmp 22) 22 rfl w.heap.size 5 i0 Tryd.underlying22 hi hz0 hz1 hz2 _ xs rfl (hown.alloc _) wr.heap.size (lastB u) rfl (new_byte _ _ _ _ hH.out) (by omega) (hbel.alloc hsz _) (by simp; omega) ?_)
      · intro v' w1 hown' hb1
        have hconv := own_string (P := Tryd.prog) (dst := 9) Tryd.underlying22 Tryd.underlying5 Tryd.underlying9 hown'
        have hb1 := Lib.hid hb1
        clear hown' hown
        go_wp2
        go_ret
        exact ⟨rfl, hb1.out⟩
    · have hsm := Lib.hid (hput.small hU.out)
      have hS := Lib.hid (hput.step hU.out (by omega))
      have hx8 : xs.length ≤ 8 := (hput.step hU.out (by omega)).2
      have hput' := Lib.hid hput
      clear hput
      have hlt' : (128 : Int) ≤ (u : Int) := by omega
      have hlt2 : (u : Int) ≤ 18446744073709551615 := by have := hsm.out; omega
      have hH := Lib.hid (contB_int u)
      go_wp2_with (at_builtin; refine wpList_append_byte rfl (.tmp 10) (.tmp 15) 22 rfl w.heap.size 5 i0 Tryd.underlying22 hi hz0 hz1 hz2 _ xs rfl (hown.alloc _) wr.heap.size (contB u) rfl (new_byte _ _ _ _ hH.out) (by omega) (hbel.alloc hsz _) (by simp; omega) ?_)
      · intro v' w1 hown' hb1
        have hb2 := Lib.hid hb1
        have ho1 := Lib.hid hown'
        clear hown' hb1 hown
        go_wp2
        go_roundw
        case rel => exact ⟨_, u / 128, hS.out.1, by go_num, ho1.out, hb2.out⟩
        case measure => simp [intOf]; omega

theorem Tryd.arr10 : Tryd.prog.arrayLen 40 = 10 := by kernel_rfl
theorem Tryd.arr10elem : ∀ w, (sizeOf (Tryd.prog.elem 40)).run Tryd.prog w = .ok 1 w := fun _ => by kernel_rfl
theorem slice_ten (g n : Nat) (hn : n + 1 ≤ 10) (W : World) :
    (Instr.sliceAt 40 (.pointer (some ⟨g, 0, none⟩)) none (some (.int .i64 ((n : Int) + 1))) none).run Tryd.prog W = .ok (.slice (some ⟨g, 0, none⟩) (n + 1) 10) W := by
  rw [run_sliceAt_array_h W 40 ⟨g, 0, none⟩ (by kernel_rfl) .i64 ((n : Int) + 1) (by omega) (by rw [Tryd.arr10]; omega), Tryd.arr10elem]
  simp only [Result.andThen_ok, slicedAt, Tryd.arr10]
  rw [show ((n : Int) + 1).toNat - 0 = n + 1 by omega]
  rfl
theorem impl_byte (u : Nat) (h : u < 18446744073709551616) : bits BinOp.or IntKind.u8 (bits BinOp.and IntKind.u64 (u : Int) 127 % 256) 128 = ((contB u).toNat : Int) := by
  have e1 : bits BinOp.and IntKind.u64 (u : Int) 127 = ((u % 128 : Nat) : Int) := by
    have := u64_and_nat u 127 h (by omega)
    rw [nat_mask7] at this
    exact this
  rw [e1, show (((u % 128 : Nat) : Int) % 256) = ((u % 128 : Nat) : Int) by omega]
  have e2 := u8_or_nat (u % 128) 128 (by omega) (by omega)
  rw [show u % 128 ||| 128 = 128 ||| u % 128 from Nat.or_comm _ _, nat_join 7 128 (u % 128) (by omega) (by omega)] at e2
  rw [show ((128 : Nat) : Int) = 128 from rfl] at e2
  rw [e2, ← contB_int]
  omega
set_option maxHeartbeats 1000000 in
theorem implPutNum_any (n : Int) (hn : (Lit.int .i64 n).wf = true) (w : World) :
    Calls Tryd.prog 7 #[.int .i64 n] w fun e w' => e = .returned (strV (numBytes n)) ∧ Below w.heap.size w w' := by
  have hU := Lib.hid (fold_lt n (wf_i64 hn))
  go_enter Tryd.func7, Tryd.ntmps7
  go_wp2_with (go_at_call 20; refine (implFold_any n hn _).mono ?_; rintro e w' ⟨rfl, rfl⟩)
  go_loopw [4, 5] (fun u i wr => ∃ (xs : List UInt8) (u' : Nat) (cs : Array Value), Put (fold n) xs u' ∧ u = .int .u64 (u' : Int) ∧ i = .int .i64 (xs.length : Int) ∧ wr.heap[w.heap.size]? = some (.cells cs 40 (0, 0)) ∧ cs.size = 10 ∧
      (∀ j (hj : j < xs.length), cs[j]? = some (byteV xs[j])) ∧ Below w.heap.size w wr) (fun u _ _ => (intOf u).toNat)
  case atStart => exact ⟨[], fold n, _, Put.start _, rfl, rfl, heap_alloc_new _ _, rfl, fun j hj => by simp at hj, (Below.refl _ _).alloc (Nat.le_refl _) _⟩
  case round =>
    obtain ⟨xs, u, cs, hput, rfl, rfl, hblk, hcs, hcells, hbel⟩ := hrel
    have hsz := hbel.size
    have hx9 : xs.length ≤ 9 := hput.2.2
    have hgl : w.heap.size < wr.heap.size := lt_of_block hblk
    have hat : wr.cell? ⟨w.heap.size, xs.length, none⟩ = some (cs[xs.length]'(by omega)) := by
      rw [cell_of_row _ _ _ _ _ _ hblk]; exact Array.getElem?_eq_getElem (by omega)
    have hfr : wr.frozen? ⟨w.heap.size, xs.length, none⟩ = false := by simp [World.frozen?, hblk]
    have hcl := Lib.hid (And.intro hcs hcells)
    clear hcells
    by_cases hlt : u < 128
    · have hlt' : ¬ (128 : Int) ≤ (u : Int) := by omega
      have hsl := fun W => slice_ten w.heap.size xs.length (by omega) W
      have hconv : (convert 22 9 (.slice (some ⟨w.heap.size, 0, none⟩) (xs.length + 1) 10)).run Tryd.prog (wr.setCell ⟨w.heap.size, xs.length, none⟩ (.int .u8 (u : Int))) = .ok (strV (numBytes n)) (wr.setCell ⟨w.heap.size, xs.length, none⟩ (.int .u8 (u : Int))) := by
        rw [lastB_int hlt, numBytes, hput.done hlt]
        exact block_string Tryd.underlying22 Tryd.underlying5 Tryd.underlying9 (set_block hblk _ _) (by simp) (set_next (by omega) hcl.out.2)
      have hB := Lib.hid (hbel.setCell (p := ⟨w.heap.size, xs.length, none⟩) (Nat.le_refl _) (.int .u8 (u : Int)))
      clear hput hblk
      go_wp2
      go_ret
      exact ⟨rfl, hB.out⟩
    · have hsm := Lib.hid (hput.small hU.out)
      have hS := Lib.hid (hput.step hU.out (by omega))
      have hx8 : xs.length ≤ 8 := (hput.step hU.out (by omega)).2
      clear hput
      have hlt' : (128 : Int) ≤ (u : Int) := by omega
      have hlt2 : (u : Int) ≤ 18446744073709551615 := by have := hsm.out; omega
      have hblk' := Lib.hid hblk
      clear hblk
      go_wp2
      go_roundw
      case rel =>
        rw [impl_byte u hsm.out]
        exact ⟨_, u / 128, _, hS.out.1, by go_num, by rw [List.length_append]; rfl, set_block hblk'.out _ _, by rw [Array.size_setIfInBounds]; exact hcl.out.1, set_next (by omega) hcl.out.2, hbel.setCell (Nat.le_refl _) _⟩
      case measure => simp [intOf]; omega
end Go.Proofs.YtgbfndfjcolpjaaDoor
