/- The drawing of inputs out of bytes: what each draw may leave, not which value it draws. -/
import Derived.Test.YtbadpmghlclfkaaDoorBase
namespace Go.Proofs.YtbadpmghlclfkaaDoor
open Go.RowKit

/-- A slice of bytes that came in, and can be read. -/
def Readable (w : World) (B : Nat) (A : Option Addr) (len : Nat) : Prop :=
  len ≤ 1048576 ∧ (0 < len → ∃ b off, A = some ⟨b, off, none⟩ ∧ b < B ∧ ∀ i, i < len → ∃ k : Nat, k < 256 ∧ w.cell? ⟨b, off + i, none⟩ = some (.int .u8 (k : Int)))
theorem Readable.keep {w w' : World} {B : Nat} {A : Option Addr} {len : Nat} (h : Readable w B A len) (hb : ∀ b, b < B → w'.heap[b]? = w.heap[b]?) : Readable w' B A len := by
  refine ⟨h.1, fun hl => ?_⟩
  obtain ⟨b, off, hA, hB, hc⟩ := h.2 hl
  refine ⟨b, off, hA, hB, fun i hi => ?_⟩
  obtain ⟨k, hk, hcell⟩ := hc i hi
  exact ⟨k, hk, by rw [World.cell?_of_block (w := w) (w' := w') (hb b hB)]; exact hcell⟩
/-- A source of draws in block g. -/
def Src (w : World) (B g : Nat) (A : Option Addr) (len : Nat) : Prop :=
  ∃ (cap : Nat) (p m z : Nat), w.heap[g]? = some (.cells #[.slice A len cap, .int .i64 (p : Int), .int .u64 (m : Int), .int .i64 (z : Int)] 116 (0, 0)) ∧ p ≤ len ∧ m < 18446744073709551616 ∧ z ≤ 12 ∧ B ≤ g ∧ Readable w B A len
theorem Src.lt {w : World} {B g : Nat} {A : Option Addr} {len : Nat} (h : Src w B g A len) : g < w.heap.size := by obtain ⟨_, _, _, _, h, _⟩ := h; exact lt_of_block h
theorem Src.grown {w w' : World} {B g : Nat} {A : Option Addr} {len : Nat} {row : Option Nat} (h : Src w B g A len) (hg : w.grownBy w' row) (hne : ∀ k, row = some k → B ≤ k ∧ g ≠ k) : Src w' B g A len := by
  have hlt := h.lt
  obtain ⟨cap, p, m, z, hb, hp, hm, hz, hB, hr⟩ := h
  refine ⟨cap, p, m, z, (hg.block g hlt (fun e => (hne g e.symm).2 rfl)).trans hb, hp, hm, hz, hB, hr.keep fun b hbB => hg.block b (by omega) (fun e => by have := (hne b e.symm).1; omega)⟩
theorem Src.alloc {w : World} {B g : Nat} {A : Option Addr} {len : Nat} (h : Src w B g A len) (o : Obj) : Src (w.alloc o) B g A len := h.grown (World.grownBy_alloc w o none) (fun k hk => by cases hk)
theorem set_again (W : World) (a : Addr) (u v : Value) : (W.setCell a u).setCell a v = W.setCell a v := by
  unfold World.setCell
  congr 1
  apply Array.ext
  · simp
  · intro i h1 h2
    simp only [Array.getElem_modify]
    split
    · cases W.heap[i]'(by simpa using h2) with
      | cells c t f =>
        simp only
        split <;> simp
      | _ => rfl
    · rfl
theorem xor_nat (x y : Int) : ∃ m : Nat, bits BinOp.xor IntKind.u64 x y = (m : Int) ∧ m < 18446744073709551616 := by
  have h : ∃ z : Int, bits BinOp.xor IntKind.u64 x y = IntKind.u64.wrap z := ⟨_, rfl⟩
  obtain ⟨z, hz⟩ := h
  refine ⟨(z % 18446744073709551616).toNat, ?_, by omega⟩
  rw [hz, IntKind.wrap_u64]; omega
theorem draw_range (X most : Int) (h1 : 1 < most) (h2 : most ≤ 9223372036854775807) : 0 ≤ wrap64 ((IntKind.u64.wrap X).tmod most) ∧ wrap64 ((IntKind.u64.wrap X).tmod most) < most := by
  have h0 : 0 ≤ IntKind.u64.wrap X := by rw [IntKind.wrap_u64]; omega
  have a : 0 ≤ (IntKind.u64.wrap X).tmod most := Int.tmod_nonneg _ h0
  have b : (IntKind.u64.wrap X).tmod most < most := Int.tmod_lt_of_pos _ (by omega)
  unfold wrap64
  omega
theorem grown_set {w w' : World} {g : Nat} (h : w.grownBy w' (some g)) (i : Nat) (v : Value) : w.grownBy (w'.setCell ⟨g, i, none⟩ v) (some g) :=
  ⟨h.os, h.tape, h.output, by simpa [World.setCell] using h.size, fun k hk hne => (Below.heap_setCell w' ⟨g, i, none⟩ v k (fun e => hne (by rw [e]))).trans (h.block k hk hne)⟩
theorem grown_drew {w w' : World} {row : Option Nat} (h : w.grownBy w' row) : w.grownBy w'.drew row := ⟨h.os, h.tape, h.output, h.size, h.block⟩
theorem grown_self (w : World) (row : Option Nat) : w.grownBy w row := World.grownBy.refl w _
/-- The end of a draw without a byte; and of one that has read a byte. -/
theorem Src.end0 {w : World} {B g : Nat} {A : Option Addr} {len cap p m z : Nat} (hb : w.heap[g]? = some (.cells #[.slice A len cap, .int .i64 (p : Int), .int .u64 (m : Int), .int .i64 (z : Int)] 116 (0, 0)))
    (hp : p ≤ len) (hz : z ≤ 12) (hB : B ≤ g) (hr : Readable w B A len) (x y : Int) : Src (w.setCell ⟨g, 2, none⟩ (.int .u64 (bits BinOp.xor IntKind.u64 x y))) B g A len := by
  obtain ⟨m', hm', hlt⟩ := xor_nat x y
  rw [hm']
  refine ⟨cap, p, m', z, set_block hb 2 _, hp, hlt, hz, hB, hr.keep fun b hbB => Below.heap_setCell _ _ _ _ (by show b ≠ g; omega)⟩
theorem Src.end1 {w : World} {B g : Nat} {A : Option Addr} {len cap p m z : Nat} (hb : w.heap[g]? = some (.cells #[.slice A len cap, .int .i64 (p : Int), .int .u64 (m : Int), .int .i64 (z : Int)] 116 (0, 0)))
    (hp : p < len) (hz : z ≤ 12) (hB : B ≤ g) (hr : Readable w B A len) (x y : Int) : Src ((w.setCell ⟨g, 1, none⟩ (.int .i64 ((p : Int) + 1))).setCell ⟨g, 2, none⟩ (.int .u64 (bits BinOp.xor IntKind.u64 x y))) B g A len := by
  have h1 := set_block hb 1 (.int .i64 ((p + 1 : Nat) : Int))
  exact Src.end0 (p := p + 1) (m := m) h1 (by omega) hz hB (hr.keep fun b hbB => Below.heap_setCell _ _ _ _ (by show b ≠ g; omega)) x y

set_option maxRecDepth 100000 in
set_option maxHeartbeats 8000000 in
theorem n_more (g : Nat) (most : Int) (A : Option Addr) (len B : Nat) (hm : 1 < most) (hm2 : most ≤ 9223372036854775807) (w : World) (hs : Src w B g A len) :
    Calls Tryd.prog 45 #[.pointer (some ⟨g, 0, none⟩), .int .i64 most] w fun e w' => (∃ v : Int, 0 ≤ v ∧ v < most ∧ e = .returned (.int .i64 v)) ∧ Src w' B g A len ∧ w.grownBy w' (some g) := by
  obtain ⟨cap, p, m, z, hb, hp, hm', hz, hBg, hr⟩ := hs
  have c0 : w.cell? ⟨g, 0, none⟩ = some (.slice A len cap) := by rw [cell_of_row _ _ _ _ _ _ hb]; rfl
  have c1 : w.cell? ⟨g, 1, none⟩ = some (.int .i64 (p : Int)) := by rw [cell_of_row _ _ _ _ _ _ hb]; rfl
  have c2 : w.cell? ⟨g, 2, none⟩ = some (.int .u64 (m : Int)) := by rw [cell_of_row _ _ _ _ _ _ hb]; rfl
  have c3 : w.cell? ⟨g, 3, none⟩ = some (.int .i64 (z : Int)) := by rw [cell_of_row _ _ _ _ _ _ hb]; rfl
  have f1 : w.frozen? ⟨g, 1, none⟩ = false := by simp [World.frozen?, hb]
  have f2 : w.frozen? ⟨g, 2, none⟩ = false := by simp [World.frozen?, hb]
  have hr1 := hr.1
  have hnm : ¬ most ≤ 1 := by omega
  by_cases hlt : p < len
  · obtain ⟨b, off, rfl, hbB, hcell⟩ := hr.2 (by omega)
    obtain ⟨k, hk, hck⟩ := hcell p hlt
    have hlt' : (p : Int) < (len : Int) := by omega
    have hH := Lib.hid (And.intro hm' (And.intro hz (And.intro hb hr)))
    clear hm' hz hb hr hcell
    have hss := fun (W : World) (u v : Value) => set_again W ⟨g, 2, none⟩ u v
    go_enter Tryd.func45, Tryd.ntmps45
    go_wp2
    have hd4 : decide ((p : Int) < (len : Int)) = true := by simpa using hlt
    go_region
    go_wp2
    have hq1 : (p : Int) < (len : Int) := by omega
    have hq2 : (0 : Int) ≤ (p : Int) := by omega
    go_region
    go_wp2
    go_region
    go_wp2
    go_region
    go_wp2
    go_region
    go_wp2
    go_ret
    refine ⟨⟨_, (draw_range _ most hm hm2).1, (draw_range _ most hm hm2).2, rfl⟩, Src.end1 hH.out.2.2.1 hlt hH.out.2.1 hBg hH.out.2.2.2 _ _, ?_⟩
    repeat' first | exact grown_self w _ | apply grown_drew | apply grown_set
  · have hlt' : ¬ (p : Int) < (len : Int) := by omega
    have hH := Lib.hid (And.intro hm' (And.intro hz (And.intro hb hr)))
    clear hm' hz hb hr
    have hss := fun (W : World) (u v : Value) => set_again W ⟨g, 2, none⟩ u v
    go_enter Tryd.func45, Tryd.ntmps45
    go_wp2
    have hd4 : decide ((p : Int) < (len : Int)) = false := by simpa using hlt
    go_region
    go_wp2
    go_region
    go_wp2
    go_region
    go_wp2
    go_region
    go_wp2
    go_ret
    exact ⟨⟨_, (draw_range _ most hm hm2).1, (draw_range _ most hm hm2).2, rfl⟩, Src.end0 hH.out.2.2.1 hp hH.out.2.1 hBg hH.out.2.2.2 _ _, grown_drew (grown_drew (grown_drew (grown_drew (grown_set (grown_self w _) 2 _))))⟩
end Go.Proofs.YtbadpmghlclfkaaDoor
