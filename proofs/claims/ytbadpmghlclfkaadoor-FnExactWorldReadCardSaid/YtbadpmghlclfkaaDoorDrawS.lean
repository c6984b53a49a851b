/- The drawing of inputs out of bytes: what each draw may leave, not which value it draws. Draws built on the first: a test, a limit, and the source itself. What each may leave, not which value it draws. -/
import Derived.Test.YtbadpmghlclfkaaDoorBase
namespace Go.Proofs.YtbadpmghlclfkaaDoor
open Go.RowKit

/-- A slice of bytes that came in, and can be read. -/
def Readable (w : World) (B : Nat) (A : Option Addr) (len : Nat) : Prop :=
  len ≤ 1048576 ∧ (0 < len → ∃ b off, A = some ⟨b, off, none⟩ ∧ b < B ∧ ∀ i, i < len → ∃ k : Nat, k < 256 ∧ w.cell? ⟨b, off + i, none⟩ = some (.int .u8 (k : Int)))
theorem Readable.keep {w w' : World} {B : Nat} {A : Option Addr} {len : Nat} (h : Readable w B A len) (hb : ∀ b, b < B → w'.heap[b]? = w.heap[b]?) : Readable w' B A len := by
  refine ⟨h.1, fun hl => ?_⟩
  obtain ⟨b, off, hA, hB, hc⟩ := h.2 hl
  refine ⟨b, off, hA, hB, fun i hi => ?_⟩
  obtain ⟨k, hk, hcell⟩ := hc i hi
  exact ⟨k, hk, by rw [World.cell?_of_block (w := w) (w' := w') (hb b hB)]; exact hcell⟩
/-- A source of draws in block g. -/
def Src (w : World) (B g : Nat) (A : Option Addr) (len : Nat) : Prop :=
  ∃ (cap : Nat) (p m z : Nat), w.heap[g]? = some (.cells #[.slice A len cap, .int .i64 (p : Int), .int .u64 (m : Int), .int .i64 (z : Int)] 116 (0, 0)) ∧ p ≤ len ∧ m < 18446744073709551616 ∧ z ≤ 12 ∧ B ≤ g ∧ Readable w B A len
theorem Src.lt {w : World} {B g : Nat} {A : Option Addr} {len : Nat} (h : Src w B g A len) : g < w.heap.size := by obtain ⟨_, _, _, _, h, _⟩ := h; exact lt_of_block h
theorem Src.grown {w w' : World} {B g : Nat} {A : Option Addr} {len : Nat} {row : Option Nat} (h : Src w B g A len) (hg : w.grownBy w' row) (hne : ∀ k, row = some k → B ≤ k ∧ g ≠ k) : Src w' B g A len := by
  have hlt := h.lt
  obtain ⟨cap, p, m, z, hb, hp, hm, hz, hB, hr⟩ := h
  refine ⟨cap, p, m, z, (hg.block g hlt (fun e => (hne g e.symm).2 rfl)).trans hb, hp, hm, hz, hB, hr.keep fun b hbB => hg.block b (by omega) (fun e => by have := (hne b e.symm).1; omega)⟩
theorem Src.alloc {w : World} {B g : Nat} {A : Option Addr} {len : Nat} (h : Src w B g A len) (o : Obj) : Src (w.alloc o) B g A len := h.grown (World.grownBy_alloc w o none) (fun k hk => by cases hk)
theorem set_again (W : World) (a : Addr) (u v : Value) : (W.setCell a u).setCell a v = W.setCell a v := by
  unfold World.setCell
  congr 1
  apply Array.ext
  · simp
  · intro i h1 h2
    simp only [Array.getElem_modify]
    split
    · cases W.heap[i]'(by simpa using h2) with
      | cells c t f =>
        simp only
        split <;> simp
      | _ => rfl
    · rfl
theorem xor_nat (x y : Int) : ∃ m : Nat, bits BinOp.xor IntKind.u64 x y = (m : Int) ∧ m < 18446744073709551616 := by
  have h : ∃ z : Int, bits BinOp.xor IntKind.u64 x y = IntKind.u64.wrap z := ⟨_, rfl⟩
  obtain ⟨z, hz⟩ := h
  refine ⟨(z % 18446744073709551616).toNat, ?_, by omega⟩
  rw [hz, IntKind.wrap_u64]; omega
theorem draw_range (X most : Int) (h1 : 1 < most) (h2 : most ≤ 9223372036854775807) : 0 ≤ wrap64 ((IntKind.u64.wrap X).tmod most) ∧ wrap64 ((IntKind.u64.wrap X).tmod most) < most := by
  have h0 : 0 ≤ IntKind.u64.wrap X := by rw [IntKind.wrap_u64]; omega
  have a : 0 ≤ (IntKind.u64.wrap X).tmod most := Int.tmod_nonneg _ h0
  have b : (IntKind.u64.wrap X).tmod most < most := Int.tmod_lt_of_pos _ (by omega)
  unfold wrap64
  omega
theorem grown_set {w w' : World} {g : Nat} (h : w.grownBy w' (some g)) (i : Nat) (v : Value) : w.grownBy (w'.setCell ⟨g, i, none⟩ v) (some g) :=
  ⟨h.os, h.tape, h.output, by simpa [World.setCell] using h.size, fun k hk hne => (Below.heap_setCell w' ⟨g, i, none⟩ v k (fun e => hne (by rw [e]))).trans (h.block k hk hne)⟩
theorem grown_drew {w w' : World} {row : Option Nat} (h : w.grownBy w' row) : w.grownBy w'.drew row := ⟨h.os, h.tape, h.output, h.size, h.block⟩
theorem grown_self (w : World) (row : Option Nat) : w.grownBy w row := World.grownBy.refl w _
/-- The end of a draw without a byte; and of one that has read a byte. -/
theorem Src.end0 {w : World} {B g : Nat} {A : Option Addr} {len cap p m z : Nat} (hb : w.heap[g]? = some (.cells #[.slice A len cap, .int .i64 (p : Int), .int .u64 (m : Int), .int .i64 (z : Int)] 116 (0, 0)))
    (hp : p ≤ len) (hz : z ≤ 12) (hB : B ≤ g) (hr : Readable w B A len) (x y : Int) : Src (w.setCell ⟨g, 2, none⟩ (.int .u64 (bits BinOp.xor IntKind.u64 x y))) B g A len := by
  obtain ⟨m', hm', hlt⟩ := xor_nat x y
  rw [hm']
  refine ⟨cap, p, m', z, set_block hb 2 _, hp, hlt, hz, hB, hr.keep fun b hbB => Below.heap_setCell _ _ _ _ (by show b ≠ g; omega)⟩
theorem Src.end1 {w : World} {B g : Nat} {A : Option Addr} {len cap p m z : Nat} (hb : w.heap[g]? = some (.cells #[.slice A len cap, .int .i64 (p : Int), .int .u64 (m : Int), .int .i64 (z : Int)] 116 (0, 0)))
    (hp : p < len) (hz : z ≤ 12) (hB : B ≤ g) (hr : Readable w B A len) (x y : Int) : Src ((w.setCell ⟨g, 1, none⟩ (.int .i64 ((p : Int) + 1))).setCell ⟨g, 2, none⟩ (.int .u64 (bits BinOp.xor IntKind.u64 x y))) B g A len := by
  have h1 := set_block hb 1 (.int .i64 ((p + 1 : Nat) : Int))
  exact Src.end0 (p := p + 1) (m := m) h1 (by omega) hz hB (hr.keep fun b hbB => Below.heap_setCell _ _ _ _ (by show b ≠ g; omega)) x y

set_option maxRecDepth 100000 in
set_option maxHeartbeats 8000000 in
theorem n_more (g : Nat) (most : Int) (A : Option Addr) (len B : Nat) (hm : 1 < most) (hm2 : most ≤ 9223372036854775807) (w : World) (hs : Src w B g A len) :
    Calls Tryd.prog 45 #[.pointer (some ⟨g, 0, none⟩), .int .i64 most] w fun e w' => (∃ v : Int, 0 ≤ v ∧ v < most ∧ e = .returned (.int .i64 v)) ∧ Src w' B g A len ∧ w.grownBy w' (some g) := by
  obtain ⟨cap, p, m, z, hb, hp, hm', hz, hBg, hr⟩ := hs
  have c0 : w.cell? ⟨g, 0, none⟩ = some (.slice A len cap) := by rw [cell_of_row _ _ _ _ _ _ hb]; rfl
  have c1 : w.cell? ⟨g, 1, none⟩ = some (.int .i64 (p : Int)) := by rw [cell_of_row _ _ _ _ _ _ hb]; rfl
  have c2 : w.cell? ⟨g, 2, none⟩ = some (.int .u64 (m : Int)) := by rw [cell_of_row _ _ _ _ _ _ hb]; rfl
  have c3 : w.cell? ⟨g, 3, none⟩ = some (.int .i64 (z : Int)) := by rw [cell_of_row _ _ _ _ _ _ hb]; rfl
  have f1 : w.frozen? ⟨g, 1, none⟩ = false := by simp [World.frozen?, hb]
  have f2 : w.frozen? ⟨g, 2, none⟩ = false := by simp [World.frozen?, hb]
  have hr1 := hr.1
  have hnm : ¬ most ≤ 1 := by omega
  by_cases hlt : p < len
  · obtain ⟨b, off, rfl, hbB, hcell⟩ := hr.2 (by omega)
    obtain ⟨k, hk, hck⟩ := hcell p hlt
    have hlt' : (p : Int) < (len : Int) := by omega
    have hH := Lib.hid (And.intro hm' (And.intro hz (And.intro hb hr)))
    clear hm' hz hb hr hcell
    have hss := fun (W : World) (u v : Value) => set_again W ⟨g, 2, none⟩ u v
    go_enter Tryd.func45, Tryd.ntmps45
    go_wp2
    have hd4 : decide ((p : Int) < (len : Int)) = true := by simpa using hlt
    go_region
    go_wp2
    have hq1 : (p : Int) < (len : Int) := by omega
    have hq2 : (0 : Int) ≤ (p : Int) := by omega
    go_region
    go_wp2
    go_region
    go_wp2
    go_region
    go_wp2
    go_region
    go_wp2
    go_ret
    refine ⟨⟨_, (draw_range _ most hm hm2).1, (draw_range _ most hm hm2).2, rfl⟩, Src.end1 hH.out.2.2.1 hlt hH.out.2.1 hBg hH.out.2.2.2 _ _, ?_⟩
    repeat' first | exact grown_self w _ | apply grown_drew | apply grown_set
  · have hlt' : ¬ (p : Int) < (len : Int) := by omega
    have hH := Lib.hid (And.intro hm' (And.intro hz (And.intro hb hr)))
    clear hm' hz hb hr
    have hss := fun (W : World) (u v : Value) => set_again W ⟨g, 2, none⟩ u v
    go_enter Tryd.func45, Tryd.ntmps45
    go_wp2
    have hd4 : decide ((p : Int) < (len : Int)) = false := by simpa using hlt
    go_region
    go_wp2
    go_region
    go_wp2
    go_region
    go_wp2
    go_region
    go_wp2
    go_ret
    exact ⟨⟨_, (draw_range _ most hm hm2).1, (draw_range _ most hm hm2).2, rfl⟩, Src.end0 hH.out.2.2.1 hp hH.out.2.1 hBg hH.out.2.2.2 _ _, grown_drew (grown_drew (grown_drew (grown_drew (grown_set (grown_self w _) 2 _))))⟩
end Go.Proofs.YtbadpmghlclfkaaDoor
namespace Go.Proofs.YtbadpmghlclfkaaDoor
open Go.RowKit

theorem Tryd.uinfo5 : (Tryd.prog.info? 5).map (fun i => (i.zero, i.size, i.bytes)) = some (some (.int .u8 0), 1, 1) := by kernel_rfl
theorem grown_below {w w1 w2 : World} {row : Option Nat} {b : Nat} (h : w.grownBy w1 row) (k : Below b w1 w2) (hb : w.heap.size ≤ b) : w.grownBy w2 row :=
  ⟨k.os.trans h.os, k.tape.trans h.tape, k.output.trans h.output, Nat.le_trans h.size k.size, fun i hi hne => (k.block i (by omega)).trans (h.block i hi hne)⟩
theorem Src.below {w w' : World} {B g b : Nat} {A : Option Addr} {len : Nat} (h : Src w B g A len) (k : Below b w w') (hb : g < b) : Src w' B g A len := by
  obtain ⟨cap, p, m, z, hh, hp, hm, hz, hB, hr⟩ := h
  exact ⟨cap, p, m, z, (k.block g hb).trans hh, hp, hm, hz, hB, hr.keep fun i hi => k.block i (by omega)⟩
/-- What a draw answers: a number, a test, a text of n bytes. -/
def NumEnd (most : Int) (e : Ending) : Prop := ∃ v : Nat, (v = 0 ∨ (v : Int) < most) ∧ e = .returned (.int .i64 (v : Int))
def BoolEnd (e : Ending) : Prop := ∃ b : Bool, e = .returned (.bool b)
def TextEnd (n : Nat) (e : Ending) : Prop := ∃ l : List UInt8, l.length = n ∧ e = .returned (strV l)

set_option maxRecDepth 100000 in
set_option maxHeartbeats 2000000 in
theorem n_any (g : Nat) (most : Int) (A : Option Addr) (len B : Nat) (hm2 : most ≤ 9223372036854775807) (w : World) (hs : Src w B g A len) :
    Calls Tryd.prog 45 #[.pointer (some ⟨g, 0, none⟩), .int .i64 most] w fun e w' => NumEnd most e ∧ Src w' B g A len ∧ w.grownBy w' (some g) := by
  by_cases hm : 1 < most
  · refine (n_more g most A len B hm hm2 w hs).mono ?_
    rintro e w' ⟨⟨v, h0, h1, rfl⟩, h2, h3⟩
    exact ⟨⟨v.toNat, .inr (by omega), by rw [Int.toNat_of_nonneg h0]⟩, h2, h3⟩
  · have hnm : most ≤ 1 := by omega
    have hs' := Lib.hid hs
    clear hs
    go_enter Tryd.func45, Tryd.ntmps45
    go_wp2
    go_ret
    exact ⟨⟨0, .inl rfl, rfl⟩, hs'.out, grown_self w _⟩
set_option maxRecDepth 100000 in
set_option maxHeartbeats 2000000 in
theorem one_any (g : Nat) (most : Int) (A : Option Addr) (len B : Nat) (hm2 : most ≤ 9223372036854775807) (w : World) (hs : Src w B g A len) :
    Calls Tryd.prog 84 #[.pointer (some ⟨g, 0, none⟩), .int .i64 most] w fun e w' => BoolEnd e ∧ Src w' B g A len ∧ w.grownBy w' (some g) := by
  have hs' := Lib.hid hs
  clear hs
  go_enter Tryd.func84, Tryd.ntmps84
  go_wp2_with (go_at_call 45; refine (n_any g _ A len B (by omega) _ hs'.out).mono ?_; rintro e w1 ⟨⟨v, hv, rfl⟩, hs1, hg1⟩; replace hs1 := Lib.hid hs1; replace hg1 := Lib.hid hg1)
  go_ret
  exact ⟨⟨_, rfl⟩, hs1.out, hg1.out⟩
/-- A source as it is while it is made. -/
def NewSrc (w : World) (g : Nat) (A : Option Addr) (len cap m z : Nat) : Prop := w.heap[g]? = some (.cells #[.slice A len cap, .int .i64 0, .int .u64 (m : Int), .int .i64 (z : Int)] 116 (0, 0)) ∧ m < 18446744073709551616
theorem NewSrc.facts {w : World} {g len cap m z : Nat} {A : Option Addr} (h : NewSrc w g A len cap m z) :
    w.cell? ⟨g, 0, none⟩ = some (.slice A len cap) ∧ w.cell? ⟨g, 2, none⟩ = some (.int .u64 (m : Int)) ∧ w.cell? ⟨g, 3, none⟩ = some (.int .i64 (z : Int)) ∧ w.frozen? ⟨g, 2, none⟩ = false ∧ w.frozen? ⟨g, 3, none⟩ = false := by
  have h := h.1
  refine ⟨?_, ?_, ?_, ?_, ?_⟩
  · rw [cell_of_row _ _ _ _ _ _ h]; rfl
  · rw [cell_of_row _ _ _ _ _ _ h]; rfl
  · rw [cell_of_row _ _ _ _ _ _ h]; rfl
  all_goals simp [World.frozen?, h]
theorem NewSrc.mix {w : World} {g len cap m z : Nat} {A : Option Addr} (h : NewSrc w g A len cap m z) (x : Int) : ∃ m', NewSrc (w.setCell ⟨g, 2, none⟩ (.int .u64 (IntKind.u64.wrap x))).drew g A len cap m' z := by
  have e : IntKind.u64.wrap x = (((x % 18446744073709551616).toNat : Nat) : Int) := by rw [IntKind.wrap_u64]; omega
  rw [e]
  exact ⟨_, set_block h.1 2 _, by omega⟩
theorem NewSrc.size {w : World} {g len cap m z : Nat} {A : Option Addr} (h : NewSrc w g A len cap m z) (x : Int) (z' : Nat) (hx : x = (z' : Int)) : NewSrc (w.setCell ⟨g, 3, none⟩ (.int .i64 x)) g A len cap m z' := by
  subst hx
  exact ⟨set_block h.1 3 _, h.2⟩
theorem NewSrc.done {w w1 : World} {g B len cap m z : Nat} {A : Option Addr} (h : NewSrc w1 g A len cap m z) (hz : z ≤ 12) (hB : B ≤ g) (hr : Readable w B A len) (hb : Below g w w1) : Src w1 B g A len :=
  ⟨cap, 0, m, z, h.1, Nat.zero_le _, h.2, hz, hB, hr.keep fun b hbB => hb.block b (by omega)⟩
set_option maxRecDepth 100000 in
set_option maxHeartbeats 2000000 in
theorem source_any (A : Option Addr) (len cap B : Nat) (w : World) (hB : B ≤ w.heap.size) (hr : Readable w B A len) :
    Calls Tryd.prog 43 #[.slice A len cap] w fun e w' => e = .returned (.pointer (some ⟨w.heap.size, 0, none⟩)) ∧ Src w' B w.heap.size A len ∧ Below w.heap.size w w' := by
  have hr1 := hr.1
  have hr' := Lib.hid hr
  clear hr
  go_enter Tryd.func43, Tryd.ntmps43
  go_wp2
  go_loopw [4] (fun i wr => ∃ k m : Nat, i = .int .i64 (k : Int) ∧ k ≤ len ∧ k ≤ 64 ∧ NewSrc wr w.heap.size A len cap m 0 ∧ Below w.heap.size w wr) (fun i _ => len - (intOf i).toNat)
  case atStart => exact ⟨0, 88172645463325252, rfl, Nat.zero_le _, Nat.zero_le _, ⟨heap_alloc_new _ _, by decide⟩, (Below.refl _ _).alloc (Nat.le_refl _) _⟩
  case round =>
    obtain ⟨k, m, rfl, hk, hk64, hns, hbel⟩ := hrel
    obtain ⟨c0, c2, c3, f2, f3⟩ := hns.facts
    have hns' := Lib.hid hns
    have hbel' := Lib.hid hbel
    clear hns hbel
    by_cases hlt : k < len ∧ k < 64
    · obtain ⟨hl1, hl2⟩ := hlt
      have hl1' : (k : Int) < (len : Int) := by omega
      have hl2' : (k : Int) < 64 := by omega
      obtain ⟨b, off, rfl, hbB, hcell⟩ := hr'.out.2 (by omega)
      obtain ⟨q, hq, hcq⟩ := hcell k hl1
      have hcq2 : wr.cell? ⟨b, off + k, none⟩ = some (.int .u8 (q : Int)) := by rw [World.cell?_of_block (w := w) (w' := wr) (hbel'.out.block b (by show b < _; omega))]; exact hcq
      clear hcq hcell
      go_wp2
      have hq1 : (k : Int) < (len : Int) := by omega
      have hq2 : (0 : Int) ≤ (k : Int) := by omega
      go_region
      go_wp2
      go_roundw
      case rel =>
        obtain ⟨m', hm'⟩ := hns'.out.mix (bits BinOp.xor IntKind.u64 (m : Int) (q : Int) * 1099511628211)
        exact ⟨k + 1, m', rfl, hl1, hl2, hm', below_drew (hbel'.out.setCell (p := ⟨w.heap.size, 2, none⟩) (Nat.le_refl _) _)⟩
      case measure => simp [intOf]; omega
    · have hb1 := hbel'.out.setCell (p := ⟨w.heap.size, 3, none⟩) (Nat.le_refl _) (.int .i64 ((len : Int) / 20))
      have hb2 := hb1.setCell (p := ⟨w.heap.size, 3, none⟩) (Nat.le_refl _) (.int .i64 12)
      have hn1 := hns'.out.size ((len : Int) / 20) (len / 20) rfl
      have hn2 := hn1.size 12 12 rfl
      have hE := Lib.hid (And.intro hb1 (And.intro hb2 (And.intro hn1 hn2)))
      clear hb1 hb2 hn1 hn2
      by_cases hl1 : k < len
      · have hl2 : ¬ k < 64 := by omega
        have hl1' : (k : Int) < (len : Int) := by omega
        have hl2' : ¬ (k : Int) < 64 := by omega
        go_wp2
        all_goals go_ret
        all_goals first
          | exact ⟨rfl, hE.out.2.2.2.done (Nat.le_refl _) hB hr'.out hE.out.2.1, hE.out.2.1⟩
          | exact ⟨rfl, hE.out.2.2.1.done (by omega) hB hr'.out hE.out.1, hE.out.1⟩
      · have hl1' : ¬ (k : Int) < (len : Int) := by omega
        go_wp2
        all_goals go_ret
        all_goals first
          | exact ⟨rfl, hE.out.2.2.2.done (Nat.le_refl _) hB hr'.out hE.out.2.1, hE.out.2.1⟩
          | exact ⟨rfl, hE.out.2.2.1.done (by omega) hB hr'.out hE.out.1, hE.out.1⟩
/-- A text of at most m bytes. -/
def StrEnd (m : Nat) (e : Ending) : Prop := ∃ s : ByteArray, s.size ≤ m ∧ e = .returned (.string s)
theorem TextEnd.str {n m : Nat} {e : Ending} (h : TextEnd n e) (hn : n ≤ m) : StrEnd m e := by
  obtain ⟨l, hl, rfl⟩ := h
  exact ⟨⟨l.toArray⟩, by show l.toArray.size ≤ m; simp; omega, rfl⟩
theorem StrEnd.of {m : Nat} (l : List UInt8) (h : l.length ≤ m) : StrEnd m (.returned (strV l)) := ⟨⟨l.toArray⟩, by show l.toArray.size ≤ m; simpa using h, rfl⟩
theorem own_zeros {w : World} {base n : Nat} {e : TypeId} {v : Value} (h : w.ownsRow base e 1 v n (madeCells (Value.int .u8 0).cells (n * 1)).toList) : OwnBytes w base e v (List.replicate n 0) := by
  have e1 : (madeCells (Value.int .u8 0).cells (n * 1)).toList = (List.replicate n (0 : UInt8)).map byteV := by
    rw [List.map_replicate, Nat.mul_one]
    unfold madeCells
    simp only [Value.cells, Array.toList_map, Array.toList_range]
    have e2 : (fun x : Nat => (#[Value.int IntKind.u8 0] : Array Value)[x % (#[Value.int IntKind.u8 0] : Array Value).size]!) = fun _ => byteV 0 := by
      funext x
      show (#[Value.int IntKind.u8 0] : Array Value)[x % 1]! = _
      rw [Nat.mod_one]; rfl
    rw [e2, List.map_const', List.length_range]
  unfold OwnBytes
  rw [← e1, List.length_replicate]; exact h
theorem below_step {b g : Nat} {w w1 w2 : World} (h : Below b w w1) (k : w1.grownBy w2 (some g)) (hb : b ≤ w.heap.size) (hg : b ≤ g) : Below b w w2 :=
  h.grown k (Nat.le_trans hb h.size) (fun _ e => by cases e; exact hg)
end Go.Proofs.YtbadpmghlclfkaaDoor
