/- A block that is known whole, none of whose cells is frozen; make of one-cell elements. -/
import Derived.Test.YtbadpmghlclfkaaDoorBase
import Derived.Laws.OwnMore
namespace Go.Proofs.YtbadpmghlclfkaaDoor
open Go.RowKit

/-- Block g holds just these cells, and none is frozen. -/
def Blk (w : World) (g : Nat) (t : TypeId) (cs : List Value) : Prop := w.heap[g]? = some (.cells cs.toArray t (0, 0))
theorem Blk.lt {w : World} {g : Nat} {t : TypeId} {cs : List Value} (h : Blk w g t cs) : g < w.heap.size := lt_of_block h
theorem Blk.cell {w : World} {g : Nat} {t : TypeId} {cs : List Value} (h : Blk w g t cs) (j : Nat) (hj : j < cs.length) : w.cell? ⟨g, j, none⟩ = some cs[j] := by
  rw [cell_of_row _ _ _ _ _ _ h]; simp [List.getElem?_eq_getElem hj]
theorem Blk.cell? {w : World} {g : Nat} {t : TypeId} {cs : List Value} (h : Blk w g t cs) (j : Nat) : w.cell? ⟨g, j, none⟩ = cs[j]? := by
  rw [cell_of_row _ _ _ _ _ _ h]; simp
theorem Blk.free {w : World} {g : Nat} {t : TypeId} {cs : List Value} (h : Blk w g t cs) (j : Nat) : w.frozen? ⟨g, j, none⟩ = false := frozen_of_row w g j _ _ h
theorem Blk.set {w : World} {g : Nat} {t : TypeId} {cs : List Value} (h : Blk w g t cs) (j : Nat) (u : Value) : Blk (w.setCell ⟨g, j, none⟩ u) g t (cs.set j u) := by
  unfold Blk; rw [set_block h]; simp
theorem Blk.setOther {w : World} {g g' : Nat} {t : TypeId} {cs : List Value} (h : Blk w g t cs) (hne : g ≠ g') (j : Nat) (u : Value) : Blk (w.setCell ⟨g', j, none⟩ u) g t cs :=
  (Below.heap_setCell w ⟨g', j, none⟩ u g hne).trans h
theorem Blk.below {w w' : World} {g B : Nat} {t : TypeId} {cs : List Value} (h : Blk w g t cs) (k : Below B w w') (hg : g < B) : Blk w' g t cs := (k.block g hg).trans h
theorem Blk.drew {w : World} {g : Nat} {t : TypeId} {cs : List Value} (h : Blk w g t cs) : Blk w.drew g t cs := h
theorem Blk.alloc {w : World} {g : Nat} {t : TypeId} {cs : List Value} (h : Blk w g t cs) (o : Obj) : Blk (w.alloc o) g t cs := (Below.heap_alloc w o g h.lt).trans h
/-- make([]T, n) of one-cell elements: a block that is known whole. -/
theorem wpList_make_blk2 {P : Program} {w w0 : World} {ops : Array Oper} {rest : List Oper} {o : Oper} {a : Act} {Q : Exit → Act → World → Prop} (hg : o.guard = none) (l c : Operand) (t : TypeId) (hop : o.op = Op.makeSlice t l c)
    (base : Nat) (e : TypeId) (i : TypeInfo) (z : Value) (bytes : Nat) (ht : P.underlying t = some (.slice e)) (hi : P.info? e = some i) (hz : i.zero = some z) (hsize : i.size = 1) (hby : i.bytes = bytes) (hzc : z.cells = #[z])
    (kl kc : IntKind) (L C : Int) (n : Nat) (hl : a.eval l = .int kl L) (hc : a.eval c = .int kc C) (hL : L = (n : Int)) (hC : C = (n : Int)) (hn : bytes * n ≤ 281474976710656) (hn2 : n ≤ 1048576) (hbel : Below base w0 w) (hB : base ≤ w.heap.size)
    (h : ∀ w', Blk w' w.heap.size e (List.replicate n z) → Below base w0 w' → w.grownBy w' none → wpList P ops Q rest (a.put o.dst (.slice (some ⟨w.heap.size, 0, none⟩) n n)) w') : wpList P ops Q (o :: rest) a w := by
  refine wpList_make_full w hg l c t hop base e i z 1 ht hi hz hsize kl kc L C n hl hc hL hC (by rw [hby]; omega) (by unfold maxLen; omega) hB ?_
  intro w' ho hg'
  refine h w' ?_ (hbel.grown hg' hB (fun k hk => by simp at hk)) hg'
  rcases ho.2 with ⟨h', _⟩ | ⟨g, cap, cur, h', _, hh, _, _, hcs, htk⟩
  · simp at h'
  · simp at h'
    obtain ⟨rfl, rfl⟩ := h'
    rw [hzc, Nat.mul_one, toList_madeCells_one, List.take_of_length_le (by simp [hcs])] at htk
    unfold Blk
    rw [hh, ← htk]
/-- The same, where what it leaves of the other blocks is said by Below alone. -/
theorem wpList_make_blk {P : Program} {w w0 : World} {ops : Array Oper} {rest : List Oper} {o : Oper} {a : Act} {Q : Exit → Act → World → Prop} (hg : o.guard = none) (l c : Operand) (t : TypeId) (hop : o.op = Op.makeSlice t l c)
    (base : Nat) (e : TypeId) (i : TypeInfo) (z : Value) (bytes : Nat) (ht : P.underlying t = some (.slice e)) (hi : P.info? e = some i) (hz : i.zero = some z) (hsize : i.size = 1) (hby : i.bytes = bytes) (hzc : z.cells = #[z])
    (kl kc : IntKind) (L C : Int) (n : Nat) (hl : a.eval l = .int kl L) (hc : a.eval c = .int kc C) (hL : L = (n : Int)) (hC : C = (n : Int)) (hn : bytes * n ≤ 281474976710656) (hn2 : n ≤ 1048576) (hbel : Below base w0 w) (hB : base ≤ w.heap.size)
    (h : ∀ w', Blk w' w.heap.size e (List.replicate n z) → Below base w0 w' → wpList P ops Q rest (a.put o.dst (.slice (some ⟨w.heap.size, 0, none⟩) n n)) w') : wpList P ops Q (o :: rest) a w :=
  wpList_make_blk2 hg l c t hop base e i z bytes ht hi hz hsize hby hzc kl kc L C n hl hc hL hC hn hn2 hbel hB fun w' h1 h2 _ => h w' h1 h2
theorem Blk.grown {w w' : World} {g : Nat} {t : TypeId} {cs : List Value} (h : Blk w g t cs) (k : w.grownBy w' none) : Blk w' g t cs := (k.block g h.lt (by simp)).trans h
theorem cell_below {B : Nat} {w w' : World} (k : Below B w w') (hB : w.heap.size ≤ B) (a : Addr) (x : Value) (h : w.cell? a = some x) : w'.cell? a = some x := by
  have hlt := World.block_lt_of_cell? w a h
  exact (World.cell?_of_block (k.block a.block (by omega))).trans h
theorem grown_of_below {B : Nat} {w w' : World} (k : Below B w w') (hB : w.heap.size ≤ B) : w.grownBy w' none := ⟨k.os, k.tape, k.output, k.size, fun i hi _ => k.block i (by omega)⟩
theorem Below.then_ {b : Nat} {w w1 w2 : World} (h : Below b w w1) (k : Below w1.heap.size w1 w2) (hb : b ≤ w.heap.size) : Below b w w2 := h.trans (k.mono (Nat.le_trans hb h.size))
/-- A list of which the first k are in, and the rest is still zero. -/
def fill (L : List Value) (k : Nat) (z : Value) : List Value := L.take k ++ List.replicate (L.length - k) z
theorem fill_len (L : List Value) (k : Nat) (z : Value) : (fill L k z).length = L.length := by unfold fill; simp; omega
theorem fill_zero (L : List Value) (z : Value) : fill L 0 z = List.replicate L.length z := by simp [fill]
theorem fill_all (L : List Value) (k : Nat) (z : Value) (h : L.length ≤ k) : fill L k z = L := by unfold fill; rw [List.take_of_length_le h, Nat.sub_eq_zero_of_le h]; simp
theorem fill_set (L : List Value) (k : Nat) (z : Value) (hk : k < L.length) (u : Value) (hu : u = L[k]) : (fill L k z).set k u = fill L (k + 1) z := by
  subst hu
  unfold fill
  have e : L.length - k = (L.length - (k + 1)) + 1 := by omega
  have e3 : k - (List.take k L).length = 0 := by simp; omega
  rw [List.set_append, if_neg (by simp; omega), List.take_succ_eq_append_getElem hk, e, List.replicate_succ, e3, List.set_cons_zero, List.append_assoc]
  rfl
theorem bcell {W w1 : World} (hb : Below W.heap.size W w1) : (∀ b o, b < W.heap.size → w1.cell? ⟨b, o, none⟩ = W.cell? ⟨b, o, none⟩) ∧ (∀ b o, b < W.heap.size → w1.frozen? ⟨b, o, none⟩ = W.frozen? ⟨b, o, none⟩) :=
  ⟨fun b o h => hb.cell (p := ⟨b, o, none⟩) h, fun b o h => hb.frozen (p := ⟨b, o, none⟩) h⟩
theorem str_ne {t s : ByteArray} (h : ¬ t = s) : (t.toList == s.toList) = false := by
  rw [beq_eq_false_iff_ne]
  intro e
  rw [ByteArray.toList_eq, ByteArray.toList_eq] at e
  apply h
  cases t; cases s
  simp at e
  rw [e]
theorem Blk.up {w w' : World} {g : Nat} {t : TypeId} {cs : List Value} (h : Blk w g t cs) (k : Below w.heap.size w w') : Blk w' g t cs := h.below k h.lt
theorem Blk.two {w : World} {g : Nat} {t : TypeId} {x y : Value} (h : Blk w g t [x, y]) : w.cell? ⟨g, 0, none⟩ = some x ∧ w.cell? ⟨g, 1, none⟩ = some y ∧ w.frozen? ⟨g, 0, none⟩ = false ∧ w.frozen? ⟨g, 1, none⟩ = false := ⟨h.cell 0 (by simp), h.cell 1 (by simp), h.free 0, h.free 1⟩
theorem Blk.three {w : World} {g : Nat} {t : TypeId} {x y z : Value} (h : Blk w g t [x, y, z]) : w.cell? ⟨g, 0, none⟩ = some x ∧ w.cell? ⟨g, 1, none⟩ = some y ∧ w.cell? ⟨g, 2, none⟩ = some z ∧ w.frozen? ⟨g, 0, none⟩ = false ∧ w.frozen? ⟨g, 1, none⟩ = false ∧ w.frozen? ⟨g, 2, none⟩ = false := ⟨h.cell 0 (by simp), h.cell 1 (by simp), h.cell 2 (by simp), h.free 0, h.free 1, h.free 2⟩
theorem below_drew' {B : Nat} {w w' : World} (h : Below B w w') : Below B w w'.drew := ⟨h.os, h.tape, h.output, h.size, h.block⟩
theorem grown_up {w w1 w2 : World} {row : Option Nat} (h : w.grownBy w1 row) (k : Below w1.heap.size w1 w2) : w.grownBy w2 row :=
  ⟨k.os.trans h.os, k.tape.trans h.tape, k.output.trans h.output, Nat.le_trans h.size k.size, fun b hb hne => (k.block b (Nat.lt_of_lt_of_le hb h.size)).trans (h.block b hb hne)⟩
theorem grown_put {w w' : World} {g : Nat} (h : w.grownBy w' (some g)) (i : Nat) (v : Value) : w.grownBy (w'.setCell ⟨g, i, none⟩ v) (some g) :=
  ⟨h.os, h.tape, h.output, by rw [show (w'.setCell ⟨g, i, none⟩ v).heap.size = w'.heap.size by simp [World.setCell]]; exact h.size, fun b hb hne => (Below.heap_setCell w' ⟨g, i, none⟩ v b (fun e => hne (by rw [e]))).trans (h.block b hb hne)⟩
end Go.Proofs.YtbadpmghlclfkaaDoor
