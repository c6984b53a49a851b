/- Slices of int64 and marked texts compared; what is looked at, and how large it is. What the laws do with marked texts: how large, copied, compared, marked and looked at again. What the laws do with marked texts: marked and looked at again. A byte and its mark kept as one complex number: both are got back. -/
import Derived.Test.YtbadpmghlclfkaaLabA
import Derived.RegionTactic
import Derived.ChangeAlike
import Derived.Test.YtbadpmghlclfkaaBlk
namespace Go.Proofs.Ytbadpmghlclfkaa
open Go.RowKit

def intsB (l m : List Int) : Bool := decide (l = m)
theorem intsB_len {l m : List Int} (h : ¬ l.length = m.length) : intsB l m = false := by
  unfold intsB; rw [decide_eq_false_iff_not]; intro e; subst e; exact h rfl
theorem intsB_at {l m : List Int} (k : Nat) (h1 : k < l.length) (h2 : k < m.length) (h : ¬ l[k] = m[k]) : intsB l m = false := by
  unfold intsB; rw [decide_eq_false_iff_not]; intro e; subst e; exact h rfl
theorem intsB_all {l m : List Int} (h0 : l.length = m.length) (k : Nat) (hk : ¬ k < l.length) (h : ∀ i (h1 : i < l.length) (h2 : i < m.length), i < k → l[i] = m[i]) : intsB l m = true := by
  unfold intsB; rw [decide_eq_true_iff]
  exact List.ext_getElem h0 fun i h1 h2 => h i h1 h2 (by omega)
theorem eq_step {l m : List Int} {k : Nat} (hk1 : k < l.length) (hk2 : k < m.length) (h : ∀ i (h1 : i < l.length) (h2 : i < m.length), i < k → l[i] = m[i]) (e : l[k] = m[k]) : ∀ i (h1 : i < l.length) (h2 : i < m.length), i < k + 1 → l[i] = m[i] := by
  intro i h1 h2 hi
  by_cases hik : i = k
  · subst hik; exact e
  · exact h i h1 h2 (by omega)
end Go.Proofs.Ytbadpmghlclfkaa
namespace Go.Proofs.Ytbadpmghlclfkaa
open Go.RowKit

theorem Blk.own {w : World} {g n base : Nat} {l : List Int} (h : Blk w g 2 (l.map intV)) (hn : n = l.length) (hl : l.length ≤ 1048576) (hb : base ≤ g) : OwnInts w base (.slice (some ⟨g, 0, none⟩) n n) l := by
  subst hn
  refine ⟨hl, by simp, .inr ⟨g, _, _, rfl, hb, h, Nat.le_refl _, by unfold maxLen; omega, by simp, ?_⟩⟩
  rw [Nat.mul_one]; exact List.take_of_length_le (by simp)
def SzEnd (n : Int) (w : World) (e : Ending) (w' : World) : Prop := e = .returned (.int .i64 n) ∧ Below w.heap.size w w'
/-- A slice copied. -/
def IntsEnd (base : Nat) (l : List Int) (w : World) (e : Ending) (w' : World) : Prop := ∃ A cap, e = .returned (.slice A l.length cap) ∧ OwnInts w' base (.slice A l.length cap) l ∧ Below base w w'
/-- A Lab copied. -/
def LabEnd (base : Nat) (t : ByteArray) (l : List Int) (w : World) (e : Ending) (w' : World) : Prop := ∃ A cap, e = .returned (.agg #[.string t, .slice A l.length cap]) ∧ OwnInts w' base (.slice A l.length cap) l ∧ Below base w w'
theorem OwnInts.setCell {w : World} {base : Nat} {v : Value} {l : List Int} (h : OwnInts w base v l) (g i : Nat) (u : Value) (hg : g < base) : OwnInts (w.setCell ⟨g, i, none⟩ u) base v l :=
  h.kept (row := some g) ⟨rfl, rfl, rfl, by simp [World.setCell], fun k _ hne => Below.heap_setCell w ⟨g, i, none⟩ u k (fun e => hne (by rw [e]))⟩ (by
    right; intro e
    have := (h.2.lt _ e).1
    omega)
/-- Two Labs that are alike. -/
def alikeB (t s : ByteArray) (l m : List Int) : Bool := decide (t = s) && intsB l m
theorem alike_yes {t s : ByteArray} {l m : List Int} (h : t = s) : alikeB t s l m = intsB l m := by simp [alikeB, h]
theorem alike_no {t s : ByteArray} {l m : List Int} (h : ¬ t = s) : alikeB t s l m = false := by simp [alikeB, h]
theorem alike_same (t : ByteArray) (l : List Int) : alikeB t t l l = true := by simp [alikeB, intsB]
/-- k, k + 1, ..: n of them. -/
def seqI (k n : Nat) : List Int := (List.range n).map fun i => ((k + i : Nat) : Int)
theorem seqI_len (k n : Nat) : (seqI k n).length = n := by simp [seqI]
theorem seqI_at (k n i : Nat) (h : i < (seqI k n).length) : (seqI k n)[i] = ((k + i : Nat) : Int) := by simp [seqI]
theorem seqI_succ (k n : Nat) : seqI k (n + 1) = seqI k n ++ [((k + n : Nat) : Int)] := by simp [seqI, List.range_succ]
theorem mark_set {l : List Int} {k i : Nat} (hi : i < l.length) : ((seqI k i ++ l.drop i).map intV).set i (.int .i64 ((k + i : Nat) : Int)) = (seqI k (i + 1) ++ l.drop (i + 1)).map intV := by
  have e3 : i - (List.map intV (seqI k i)).length = 0 := by rw [List.length_map, seqI_len]; omega
  rw [List.map_append, List.set_append, if_neg (by rw [List.length_map, seqI_len]; omega), List.drop_eq_getElem_cons hi, List.map_cons, e3, List.set_cons_zero, seqI_succ, List.append_assoc, List.map_append]
  rfl
/-- A row marked: it holds k, k + 1, .. now, and nothing else has turned. -/
def MarkEnd (base k n : Nat) (v : Value) (w : World) (e : Ending) (w' : World) : Prop := e = .returned (.int .i64 ((k + n : Nat) : Int)) ∧ OwnInts w' base v (seqI k n) ∧ w.grownBy w' v.ownBlock
end Go.Proofs.Ytbadpmghlclfkaa
namespace Go.Proofs.Ytbadpmghlclfkaa
open Go.RowKit

def HeldEnd (n : Nat) (w : World) (e : Ending) (w' : World) : Prop := e = .returned (.int .i64 (n : Int)) ∧ Below w.heap.size w w'
theorem grown_alloc {w w' : World} {o : Obj} {row : Option Nat} (h : (w.alloc o).grownBy w' row) : w.grownBy w' row := (World.grownBy_alloc w o row).trans h
theorem OwnInts.alloc {w : World} {base : Nat} {v : Value} {l : List Int} (h : OwnInts w base v l) (o : Obj) : OwnInts (w.alloc o) base v l := h.below ((Below.refl _ _).alloc (Nat.le_refl _) _)
theorem OwnInts.form {w : World} {base : Nat} {v : Value} {l : List Int} (h : OwnInts w base v l) : ∃ A cap, v = .slice A l.length cap := h.ints.form
end Go.Proofs.Ytbadpmghlclfkaa
namespace Go.Proofs.Ytbadpmghlclfkaa
open Go.RowKit

theorem float_all : ((List.range 256).all fun n => floatToIntVal .f64 (floatOfInt .f64 (n : Int)) .u8 == some (n : Int)) = true := by decide +kernel
theorem float_marks : ((List.range 16).all fun n => floatToIntVal .f64 (floatOfInt .f64 (n : Int)) .i64 == some (n : Int)) = true := by decide +kernel
theorem float_byte (n : Nat) (h : n < 256) : floatToIntVal .f64 (floatOfInt .f64 (n : Int)) .u8 = some (n : Int) := by
  have := List.all_eq_true.1 float_all n (by simpa using h)
  simpa using this
theorem float_mark (n : Nat) (h : n < 16) : floatToIntVal .f64 (floatOfInt .f64 (n : Int)) .i64 = some (n : Int) := by
  have := List.all_eq_true.1 float_marks n (by simpa using h)
  simpa using this
/-- A cell: a byte and its mark. -/
def cellV (c : UInt8) (m : Int) : Value := .complex .f64 (floatOfInt .f64 (c.toNat : Int)) (floatOfInt .f64 m)
/-- The cells of a text and its marks. -/
def cellsL (T : List UInt8) (l : List Int) : List Value := List.zipWith cellV T l
theorem cellsL_len (T : List UInt8) (l : List Int) (h : T.length = l.length) : (cellsL T l).length = l.length := by simp [cellsL, h]
theorem cellsL_at (T : List UInt8) (l : List Int) (k : Nat) (h : k < (cellsL T l).length) (h1 : k < T.length) (h2 : k < l.length) : (cellsL T l)[k] = cellV T[k] l[k] := by simp [cellsL]
theorem cellsL_append {T S : List UInt8} {l m : List Int} (h : T.length = l.length) : cellsL T l ++ cellsL S m = cellsL (T ++ S) (l ++ m) := (List.zipWith_append h).symm
/-- A slice that reads as these cells. -/
def Reads (w : World) (v : Value) (cs : List Value) : Prop :=
  ∃ A cap, v = .slice A cs.length cap ∧ (0 < cs.length → ∃ b off, A = some ⟨b, off, none⟩ ∧ ∀ i (h : i < cs.length), w.cell? ⟨b, off + i, none⟩ = some cs[i])
theorem Reads.at_ {w : World} {A : Option Addr} {n cap : Nat} {cs : List Value} (h : Reads w (.slice A n cap) cs) (k : Nat) (hk : k < cs.length) : ∃ b off, A = some ⟨b, off, none⟩ ∧ b < w.heap.size ∧ w.cell? ⟨b, off + k, none⟩ = some cs[k] := by
  obtain ⟨A', cap', e, h2⟩ := h
  cases e
  obtain ⟨b, off, rfl, hc⟩ := h2 (by omega)
  exact ⟨b, off, rfl, World.block_lt_of_cell? w _ (hc k hk), hc k hk⟩
theorem Reads.form {w : World} {v : Value} {cs : List Value} (h : Reads w v cs) : ∃ A cap, v = .slice A cs.length cap := by
  obtain ⟨A, cap, rfl, h2⟩ := h; exact ⟨A, cap, rfl⟩
theorem Reads.below {w w' : World} {v : Value} {cs : List Value} (h : Reads w v cs) (k : Below w.heap.size w w') : Reads w' v cs := by
  obtain ⟨A, cap, rfl, h2⟩ := h
  refine ⟨A, cap, rfl, fun h0 => ?_⟩
  obtain ⟨b, off, rfl, hc⟩ := h2 h0
  exact ⟨b, off, rfl, fun i hi => cell_below k (Nat.le_refl _) _ _ (hc i hi)⟩
theorem Reads.alloc {w : World} {v : Value} {cs : List Value} (h : Reads w v cs) (o : Obj) : Reads (w.alloc o) v cs := h.below ((Below.refl _ _).alloc (Nat.le_refl _) _)
theorem Blk.reads {w : World} {g n cap : Nat} {t : TypeId} {cs : List Value} (h : Blk w g t cs) (hn : n = cs.length) : Reads w (.slice (some ⟨g, 0, none⟩) n cap) cs := by
  subst hn
  exact ⟨_, _, rfl, fun _ => ⟨g, 0, rfl, fun i hi => by rw [Nat.zero_add]; exact h.cell i hi⟩⟩
theorem Blk.part {w : World} {g f e c : Nat} {t : TypeId} {cs : List Value} (h : Blk w g t cs) (h1 : f ≤ e) (h2 : e ≤ cs.length) : Reads w (.slice (some ⟨g, f, none⟩) (e - f) c) ((cs.drop f).take (e - f)) := by
  have hl : ((cs.drop f).take (e - f)).length = e - f := by simp; omega
  refine ⟨_, _, by rw [hl], fun _ => ⟨g, f, rfl, fun i hi => ?_⟩⟩
  rw [h.cell (f + i) (by omega)]
  simp
theorem Blk.other {w : World} {g g' i : Nat} {t : TypeId} {cs : List Value} (h : Blk w g t cs) (hne : g ≠ g') (u : Value) : Blk (w.setCell ⟨g', i, none⟩ u) g t cs := (Below.heap_setCell w ⟨g', i, none⟩ u g hne).trans h
theorem Reads.empty (w : World) (A : Option Addr) (cap : Nat) : Reads w (.slice A 0 cap) [] := ⟨A, cap, rfl, fun h => by simp at h⟩
theorem own_reads {w : World} {base : Nat} {e : TypeId} {v : Value} {cs : List Value} (h : w.ownsRow base e 1 v cs.length cs) : Reads w v cs := by
  have hc := fun (g : Nat) (hg : v.ownBlock = some g) => World.ownsRow.cells h hg
  rcases h.2 with ⟨rfl, hn⟩ | ⟨g, cap, cur, rfl, hb, hh, hnc, hcm, hcs, ht⟩
  · exact ⟨none, 0, by rw [hn], fun h0 => by omega⟩
  · refine ⟨_, cap, rfl, fun h0 => ⟨g, 0, rfl, fun i hi => ?_⟩⟩
    have := hc g rfl i cs[i] (List.getElem?_eq_getElem hi)
    have e1 : (⟨g, 0, none⟩ : Addr).add i = ⟨g, 0 + i, none⟩ := by unfold Addr.add; split <;> simp_all
    rw [← e1]; exact this
theorem bytesOf_data (t : ByteArray) : bytesOf t.data.toList = t := by cases t; simp [bytesOf]
theorem strV_of (l : List UInt8) : strV l = .string (bytesOf l) := rfl
theorem Blk.string {P : Program} {w : World} {g n cap : Nat} {src dst e t : TypeId} {l : List UInt8} (hs : P.underlying src = some (.slice e)) (he : P.underlying e = some (.int .u8)) (hd : P.underlying dst = some .string)
    (h : Blk w g t (l.map byteV)) (hn : l.length = n) : (convert src dst (.slice (some ⟨g, 0, none⟩) n cap)).run P w = .ok (.string (bytesOf l)) w :=
  block_string hs he hd h hn fun j hj => by simp [List.getElem?_eq_getElem hj]
theorem Try.infoB5 : (Try.prog.info? 5).map (fun i => (i.zero, i.size, i.bytes)) = some (some (.int .u8 0), 1, 1) := by kernel_rfl

theorem str_at (t : ByteArray) (k : Nat) (_h : k < t.size) (h2 : k < t.data.toList.length) : t.data.toList[k] = t[k] := rfl
end Go.Proofs.Ytbadpmghlclfkaa
