/- The program's marked texts: put together, cut, redacted, compared. -/
import Derived.Test.YtbadpmghlclfkaaDoorCells
import Derived.Deep.RegionHeld3
import Derived.Deep.RegionLaw
import Derived.Deep.DeepFit
namespace Go.Proofs.YtbadpmghlclfkaaDoor
open Go.RowKit

theorem Blk.owns {w : World} {g n base : Nat} {t : TypeId} {cs : List Value} (h : Blk w g t cs) (hn : n = cs.length) (hl : cs.length ≤ 1048576) (hb : base ≤ g) : w.ownsRow base t 1 (.slice (some ⟨g, 0, none⟩) n n) cs.length cs := by
  subst hn
  refine ⟨by simp, .inr ⟨g, _, _, rfl, hb, h, Nat.le_refl _, by unfold maxLen; omega, by simp, ?_⟩⟩
  rw [Nat.mul_one]; exact List.take_of_length_le (Nat.le_refl _)
theorem Reads.drew {w : World} {v : Value} {cs : List Value} (h : Reads w v cs) : Reads w.drew v cs := by
  obtain ⟨A, cap, rfl, h2⟩ := h
  exact ⟨A, cap, rfl, h2⟩
/-- append(own, those...) as one step of a region that draws. -/
theorem step_append_reads {P : Program} {w w0 : World} {ops : Array Oper} {o : Oper} {a : Act} {K : Act → World → Prop} {Q : Exit → Act → World → Prop} {E : Prop} (hgd : o.guard = none) (s x : Operand) (t : TypeId)
    (ho : o.op = .call { callee := .builtin .append, args := #[s, x], argTypes := #[t, t] })
    (base : Nat) (e : TypeId) (i : TypeInfo) (z : Value) (bytes : Nat) (hu : P.underlying t = some (.slice e)) (hi : P.info? e = some i) (hz : i.zero = some z) (hsize : i.size = 1) (hby : i.bytes = bytes) (hzc : z.cells.size = 1) (hbs : bytes ≤ 1024)
    (v u : Value) (l m : List Value) (hs : a.eval s = v) (hown : w.ownsRow base e 1 v l.length l) (hx : a.eval x = u) (hin : Reads w u m) (h1 : ∀ y ∈ m, y.oneCell' = true) (hlen : l.length + m.length ≤ 1048576)
    (hbel : Below base w0 w) (hB : base ≤ w.heap.size)
    (h : ∀ v' w', w'.ownsRow base e 1 v' (l ++ m).length (l ++ m) → Below base w0 w' → K (a.put o.dst v') w') : if Region.wanted o (yielded ops a.tmps) = true then Oper.wp P o a w K Q else E := by
  have hw : Region.wanted o (yielded ops a.tmps) = true := by simp [Region.wanted, hgd]
  rw [if_pos hw]
  obtain ⟨A, cap, rfl, hc⟩ := hin
  have hrun : ∃ v' w', (Builtin.append_ #[t, t] o.type #[v, .slice A m.length cap]).run P w = .ok v' w' ∧ w'.ownsRow base e 1 v' (l ++ m).length (l ++ m) ∧ Below base w0 w' := by
    cases A with
    | none =>
      have h0 : m = [] := by
        cases m with
        | nil => rfl
        | cons c t => obtain ⟨b, off, e, _⟩ := hc (by simp); cases e
      subst h0
      refine ⟨v, w, ?_, by rw [List.append_nil]; exact hown, hbel⟩
      rcases hown.2 with ⟨rfl, hn⟩ | ⟨g, cap, cur, rfl, _, _, hnc, _⟩
      · simp [Builtin.append_, run_underlying hu, sizeOf, typeInfo, hi, Builtin.lenOf, Builtin.firstCells]
      · simp [Builtin.append_, run_underlying hu, sizeOf, typeInfo, hi, Builtin.lenOf, Builtin.firstCells, storeCells, hnc]
    | some ad =>
      obtain ⟨v', w', hr, ho', hg, _⟩ := run_append_own (P := P) w base t o.type e i z 1 bytes hu hi hz hsize hby hzc (by decide) v l.length l hown ad m.length cap m (by simp) (by
        intro j y hj
        have hjl : j < m.length := by
          rcases Nat.lt_or_ge j m.length with h | h
          · exact h
          · rw [List.getElem?_eq_none h] at hj; cases hj
        rw [List.getElem?_eq_getElem hjl] at hj
        cases hj
        obtain ⟨b, off, e, hcell⟩ := hc (by omega)
        cases e
        have e1 : (⟨b, off, none⟩ : Addr).add j = ⟨b, off + j, none⟩ := by unfold Addr.add; split <;> simp_all
        rw [e1]; exact hcell j hjl) h1 (by unfold maxLen; omega) (Nat.le_trans (Nat.mul_le_mul hlen hbs) (by decide)) hB
      exact ⟨v', w', hr, by rw [List.length_append]; exact ho', own_kept hown hbel hg hB⟩
  obtain ⟨v', w', hr, h2, h3⟩ := hrun
  unfold Oper.wp
  simp [execOp, ho, resolve, invoke, builtin, hs, hx, hr, Result.andThen]
  exact h v' w' h2 h3
theorem boxes3 (w : World) (l1 l2 l3 : List Value) (t1 t2 t3 : TypeId) :
    Blk (((w.alloc (.cells l1.toArray t1)).alloc (.cells l2.toArray t2)).alloc (.cells l3.toArray t3)) w.heap.size t1 l1 ∧
    Blk (((w.alloc (.cells l1.toArray t1)).alloc (.cells l2.toArray t2)).alloc (.cells l3.toArray t3)) (w.heap.size + 1) t2 l2 ∧
    Blk (((w.alloc (.cells l1.toArray t1)).alloc (.cells l2.toArray t2)).alloc (.cells l3.toArray t3)) (w.heap.size + 1 + 1) t3 l3 := by
  have h1 : Blk (w.alloc (.cells l1.toArray t1)) w.heap.size t1 l1 := heap_alloc_new w _
  have h2 : Blk ((w.alloc (.cells l1.toArray t1)).alloc (.cells l2.toArray t2)) (w.heap.size + 1) t2 l2 := by
    have := heap_alloc_new (w.alloc (.cells l1.toArray t1)) (.cells l2.toArray t2)
    rw [World.size_alloc] at this; exact this
  have h3 : Blk (((w.alloc (.cells l1.toArray t1)).alloc (.cells l2.toArray t2)).alloc (.cells l3.toArray t3)) (w.heap.size + 1 + 1) t3 l3 := by
    have := heap_alloc_new ((w.alloc (.cells l1.toArray t1)).alloc (.cells l2.toArray t2)) (.cells l3.toArray t3)
    rw [World.size_alloc, World.size_alloc] at this; exact this
  exact ⟨(h1.alloc _).alloc _, h2.alloc _, h3⟩
theorem boxes2 (w : World) (l1 l2 : List Value) (t1 t2 : TypeId) :
    Blk ((w.alloc (.cells l1.toArray t1)).alloc (.cells l2.toArray t2)) w.heap.size t1 l1 ∧ Blk ((w.alloc (.cells l1.toArray t1)).alloc (.cells l2.toArray t2)) (w.heap.size + 1) t2 l2 := by
  have h1 : Blk (w.alloc (.cells l1.toArray t1)) w.heap.size t1 l1 := heap_alloc_new w _
  have h2 : Blk ((w.alloc (.cells l1.toArray t1)).alloc (.cells l2.toArray t2)) (w.heap.size + 1) t2 l2 := by
    have := heap_alloc_new (w.alloc (.cells l1.toArray t1)) (.cells l2.toArray t2)
    rw [World.size_alloc] at this; exact this
  exact ⟨h1.alloc _, h2⟩
theorem cells_one {T : List UInt8} {l : List Int} : ∀ y ∈ cellsL T l, y.oneCell' = true := by
  intro y hy
  unfold cellsL at hy
  obtain ⟨i, hi, rfl⟩ := List.getElem_of_mem hy
  rw [List.getElem_zipWith]; rfl
/-- What is handed back: a code, a text and its marks. -/
structure LabR where
  c : Int
  t : ByteArray
  l : List Int
theorem OwnInts.set3 {w : World} {b c g : Nat} {v : Value} {l : List Int} (h : OwnInts w c v l) (hg : g < c) (hb : b ≤ c) (x y z : Value) : OwnInts (((w.setCell ⟨g, 0, none⟩ x).setCell ⟨g, 1, none⟩ y).setCell ⟨g, 2, none⟩ z) b v l :=
  (((h.setCell _ _ _ hg).setCell _ _ _ hg).setCell _ _ _ hg).mono hb
theorem below_set3 {w w' : World} {b g : Nat} (h : Below b w w') (hg : b ≤ g) (x y z : Value) : Below b w (((w'.setCell ⟨g, 0, none⟩ x).setCell ⟨g, 1, none⟩ y).setCell ⟨g, 2, none⟩ z) :=
  ((h.setCell (p := ⟨g, 0, none⟩) hg x).setCell (p := ⟨g, 1, none⟩) hg y).setCell (p := ⟨g, 2, none⟩) hg z
def noLab (c : Int) : LabR := ⟨c, ⟨#[]⟩, []⟩
def LabOutEnd (base : Nat) (R : LabR) (w : World) (e : Ending) (w' : World) : Prop := ∃ A cap, e = .returned (.agg #[.string R.t, .slice A R.l.length cap, .int .i64 R.c]) ∧ OwnInts w' base (.slice A R.l.length cap) R.l ∧ Below base w w'
theorem LabOutEnd.none_ {base : Nat} {R : LabR} {w w' : World} {c : Int} (h : R = noLab c) (k : Below base w w') : LabOutEnd base R w (.returned (.agg #[.string ⟨#[]⟩, .slice none 0 0, .int .i64 c])) w' := by
  subst h; exact ⟨none, 0, rfl, OwnInts.nil _ _, k⟩
theorem LabOutEnd.yes {base : Nat} {R : LabR} {w w' : World} {A : Option Addr} {n cap : Nat} (hn : n = R.l.length) (ho : OwnInts w' base (.slice A n cap) R.l) (k : Below base w w') : LabOutEnd base R w (.returned (.agg #[.string R.t, .slice A n cap, .int .i64 R.c])) w' := by
  subst hn; exact ⟨A, cap, rfl, ho, k⟩
def labOfR (t : ByteArray) (m : Int) : LabR := if 8000 < t.size then noLab 2 else if 200 < t.size ∨ markB m = false then noLab 1 else ⟨0, t, List.replicate t.size m⟩
theorem labOfR_size {t : ByteArray} {m : Int} (h : 8000 < t.size) : labOfR t m = noLab 2 := by rw [labOfR, if_pos h]
theorem labOfR_form {t : ByteArray} {m : Int} (h0 : ¬ 8000 < t.size) (h : 200 < t.size ∨ markB m = false) : labOfR t m = noLab 1 := by rw [labOfR, if_neg h0, if_pos h]
theorem labOfR_ok {t : ByteArray} {m : Int} (h0 : ¬ 200 < t.size) (h : markB m = true) : labOfR t m = ⟨0, t, List.replicate t.size m⟩ := by rw [labOfR, if_neg (by omega), if_neg (by rw [h]; simp [h0])]
theorem markB_range {m : Int} (h : markB m = true) : 0 ≤ m ∧ m ≤ 15 := of_decide_eq_true h
def joinR (t s : ByteArray) (l m : List Int) : LabR := if labB t l = true ∧ labB s m = true then (if 200 < t.size + s.size then noLab 9 else ⟨0, bytesOf (t.data.toList ++ s.data.toList), l ++ m⟩) else noLab 1
theorem joinR_no {t s : ByteArray} {l m : List Int} (h : labB t l = false ∨ labB s m = false) : joinR t s l m = noLab 1 := by
  rw [joinR, if_neg]; rintro ⟨h1, h2⟩; rcases h with h | h <;> simp_all
theorem joinR_full {t s : ByteArray} {l m : List Int} (h1 : labB t l = true) (h2 : labB s m = true) (h : 200 < t.size + s.size) : joinR t s l m = noLab 9 := by rw [joinR, if_pos ⟨h1, h2⟩, if_pos h]
theorem joinR_ok {t s : ByteArray} {l m : List Int} (h1 : labB t l = true) (h2 : labB s m = true) (h : ¬ 200 < t.size + s.size) : joinR t s l m = ⟨0, bytesOf (t.data.toList ++ s.data.toList), l ++ m⟩ := by rw [joinR, if_pos ⟨h1, h2⟩, if_neg h]
end Go.Proofs.YtbadpmghlclfkaaDoor
