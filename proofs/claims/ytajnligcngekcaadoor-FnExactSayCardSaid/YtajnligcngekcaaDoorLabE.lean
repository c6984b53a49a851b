/- The program's marked texts: put together, cut, redacted, compared. -/
import Derived.Test.YtajnligcngekcaaDoorCells
import Derived.Deep.RegionHeld3
import Derived.Deep.RegionLaw
import Derived.Deep.DeepFit
namespace Go.Proofs.YtajnligcngekcaaDoor
open Go.RowKit

theorem Blk.owns {w : World} {g n base : Nat} {t : TypeId} {cs : List Value} (h : Blk w g t cs) (hn : n = cs.length) (hl : cs.length ≤ 1048576) (hb : base ≤ g) : w.ownsRow base t 1 (.slice (some ⟨g, 0, none⟩) n n) cs.length cs := by
  subst hn
  refine ⟨by simp, .inr ⟨g, _, _, rfl, hb, h, Nat.le_refl _, by unfold maxLen; omega, by simp, ?_⟩⟩
  rw [Nat.mul_one]; exact List.take_of_length_le (Nat.le_refl _)
theorem Reads.drew {w : World} {v : Value} {cs : List Value} (h : Reads w v cs) : Reads w.drew v cs := by
  obtain ⟨A, cap, rfl, h2⟩ := h
  exact ⟨A, cap, rfl, h2⟩
/-- append(own, those...) as one step of a region that draws. -/
theorem step_append_reads {P : Program} {w w0 : World} {ops : Array Oper} {o : Oper} {a : Act} {K : Act → World → Prop} {Q : Exit → Act → World → Prop} {E : Prop} (hgd : o.guard = none) (s x : Operand) (t : TypeId)
    (ho : o.op = .call { callee := .builtin .append, args := #[s, x], argTypes := #[t, t] })
    (base : Nat) (e : TypeId) (i : TypeInfo) (z : Value) (bytes : Nat) (hu : P.underlying t = some (.slice e)) (hi : P.info? e = some i) (hz : i.zero = some z) (hsize : i.size = 1) (hby : i.bytes = bytes) (hzc : z.cells.size = 1) (hbs : bytes ≤ 1024)
    (v u : Value) (l m : List Value) (hs : a.eval s = v) (hown : w.ownsRow base e 1 v l.length l) (hx : a.eval x = u) (hin : Reads w u m) (h1 : ∀ y ∈ m, y.oneCell' = true) (hlen : l.length + m.length ≤ 1048576)
    (hbel : Below base w0 w) (hB : base ≤ w.heap.size)
    (h : ∀ v' w', w'.ownsRow base e 1 v' (l ++ m).length (l ++ m) → Below base w0 w' → K (a.put o.dst v') w') : if Region.wanted o (yielded ops a.tmps) = true then Oper.wp P o a w K Q else E := by
  have hw : Region.wanted o (yielded ops a.tmps) = true := by simp [Region.wanted, hgd]
  rw [if_pos hw]
  obtain ⟨A, cap, rfl, hc⟩ := hin
  have hrun : ∃ v' w', (Builtin.append_ #[t, t] o.type #[v, .slice A m.length cap]).run P w = .ok v' w' ∧ w'.ownsRow base e 1 v' (l ++ m).length (l ++ m) ∧ Below base w0 w' := by
    cases A with
    | none =>
      have h0 : m = [] := by
        cases m with
        | nil => rfl
        | cons c t => obtain ⟨b, off, e, _⟩ := hc (by simp); cases e
      subst h0
      refine ⟨v, w, ?_, by rw [List.append_nil]; exact hown, hbel⟩
      rcases hown.2 with ⟨rfl, hn⟩ | ⟨g, cap, cur, rfl, _, _, hnc, _⟩
      · simp [Builtin.append_, run_underlying hu, sizeOf, typeInfo, hi, Builtin.lenOf, Builtin.firstCells]
      · simp [Builtin.append_, run_underlying hu, sizeOf, typeInfo, hi, Builtin.lenOf, Builtin.firstCells, storeCells, hnc]
    | some ad =>
      obtain ⟨v', w', hr, ho', hg, _⟩ := run_append_own (P := P) w base t o.type e i z 1 bytes hu hi hz hsize hby hzc (by decide) v l.length l hown ad m.length cap m (by simp) (by
        intro j y hj
        have hjl : j < m.length := by
          rcases Nat.lt_or_ge j m.length with h | h
          · exact h
          · rw [List.getElem?_eq_none h] at hj; cases hj
        rw [List.getElem?_eq_getElem hjl] at hj
        cases hj
        obtain ⟨b, off, e, hcell⟩ := hc (by omega)
        cases e
        have e1 : (⟨b, off, none⟩ : Addr).add j = ⟨b, off + j, none⟩ := by unfold Addr.add; split <;> simp_all
        rw [e1]; exact hcell j hjl) h1 (by unfold maxLen; omega) (Nat.le_trans (Nat.mul_le_mul hlen hbs) (by decide)) hB
      exact ⟨v', w', hr, by rw [List.length_append]; exact ho', own_kept hown hbel hg hB⟩
  obtain ⟨v', w', hr, h2, h3⟩ := hrun
  unfold Oper.wp
  simp [execOp, ho, resolve, invoke, builtin, hs, hx, hr, Result.andThen]
  exact h v' w' h2 h3
theorem boxes3 (w : World) (l1 l2 l3 : List Value) (t1 t2 t3 : TypeId) :
    Blk (((w.alloc (.cells l1.toArray t1)).alloc (.cells l2.toArray t2)).alloc (.cells l3.toArray t3)) w.heap.size t1 l1 ∧
    Blk (((w.alloc (.cells l1.toArray t1)).alloc (.cells l2.toArray t2)).alloc (.cells l3.toArray t3)) (w.heap.size + 1) t2 l2 ∧
    Blk (((w.alloc (.cells l1.toArray t1)).alloc (.cells l2.toArray t2)).alloc (.cells l3.toArray t3)) (w.heap.size + 1 + 1) t3 l3 := by
  have h1 : Blk (w.alloc (.cells l1.toArray t1)) w.heap.size t1 l1 := heap_alloc_new w _
  have h2 : Blk ((w.alloc (.cells l1.toArray t1)).alloc (.cells l2.toArray t2)) (w.heap.size + 1) t2 l2 := by
    have := heap_alloc_new (w.alloc (.cells l1.toArray t1)) (.cells l2.toArray t2)
    rw [World.size_alloc] at this; exact this
  have h3 : Blk (((w.alloc (.cells l1.toArray t1)).alloc (.cells l2.toArray t2)).alloc (.cells l3.toArray t3)) (w.heap.size + 1 + 1) t3 l3 := by
    have := heap_alloc_new ((w.alloc (.cells l1.toArray t1)).alloc (.cells l2.toArray t2)) (.cells l3.toArray t3)
    rw [World.size_alloc, World.size_alloc] at this; exact this
  exact ⟨(h1.alloc _).alloc _, h2.alloc _, h3⟩
theorem boxes2 (w : World) (l1 l2 : List Value) (t1 t2 : TypeId) :
    Blk ((w.alloc (.cells l1.toArray t1)).alloc (.cells l2.toArray t2)) w.heap.size t1 l1 ∧ Blk ((w.alloc (.cells l1.toArray t1)).alloc (.cells l2.toArray t2)) (w.heap.size + 1) t2 l2 := by
  have h1 : Blk (w.alloc (.cells l1.toArray t1)) w.heap.size t1 l1 := heap_alloc_new w _
  have h2 : Blk ((w.alloc (.cells l1.toArray t1)).alloc (.cells l2.toArray t2)) (w.heap.size + 1) t2 l2 := by
    have := heap_alloc_new (w.alloc (.cells l1.toArray t1)) (.cells l2.toArray t2)
    rw [World.size_alloc] at this; exact this
  exact ⟨h1.alloc _, h2⟩
theorem cells_one {T : List UInt8} {l : List Int} : ∀ y ∈ cellsL T l, y.oneCell' = true := by
  intro y hy
  unfold cellsL at hy
  obtain ⟨i, hi, rfl⟩ := List.getElem_of_mem hy
  rw [List.getElem_zipWith]; rfl
/-- What is handed back: a code, a text and its marks. -/
structure LabR where
  c : Int
  t : ByteArray
  l : List Int
theorem OwnInts.set3 {w : World} {b c g : Nat} {v : Value} {l : List Int} (h : OwnInts w c v l) (hg : g < c) (hb : b ≤ c) (x y z : Value) : OwnInts (((w.setCell ⟨g, 0, none⟩ x).setCell ⟨g, 1, none⟩ y).setCell ⟨g, 2, none⟩ z) b v l :=
  (((h.setCell _ _ _ hg).setCell _ _ _ hg).setCell _ _ _ hg).mono hb
theorem below_set3 {w w' : World} {b g : Nat} (h : Below b w w') (hg : b ≤ g) (x y z : Value) : Below b w (((w'.setCell ⟨g, 0, none⟩ x).setCell ⟨g, 1, none⟩ y).setCell ⟨g, 2, none⟩ z) :=
  ((h.setCell (p := ⟨g, 0, none⟩) hg x).setCell (p := ⟨g, 1, none⟩) hg y).setCell (p := ⟨g, 2, none⟩) hg z
def noLab (c : Int) : LabR := ⟨c, ⟨#[]⟩, []⟩
def LabOutEnd (base : Nat) (R : LabR) (w : World) (e : Ending) (w' : World) : Prop := ∃ A cap, e = .returned (.agg #[.string R.t, .slice A R.l.length cap, .int .i64 R.c]) ∧ OwnInts w' base (.slice A R.l.length cap) R.l ∧ Below base w w'
theorem LabOutEnd.none_ {base : Nat} {R : LabR} {w w' : World} {c : Int} (h : R = noLab c) (k : Below base w w') : LabOutEnd base R w (.returned (.agg #[.string ⟨#[]⟩, .slice none 0 0, .int .i64 c])) w' := by
  subst h; exact ⟨none, 0, rfl, OwnInts.nil _ _, k⟩
theorem LabOutEnd.yes {base : Nat} {R : LabR} {w w' : World} {A : Option Addr} {n cap : Nat} (hn : n = R.l.length) (ho : OwnInts w' base (.slice A n cap) R.l) (k : Below base w w') : LabOutEnd base R w (.returned (.agg #[.string R.t, .slice A n cap, .int .i64 R.c])) w' := by
  subst hn; exact ⟨A, cap, rfl, ho, k⟩
def labOfR (t : ByteArray) (m : Int) : LabR := if 8000 < t.size then noLab 2 else if 200 < t.size ∨ markB m = false then noLab 1 else ⟨0, t, List.replicate t.size m⟩
theorem labOfR_size {t : ByteArray} {m : Int} (h : 8000 < t.size) : labOfR t m = noLab 2 := by rw [labOfR, if_pos h]
theorem labOfR_form {t : ByteArray} {m : Int} (h0 : ¬ 8000 < t.size) (h : 200 < t.size ∨ markB m = false) : labOfR t m = noLab 1 := by rw [labOfR, if_neg h0, if_pos h]
theorem labOfR_ok {t : ByteArray} {m : Int} (h0 : ¬ 200 < t.size) (h : markB m = true) : labOfR t m = ⟨0, t, List.replicate t.size m⟩ := by rw [labOfR, if_neg (by omega), if_neg (by rw [h]; simp [h0])]
theorem markB_range {m : Int} (h : markB m = true) : 0 ≤ m ∧ m ≤ 15 := of_decide_eq_true h
def joinR (t s : ByteArray) (l m : List Int) : LabR := if labB t l = true ∧ labB s m = true then (if 200 < t.size + s.size then noLab 9 else ⟨0, bytesOf (t.data.toList ++ s.data.toList), l ++ m⟩) else noLab 1
theorem joinR_no {t s : ByteArray} {l m : List Int} (h : labB t l = false ∨ labB s m = false) : joinR t s l m = noLab 1 := by
  rw [joinR, if_neg]; rintro ⟨h1, h2⟩; rcases h with h | h <;> simp_all
theorem joinR_full {t s : ByteArray} {l m : List Int} (h1 : labB t l = true) (h2 : labB s m = true) (h : 200 < t.size + s.size) : joinR t s l m = noLab 9 := by rw [joinR, if_pos ⟨h1, h2⟩, if_pos h]
theorem joinR_ok {t s : ByteArray} {l m : List Int} (h1 : labB t l = true) (h2 : labB s m = true) (h : ¬ 200 < t.size + s.size) : joinR t s l m = ⟨0, bytesOf (t.data.toList ++ s.data.toList), l ++ m⟩ := by rw [joinR, if_pos ⟨h1, h2⟩, if_neg h]
set_option maxRecDepth 100000 in
set_option maxHeartbeats 4000000 in
theorem implLabJoin_any (t s : ByteArray) (v u : Value) (l m : List Int) (w : World) (ht : t.size ≤ 1048576) (hs : s.size ≤ 1048576) (hv : Ints w v l) (hu : Ints w u m) :
    Calls Tryd.prog 48 #[.agg #[.string t, v], .agg #[.string s, u]] w (LabOutEnd w.heap.size (joinR t s l m) w) := by
  obtain ⟨A1, cap1, rfl⟩ := hv.form
  obtain ⟨A2, cap2, rfl⟩ := hu.form
  have hv' := Lib.hid hv
  have hu' := Lib.hid hu
  clear hv hu
  have hbb := Lib.hid (fun (o1 o2 o3 : Obj) => (((Below.refl w.heap.size w).alloc (Nat.le_refl _) o1).alloc (by simp) o2).alloc (by simp; omega) o3)
  by_cases h1 : labB t l = true
  · by_cases h2 : labB s m = true
    · obtain ⟨hp1, hp2, hp3⟩ := labB_parts h1
      obtain ⟨hq1, hq2, hq3⟩ := labB_parts h2
      by_cases h3 : 200 < t.size + s.size
      · have h3' : (200 : Int) < (t.size : Int) + (s.size : Int) := by omega
        have e := Lib.hid (joinR_full h1 h2 h3)
        clear hp2 hq2 h3 hp3 hq3
        go_enter Tryd.func48, Tryd.ntmps48
        go_wp2_with (first
          | (go_at_call_of 44 (Value.string t); refine (implLabRight_any t _ l _ ht (((hv'.out.alloc _).alloc _).alloc _)).mono ?_; rintro e1 w1 ⟨rfl, hb1⟩; obtain ⟨hc1, hf1⟩ := bcell hb1; have hz1 := hb1.size; simp only [World.size_alloc] at hz1; have hz2 : w.heap.size + 1 + 1 < w1.heap.size := hz1; have hz3 : w.heap.size + 1 < w1.heap.size := (by omega); have hz4 : w.heap.size < w1.heap.size := (by omega); replace hz1 := Lib.hid hz1; replace hb1 := Lib.hid hb1)
          | (go_at_call_of 44 (Value.string s); refine (implLabRight_any s _ m _ hs ((((hu'.out.alloc _).alloc _).alloc _).below hb1.out)).mono ?_; rintro e1 w2 ⟨rfl, hb2⟩; obtain ⟨hc2, hf2⟩ := bcell hb2; replace hb2 := Lib.hid hb2))
        exact bodyPost_ret (v := .agg #[.string ⟨#[]⟩, .slice none 0 0, .int .i64 9]) (by simp [results, Tryd.results48, go_sem, hc1, hc2, hz2]) rfl (LabOutEnd.none_ e.out (below_set3 (Below.then_ (Below.then_ (hbb.out _ _ _) hb1.out (Nat.le_refl _)) hb2.out (Nat.le_refl _)) (by omega) _ _ _))
      · have h3' : ¬ (200 : Int) < (t.size : Int) + (s.size : Int) := by omega
        have e := Lib.hid (joinR_ok h1 h2 h3)
        replace hp2 := Lib.hid hp2
        replace hq2 := Lib.hid hq2
        replace hp3 := Lib.hid hp3
        replace hq3 := Lib.hid hq3
        obtain ⟨i0, hi, hz0, hz1, hz2⟩ := info_parts Tryd.info134
        go_enter Tryd.func48, Tryd.ntmps48
        go_wp2_with (first
          | (go_at_call_of 44 (Value.string t); refine (implLabRight_any t _ l _ ht (((hv'.out.alloc _).alloc _).alloc _)).mono ?_; rintro e1 w1 ⟨rfl, hb1⟩; obtain ⟨hc1, hf1⟩ := bcell hb1; have hz1 := hb1.size; simp only [World.size_alloc] at hz1; have hz2 : w.heap.size + 1 + 1 < w1.heap.size := hz1; have hz3 : w.heap.size + 1 < w1.heap.size := (by omega); have hz4 : w.heap.size < w1.heap.size := (by omega); replace hz1 := Lib.hid hz1; replace hb1 := Lib.hid hb1)
          | (go_at_call_of 44 (Value.string s); refine (implLabRight_any s _ m _ hs ((((hu'.out.alloc _).alloc _).alloc _).below hb1.out)).mono ?_; rintro e1 w2 ⟨rfl, hb2⟩; obtain ⟨hc2, hf2⟩ := bcell hb2; replace hb2 := Lib.hid hb2))
        have hbw := Lib.hid (Below.then_ (Below.then_ (hbb.out _ _ _) hb1.out (Nat.le_refl _)) hb2.out (Nat.le_refl _))
        have hva := Lib.hid ((((((hv'.out.alloc _).alloc _).alloc _).below hb1.out).below hb2.out))
        have hub := Lib.hid ((((((hu'.out.alloc _).alloc _).alloc _).below hb1.out).below hb2.out))
        clear hv' hu'
        obtain ⟨B1, B2, B3⟩ := boxes3 w [.string t, .slice A1 l.length cap1] [.string s, .slice A2 m.length cap2] [.string ⟨#[]⟩, .slice none 0 0, .int .i64 0] 30 30 80
        replace B1 := (B1.up hb1.out).up hb2.out
        replace B2 := (B2.up hb1.out).up hb2.out
        replace B3 := Lib.hid ((B3.up hb1.out).up hb2.out)
        obtain ⟨x0, x1, -, -⟩ := B1.two
        obtain ⟨y0, y1, -, -⟩ := B2.two
        replace B1 := Lib.hid B1.drew
        replace B2 := Lib.hid B2.drew
        clear hc1 hc2 hf1 hf2 hz2 hz3 hz4 hz1
        have hbr := Lib.hid (Below.refl w2.drew.heap.size w2.drew)
        replace hva := Lib.hid hva.out.drew
        replace hub := Lib.hid hub.out.drew
        replace x0 : w2.drew.cell? ⟨w.heap.size, 0, none⟩ = some (.string t) := x0
        replace x1 : w2.drew.cell? ⟨w.heap.size, 1, none⟩ = some (.slice A1 l.length cap1) := x1
        replace y0 : w2.drew.cell? ⟨w.heap.size + 1, 0, none⟩ = some (.string s) := y0
        replace y1 : w2.drew.cell? ⟨w.heap.size + 1, 1, none⟩ = some (.slice A2 m.length cap2) := y1
        have hl12 := Lib.hid (show (cellsL t.data.toList l).length + (cellsL s.data.toList m).length ≤ 200 by rw [cellsL_len _ _ (by rw [hp2.out]; simp), cellsL_len _ _ (by rw [hq2.out]; simp), hp2.out, hq2.out]; omega)
        go_region_held3 (fun w' => w'.cell? ⟨w.heap.size, 0, none⟩ = some (.string t) ∧ w'.cell? ⟨w.heap.size, 1, none⟩ = some (.slice A1 l.length cap1) ∧ w'.cell? ⟨w.heap.size + 1, 0, none⟩ = some (.string s) ∧ w'.cell? ⟨w.heap.size + 1, 1, none⟩ = some (.slice A2 m.length cap2)) (exact ⟨x0, x1, y0, y1⟩)
          (first
            | (go_at_call_of 69 (Value.string t); refine (cellsOf_any t l _ _ hp2.out hva.out).mono ?_; rintro e1 w3 ⟨g3, rfl, hg3, hk3, hb3⟩; replace x0 := cell_below hb3 (Nat.le_refl _) _ _ x0; replace x1 := cell_below hb3 (Nat.le_refl _) _ _ x1; replace y0 := cell_below hb3 (Nat.le_refl _) _ _ y0; replace y1 := cell_below hb3 (Nat.le_refl _) _ _ y1; replace hva := Lib.hid (hva.out.below hb3); replace hub := Lib.hid (hub.out.below hb3); replace hg3 := Nat.le_trans hbr.out.size hg3; replace hbr := Lib.hid (Below.then_ hbr.out hb3 (Nat.le_refl _)); replace hk3 := Lib.hid hk3; replace hg3 := Lib.hid hg3; (first | (replace hk4 := Lib.hid (hk4.out.up hb3)) | skip); clear hb3)
            | (go_at_call_of 69 (Value.string s); refine (cellsOf_any s m _ _ hq2.out hub.out).mono ?_; rintro e1 w4 ⟨g4, rfl, hg4, hk4, hb4⟩; replace x0 := cell_below hb4 (Nat.le_refl _) _ _ x0; replace x1 := cell_below hb4 (Nat.le_refl _) _ _ x1; replace y0 := cell_below hb4 (Nat.le_refl _) _ _ y0; replace y1 := cell_below hb4 (Nat.le_refl _) _ _ y1; replace hva := Lib.hid (hva.out.below hb4); replace hub := Lib.hid (hub.out.below hb4); replace hg4 := Nat.le_trans hbr.out.size hg4; replace hbr := Lib.hid (Below.then_ hbr.out hb4 (Nat.le_refl _)); replace hk4 := Lib.hid hk4; replace hg4 := Lib.hid hg4; (first | (replace hk3 := Lib.hid (hk3.out.up hb4)) | skip); clear hb4)
            | (refine step_append_reads (by rfl) _ _ 107 (by rfl) w2.drew.heap.size 134 i0 (.complex .f64 0 0) 16 Tryd.underlying107 hi hz0 hz1 hz2 rfl (by decide) _ _ (cellsL t.data.toList l) (cellsL s.data.toList m) (by rfl) (hk3.out.owns rfl (by have := hl12.out; omega) hg3.out) (by rfl) (hk4.out.reads rfl) cells_one (by have := hl12.out; omega) hbr.out hbr.out.size ?_; intro v5 w5 ho5 hb5; clear x0 x1 y0 y1; obtain ⟨x0, x1, -, -⟩ := (B1.out.up hb5).two; obtain ⟨y0, y1, -, -⟩ := (B2.out.up hb5).two; replace ho5 := Lib.hid ho5; replace hb5 := Lib.hid hb5))
        all_goals
          have hT := Lib.hid (show t.data.toList.length = l.length by rw [hp2.out]; simp)
          have hTT := Lib.hid (show (t.data.toList ++ s.data.toList).length = (l ++ m).length by rw [List.length_append, List.length_append, hp2.out, hq2.out]; simp)
          have hLL := Lib.hid (show (l ++ m).length ≤ 1048576 by rw [List.length_append, hp2.out, hq2.out]; omega)
          have hmm := Lib.hid (show ∀ x ∈ l ++ m, 0 ≤ x ∧ x ≤ 15 from fun x hx => (List.mem_append.1 hx).elim (hp3.out x) (hq3.out x))
          have hrd := Lib.hid (show Reads w5 v5 (cellsL (t.data.toList ++ s.data.toList) (l ++ m)) by rw [← cellsL_append hT.out]; exact own_reads ho5.out)
          have hwz : w.heap.size + 1 + 1 < w5.heap.size := (B3.out.drew.up hb5.out).lt
          clear x0 x1 y0 y1 hk3 hk4 ho5
          go_wp2_with (go_at_call 70; refine (lab_any (t.data.toList ++ s.data.toList) (l ++ m) _ _ hTT.out hLL.out hmm.out hrd.out).mono ?_; rintro e1 w6 ⟨A, cap, rfl, ho, hb6⟩; obtain ⟨hr0, hr1, hr2, hf0, hf1, hf2⟩ := ((B3.out.drew.up hb5.out).up hb6).three; replace ho := Lib.hid ho; replace hb6 := Lib.hid hb6)
          refine bodyPost_ret (v := .agg #[.string (bytesOf (t.data.toList ++ s.data.toList)), .slice A (l ++ m).length cap, .int .i64 0]) (by simp [results, Tryd.results48, go_sem, hr0, hr1, hr2]) rfl ?_
          rw [e.out]
          exact LabOutEnd.yes (R := ⟨0, bytesOf (t.data.toList ++ s.data.toList), l ++ m⟩) rfl (ho.out.set3 (by omega) (by omega) _ _ _) (below_set3 (Below.then_ (Below.then_ (below_drew' hbw.out) hb5.out (Nat.le_refl _)) hb6.out (Nat.le_refl _)) (by omega) _ _ _)
    · have h2' : labB s m = false := by simpa using h2
      have e := Lib.hid (joinR_no (t := t) (l := l) (.inr h2'))
      clear h2
      go_enter Tryd.func48, Tryd.ntmps48
      go_wp2_with (first
        | (go_at_call_of 44 (Value.string t); refine (implLabRight_any t _ l _ ht (((hv'.out.alloc _).alloc _).alloc _)).mono ?_; rintro e1 w1 ⟨rfl, hb1⟩; obtain ⟨hc1, hf1⟩ := bcell hb1; have hz1 := hb1.size; simp only [World.size_alloc] at hz1; have hz2 : w.heap.size + 1 + 1 < w1.heap.size := hz1; have hz3 : w.heap.size + 1 < w1.heap.size := (by omega); have hz4 : w.heap.size < w1.heap.size := (by omega); replace hz1 := Lib.hid hz1; replace hb1 := Lib.hid hb1)
        | (go_at_call_of 44 (Value.string s); refine (implLabRight_any s _ m _ hs ((((hu'.out.alloc _).alloc _).alloc _).below hb1.out)).mono ?_; rintro e1 w2 ⟨rfl, hb2⟩; obtain ⟨hc2, hf2⟩ := bcell hb2; replace hb2 := Lib.hid hb2))
      exact bodyPost_ret (v := .agg #[.string ⟨#[]⟩, .slice none 0 0, .int .i64 1]) (by simp [results, Tryd.results48, go_sem, hc1, hc2, hz2]) rfl (LabOutEnd.none_ e.out (below_set3 (Below.then_ (Below.then_ (hbb.out _ _ _) hb1.out (Nat.le_refl _)) hb2.out (Nat.le_refl _)) (by omega) _ _ _))
  · have h1' : labB t l = false := by simpa using h1
    have e := Lib.hid (joinR_no (s := s) (m := m) (.inl h1'))
    clear h1
    go_enter Tryd.func48, Tryd.ntmps48
    go_wp2_with ((go_at_call_of 44 (Value.string t); refine (implLabRight_any t _ l _ ht (((hv'.out.alloc _).alloc _).alloc _)).mono ?_; rintro e1 w1 ⟨rfl, hb1⟩; obtain ⟨hc1, hf1⟩ := bcell hb1; have hz1 := hb1.size; simp only [World.size_alloc] at hz1; have hz2 : w.heap.size + 1 + 1 < w1.heap.size := hz1; have hz3 : w.heap.size + 1 < w1.heap.size := (by omega); have hz4 : w.heap.size < w1.heap.size := (by omega); replace hz1 := Lib.hid hz1; replace hb1 := Lib.hid hb1))
    exact bodyPost_ret (v := .agg #[.string ⟨#[]⟩, .slice none 0 0, .int .i64 1]) (by simp [results, Tryd.results48, go_sem, hc1]) rfl (LabOutEnd.none_ e.out (below_set3 (Below.then_ (hbb.out _ _ _) hb1.out (Nat.le_refl _)) (by omega) _ _ _))
end Go.Proofs.YtajnligcngekcaaDoor
