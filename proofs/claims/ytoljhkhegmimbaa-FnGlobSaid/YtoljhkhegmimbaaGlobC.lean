/- The program's calls that range over the pieces: GlobAll, GlobEnds, GlobFind. -/
import Derived.Test.YtoljhkhegmimbaaGlobI
namespace Go.Proofs.Ytoljhkhegmimbaa
open Go.RowKit Go.Shelf
attribute [local go_sem] Oper.semAt_some

set_option maxHeartbeats 400000 in
theorem pieces_any (p t : ByteArray) (w : World) :
    Calls Try.prog 23 #[.string p, .string t] w fun e w' =>
      e = .returned (.func (.func 34) #[] #[.pointer (some ⟨w.heap.size + 1, 0, none⟩), .pointer (some ⟨w.heap.size, 0, none⟩)]) ∧ w' = (w.alloc (.cells #[.string p] 9)).alloc (.cells #[.string t] 9) := by
  go_enter Try.func23, Try.ntmps23
  go_wp2
  go_ret
  exact ⟨by simp, rfl⟩
theorem keepB_t {b1 b2 : Nat} {A B C : World} (h : KeepB b1 b2 A B) (k : KeepB b1 b2 B C) : KeepB b1 b2 A C := ⟨k.1.trans h.1, k.2.trans h.2⟩
theorem keepB_b {b1 b2 m : Nat} (h1 : b1 < m) (h2 : b2 < m) (W : World) (l : Nat) (o o' : Obj) (hl : m ≤ l) (_ : W.heap[l]? = some o) (_ : o.isCells = false) (_ : o.isWalk = false) : KeepB b1 b2 W (W.putObj l o') :=
  ⟨World.putObj_heap_other (by omega), World.putObj_heap_other (by omega)⟩
theorem keepB_refl (b1 b2 : Nat) (W : World) : KeepB b1 b2 W W := ⟨rfl, rfl⟩
theorem keepB_alloc {b1 b2 : Nat} {W : World} (o : Obj) (h1 : b1 < W.heap.size) (h2 : b2 < W.heap.size) : KeepB b1 b2 W (W.alloc o) := ⟨Below.heap_alloc W o b1 h1, Below.heap_alloc W o b2 h2⟩
theorem keepB_set {b1 b2 : Nat} {W : World} (b i : Nat) (v : Value) (h1 : b1 ≠ b) (h2 : b2 ≠ b) : KeepB b1 b2 W (W.setCell ⟨b, i, none⟩ v) := ⟨Below.heap_setCell W _ v b1 h1, Below.heap_setCell W _ v b2 h2⟩
theorem trio_own {β : Type} (B : Nat) (t : TypeId) (x y z : β → Value) : Own (fun s W => Trio W B t (x s) (y s) (z s)) := fun s X Y row hs hg hrow => by
  refine (hg.block B (lt_of_block hs) (fun e => ?_)).trans hs
  obtain ⟨o, ho, hc⟩ := hrow B e.symm
  rw [show X.heap[B]? = _ from hs] at ho; cases ho; cases hc
theorem ownFrom_size {β : Type} (B m : Nat) : OwnFrom B (fun (_ : β) W => m ≤ W.heap.size) := fun _ _ _ _ hs hg _ => Nat.le_trans hs hg.size
/-- A round's box. -/
def RoundBox (H : Nat) (x : Nat × Nat) (W : World) (Bx : Nat) : Prop := H < Bx ∧ Trio W Bx 26 (.int .i64 (x.1 : Int)) (.int .i64 (x.2 : Int)) (.bool true)
theorem roundBox_own (H : Nat) (x : Nat × Nat) (Bx m : Nat) : OwnFrom m (fun (_ : Unit) W => RoundBox H x W Bx) := fun _ X Y row hs hg hr => ⟨hs.1, trio_own Bx _ (fun (_ : Unit) => _) (fun _ => _) (fun _ => _) () X Y row hs.2 hg (fun r e => (hr r e).2)⟩

set_option maxRecDepth 100000 in
set_option maxHeartbeats 4000000 in
theorem implAll_any (p t : ByteArray) (hp : p.size ≤ maxLen) (ht : t.size ≤ maxLen) (w : World) :
    Calls Try.prog 16 #[.string p, .string t] w fun e w' => SaysB (Means p.data.toList t.data.toList) e ∧ Below w.heap.size w w' := by
  have hsz := Lib.hid (size_data t)
  have ht' : t.size ≤ 9223372036854775807 := by unfold maxLen at ht; omega
  refine (callsIn_wide (n := 8)).1 ?_
  refine callsIn_of_wp_marks Try.func16 rfl trivial ?_ rfl
  simp only [Try.ntmps16, List.size_toArray, List.length_cons, List.length_nil, Nat.reduceAdd, Nat.reduceSub, Array.replicate_succ, Array.replicate_zero, List.push_toArray, List.append_toArray, List.nil_append, List.cons_append]
  gi_wp2_with (refine ⟨trivial, ?_⟩; gi_at_call 23; refine (callsIn_wide.2 (pieces_any p t _)).mono ?_; rintro e w' ⟨rfl, rfl⟩)
  have bT := (((Boxed.new w 9 (.string t)).alloc (.cells #[.bool false] 4)).alloc (.cells #[.string p] 9)).alloc (.cells #[.string t] 9)
  have bR := ((Boxed.new (w.alloc (.cells #[.string t] 9)) 4 (.bool false)).alloc (.cells #[.string p] 9)).alloc (.cells #[.string t] 9)
  have bP := (Boxed.new ((w.alloc (.cells #[.string t] 9)).alloc (.cells #[.bool false] 4)) 9 (.string p)).alloc (.cells #[.string t] 9)
  have bX := Boxed.new (((w.alloc (.cells #[.string t] 9)).alloc (.cells #[.bool false] 4)).alloc (.cells #[.string p] 9)) 9 (.string t)
  have hB0 : Below w.heap.size w ((((w.alloc (.cells #[.string t] 9)).alloc (.cells #[.bool false] 4)).alloc (.cells #[.string p] 9)).alloc (.cells #[.string t] 9)) := ((((Below.refl _ w).alloc (Nat.le_refl _) _).alloc (by simp) _).alloc (by simp; omega) _).alloc (by simp; omega) _
  simp only [World.size_alloc] at bR bP bX
  have hsz0 : ((((w.alloc (.cells #[.string t] 9)).alloc (.cells #[.bool false] 4)).alloc (.cells #[.string p] 9)).alloc (.cells #[.string t] 9)).heap.size = w.heap.size + 4 := by simp
  obtain ⟨W0, hW0⟩ : ∃ W0, (((w.alloc (.cells #[.string t] 9)).alloc (.cells #[.bool false] 4)).alloc (.cells #[.string p] 9)).alloc (.cells #[.string t] 9) = W0 := ⟨_, rfl⟩
  try simp only [World.size_alloc]
  rw [hW0] at bT bR bP bX hB0 hsz0 ⊢
  clear hW0
  refine wpIn_rangeFunc_ownH rfl (by omega) (gf := 34) (lb := #[.pointer (some ⟨w.heap.size + 1 + 1 + 1, 0, none⟩), .pointer (some ⟨w.heap.size + 1 + 1, 0, none⟩)]) rfl trivial (enters_of Try.func34 (by kernel_rfl) rfl)
    (pieces_stops 7 (w.heap.size + 1 + 1 + 1) (w.heap.size + 1 + 1) (by omega) p t hp ht W0 (by omega) (by omega) ⟨bX.cell, bP.cell⟩) keepB_t (keepB_b (by omega) (by omega)) (Below.refl _ _) (fun _ => rfl)
    (fun pre W => ((((∀ x ∈ pre, ¬ (x.1 = 0 ∧ x.2 = t.size)) ∧ Boxed W (w.heap.size + 1) 4 (.bool false)) ∧ Boxed W w.heap.size 9 (.string t)) ∧ Below w.heap.size w W) ∧ w.heap.size + 4 ≤ W.heap.size)
    (fun c pre W => ((c = .ret ∧ ∃ x ∈ pre, (x.1 = 0 ∧ x.2 = t.size)) ∧ Boxed W (w.heap.size + 1) 4 (.bool true)) ∧ Below w.heap.size w W)
    (OwnFrom.and (OwnFrom.and (OwnFrom.and (OwnFrom.and (ownFrom_pure _ _) (Own.from (boxed_own _ _ _) _)) (Own.from (boxed_own _ _ _) _)) (ownFrom_below (Nat.le_refl _) (by omega))) (ownFrom_size _ _))
    (fun c => OwnFrom.and (OwnFrom.and (ownFrom_pure _ _) (Own.from (boxed_own _ _ _) _)) (ownFrom_below (Nat.le_refl _) (by omega)))
    ⟨⟨⟨⟨by simp, bR⟩, bT⟩, hB0⟩, by omega⟩
    (fun x a' W => ∃ Bx, RoundBox (w.heap.size + 3) x W Bx ∧ a' = { tmps := #[.string p, .string t, undef, .pointer (some ⟨w.heap.size, 0, none⟩), .pointer (some ⟨w.heap.size + 1, 0, none⟩), .pointer (some ⟨Bx, 0, none⟩), .string p, .string t, .func (.func 34) #[] #[.pointer (some ⟨w.heap.size + 1 + 1 + 1, 0, none⟩), .pointer (some ⟨w.heap.size + 1 + 1, 0, none⟩)], spanE x, undef, undef, undef, undef, undef, undef, undef, undef, undef, undef], defers := [] })
    (fun x a' _ X Y row hs hg hr => by obtain ⟨Bx, e1, e2⟩ := hs; exact ⟨Bx, roundBox_own _ x Bx _ () X Y row e1 hg hr, e2⟩)
    ?assign ?body ?done ?stop
  case assign =>
    rintro l pre x W K ⟨⟨⟨⟨hq, bR1⟩, bT1⟩, hB1⟩, hs1⟩ hK
    dsimp only [spanEs]
    gi_wp2
    exact hK _ _ ((KeepsOthers.alloc _ _).from _) (keepB_alloc _ (by omega) (by omega)) ⟨⟨⟨⟨hq, bR1.alloc _⟩, bT1.alloc _⟩, hB1.alloc hB1.size _⟩, by simp; omega⟩ ⟨W.heap.size, ⟨by omega, Trio.new W _ _ _ _⟩, rfl⟩
  case body =>
    rintro l pre x a' W hl ⟨r, hr⟩ ⟨⟨⟨⟨hq, bR1⟩, bT1⟩, hB1⟩, hs1⟩ ⟨Bx, ⟨hBx, tX⟩, rfl⟩ hlt
    obtain ⟨k0, k1, k2, -, -, -⟩ := tX.facts
    have cT := bT1.cell
    have cR := bR1.cell
    have fR := bR1.frozen
    by_cases h1 : x.1 = 0
    · have h1' : ((x.1 : Int) == 0) = true := by simp; omega
      by_cases h2 : x.2 = t.size
      · have h2' : ((x.2 : Int) == (t.size : Int)) = true := by simp; omega
        have hyes := Lib.hid (show x.1 = 0 ∧ x.2 = t.size from ⟨h1, h2⟩)
        clear h1 h2
        gi_wp2
        exact ⟨(KeepsOthers.setCell _ _ _).from _, ⟨⟨rfl, x, List.mem_append.2 (.inr (by simp)), hyes.out⟩, bR1.set _⟩, hB1.setCell (p := ⟨w.heap.size + 1, 0, none⟩) (by simp) _⟩
      · have h2' : ((x.2 : Int) == (t.size : Int)) = false := by rw [beq_eq_false_iff_ne]; omega
        have hno := Lib.hid (show ¬ (x.1 = 0 ∧ x.2 = t.size) from fun h => h2 h.2)
        clear h1 h2
        gi_wp2
        exact ⟨KeepsFrom.refl _ _, keepB_refl _ _ _, ⟨⟨⟨⟨fun z hz => (List.mem_append.1 hz).elim (hq z) (fun e => by simp at e; subst e; exact hno.out), bR1⟩, bT1⟩, hB1⟩, hs1⟩⟩
    · have h1' : ((x.1 : Int) == 0) = false := by rw [beq_eq_false_iff_ne]; omega
      have hno := Lib.hid (show ¬ (x.1 = 0 ∧ x.2 = t.size) from fun h => h1 h.1)
      clear h1
      gi_wp2
      exact ⟨KeepsFrom.refl _ _, keepB_refl _ _ _, ⟨⟨⟨⟨fun z hz => (List.mem_append.1 hz).elim (hq z) (fun e => by simp at e; subst e; exact hno.out), bR1⟩, bT1⟩, hB1⟩, hs1⟩⟩
  case done =>
    rintro D zs W hD hS ⟨⟨⟨⟨hq, bR1⟩, bT1⟩, hB1⟩, hs1⟩ hK
    have cR := bR1.cell
    have fR := bR1.frozen
    gi_wp2
    have hK' := (KeepsOthers.setCell W ⟨w.heap.size + 1, 0, none⟩ (.bool false)).same D _ hK rfl
    refine ⟨by simp, .inl ⟨_, _, rfl, run_takeDeferred hK', ?_⟩⟩
    have hc5 := cell_kept (bR1.set (.bool false)).cell (grownBy_putObj' _ D (.deferred none)) (fun r e => by cases e; exact ⟨_, hK', rfl⟩)
    refine ⟨.bool false, ?_, ⟨false, ⟨fun h => (by cases h), fun h => ?_⟩, rfl⟩, (hB1.setCell (p := ⟨w.heap.size + 1, 0, none⟩) (by simp) _).trans (belowK_b (w := w) (Nat.le_refl _) _ D _ _ (by omega) hK' rfl rfl)⟩
    · simp [results, Try.f16, go_sem, hc5]
    · obtain ⟨ho, h8, ps, hps, hg⟩ := h
      obtain ⟨qs, hqs, hA⟩ := hS.1 ⟨ho, h8⟩
      rw [hps] at hqs; cases hqs
      obtain ⟨f', hf', hm⟩ := hA.2.2 _ _ hg
      obtain rfl : f' = 0 := by omega
      exact (hq _ hm ⟨rfl, hsz.out⟩).elim
  case stop =>
    rintro D c pre W hD hP ⟨⟨⟨rfl, x, hx, hy⟩, bR1⟩, hB1⟩ hK
    gi_wp2
    refine ⟨by simp, .inl ⟨_, _, rfl, run_takeDeferred hK, ?_⟩⟩
    have hc5 := cell_kept bR1.cell (grownBy_putObj' _ D (.deferred none)) (fun r e => by cases e; exact ⟨_, hK, rfl⟩)
    refine ⟨.bool true, ?_, ⟨true, ⟨fun _ => ?_, fun _ => rfl⟩, rfl⟩, hB1.trans (belowK_b (w := w) (Nat.le_refl _) _ D _ _ (by omega) hK rfl rfl)⟩
    · simp [results, Try.f16, go_sem, hc5]
    · obtain ⟨⟨ho, h8⟩, ps, hps, hA⟩ := hP
      have hgx := hA.1 x hx
      refine ⟨ho, h8, ps, hps, ?_⟩
      obtain ⟨x1, x2⟩ := x
      obtain ⟨rfl, rfl⟩ : x1 = 0 ∧ x2 = t.size := hy
      rw [hsz.out]; exact hgx

set_option maxRecDepth 100000 in
set_option maxHeartbeats 4000000 in
theorem implEnds_any (p t : ByteArray) (hp : p.size ≤ maxLen) (ht : t.size ≤ maxLen) (w : World) :
    Calls Try.prog 12 #[.string p, .string t] w fun e w' => SaysB (EndsG p.data.toList t.data.toList) e ∧ Below w.heap.size w w' := by
  have hsz := Lib.hid (size_data t)
  have ht' : t.size ≤ 9223372036854775807 := by unfold maxLen at ht; omega
  refine (callsIn_wide (n := 8)).1 ?_
  refine callsIn_of_wp_marks Try.func12 rfl trivial ?_ rfl
  simp only [Try.ntmps12, List.size_toArray, List.length_cons, List.length_nil, Nat.reduceAdd, Nat.reduceSub, Array.replicate_succ, Array.replicate_zero, List.push_toArray, List.append_toArray, List.nil_append, List.cons_append]
  gi_wp2_with (refine ⟨trivial, ?_⟩; gi_at_call 23; refine (callsIn_wide.2 (pieces_any p t _)).mono ?_; rintro e w' ⟨rfl, rfl⟩)
  have bT := (((Boxed.new w 9 (.string t)).alloc (.cells #[.bool false] 4)).alloc (.cells #[.string p] 9)).alloc (.cells #[.string t] 9)
  have bR := ((Boxed.new (w.alloc (.cells #[.string t] 9)) 4 (.bool false)).alloc (.cells #[.string p] 9)).alloc (.cells #[.string t] 9)
  have bP := (Boxed.new ((w.alloc (.cells #[.string t] 9)).alloc (.cells #[.bool false] 4)) 9 (.string p)).alloc (.cells #[.string t] 9)
  have bX := Boxed.new (((w.alloc (.cells #[.string t] 9)).alloc (.cells #[.bool false] 4)).alloc (.cells #[.string p] 9)) 9 (.string t)
  have hB0 : Below w.heap.size w ((((w.alloc (.cells #[.string t] 9)).alloc (.cells #[.bool false] 4)).alloc (.cells #[.string p] 9)).alloc (.cells #[.string t] 9)) := ((((Below.refl _ w).alloc (Nat.le_refl _) _).alloc (by simp) _).alloc (by simp; omega) _).alloc (by simp; omega) _
  simp only [World.size_alloc] at bR bP bX
  have hsz0 : ((((w.alloc (.cells #[.string t] 9)).alloc (.cells #[.bool false] 4)).alloc (.cells #[.string p] 9)).alloc (.cells #[.string t] 9)).heap.size = w.heap.size + 4 := by simp
  obtain ⟨W0, hW0⟩ : ∃ W0, (((w.alloc (.cells #[.string t] 9)).alloc (.cells #[.bool false] 4)).alloc (.cells #[.string p] 9)).alloc (.cells #[.string t] 9) = W0 := ⟨_, rfl⟩
  try simp only [World.size_alloc]
  rw [hW0] at bT bR bP bX hB0 hsz0 ⊢
  clear hW0
  refine wpIn_rangeFunc_ownH rfl (by omega) (gf := 34) (lb := #[.pointer (some ⟨w.heap.size + 1 + 1 + 1, 0, none⟩), .pointer (some ⟨w.heap.size + 1 + 1, 0, none⟩)]) rfl trivial (enters_of Try.func34 (by kernel_rfl) rfl)
    (pieces_stops 7 (w.heap.size + 1 + 1 + 1) (w.heap.size + 1 + 1) (by omega) p t hp ht W0 (by omega) (by omega) ⟨bX.cell, bP.cell⟩) keepB_t (keepB_b (by omega) (by omega)) (Below.refl _ _) (fun _ => rfl)
    (fun pre W => ((((∀ x ∈ pre, ¬ (x.2 = t.size)) ∧ Boxed W (w.heap.size + 1) 4 (.bool false)) ∧ Boxed W w.heap.size 9 (.string t)) ∧ Below w.heap.size w W) ∧ w.heap.size + 4 ≤ W.heap.size)
    (fun c pre W => ((c = .ret ∧ ∃ x ∈ pre, (x.2 = t.size)) ∧ Boxed W (w.heap.size + 1) 4 (.bool true)) ∧ Below w.heap.size w W)
    (OwnFrom.and (OwnFrom.and (OwnFrom.and (OwnFrom.and (ownFrom_pure _ _) (Own.from (boxed_own _ _ _) _)) (Own.from (boxed_own _ _ _) _)) (ownFrom_below (Nat.le_refl _) (by omega))) (ownFrom_size _ _))
    (fun c => OwnFrom.and (OwnFrom.and (ownFrom_pure _ _) (Own.from (boxed_own _ _ _) _)) (ownFrom_below (Nat.le_refl _) (by omega)))
    ⟨⟨⟨⟨by simp, bR⟩, bT⟩, hB0⟩, by omega⟩
    (fun x a' W => ∃ Bx, RoundBox (w.heap.size + 3) x W Bx ∧ a' = { tmps := #[.string p, .string t, undef, .pointer (some ⟨w.heap.size, 0, none⟩), .pointer (some ⟨w.heap.size + 1, 0, none⟩), .pointer (some ⟨Bx, 0, none⟩), .string p, .string t, .func (.func 34) #[] #[.pointer (some ⟨w.heap.size + 1 + 1 + 1, 0, none⟩), .pointer (some ⟨w.heap.size + 1 + 1, 0, none⟩)], spanE x, undef, undef, undef, undef, undef], defers := [] })
    (fun x a' _ X Y row hs hg hr => by obtain ⟨Bx, e1, e2⟩ := hs; exact ⟨Bx, roundBox_own _ x Bx _ () X Y row e1 hg hr, e2⟩)
    ?assign ?body ?done ?stop
  case assign =>
    rintro l pre x W K ⟨⟨⟨⟨hq, bR1⟩, bT1⟩, hB1⟩, hs1⟩ hK
    dsimp only [spanEs]
    gi_wp2
    exact hK _ _ ((KeepsOthers.alloc _ _).from _) (keepB_alloc _ (by omega) (by omega)) ⟨⟨⟨⟨hq, bR1.alloc _⟩, bT1.alloc _⟩, hB1.alloc hB1.size _⟩, by simp; omega⟩ ⟨W.heap.size, ⟨by omega, Trio.new W _ _ _ _⟩, rfl⟩
  case body =>
    rintro l pre x a' W hl ⟨r, hr⟩ ⟨⟨⟨⟨hq, bR1⟩, bT1⟩, hB1⟩, hs1⟩ ⟨Bx, ⟨hBx, tX⟩, rfl⟩ hlt
    obtain ⟨k0, k1, k2, -, -, -⟩ := tX.facts
    have cT := bT1.cell
    have cR := bR1.cell
    have fR := bR1.frozen
    by_cases h2 : x.2 = t.size
    · have h2' : ((x.2 : Int) == (t.size : Int)) = true := by simp; omega
      have hyes := Lib.hid h2
      clear h2
      gi_wp2
      exact ⟨(KeepsOthers.setCell _ _ _).from _, ⟨⟨rfl, x, List.mem_append.2 (.inr (by simp)), hyes.out⟩, bR1.set _⟩, hB1.setCell (p := ⟨w.heap.size + 1, 0, none⟩) (by simp) _⟩
    · have h2' : ((x.2 : Int) == (t.size : Int)) = false := by rw [beq_eq_false_iff_ne]; omega
      have hno := Lib.hid h2
      clear h2
      gi_wp2
      exact ⟨KeepsFrom.refl _ _, keepB_refl _ _ _, ⟨⟨⟨⟨fun z hz => (List.mem_append.1 hz).elim (hq z) (fun e => by simp at e; subst e; exact hno.out), bR1⟩, bT1⟩, hB1⟩, hs1⟩⟩
  case done =>
    rintro D zs W hD hS ⟨⟨⟨⟨hq, bR1⟩, bT1⟩, hB1⟩, hs1⟩ hK
    have cR := bR1.cell
    have fR := bR1.frozen
    gi_wp2
    have hK' := (KeepsOthers.setCell W ⟨w.heap.size + 1, 0, none⟩ (.bool false)).same D _ hK rfl
    refine ⟨by simp, .inl ⟨_, _, rfl, run_takeDeferred hK', ?_⟩⟩
    have hc5 := cell_kept (bR1.set (.bool false)).cell (grownBy_putObj' _ D (.deferred none)) (fun r e => by cases e; exact ⟨_, hK', rfl⟩)
    refine ⟨.bool false, ?_, ⟨false, ⟨fun h => (by cases h), fun h => ?_⟩, rfl⟩, (hB1.setCell (p := ⟨w.heap.size + 1, 0, none⟩) (by simp) _).trans (belowK_b (w := w) (Nat.le_refl _) _ D _ _ (by omega) hK' rfl rfl)⟩
    · simp [results, Try.f12, go_sem, hc5]
    · obtain ⟨ho, h8, ps, hps, hg⟩ := h
      obtain ⟨qs, hqs, hA⟩ := hS.1 ⟨ho, h8⟩
      rw [hps] at hqs; cases hqs
      obtain ⟨f, hg⟩ := hg
      obtain ⟨f', hf', hm⟩ := hA.2.2 _ _ hg
      exact (hq _ hm hsz.out).elim
  case stop =>
    rintro D c pre W hD hP ⟨⟨⟨rfl, x, hx, hy⟩, bR1⟩, hB1⟩ hK
    gi_wp2
    refine ⟨by simp, .inl ⟨_, _, rfl, run_takeDeferred hK, ?_⟩⟩
    have hc5 := cell_kept bR1.cell (grownBy_putObj' _ D (.deferred none)) (fun r e => by cases e; exact ⟨_, hK, rfl⟩)
    refine ⟨.bool true, ?_, ⟨true, ⟨fun _ => ?_, fun _ => rfl⟩, rfl⟩, hB1.trans (belowK_b (w := w) (Nat.le_refl _) _ D _ _ (by omega) hK rfl rfl)⟩
    · simp [results, Try.f12, go_sem, hc5]
    · obtain ⟨⟨ho, h8⟩, ps, hps, hA⟩ := hP
      have hgx := hA.1 x hx
      refine ⟨ho, h8, ps, hps, x.1, ?_⟩
      obtain ⟨x1, x2⟩ := x
      obtain rfl : x2 = t.size := hy
      rw [hsz.out]; exact hgx

def sA : Option (Nat × Nat) → Value
  | none => .int .i64 0
  | some z => .int .i64 (z.1 : Int)
def sB : Option (Nat × Nat) → Value
  | none => .int .i64 0
  | some z => .int .i64 (z.2 : Int)
def sC : Option (Nat × Nat) → Value
  | none => .bool false
  | some _ => .bool true
theorem spanV_three (r : Option (Nat × Nat)) : spanV r = .agg #[sA r, sB r, sC r] := by cases r <;> rfl
def FirstBox (H : Nat) (pre : List (Nat × Nat)) (W : World) : Prop := ∃ r, First pre r ∧ Trio W H 26 (sA r) (sB r) (sC r)
theorem firstBox_own (H m : Nat) : OwnFrom m (FirstBox H) := fun pre X Y row hs hg hr => by
  obtain ⟨r, h1, h2⟩ := hs
  exact ⟨r, h1, trio_own H _ (fun (_ : Unit) => _) (fun _ => _) (fun _ => _) () X Y row h2 hg (fun q e => (hr q e).2)⟩
def BreakBox (H : Nat) (pre : List (Nat × Nat)) (W : World) : Prop := ∃ init x z, pre = init ++ [x] ∧ First init (some z) ∧ x.1 ≠ z.1 ∧ Trio W H 26 (sA (some z)) (sB (some z)) (sC (some z))
theorem breakBox_own (H m : Nat) : OwnFrom m (BreakBox H) := fun pre X Y row hs hg hr => by
  obtain ⟨init, x, z, h1, h2, h3, h4⟩ := hs
  exact ⟨init, x, z, h1, h2, h3, trio_own H _ (fun (_ : Unit) => _) (fun _ => _) (fun _ => _) () X Y row h4 hg (fun q e => (hr q e).2)⟩
theorem first_all {pl tl : List UInt8} {xs : List (Nat × Nat)} {r : Option (Nat × Nat)} (hS : CameS pl tl xs) (h : First xs r) : FindsG pl tl r ∧ ∀ z, r = some z → z.1 ≤ 8000 ∧ z.2 ≤ 8000 := by
  by_cases hk : globOk pl = true ∧ tl.length ≤ 8000
  · obtain ⟨ps, hps, hA⟩ := hS.1 hk
    have hf := h.all hA
    exact ⟨⟨fun _ => ⟨ps, hps, hf⟩, fun hn => (hn hk).elim⟩, hf.small hk.2⟩
  · obtain rfl := hS.2 hk
    obtain rfl : r = none := by
      rcases h with ⟨_, h⟩ | ⟨init, z, h, _⟩
      · exact h
      · cases init <;> cases h
    exact ⟨⟨fun h' => (hk h').elim, fun _ => rfl⟩, fun z hz => by cases hz⟩
theorem first_part {pl tl : List UInt8} {init : List (Nat × Nat)} {x z : Nat × Nat} (hP : CameP pl tl (init ++ [x])) (h : First init (some z)) (hx : x.1 ≠ z.1) : FindsG pl tl (some z) ∧ ∀ y, some z = some y → y.1 ≤ 8000 ∧ y.2 ≤ 8000 := by
  obtain ⟨hk, ps, hps, hp⟩ := hP
  have hf := h.part hx hp
  exact ⟨⟨fun _ => ⟨ps, hps, hf⟩, fun hn => (hn hk).elim⟩, hf.small hk.2⟩
theorem keepsOthers_three (W : World) (b : Nat) (x y z : Value) : KeepsOthers W (((W.setCell ⟨b, 0, none⟩ x).setCell ⟨b, 1, none⟩ y).setCell ⟨b, 2, none⟩ z) :=
  ((KeepsOthers.setCell _ _ _).trans (KeepsOthers.setCell _ _ _)).trans (KeepsOthers.setCell _ _ _)
theorem keepB_three {b1 b2 : Nat} {W : World} (b : Nat) (x y z : Value) (h1 : b1 ≠ b) (h2 : b2 ≠ b) : KeepB b1 b2 W (((W.setCell ⟨b, 0, none⟩ x).setCell ⟨b, 1, none⟩ y).setCell ⟨b, 2, none⟩ z) :=
  keepB_t (keepB_t (keepB_set b 0 x h1 h2) (keepB_set b 1 y h1 h2)) (keepB_set b 2 z h1 h2)
theorem trio_three {W : World} {g : Nat} {t : TypeId} {a c d : Value} (h : Trio W g t a c d) (b : Nat) (x y z : Value) (hne : g ≠ b) : Trio (((W.setCell ⟨b, 0, none⟩ x).setCell ⟨b, 1, none⟩ y).setCell ⟨b, 2, none⟩ z) g t a c d := ((h.other hne 0 x).other hne 1 y).other hne 2 z
theorem below_three {B : Nat} {w W : World} (h : Below B w W) (b : Nat) (x y z : Value) (hb : B ≤ b) : Below B w (((W.setCell ⟨b, 0, none⟩ x).setCell ⟨b, 1, none⟩ y).setCell ⟨b, 2, none⟩ z) :=
  ((h.setCell (p := ⟨b, 0, none⟩) hb x).setCell (p := ⟨b, 1, none⟩) hb y).setCell (p := ⟨b, 2, none⟩) hb z
theorem size_three (W : World) (b : Nat) (x y z : Value) : (((W.setCell ⟨b, 0, none⟩ x).setCell ⟨b, 1, none⟩ y).setCell ⟨b, 2, none⟩ z).heap.size = W.heap.size := by simp

set_option maxRecDepth 100000 in
set_option maxHeartbeats 4000000 in
theorem implFind_any (p t : ByteArray) (hp : p.size ≤ maxLen) (ht : t.size ≤ maxLen) (w : World) :
    Calls Try.prog 10 #[.string p, .string t] w fun e w' => SpanEnd p.data.toList t.data.toList e ∧ Below w.heap.size w w' := by
  refine (callsIn_wide (n := 8)).1 ?_
  refine callsIn_of_wp_marks Try.func10 rfl trivial ?_ rfl
  simp only [Try.ntmps10, List.size_toArray, List.length_cons, List.length_nil, Nat.reduceAdd, Nat.reduceSub, Array.replicate_succ, Array.replicate_zero, List.push_toArray, List.append_toArray, List.nil_append, List.cons_append]
  gi_wp2_with (refine ⟨trivial, ?_⟩; gi_at_call 23; refine (callsIn_wide.2 (pieces_any p t _)).mono ?_; rintro e w' ⟨rfl, rfl⟩)
  have bR := (((Trio.new w 26 (.int .i64 0) (.int .i64 0) (.bool false)).alloc (.cells #[.int .i64 0, .int .i64 0, .bool false] 26)).alloc (.cells #[.string p] 9)).alloc (.cells #[.string t] 9)
  have bF := ((Trio.new (w.alloc (.cells #[.int .i64 0, .int .i64 0, .bool false] 26)) 26 (.int .i64 0) (.int .i64 0) (.bool false)).alloc (.cells #[.string p] 9)).alloc (.cells #[.string t] 9)
  have bP := (Boxed.new ((w.alloc (.cells #[.int .i64 0, .int .i64 0, .bool false] 26)).alloc (.cells #[.int .i64 0, .int .i64 0, .bool false] 26)) 9 (.string p)).alloc (.cells #[.string t] 9)
  have bX := Boxed.new (((w.alloc (.cells #[.int .i64 0, .int .i64 0, .bool false] 26)).alloc (.cells #[.int .i64 0, .int .i64 0, .bool false] 26)).alloc (.cells #[.string p] 9)) 9 (.string t)
  have hB0 : Below w.heap.size w ((((w.alloc (.cells #[.int .i64 0, .int .i64 0, .bool false] 26)).alloc (.cells #[.int .i64 0, .int .i64 0, .bool false] 26)).alloc (.cells #[.string p] 9)).alloc (.cells #[.string t] 9)) := ((((Below.refl _ w).alloc (Nat.le_refl _) _).alloc (by simp) _).alloc (by simp; omega) _).alloc (by simp; omega) _
  simp only [World.size_alloc] at bF bP bX
  have hsz0 : ((((w.alloc (.cells #[.int .i64 0, .int .i64 0, .bool false] 26)).alloc (.cells #[.int .i64 0, .int .i64 0, .bool false] 26)).alloc (.cells #[.string p] 9)).alloc (.cells #[.string t] 9)).heap.size = w.heap.size + 4 := by simp
  obtain ⟨W0, hW0⟩ : ∃ W0, (((w.alloc (.cells #[.int .i64 0, .int .i64 0, .bool false] 26)).alloc (.cells #[.int .i64 0, .int .i64 0, .bool false] 26)).alloc (.cells #[.string p] 9)).alloc (.cells #[.string t] 9) = W0 := ⟨_, rfl⟩
  rw [hW0] at bR bF bP bX hB0 hsz0 ⊢
  clear hW0
  refine wpIn_rangeFunc_ownH rfl (by omega) (gf := 34) (lb := #[.pointer (some ⟨w.heap.size + 1 + 1 + 1, 0, none⟩), .pointer (some ⟨w.heap.size + 1 + 1, 0, none⟩)]) rfl trivial (enters_of Try.func34 (by kernel_rfl) rfl)
    (pieces_stops 7 (w.heap.size + 1 + 1 + 1) (w.heap.size + 1 + 1) (by omega) p t hp ht W0 (by omega) (by omega) ⟨bX.cell, bP.cell⟩) keepB_t (keepB_b (by omega) (by omega)) (Below.refl _ _) (fun _ => rfl)
    (fun pre W => ((FirstBox (w.heap.size + 1) pre W ∧ Trio W w.heap.size 26 (.int .i64 0) (.int .i64 0) (.bool false)) ∧ Below w.heap.size w W) ∧ w.heap.size + 4 ≤ W.heap.size)
    (fun c pre W => ((c = .exit 0 ∧ BreakBox (w.heap.size + 1) pre W) ∧ Trio W w.heap.size 26 (.int .i64 0) (.int .i64 0) (.bool false)) ∧ Below w.heap.size w W)
    (OwnFrom.and (OwnFrom.and (OwnFrom.and (firstBox_own _ _) (Own.from (trio_own _ _ (fun _ => _) (fun _ => _) (fun _ => _)) _)) (ownFrom_below (Nat.le_refl _) (by omega))) (ownFrom_size _ _))
    (fun c => OwnFrom.and (OwnFrom.and (OwnFrom.and (ownFrom_pure _ (fun _ => c = .exit 0)) (breakBox_own _ _)) (Own.from (trio_own _ _ (fun _ => _) (fun _ => _) (fun _ => _)) _)) (ownFrom_below (Nat.le_refl _) (by omega)))
    ⟨⟨⟨⟨none, .inl ⟨rfl, rfl⟩, bF⟩, bR⟩, hB0⟩, by omega⟩
    (fun x a' W => ∃ Bx, RoundBox (w.heap.size + 3) x W Bx ∧ a' = { tmps := #[.string p, .string t, undef, undef, .pointer (some ⟨w.heap.size, 0, none⟩), .pointer (some ⟨w.heap.size + 1, 0, none⟩), .pointer (some ⟨Bx, 0, none⟩), .string p, .string t, .func (.func 34) #[] #[.pointer (some ⟨w.heap.size + 1 + 1 + 1, 0, none⟩), .pointer (some ⟨w.heap.size + 1 + 1, 0, none⟩)], spanE x, undef, undef, undef, undef, undef, undef, undef, undef, undef, undef, undef], defers := [] })
    (fun x a' _ X Y row hs hg hr => by obtain ⟨Bx, e1, e2⟩ := hs; exact ⟨Bx, roundBox_own _ x Bx _ () X Y row e1 hg hr, e2⟩)
    ?assign ?body ?done ?stop
  case assign =>
    rintro l pre x W K ⟨⟨⟨⟨r, hF, bF1⟩, bR1⟩, hB1⟩, hs1⟩ hK
    dsimp only [spanEs]
    gi_wp2
    exact hK _ _ ((KeepsOthers.alloc _ _).from _) (keepB_alloc _ (by omega) (by omega)) ⟨⟨⟨⟨r, hF, bF1.alloc _⟩, bR1.alloc _⟩, hB1.alloc hB1.size _⟩, by simp; omega⟩ ⟨W.heap.size, ⟨by omega, Trio.new W _ _ _ _⟩, rfl⟩
  case body =>
    rintro l pre x a' W hl ⟨r0, hr⟩ ⟨⟨⟨⟨r, hF, bF1⟩, bR1⟩, hB1⟩, hs1⟩ ⟨Bx, ⟨hBx, tX⟩, rfl⟩ hlt
    obtain ⟨k0, k1, k2, -, -, -⟩ := tX.facts
    obtain ⟨c0, c1, c2, d0, d1, d2⟩ := bF1.facts
    have hgo := Lib.hid (show ∀ (hx : ∀ z, r = some z → x.1 = z.1), KeepsFrom W0.heap.size W (((W.setCell ⟨w.heap.size + 1, 0, none⟩ (.int .i64 (x.1 : Int))).setCell ⟨w.heap.size + 1, 1, none⟩ (.int .i64 (x.2 : Int))).setCell ⟨w.heap.size + 1, 2, none⟩ (.bool true)) ∧ KeepB (w.heap.size + 1 + 1 + 1) (w.heap.size + 1 + 1) W (((W.setCell ⟨w.heap.size + 1, 0, none⟩ (.int .i64 (x.1 : Int))).setCell ⟨w.heap.size + 1, 1, none⟩ (.int .i64 (x.2 : Int))).setCell ⟨w.heap.size + 1, 2, none⟩ (.bool true)) ∧
        ((FirstBox (w.heap.size + 1) (pre ++ [x]) (((W.setCell ⟨w.heap.size + 1, 0, none⟩ (.int .i64 (x.1 : Int))).setCell ⟨w.heap.size + 1, 1, none⟩ (.int .i64 (x.2 : Int))).setCell ⟨w.heap.size + 1, 2, none⟩ (.bool true)) ∧ Trio (((W.setCell ⟨w.heap.size + 1, 0, none⟩ (.int .i64 (x.1 : Int))).setCell ⟨w.heap.size + 1, 1, none⟩ (.int .i64 (x.2 : Int))).setCell ⟨w.heap.size + 1, 2, none⟩ (.bool true)) w.heap.size 26 (.int .i64 0) (.int .i64 0) (.bool false)) ∧ Below w.heap.size w (((W.setCell ⟨w.heap.size + 1, 0, none⟩ (.int .i64 (x.1 : Int))).setCell ⟨w.heap.size + 1, 1, none⟩ (.int .i64 (x.2 : Int))).setCell ⟨w.heap.size + 1, 2, none⟩ (.bool true))) ∧ w.heap.size + 4 ≤ (((W.setCell ⟨w.heap.size + 1, 0, none⟩ (.int .i64 (x.1 : Int))).setCell ⟨w.heap.size + 1, 1, none⟩ (.int .i64 (x.2 : Int))).setCell ⟨w.heap.size + 1, 2, none⟩ (.bool true)).heap.size
      from fun hx => ⟨(keepsOthers_three _ _ _ _ _).from _, keepB_three _ _ _ _ (by omega) (by omega), ⟨⟨⟨some x, hF.next hx, bF1.set _ _ _⟩, trio_three bR1 _ _ _ _ (by omega)⟩, below_three hB1 _ _ _ _ (by omega)⟩, by rw [size_three]; exact hs1⟩)
    cases r with
    | none =>
      simp only [sA, sB, sC] at c0 c1 c2
      gi_wp2
      exact hgo.out (fun z hz => by cases hz)
    | some z =>
      simp only [sA, sB, sC] at c0 c1 c2
      by_cases hz : x.1 = z.1
      · have hz' : ((x.1 : Int) != (z.1 : Int)) = false := by rw [hz]; simp
        replace hz := Lib.hid hz
        gi_wp2
        exact hgo.out (fun y hy => by cases hy; exact hz.out)
      · have hz' : ((x.1 : Int) != (z.1 : Int)) = true := by simp; omega
        replace hz := Lib.hid hz
        gi_wp2
        exact ⟨KeepsFrom.refl _ _, ⟨⟨rfl, pre, x, z, rfl, hF, hz.out, bF1⟩, bR1⟩, hB1⟩
  case done =>
    rintro D zs W hD hS ⟨⟨⟨⟨r, hF, bF1⟩, bR1⟩, hB1⟩, hs1⟩ hK
    obtain ⟨hfind, hsm⟩ := first_all hS hF
    obtain ⟨ra, rb, rc, hr3⟩ := spanV_form r
    have h3 := spanV_three r
    rw [hr3] at h3
    obtain ⟨q0, q1, q2⟩ : sA r = .int .i64 ra ∧ sB r = .int .i64 rb ∧ sC r = .bool rc := by
      simp only [Value.agg.injEq] at h3
      have := congrArg Array.toList h3
      simp at this
      exact ⟨this.1.symm, this.2.1.symm, this.2.2.symm⟩
    rw [q0, q1, q2] at bF1
    clear h3 q0 q1 q2
    obtain ⟨c0, c1, c2, -, -, -⟩ := bF1.facts
    obtain ⟨e0, e1, e2, g0, g1, g2⟩ := bR1.facts
    have hr3 := Lib.hid hr3
    gi_wp2
    have hK' := (keepsOthers_three W w.heap.size (.int .i64 ra) (.int .i64 rb) (.bool rc)).same D _ hK rfl
    refine ⟨by simp, .inl ⟨_, _, rfl, run_takeDeferred hK', ?_⟩⟩
    have hT := bR1.set (.int .i64 ra) (.int .i64 rb) (.bool rc)
    obtain ⟨m0, m1, m2, -, -, -⟩ := hT.facts
    have n0 := cell_kept m0 (grownBy_putObj' _ D (.deferred none)) (fun q e => by cases e; exact ⟨_, hK', rfl⟩)
    have n1 := cell_kept m1 (grownBy_putObj' _ D (.deferred none)) (fun q e => by cases e; exact ⟨_, hK', rfl⟩)
    have n2 := cell_kept m2 (grownBy_putObj' _ D (.deferred none)) (fun q e => by cases e; exact ⟨_, hK', rfl⟩)
    refine ⟨.agg #[.int .i64 ra, .int .i64 rb, .bool rc], ?_, ⟨r, hfind, hsm, by rw [hr3.out]⟩, (below_three hB1 _ _ _ _ (Nat.le_refl _)).trans (belowK_b (w := w) (Nat.le_refl _) _ D _ _ (by omega) hK' rfl rfl)⟩
    simp [results, Try.f10, go_sem, n0, n1, n2]
  case stop =>
    rintro D c pre W hD hP ⟨⟨⟨rfl, init, x, z, rfl, hF, hxz, bF1⟩, bR1⟩, hB1⟩ hK
    obtain ⟨hfind, hsm⟩ := first_part hP hF hxz
    obtain ⟨ra, rb, rc, hr3⟩ := spanV_form (some z)
    have h3 := spanV_three (some z)
    rw [hr3] at h3
    obtain ⟨q0, q1, q2⟩ : sA (some z) = .int .i64 ra ∧ sB (some z) = .int .i64 rb ∧ sC (some z) = .bool rc := by
      simp only [Value.agg.injEq] at h3
      have := congrArg Array.toList h3
      simp at this
      exact ⟨this.1.symm, this.2.1.symm, this.2.2.symm⟩
    rw [q0, q1, q2] at bF1
    clear h3 q0 q1 q2
    obtain ⟨c0, c1, c2, -, -, -⟩ := bF1.facts
    obtain ⟨e0, e1, e2, g0, g1, g2⟩ := bR1.facts
    have hr3 := Lib.hid hr3
    gi_wp2
    have hK' := (keepsOthers_three W w.heap.size (.int .i64 ra) (.int .i64 rb) (.bool rc)).same D _ hK rfl
    refine ⟨by simp, .inl ⟨_, _, rfl, run_takeDeferred hK', ?_⟩⟩
    have hT := bR1.set (.int .i64 ra) (.int .i64 rb) (.bool rc)
    obtain ⟨m0, m1, m2, -, -, -⟩ := hT.facts
    have n0 := cell_kept m0 (grownBy_putObj' _ D (.deferred none)) (fun q e => by cases e; exact ⟨_, hK', rfl⟩)
    have n1 := cell_kept m1 (grownBy_putObj' _ D (.deferred none)) (fun q e => by cases e; exact ⟨_, hK', rfl⟩)
    have n2 := cell_kept m2 (grownBy_putObj' _ D (.deferred none)) (fun q e => by cases e; exact ⟨_, hK', rfl⟩)
    refine ⟨.agg #[.int .i64 ra, .int .i64 rb, .bool rc], ?_, ⟨(some z), hfind, hsm, by rw [hr3.out]⟩, (below_three hB1 _ _ _ _ (Nat.le_refl _)).trans (belowK_b (w := w) (Nat.le_refl _) _ D _ _ (by omega) hK' rfl rfl)⟩
    simp [results, Try.f10, go_sem, n0, n1, n2]
end Go.Proofs.Ytoljhkhegmimbaa
