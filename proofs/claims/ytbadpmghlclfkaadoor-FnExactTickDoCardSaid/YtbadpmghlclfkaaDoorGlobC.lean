/- The program's calls that range over the pieces: GlobAll, GlobEnds, GlobFind. -/
import Derived.Test.YtbadpmghlclfkaaDoorGlobI
namespace Go.Proofs.YtbadpmghlclfkaaDoor
open Go.RowKit Go.Shelf
attribute [local go_sem] Oper.semAt_some

set_option maxHeartbeats 400000 in
theorem pieces_any (p t : ByteArray) (w : World) :
    Calls Tryd.prog 126 #[.string p, .string t] w fun e w' =>
      e = .returned (.func (.func 136) #[] #[.pointer (some ⟨w.heap.size + 1, 0, none⟩), .pointer (some ⟨w.heap.size, 0, none⟩)]) ∧ w' = (w.alloc (.cells #[.string p] 9)).alloc (.cells #[.string t] 9) := by
  go_enter Tryd.func126, Tryd.ntmps126
  go_wp2
  go_ret
  exact ⟨by simp, rfl⟩
theorem keepB_t {b1 b2 : Nat} {A B C : World} (h : KeepB b1 b2 A B) (k : KeepB b1 b2 B C) : KeepB b1 b2 A C := ⟨k.1.trans h.1, k.2.trans h.2⟩
theorem keepB_b {b1 b2 m : Nat} (h1 : b1 < m) (h2 : b2 < m) (W : World) (l : Nat) (o o' : Obj) (hl : m ≤ l) (_ : W.heap[l]? = some o) (_ : o.isCells = false) (_ : o.isWalk = false) : KeepB b1 b2 W (W.putObj l o') :=
  ⟨World.putObj_heap_other (by omega), World.putObj_heap_other (by omega)⟩
theorem keepB_refl (b1 b2 : Nat) (W : World) : KeepB b1 b2 W W := ⟨rfl, rfl⟩
theorem keepB_alloc {b1 b2 : Nat} {W : World} (o : Obj) (h1 : b1 < W.heap.size) (h2 : b2 < W.heap.size) : KeepB b1 b2 W (W.alloc o) := ⟨Below.heap_alloc W o b1 h1, Below.heap_alloc W o b2 h2⟩
theorem keepB_set {b1 b2 : Nat} {W : World} (b i : Nat) (v : Value) (h1 : b1 ≠ b) (h2 : b2 ≠ b) : KeepB b1 b2 W (W.setCell ⟨b, i, none⟩ v) := ⟨Below.heap_setCell W _ v b1 h1, Below.heap_setCell W _ v b2 h2⟩
theorem trio_own {β : Type} (B : Nat) (t : TypeId) (x y z : β → Value) : Own (fun s W => Trio W B t (x s) (y s) (z s)) := fun s X Y row hs hg hrow => by
  refine (hg.block B (lt_of_block hs) (fun e => ?_)).trans hs
  obtain ⟨o, ho, hc⟩ := hrow B e.symm
  rw [show X.heap[B]? = _ from hs] at ho; cases ho; cases hc
theorem ownFrom_size {β : Type} (B m : Nat) : OwnFrom B (fun (_ : β) W => m ≤ W.heap.size) := fun _ _ _ _ hs hg _ => Nat.le_trans hs hg.size
/-- A round's box. -/
def RoundBox (H : Nat) (x : Nat × Nat) (W : World) (Bx : Nat) : Prop := H < Bx ∧ Trio W Bx 155 (.int .i64 (x.1 : Int)) (.int .i64 (x.2 : Int)) (.bool true)
theorem roundBox_own (H : Nat) (x : Nat × Nat) (Bx m : Nat) : OwnFrom m (fun (_ : Unit) W => RoundBox H x W Bx) := fun _ X Y row hs hg hr => ⟨hs.1, trio_own Bx _ (fun (_ : Unit) => _) (fun _ => _) (fun _ => _) () X Y row hs.2 hg (fun r e => (hr r e).2)⟩

set_option maxRecDepth 100000 in
set_option maxHeartbeats 4000000 in
theorem implEnds_any (p t : ByteArray) (hp : p.size ≤ maxLen) (ht : t.size ≤ maxLen) (w : World) :
    Calls Tryd.prog 116 #[.string p, .string t] w fun e w' => SaysB (EndsG p.data.toList t.data.toList) e ∧ Below w.heap.size w w' := by
  have hsz := Lib.hid (size_data t)
  have ht' : t.size ≤ 9223372036854775807 := by unfold maxLen at ht; omega
  refine (callsIn_wide (n := 8)).1 ?_
  refine callsIn_of_wp_marks Tryd.func116 rfl trivial ?_ rfl
  simp only [Tryd.ntmps116, List.size_toArray, List.length_cons, List.length_nil, Nat.reduceAdd, Nat.reduceSub, Array.replicate_succ, Array.replicate_zero, List.push_toArray, List.append_toArray, List.nil_append, List.cons_append]
  gi_wp2_with (refine ⟨trivial, ?_⟩; gi_at_call 126; refine (callsIn_wide.2 (pieces_any p t _)).mono ?_; rintro e w' ⟨rfl, rfl⟩)
  have bT := (((Boxed.new w 9 (.string t)).alloc (.cells #[.bool false] 4)).alloc (.cells #[.string p] 9)).alloc (.cells #[.string t] 9)
  have bR := ((Boxed.new (w.alloc (.cells #[.string t] 9)) 4 (.bool false)).alloc (.cells #[.string p] 9)).alloc (.cells #[.string t] 9)
  have bP := (Boxed.new ((w.alloc (.cells #[.string t] 9)).alloc (.cells #[.bool false] 4)) 9 (.string p)).alloc (.cells #[.string t] 9)
  have bX := Boxed.new (((w.alloc (.cells #[.string t] 9)).alloc (.cells #[.bool false] 4)).alloc (.cells #[.string p] 9)) 9 (.string t)
  have hB0 : Below w.heap.size w ((((w.alloc (.cells #[.string t] 9)).alloc (.cells #[.bool false] 4)).alloc (.cells #[.string p] 9)).alloc (.cells #[.string t] 9)) := ((((Below.refl _ w).alloc (Nat.le_refl _) _).alloc (by simp) _).alloc (by simp; omega) _).alloc (by simp; omega) _
  simp only [World.size_alloc] at bR bP bX
  have hsz0 : ((((w.alloc (.cells #[.string t] 9)).alloc (.cells #[.bool false] 4)).alloc (.cells #[.string p] 9)).alloc (.cells #[.string t] 9)).heap.size = w.heap.size + 4 := by simp
  obtain ⟨W0, hW0⟩ : ∃ W0, (((w.alloc (.cells #[.string t] 9)).alloc (.cells #[.bool false] 4)).alloc (.cells #[.string p] 9)).alloc (.cells #[.string t] 9) = W0 := ⟨_, rfl⟩
  try simp only [World.size_alloc]
  rw [hW0] at bT bR bP bX hB0 hsz0 ⊢
  clear hW0
  refine wpIn_rangeFunc_ownH rfl (by omega) (gf := 136) (lb := #[.pointer (some ⟨w.heap.size + 1 + 1 + 1, 0, none⟩), .pointer (some ⟨w.heap.size + 1 + 1, 0, none⟩)]) rfl trivial (enters_of Tryd.func136 (by kernel_rfl) rfl)
    (pieces_stops 7 (w.heap.size + 1 + 1 + 1) (w.heap.size + 1 + 1) (by omega) p t hp ht W0 (by omega) (by omega) ⟨bX.cell, bP.cell⟩) keepB_t (keepB_b (by omega) (by omega)) (Below.refl _ _) (fun _ => rfl)
    (fun pre W => ((((∀ x ∈ pre, ¬ (x.2 = t.size)) ∧ Boxed W (w.heap.size + 1) 4 (.bool false)) ∧ Boxed W w.heap.size 9 (.string t)) ∧ Below w.heap.size w W) ∧ w.heap.size + 4 ≤ W.heap.size)
    (fun c pre W => ((c = .ret ∧ ∃ x ∈ pre, (x.2 = t.size)) ∧ Boxed W (w.heap.size + 1) 4 (.bool true)) ∧ Below w.heap.size w W)
    (OwnFrom.and (OwnFrom.and (OwnFrom.and (OwnFrom.and (ownFrom_pure _ _) (Own.from (boxed_own _ _ _) _)) (Own.from (boxed_own _ _ _) _)) (ownFrom_below (Nat.le_refl _) (by omega))) (ownFrom_size _ _))
    (fun c => OwnFrom.and (OwnFrom.and (ownFrom_pure _ _) (Own.from (boxed_own _ _ _) _)) (ownFrom_below (Nat.le_refl _) (by omega)))
    ⟨⟨⟨⟨by simp, bR⟩, bT⟩, hB0⟩, by omega⟩
    (fun x a' W => ∃ Bx, RoundBox (w.heap.size + 3) x W Bx ∧ a' = { tmps := #[.string p, .string t, undef, .pointer (some ⟨w.heap.size, 0, none⟩), .pointer (some ⟨w.heap.size + 1, 0, none⟩), .pointer (some ⟨Bx, 0, none⟩), .string p, .string t, .func (.func 136) #[] #[.pointer (some ⟨w.heap.size + 1 + 1 + 1, 0, none⟩), .pointer (some ⟨w.heap.size + 1 + 1, 0, none⟩)], spanE x, undef, undef, undef, undef, undef], defers := [] })
    (fun x a' _ X Y row hs hg hr => by obtain ⟨Bx, e1, e2⟩ := hs; exact ⟨Bx, roundBox_own _ x Bx _ () X Y row e1 hg hr, e2⟩)
    ?assign ?body ?done ?stop
  case assign =>
    rintro l pre x W K ⟨⟨⟨⟨hq, bR1⟩, bT1⟩, hB1⟩, hs1⟩ hK
    dsimp only [spanEs]
    gi_wp2
    exact hK _ _ ((KeepsOthers.alloc _ _).from _) (keepB_alloc _ (by omega) (by omega)) ⟨⟨⟨⟨hq, bR1.alloc _⟩, bT1.alloc _⟩, hB1.alloc hB1.size _⟩, by simp; omega⟩ ⟨W.heap.size, ⟨by omega, Trio.new W _ _ _ _⟩, rfl⟩
  case body =>
    rintro l pre x a' W hl ⟨r, hr⟩ ⟨⟨⟨⟨hq, bR1⟩, bT1⟩, hB1⟩, hs1⟩ ⟨Bx, ⟨hBx, tX⟩, rfl⟩ hlt
    obtain ⟨k0, k1, k2, -, -, -⟩ := tX.facts
    have cT := bT1.cell
    have cR := bR1.cell
    have fR := bR1.frozen
    by_cases h2 : x.2 = t.size
    · have h2' : ((x.2 : Int) == (t.size : Int)) = true := by simp; omega
      have hyes := Lib.hid h2
      clear h2
      gi_wp2
      exact ⟨(KeepsOthers.setCell _ _ _).from _, ⟨⟨rfl, x, List.mem_append.2 (.inr (by simp)), hyes.out⟩, bR1.set _⟩, hB1.setCell (p := ⟨w.heap.size + 1, 0, none⟩) (by simp) _⟩
    · have h2' : ((x.2 : Int) == (t.size : Int)) = false := by rw [beq_eq_false_iff_ne]; omega
      have hno := Lib.hid h2
      clear h2
      gi_wp2
      exact ⟨KeepsFrom.refl _ _, keepB_refl _ _ _, ⟨⟨⟨⟨fun z hz => (List.mem_append.1 hz).elim (hq z) (fun e => by simp at e; subst e; exact hno.out), bR1⟩, bT1⟩, hB1⟩, hs1⟩⟩
  case done =>
    rintro D zs W hD hS ⟨⟨⟨⟨hq, bR1⟩, bT1⟩, hB1⟩, hs1⟩ hK
    have cR := bR1.cell
    have fR := bR1.frozen
    gi_wp2
    have hK' := (KeepsOthers.setCell W ⟨w.heap.size + 1, 0, none⟩ (.bool false)).same D _ hK rfl
    refine ⟨by simp, .inl ⟨_, _, rfl, run_takeDeferred hK', ?_⟩⟩
    have hc5 := cell_kept (bR1.set (.bool false)).cell (grownBy_putObj' _ D (.deferred none)) (fun r e => by cases e; exact ⟨_, hK', rfl⟩)
    refine ⟨.bool false, ?_, ⟨false, ⟨fun h => (by cases h), fun h => ?_⟩, rfl⟩, (hB1.setCell (p := ⟨w.heap.size + 1, 0, none⟩) (by simp) _).trans (belowK_b (w := w) (Nat.le_refl _) _ D _ _ (by omega) hK' rfl rfl)⟩
    · simp [results, Tryd.f116, go_sem, hc5]
    · obtain ⟨ho, h8, ps, hps, hg⟩ := h
      obtain ⟨qs, hqs, hA⟩ := hS.1 ⟨ho, h8⟩
      rw [hps] at hqs; cases hqs
      obtain ⟨f, hg⟩ := hg
      obtain ⟨f', hf', hm⟩ := hA.2.2 _ _ hg
      exact (hq _ hm hsz.out).elim
  case stop =>
    rintro D c pre W hD hP ⟨⟨⟨rfl, x, hx, hy⟩, bR1⟩, hB1⟩ hK
    gi_wp2
    refine ⟨by simp, .inl ⟨_, _, rfl, run_takeDeferred hK, ?_⟩⟩
    have hc5 := cell_kept bR1.cell (grownBy_putObj' _ D (.deferred none)) (fun r e => by cases e; exact ⟨_, hK, rfl⟩)
    refine ⟨.bool true, ?_, ⟨true, ⟨fun _ => ?_, fun _ => rfl⟩, rfl⟩, hB1.trans (belowK_b (w := w) (Nat.le_refl _) _ D _ _ (by omega) hK rfl rfl)⟩
    · simp [results, Tryd.f116, go_sem, hc5]
    · obtain ⟨⟨ho, h8⟩, ps, hps, hA⟩ := hP
      have hgx := hA.1 x hx
      refine ⟨ho, h8, ps, hps, x.1, ?_⟩
      obtain ⟨x1, x2⟩ := x
      obtain rfl : x2 = t.size := hy
      rw [hsz.out]; exact hgx

def sA : Option (Nat × Nat) → Value
  | none => .int .i64 0
  | some z => .int .i64 (z.1 : Int)
def sB : Option (Nat × Nat) → Value
  | none => .int .i64 0
  | some z => .int .i64 (z.2 : Int)
def sC : Option (Nat × Nat) → Value
  | none => .bool false
  | some _ => .bool true
theorem spanV_three (r : Option (Nat × Nat)) : spanV r = .agg #[sA r, sB r, sC r] := by cases r <;> rfl
def FirstBox (H : Nat) (pre : List (Nat × Nat)) (W : World) : Prop := ∃ r, First pre r ∧ Trio W H 155 (sA r) (sB r) (sC r)
theorem firstBox_own (H m : Nat) : OwnFrom m (FirstBox H) := fun pre X Y row hs hg hr => by
  obtain ⟨r, h1, h2⟩ := hs
  exact ⟨r, h1, trio_own H _ (fun (_ : Unit) => _) (fun _ => _) (fun _ => _) () X Y row h2 hg (fun q e => (hr q e).2)⟩
def BreakBox (H : Nat) (pre : List (Nat × Nat)) (W : World) : Prop := ∃ init x z, pre = init ++ [x] ∧ First init (some z) ∧ x.1 ≠ z.1 ∧ Trio W H 155 (sA (some z)) (sB (some z)) (sC (some z))
theorem breakBox_own (H m : Nat) : OwnFrom m (BreakBox H) := fun pre X Y row hs hg hr => by
  obtain ⟨init, x, z, h1, h2, h3, h4⟩ := hs
  exact ⟨init, x, z, h1, h2, h3, trio_own H _ (fun (_ : Unit) => _) (fun _ => _) (fun _ => _) () X Y row h4 hg (fun q e => (hr q e).2)⟩
theorem first_all {pl tl : List UInt8} {xs : List (Nat × Nat)} {r : Option (Nat × Nat)} (hS : CameS pl tl xs) (h : First xs r) : FindsG pl tl r ∧ ∀ z, r = some z → z.1 ≤ 8000 ∧ z.2 ≤ 8000 := by
  by_cases hk : globOk pl = true ∧ tl.length ≤ 8000
  · obtain ⟨ps, hps, hA⟩ := hS.1 hk
    have hf := h.all hA
    exact ⟨⟨fun _ => ⟨ps, hps, hf⟩, fun hn => (hn hk).elim⟩, hf.small hk.2⟩
  · obtain rfl := hS.2 hk
    obtain rfl : r = none := by
      rcases h with ⟨_, h⟩ | ⟨init, z, h, _⟩
      · exact h
      · cases init <;> cases h
    exact ⟨⟨fun h' => (hk h').elim, fun _ => rfl⟩, fun z hz => by cases hz⟩
theorem first_part {pl tl : List UInt8} {init : List (Nat × Nat)} {x z : Nat × Nat} (hP : CameP pl tl (init ++ [x])) (h : First init (some z)) (hx : x.1 ≠ z.1) : FindsG pl tl (some z) ∧ ∀ y, some z = some y → y.1 ≤ 8000 ∧ y.2 ≤ 8000 := by
  obtain ⟨hk, ps, hps, hp⟩ := hP
  have hf := h.part hx hp
  exact ⟨⟨fun _ => ⟨ps, hps, hf⟩, fun hn => (hn hk).elim⟩, hf.small hk.2⟩
theorem keepsOthers_three (W : World) (b : Nat) (x y z : Value) : KeepsOthers W (((W.setCell ⟨b, 0, none⟩ x).setCell ⟨b, 1, none⟩ y).setCell ⟨b, 2, none⟩ z) :=
  ((KeepsOthers.setCell _ _ _).trans (KeepsOthers.setCell _ _ _)).trans (KeepsOthers.setCell _ _ _)
theorem keepB_three {b1 b2 : Nat} {W : World} (b : Nat) (x y z : Value) (h1 : b1 ≠ b) (h2 : b2 ≠ b) : KeepB b1 b2 W (((W.setCell ⟨b, 0, none⟩ x).setCell ⟨b, 1, none⟩ y).setCell ⟨b, 2, none⟩ z) :=
  keepB_t (keepB_t (keepB_set b 0 x h1 h2) (keepB_set b 1 y h1 h2)) (keepB_set b 2 z h1 h2)
theorem trio_three {W : World} {g : Nat} {t : TypeId} {a c d : Value} (h : Trio W g t a c d) (b : Nat) (x y z : Value) (hne : g ≠ b) : Trio (((W.setCell ⟨b, 0, none⟩ x).setCell ⟨b, 1, none⟩ y).setCell ⟨b, 2, none⟩ z) g t a c d := ((h.other hne 0 x).other hne 1 y).other hne 2 z
theorem below_three {B : Nat} {w W : World} (h : Below B w W) (b : Nat) (x y z : Value) (hb : B ≤ b) : Below B w (((W.setCell ⟨b, 0, none⟩ x).setCell ⟨b, 1, none⟩ y).setCell ⟨b, 2, none⟩ z) :=
  ((h.setCell (p := ⟨b, 0, none⟩) hb x).setCell (p := ⟨b, 1, none⟩) hb y).setCell (p := ⟨b, 2, none⟩) hb z
theorem size_three (W : World) (b : Nat) (x y z : Value) : (((W.setCell ⟨b, 0, none⟩ x).setCell ⟨b, 1, none⟩ y).setCell ⟨b, 2, none⟩ z).heap.size = W.heap.size := by simp

end Go.Proofs.YtbadpmghlclfkaaDoor
