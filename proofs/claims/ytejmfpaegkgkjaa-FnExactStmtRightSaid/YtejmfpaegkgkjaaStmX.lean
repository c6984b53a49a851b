/- Slices of statements: what can be read in them; how large, copied, compared. -/
import Derived.Test.YtejmfpaegkgkjaaStmV
import Derived.Deep.RegionHeld3
namespace Go.Proofs.Ytejmfpaegkgkjaa
open Go.RowKit

/-- A slice that reads as these statements. -/
def Stms (w : World) (v : Value) (l : List Stm) : Prop :=
  l.length ≤ maxLen ∧ (∀ x ∈ l, StmWf x) ∧ ∃ A cap, v = .slice A l.length cap ∧ (0 < l.length → ∃ b off, A = some ⟨b, off, none⟩ ∧ b < w.heap.size ∧ ∀ j (_ : j < l.length), ∃ B n c, Prts w (.slice B n c) l[j].parts ∧ ∀ m, m < 6 → w.cell? ⟨b, off + (j * 6 + m), none⟩ = (stmV l[j] (.slice B n c))[m]?)
theorem Stms.form {w : World} {v : Value} {l : List Stm} (h : Stms w v l) : ∃ A cap, v = .slice A l.length cap := by obtain ⟨_, _, A, cap, rfl, _⟩ := h; exact ⟨A, cap, rfl⟩
theorem Stms.below {w w' : World} {v : Value} {l : List Stm} (h : Stms w v l) (k : Below w.heap.size w w') : Stms w' v l := by
  obtain ⟨h1, h2, A, cap, rfl, h3⟩ := h
  refine ⟨h1, h2, A, cap, rfl, fun h0 => ?_⟩
  obtain ⟨b, off, rfl, hb, hc⟩ := h3 h0
  refine ⟨b, off, rfl, Nat.lt_of_lt_of_le hb k.size, fun j hj => ?_⟩
  obtain ⟨B, n, c, hp, hm⟩ := hc j hj
  exact ⟨B, n, c, hp.below k, fun m hm6 => (World.cell?_of_block (a := ⟨b, off + (j * 6 + m), none⟩) (k.block b hb)).trans (hm m hm6)⟩
theorem Stms.alloc {w : World} {v : Value} {l : List Stm} (h : Stms w v l) (o : Obj) : Stms (w.alloc o) v l := h.below ((Below.refl _ _).alloc (Nat.le_refl _) _)
theorem Stms.drew {w : World} {v : Value} {l : List Stm} (h : Stms w v l) : Stms w.drew v l := h
/-- The six cells of statement j. -/
theorem Stms.six {w : World} {A : Option Addr} {n cap : Nat} {l : List Stm} (h : Stms w (.slice A n cap) l) (j : Nat) (hj : j < l.length) :
    ∃ b off B m c, A = some ⟨b, off, none⟩ ∧ b < w.heap.size ∧ Prts w (.slice B m c) l[j].parts ∧ w.cell? ⟨b, off + j * 6, none⟩ = some (.int .i64 l[j].kind) ∧ w.cell? ⟨b, off + j * 6 + 1, none⟩ = some (.string l[j].name) ∧
      w.cell? ⟨b, off + j * 6 + 2, none⟩ = some (.string l[j].text) ∧ w.cell? ⟨b, off + j * 6 + 3, none⟩ = some (.int .i64 l[j].num) ∧ w.cell? ⟨b, off + j * 6 + 4, none⟩ = some (.int .i64 l[j].dest) ∧ w.cell? ⟨b, off + j * 6 + 5, none⟩ = some (.slice B m c) := by
  obtain ⟨h1, h2, A', cap', e, h3⟩ := h
  cases e
  obtain ⟨b, off, rfl, hb, hc⟩ := h3 (by omega)
  obtain ⟨B, m, c, hp, hm⟩ := hc j hj
  exact ⟨b, off, B, m, c, rfl, hb, hp, hm 0 (by omega), hm 1 (by omega), hm 2 (by omega), hm 3 (by omega), hm 4 (by omega), hm 5 (by omega)⟩
theorem Stms.wf {w : World} {v : Value} {l : List Stm} (h : Stms w v l) {j : Nat} (hj : j < l.length) : StmWf l[j] := h.2.1 _ (List.getElem_mem hj)
theorem Try.info36 : (Try.prog.info? 36).map (fun i => (i.zero, i.size, i.bytes)) = some (some (.agg #[.int .i64 0, .string ByteArray.empty, .string ByteArray.empty, .int .i64 0, .int .i64 0, .slice none 0 0]), 6, 80) := by kernel_rfl
/-- A row of which the first k statements are in; their parts lie in blocks of their own. -/
def STill (w : World) (base : Nat) (cs : List Value) (l : List Stm) (k : Nat) : Prop := cs.length = l.length * 6 ∧ ∀ j (_ : j < k) (_ : j < l.length), ∃ B n c, OwnPrts w base (.slice B n c) l[j].parts ∧ ∀ m, m < 6 → cs[j * 6 + m]? = (stmV l[j] (.slice B n c))[m]?
theorem STill.none_ {w : World} {base : Nat} {cs : List Value} {l : List Stm} (h : cs.length = l.length * 6) : STill w base cs l 0 := ⟨h, fun j hj => by omega⟩
theorem STill.below {w w' : World} {base k : Nat} {cs : List Value} {l : List Stm} (h : STill w base cs l k) (hb : Below w.heap.size w w') : STill w' base cs l k :=
  ⟨h.1, fun j hj hl => by obtain ⟨B, n, c, hp, hm⟩ := h.2 j hj hl; exact ⟨B, n, c, hp.below hb, hm⟩⟩
def put6 (cs : List Value) (i : Nat) (x : Stm) (v : Value) : List Value := (((((cs.set i (.int .i64 x.kind)).set (i + 1) (.string x.name)).set (i + 2) (.string x.text)).set (i + 3) (.int .i64 x.num)).set (i + 4) (.int .i64 x.dest)).set (i + 5) v
theorem put6_len (cs : List Value) (i : Nat) (x : Stm) (v : Value) : (put6 cs i x v).length = cs.length := by simp [put6]
theorem put6_off (cs : List Value) (i : Nat) (x : Stm) (v : Value) (j : Nat) (h : j < i ∨ i + 6 ≤ j) : (put6 cs i x v)[j]? = cs[j]? := by
  unfold put6
  rw [List.getElem?_set_ne (by omega), List.getElem?_set_ne (by omega), List.getElem?_set_ne (by omega), List.getElem?_set_ne (by omega), List.getElem?_set_ne (by omega), List.getElem?_set_ne (by omega)]
theorem put6_at (cs : List Value) (i : Nat) (x : Stm) (v : Value) (hi : i + 5 < cs.length) (m : Nat) (hm : m < 6) : (put6 cs i x v)[i + m]? = (stmV x v)[m]? := by
  unfold put6
  rcases (show m = 0 ∨ m = 1 ∨ m = 2 ∨ m = 3 ∨ m = 4 ∨ m = 5 by omega) with rfl | rfl | rfl | rfl | rfl | rfl
  · rw [List.getElem?_set_ne (by omega), List.getElem?_set_ne (by omega), List.getElem?_set_ne (by omega), List.getElem?_set_ne (by omega), List.getElem?_set_ne (by omega), Nat.add_zero, List.getElem?_set_self (by omega)]; rfl
  · rw [List.getElem?_set_ne (by omega), List.getElem?_set_ne (by omega), List.getElem?_set_ne (by omega), List.getElem?_set_ne (by omega), List.getElem?_set_self (by simp; omega)]; rfl
  · rw [List.getElem?_set_ne (by omega), List.getElem?_set_ne (by omega), List.getElem?_set_ne (by omega), List.getElem?_set_self (by simp; omega)]; rfl
  · rw [List.getElem?_set_ne (by omega), List.getElem?_set_ne (by omega), List.getElem?_set_self (by simp; omega)]; rfl
  · rw [List.getElem?_set_ne (by omega), List.getElem?_set_self (by simp; omega)]; rfl
  · rw [List.getElem?_set_self (by simp; omega)]; rfl
def setStm (w : World) (g i : Nat) (x : Stm) (v : Value) : World := (((((w.setCell ⟨g, i, none⟩ (.int .i64 x.kind)).setCell ⟨g, i + 1, none⟩ (.string x.name)).setCell ⟨g, i + 2, none⟩ (.string x.text)).setCell ⟨g, i + 3, none⟩ (.int .i64 x.num)).setCell ⟨g, i + 4, none⟩ (.int .i64 x.dest)).setCell ⟨g, i + 5, none⟩ v
theorem Blk.setStm {w : World} {g : Nat} {t : TypeId} {cs : List Value} (h : Blk w g t cs) (i : Nat) (x : Stm) (v : Value) : Blk (setStm w g i x v) g t (put6 cs i x v) := (((((h.set i _).set (i + 1) _).set (i + 2) _).set (i + 3) _).set (i + 4) _).set (i + 5) _
theorem below_setStm {B : Nat} {w0 w : World} (h : Below B w0 w) {g : Nat} (hg : B ≤ g) (i : Nat) (x : Stm) (v : Value) : Below B w0 (setStm w g i x v) :=
  (((((h.setCell (p := ⟨g, i, none⟩) hg _).setCell (p := ⟨g, i + 1, none⟩) hg _).setCell (p := ⟨g, i + 2, none⟩) hg _).setCell (p := ⟨g, i + 3, none⟩) hg _).setCell (p := ⟨g, i + 4, none⟩) hg _).setCell (p := ⟨g, i + 5, none⟩) hg _
theorem OwnPrts.setStm {w : World} {base g : Nat} {u : Value} {l : List Prt} (h : OwnPrts w base u l) (hg : g < base) (i : Nat) (x : Stm) (v : Value) : OwnPrts (setStm w g i x v) base u l :=
  (((((h.setCell i _ hg).setCell (i + 1) _ hg).setCell (i + 2) _ hg).setCell (i + 3) _ hg).setCell (i + 4) _ hg).setCell (i + 5) _ hg
theorem STill.put {w : World} {base k g : Nat} {cs : List Value} {l : List Stm} (h : STill w base cs l k) (hk : k < l.length) (hg : g < base) {B : Option Addr} {n c : Nat} (hp : OwnPrts w base (.slice B n c) l[k].parts) :
    STill (Go.Proofs.Ytejmfpaegkgkjaa.setStm w g (k * 6) l[k] (.slice B n c)) base (put6 cs (k * 6) l[k] (.slice B n c)) l (k + 1) := by
  refine ⟨by rw [put6_len, h.1], fun j hj hl => ?_⟩
  have hlen := h.1
  by_cases e : j = k
  · subst e
    exact ⟨B, n, c, hp.setStm hg _ _ _, fun m hm => put6_at cs (j * 6) l[j] _ (by omega) m hm⟩
  · obtain ⟨B', n', c', hp', hm'⟩ := h.2 j (by omega) hl
    exact ⟨B', n', c', hp'.setStm hg _ _ _, fun m hm => by rw [put6_off _ _ _ _ _ (by omega)]; exact hm' m hm⟩
/-- Statements in a block of their own. -/
def OwnStms (w : World) (base : Nat) (v : Value) (l : List Stm) : Prop := l.length ≤ 1048576 ∧ (∀ x ∈ l, StmWf x) ∧ ∃ g cs, v = .slice (some ⟨g, 0, none⟩) l.length l.length ∧ base ≤ g ∧ Blk w g 36 cs ∧ STill w (g + 1) cs l l.length
theorem OwnStms.stms {w : World} {base : Nat} {v : Value} {l : List Stm} (h : OwnStms w base v l) : Stms w v l := by
  obtain ⟨h1, h2, g, cs, rfl, hb, hk, ht⟩ := h
  refine ⟨by unfold maxLen; omega, h2, _, _, rfl, fun h0 => ⟨g, 0, rfl, hk.lt, fun j hj => ?_⟩⟩
  obtain ⟨B, n, c, hp, hm⟩ := ht.2 j hj hj
  exact ⟨B, n, c, hp.secs, fun m hm6 => by rw [Nat.zero_add, hk.cell?, hm m hm6]⟩
theorem OwnStms.below {w w' : World} {base : Nat} {v : Value} {l : List Stm} (h : OwnStms w base v l) (k : Below w.heap.size w w') : OwnStms w' base v l := by
  obtain ⟨h1, h2, g, cs, rfl, hb, hk, ht⟩ := h
  exact ⟨h1, h2, g, cs, rfl, hb, hk.up k, ht.below k⟩
theorem OwnStms.alloc {w : World} {base : Nat} {v : Value} {l : List Stm} (h : OwnStms w base v l) (o : Obj) : OwnStms (w.alloc o) base v l := h.below ((Below.refl _ _).alloc (Nat.le_refl _) _)
theorem OwnStms.drew {w : World} {base : Nat} {v : Value} {l : List Stm} (h : OwnStms w base v l) : OwnStms w.drew base v l := h
def SSmall (l : List Stm) : Prop := l.length ≤ 1048576 ∧ ∀ x ∈ l, stmSmall x
set_option maxHeartbeats 2000000 in
theorem szStmts_any (v : Value) (l : List Stm) (left : Int) (w : World) (hv : Stms w v l) (h0 : 0 ≤ left) (h1 : left ≤ 1048576) :
    Calls Try.prog 17 #[v, .int .i64 left] w (SzOut (SSmall l) left w) := by
  obtain ⟨A, cap, rfl⟩ := hv.form
  have hl := hv.1
  unfold maxLen at hl
  have hl' : (l.length : Int) ≤ 9223372036854775807 := by omega
  have hv' := Lib.hid hv
  clear hv
  by_cases c1 : left - l.length < 0
  · go_enter Try.func17, Try.ntmps17
    go_wp2
    go_ret
    exact ⟨-1, rfl, .inl rfl, Below.refl _ _⟩
  · have hll : l.length ≤ 1048576 := by omega
    have hlft : left - l.length ≤ left := by omega
    go_enter Try.func17, Try.ntmps17
    go_wp2
    go_loopw [1, 5] (fun u i wr => ∃ (k : Nat) (r : Int), k ≤ l.length ∧ i = .int .i64 (k : Int) ∧ u = .int .i64 r ∧ 0 ≤ r ∧ r ≤ left ∧ Hid (∀ j (hj : j < k) (h : j < l.length), stmSmall l[j]) ∧ Hid (Below w.heap.size w wr)) (fun _ i _ => l.length - (intOf i).toNat)
    case atStart => exact ⟨0, _, Nat.zero_le _, rfl, rfl, by omega, by omega, Lib.hid (fun j hj => by omega), Lib.hid (Below.refl _ _)⟩
    case round =>
      obtain ⟨k, r, hk, rfl, rfl, hr0, hr1, hall, hb⟩ := hrel
      by_cases hlt : k < l.length
      · have hlt' : (k : Int) < (l.length : Int) := by omega
        have hs := Lib.hid (hv'.out.below hb.out)
        obtain ⟨b, off, B, n, c, rfl, hbk, hp, c0, c1', c2, c3, c4, c5⟩ := hs.out.six k hlt
        replace hp := Lib.hid hp
        have hwf := Lib.hid (hs.out.wf hlt)
        go_wp2_with (go_at_call 12; refine (szStmt_any l[k] B n c r _ hwf.out hp.out hr0 (by omega)).mono ?_; rintro e w1 ⟨r1, rfl, hr, hb1⟩; replace hb := Lib.hid (Below.then_ hb.out hb1 (Nat.le_refl _)); clear hb1; rcases hr with rfl | ⟨hr2, hr3, hr4⟩)
        · go_wp2
          go_ret
          exact ⟨-1, rfl, .inl rfl, hb.out⟩
        · have hall2 := Lib.hid (fun j (hj : j < k + 1) (h : j < l.length) => (show stmSmall l[j] from by
            by_cases e : j = k
            · subst e; exact hr4
            · exact hall.out j (by omega) h))
          have hr2' : ¬ r1 < 0 := by omega
          clear hr4 hall
          go_wp2
          go_roundw
          case rel => exact ⟨k + 1, r1, by omega, by go_num, rfl, hr2, by omega, hall2, hb⟩
          case measure => simp [intOf]; omega
      · have hlt' : ¬ (k : Int) < (l.length : Int) := by omega
        have hend := Lib.hid (show SSmall l from ⟨hll, fun x hx => by obtain ⟨j, hj, rfl⟩ := List.mem_iff_getElem.1 hx; exact hall.out j (by omega) hj⟩)
        go_wp2
        go_ret
        exact ⟨r, rfl, .inr ⟨hr0, hr1, hend.out⟩, hb.out⟩
/-- A copy of statements. -/
def LCopyEnd (l : List Stm) (w : World) (e : Ending) (w' : World) : Prop := ∃ v, e = .returned v ∧ OwnStms w' w.heap.size v l ∧ Below w.heap.size w w'
set_option maxHeartbeats 4000000 in
theorem toStmts_any (v : Value) (l : List Stm) (w : World) (hv : Stms w v l) (hl : l.length ≤ 1048576) (hsm : ∀ x ∈ l, x.parts.length ≤ 1048576) :
    Calls Try.prog 19 #[v] w (LCopyEnd l w) := by
  obtain ⟨i0, hi, hz0, hz1, hz2⟩ := info_parts Try.info36
  obtain ⟨A, cap, rfl⟩ := hv.form
  have hv' := Lib.hid hv
  replace hsm := Lib.hid hsm
  clear hv
  have hbel := Lib.hid (Below.refl w.heap.size w)
  go_enter Try.func19, Try.ntmps19
  go_wp2_with (at_make; refine wpList_make_some rfl (.tmp 6) (.tmp 6) 43 rfl w.heap.size 36 i0 _ 6 80 Try.underlying43 hi hz0 hz1 hz2 _ _ _ _ l.length rfl rfl rfl rfl (by omega) (by omega) hbel.out (Nat.le_refl _) ?_; intro w1 cs0 hr1 hc0 hb1; have hr0 := Lib.hid (STill.none_ (w := w1) (base := w.heap.size + 1) hc0); replace hr1 := Lib.hid hr1; replace hb1 := Lib.hid hb1; clear hc0)
  go_loopw [4] (fun i wr => ∃ (k : Nat) (cs : List Value), k ≤ l.length ∧ i = .int .i64 k ∧ Hid (Blk wr w.heap.size 36 cs) ∧ Hid (STill wr (w.heap.size + 1) cs l k) ∧ Hid (Below w.heap.size w wr)) (fun i _ => l.length - (intOf i).toNat)
  case atStart => exact ⟨0, cs0, Nat.zero_le _, rfl, hr1, hr0, hb1⟩
  case round =>
    obtain ⟨k, cs, hk, rfl, hr, ht, hb⟩ := hrel
    have hwlt := hr.out.lt
    by_cases hlt : k < l.length
    · have hlt' : (k : Int) < (l.length : Int) := by omega
      have hs := Lib.hid (hv'.out.below hb.out)
      obtain ⟨b, off, B, n, c, rfl, hbk, hp, c0, c1, c2, c3, c4, c5⟩ := hs.out.six k hlt
      replace hp := Lib.hid hp
      have hpl := hsm.out l[k] (List.getElem_mem hlt)
      go_wp2_with (go_at_call 14; refine (toStmt_any l[k] B n c _ hp.out hpl).mono ?_; rintro e w2 ⟨B2, n2, cap2, rfl, ho, hb2⟩; unfold stmA; replace ho := Lib.hid (ho.mono (show w.heap.size + 1 ≤ wr.heap.size from hwlt)); replace hr := Lib.hid (hr.out.up hb2); replace ht := Lib.hid (ht.out.below hb2); replace hb := Lib.hid (Below.then_ hb.out hb2 (Nat.le_refl _)); have hcl : k * 6 + 5 < cs.length := (by have := ht.out.1; omega); have d0 := hr.out.cell (k * 6) (by omega); have d1 := hr.out.cell (k * 6 + 1) (by omega); have d2 := hr.out.cell (k * 6 + 2) (by omega); have d3 := hr.out.cell (k * 6 + 3) (by omega); have d4 := hr.out.cell (k * 6 + 4) (by omega); have d5 := hr.out.cell (k * 6 + 5) (by omega); have f0 := hr.out.free (k * 6); have f1 := hr.out.free (k * 6 + 1); have f2 := hr.out.free (k * 6 + 2); have f3 := hr.out.free (k * 6 + 3); have f4 := hr.out.free (k * 6 + 4); have f5 := hr.out.free (k * 6 + 5); clear c0 c1 c2 c3 c4 c5 hb2)
      have hr3 := Lib.hid (hr.out.setStm (k * 6) l[k] (.slice B2 n2 cap2))
      have ht3 := Lib.hid (ht.out.put hlt (show w.heap.size < w.heap.size + 1 by omega) ho.out)
      have hb3 := Lib.hid (below_setStm hb.out (Nat.le_refl w.heap.size) (k * 6) l[k] (.slice B2 n2 cap2))
      clear hr ht hb ho
      go_roundw
      case rel => exact ⟨k + 1, _, by omega, by go_num, hr3, ht3, hb3⟩
      case measure => simp [intOf]; omega
    · have hlt' : ¬ (k : Int) < (l.length : Int) := by omega
      obtain rfl : k = l.length := by omega
      have hO := Lib.hid (show OwnStms wr w.heap.size (.slice (some ⟨w.heap.size, 0, none⟩) l.length l.length) l from ⟨hl, hv'.out.2.1, _, _, rfl, Nat.le_refl _, hr.out, ht.out⟩)
      go_wp2
      go_ret
      exact ⟨_, rfl, hO.out, hb.out⟩
set_option maxHeartbeats 4000000 in
theorem eqStmts_same (v u : Value) (l : List Stm) (w : World) (hv : Stms w v l) (hu : Stms w u l) :
    Calls Try.prog 21 #[v, u] w (Gives (.bool true) w) := by
  obtain ⟨A, cap, rfl⟩ := hv.form
  obtain ⟨A2, cap2, rfl⟩ := hu.form
  have hl := hv.1
  unfold maxLen at hl
  have hv' := Lib.hid hv
  have hu' := Lib.hid hu
  clear hv hu
  go_enter Try.func21, Try.ntmps21
  go_wp2
  go_loopw [5] (fun i wr => ∃ k : Nat, k ≤ l.length ∧ i = .int .i64 k ∧ Hid (Below w.heap.size w wr)) (fun i _ => l.length - (intOf i).toNat)
  case atStart => exact ⟨0, Nat.zero_le _, rfl, Lib.hid (Below.refl _ _)⟩
  case round =>
    obtain ⟨k, hk, rfl, hb⟩ := hrel
    by_cases hlt : k < l.length
    · have hlt' : (k : Int) < (l.length : Int) := by omega
      have hs1 := Lib.hid (hv'.out.below hb.out)
      have hs2 := Lib.hid (hu'.out.below hb.out)
      obtain ⟨b, off, B, n, c, rfl, hbk, hp, c0, c1, c2, c3, c4, c5⟩ := hs1.out.six k hlt
      obtain ⟨b2, off2, B2, n2, c2', rfl, hbk2, hp2, d0, d1, d2, d3, d4, d5⟩ := hs2.out.six k hlt
      replace hp := Lib.hid hp.drew
      replace hp2 := Lib.hid hp2.drew
      replace hb := Lib.hid (below_drew' hb.out)
      go_wp2
      go_region_held3 (fun w' => w'.cell? ⟨b, off + k * 6, none⟩ = some (.int .i64 l[k].kind) ∧ w'.cell? ⟨b, off + k * 6 + 1, none⟩ = some (.string l[k].name) ∧ w'.cell? ⟨b, off + k * 6 + 2, none⟩ = some (.string l[k].text) ∧ w'.cell? ⟨b, off + k * 6 + 3, none⟩ = some (.int .i64 l[k].num) ∧ w'.cell? ⟨b, off + k * 6 + 4, none⟩ = some (.int .i64 l[k].dest) ∧ w'.cell? ⟨b, off + k * 6 + 5, none⟩ = some (.slice B n c) ∧ w'.cell? ⟨b2, off2 + k * 6, none⟩ = some (.int .i64 l[k].kind) ∧ w'.cell? ⟨b2, off2 + k * 6 + 1, none⟩ = some (.string l[k].name) ∧ w'.cell? ⟨b2, off2 + k * 6 + 2, none⟩ = some (.string l[k].text) ∧ w'.cell? ⟨b2, off2 + k * 6 + 3, none⟩ = some (.int .i64 l[k].num) ∧ w'.cell? ⟨b2, off2 + k * 6 + 4, none⟩ = some (.int .i64 l[k].dest) ∧ w'.cell? ⟨b2, off2 + k * 6 + 5, none⟩ = some (.slice B2 n2 c2')) (first | exact ⟨c0, c1, c2, c3, c4, c5, d0, d1, d2, d3, d4, d5⟩ | go_keep)
        ((go_at_call 16; refine (eqStmt_same l[k] _ _ _ _ _ _ _ hp.out hp2.out).mono ?_; rintro e w1 ⟨rfl, hb1⟩; replace c0 := cell_below hb1 (Nat.le_refl _) _ _ c0; replace c1 := cell_below hb1 (Nat.le_refl _) _ _ c1; replace c2 := cell_below hb1 (Nat.le_refl _) _ _ c2; replace c3 := cell_below hb1 (Nat.le_refl _) _ _ c3; replace c4 := cell_below hb1 (Nat.le_refl _) _ _ c4; replace c5 := cell_below hb1 (Nat.le_refl _) _ _ c5; replace d0 := cell_below hb1 (Nat.le_refl _) _ _ d0; replace d1 := cell_below hb1 (Nat.le_refl _) _ _ d1; replace d2 := cell_below hb1 (Nat.le_refl _) _ _ d2; replace d3 := cell_below hb1 (Nat.le_refl _) _ _ d3; replace d4 := cell_below hb1 (Nat.le_refl _) _ _ d4; replace d5 := cell_below hb1 (Nat.le_refl _) _ _ d5; replace hb := Lib.hid (Below.then_ hb.out hb1 (Nat.le_refl _)); clear hb1))
      all_goals go_wp2
      go_roundw
      case rel => exact ⟨k + 1, by omega, by go_num, hb⟩
      case measure => simp [intOf]; omega
    · have hlt' : ¬ (k : Int) < (l.length : Int) := by omega
      go_wp2
      go_ret
      exact ⟨rfl, hb.out⟩
end Go.Proofs.Ytejmfpaegkgkjaa
