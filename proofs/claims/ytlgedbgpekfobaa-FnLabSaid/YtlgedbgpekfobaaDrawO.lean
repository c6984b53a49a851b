/- The inputs of LabOf, LabJoin and LabCut: what may be drawn. -/
import Derived.Test.YtlgedbgpekfobaaDrawM
namespace Go.Proofs.Ytlgedbgpekfobaa
open Go.RowKit

attribute [local go_sem] vupon_value vupon_skip vupon_enter lay_cons lay_nil
/-- A number of no more than a thousand. -/
def SmallVal (v : Value) : Prop := ∃ x : Int, v = .int .i64 x ∧ -1000 ≤ x ∧ x ≤ 1000
def LabIn (v : Value) (w : World) : Prop := ∃ (t : ByteArray) (A : Option Addr) (cap : Nat) (l : List Int), v = .agg #[.string t, .slice A l.length cap] ∧ t.size ≤ 201 ∧ l.length ≤ 201 ∧ Ints w (.slice A l.length cap) l
def LabOfEnd (e : Ending) : Prop := ∃ (t : ByteArray) (x : Int), e = .returned (.tuple #[.string t, .int .i64 x]) ∧ t.size ≤ 201 ∧ -1000 ≤ x ∧ x ≤ 1000
def LabJoinEnd (e : Ending) (w : World) : Prop := ∃ a b, e = .returned (.tuple #[a, b]) ∧ LabIn a w ∧ LabIn b w
def LabCutEnd (e : Ending) (w : World) : Prop := ∃ a x y, e = .returned (.tuple #[a, x, y]) ∧ LabIn a w ∧ SmallVal x ∧ SmallVal y
theorem LabVal.in_ {lo : Nat} {v : Value} {w : World} (h : LabVal lo 201 v w) : LabIn v w := by
  obtain ⟨t, A, cap, l, e, ht, hl, ho⟩ := h
  exact ⟨t, A, cap, l, e, ht, hl, ho.ints⟩
theorem LabIn.below {v : Value} {w w' : World} (h : LabIn v w) (k : Below w.heap.size w w') : LabIn v w' := by
  obtain ⟨t, A, cap, l, e, ht, hl, ho⟩ := h
  exact ⟨t, A, cap, l, e, ht, hl, ho.below k⟩
theorem zeros_size (n : Nat) : (⟨Array.replicate n (0 : UInt8)⟩ : ByteArray).size = n := by show (Array.replicate n (0 : UInt8)).size = _; simp
theorem near_all {w w' : World} {g : Nat} (h : w.grownBy w' (some g)) (hg : w.heap.size ≤ g) : Below w.heap.size w w' := ⟨h.os, h.tape, h.output, h.size, fun k hk => h.block k hk (by simp; omega)⟩

theorem two_below (w : World) (o1 o2 : Obj) : Below w.heap.size w ((w.alloc o1).alloc o2) := ((Below.refl _ _).alloc (Nat.le_refl _) o1).alloc (by simp) o2
theorem two_kept (w : World) (o1 o2 : Obj) (b : Nat) (hb : b < w.heap.size) : ((w.alloc o1).alloc o2).heap[b]? = w.heap[b]? := (two_below w o1 o2).block b hb
set_option maxRecDepth 100000 in
set_option maxHeartbeats 2000000 in
theorem drawLabOf_any (A : Option Addr) (len cap B : Nat) (w : World) (hB : B ≤ w.heap.size) (hr : Readable w B A len) :
    Calls Try.prog 16 #[.slice A len cap] w fun e w' => LabOfEnd e ∧ Below w.heap.size w w' := by
  obtain ⟨i0, hi, hz0, hz1, hz2⟩ := info_parts Try.uinfo5
  have hr' := Lib.hid hr
  have hr1 := hr.1
  clear hr
  have hTX := Lib.hid (fun (w : World) => texts_arr (w := w) (n := 3) (m := 201) (cs := #[.string ⟨#[]⟩, .string ⟨#[97, 98, 99]⟩, .string ⟨#[120]⟩]) (t := 9) rfl (by rfl))
  go_enter Try.func16, Try.ntmps16
  go_wp2_with (first
    | (go_at_call 40; refine (source_any A len cap B _ hB hr'.out).mono ?_; rintro e w1 ⟨rfl, hs, hb⟩; replace hs := Lib.hid hs; replace hb := Lib.hid hb)
    | (go_at_call 46; refine (pick_any _ w1.heap.size 3 3 201 A len B (by decide) (by decide) (Nat.ne_of_gt hs.out.lt) _ (hs.out.alloc _) (hTX.out w1)).mono ?_; rintro e w2 ⟨⟨t, ht, rfl⟩, hs', hg⟩; replace hs := Lib.hid hs'; replace hb := Lib.hid (below_step (hb.out.alloc hb.out.size _) hg (Nat.le_refl _) (Nat.le_refl _)); clear hg hs')
    | (go_at_call 45; refine (one_any _ _ A len B (by omega) _ hs.out).mono ?_; rintro e w3 ⟨⟨q, rfl⟩, hs', hg⟩; replace hs := Lib.hid hs'; replace hb := Lib.hid (below_step hb.out hg (Nat.le_refl _) (Nat.le_refl _)); clear hg hs')
    | (go_at_call_of 44 (Value.int .i64 3); refine (n_any _ _ A len B (by omega) _ hs.out).mono ?_; rintro e w4 ⟨⟨v, hv, rfl⟩, hs', hg⟩; have hv2 : (v : Int) < 3 := (by omega); replace hs := Lib.hid hs'; replace hb := Lib.hid (below_step hb.out hg (Nat.le_refl _) (Nat.le_refl _)); clear hg hs')
    | (go_at_call_of 44 (Value.int .i64 19); refine (n_any _ _ A len B (by omega) _ hs.out).mono ?_; rintro e w6 ⟨⟨x, hx, rfl⟩, hs', hg⟩; have hx2 : (x : Int) < 19 := (by omega); replace hb := Lib.hid (below_step hb.out hg (Nat.le_refl _) (Nat.le_refl _)); clear hg hs')
    | (at_make; refine wpList_make_full _ rfl _ _ _ rfl w.heap.size 5 i0 (.int .u8 0) 1 Try.underlying22 hi hz0 hz1 _ _ _ _ (199 + v) rfl rfl (by first | rfl | omega) (by first | rfl | omega) (by rw [hz2]; omega) (by unfold maxLen; omega) hb.out.size ?_; intro w5 ho hg; have hconv := own_string (P := Try.prog) (dst := 9) Try.underlying22 Try.underlying5 Try.underlying9 (own_zeros ho); have hn := grown_none hg; replace hs := Lib.hid (hs.out.near hn); replace hb := Lib.hid (Below.then_ hb.out hn (Nat.le_refl _)); clear ho hg hn))
  · refine bodyPost_ret (v := .tuple #[strV (List.replicate (199 + v) 0), .int .i64 ((x : Int) - 1)]) (by simp [results, Try.results16, go_sem]) rfl ?_
    exact ⟨⟨⟨(List.replicate (199 + v) 0).toArray⟩, _, rfl, by show (List.replicate (199 + v) (0 : UInt8)).toArray.size ≤ _; simp; omega, by omega, by omega⟩, hb.out⟩
  · refine bodyPost_ret (v := .tuple #[.string t, .int .i64 ((x : Int) - 1)]) (by simp [results, Try.results16, go_sem]) rfl ?_
    exact ⟨⟨_, _, rfl, ht, by omega, by omega⟩, hb.out⟩
/-- The worlds where two results are stored: H, H + 1 the results' boxes, H5 the first one's. -/
structure TwoWorld (w0 : World) (B g : Nat) (A : Option Addr) (len H H5 : Nat) (v0 : ByteArray × Option Addr × Nat × List Int) (L : Nat → Bool) (w : World) : Prop where
  src : Src w B g A len
  base : Below H w0 w
  box : Blk w H5 25 [.string v0.1, .slice v0.2.1 v0.2.2.2.length v0.2.2.1]
  own : OwnInts w (H + 3) (.slice v0.2.1 v0.2.2.2.length v0.2.2.1) v0.2.2.2
  r1 : ∃ x y, Blk w H 25 [x, y]
  r2 : ∃ x y, Blk w (H + 1) 25 [x, y]
  d1 : L 3 = true → Blk w H 25 [.string v0.1, .slice v0.2.1 v0.2.2.2.length v0.2.2.1]
  d2 : L 4 = true → LabBox (H + 1) (H + 3) 201 w
theorem LabBox.grow {H lo m g : Nat} {w w' : World} (h : LabBox H lo m w) (k : w.grownBy w' (some g)) (hlo : g < lo) (hne : H ≠ g) : LabBox H lo m w' := by
  obtain ⟨t, A, cap, l, hb, ht, hl, ho⟩ := h
  exact ⟨t, A, cap, l, hb.grow k hne, ht, hl, ho.grow k hlo⟩
theorem TwoWorld.grow {w0 : World} {B g len H H5 j : Nat} {A : Option Addr} {v0 : ByteArray × Option Addr × Nat × List Int} {L : Nat → Bool} {w w' : World} (h : TwoWorld w0 B g A len H H5 v0 L w) (h3 : 3 ≠ j) (h4 : 4 ≠ j) (k : w.grownBy w' (some g)) (hs : Src w' B g A len) (hg : g = H + 2) (h5 : g < H5) (hw : w0.heap.size ≤ H) : TwoWorld w0 B g A len H H5 v0 (more L j) w' := by
  subst hg
  refine ⟨hs, h.base.grown k (by have := h.src.lt; omega) (fun _ e => by cases e; omega), h.box.grow k (by omega), h.own.grow k (by omega), ?_, ?_, fun e => ?_, fun e => ?_⟩
  · obtain ⟨x, y, h⟩ := h.r1; exact ⟨x, y, h.grow k (by omega)⟩
  · obtain ⟨x, y, h⟩ := h.r2; exact ⟨x, y, h.grow k (by omega)⟩
  · rw [more_ne h3] at e; exact (h.d1 e).grow k (by omega)
  · rw [more_ne h4] at e; exact (h.d2 e).grow k (by omega) (by omega)
theorem TwoWorld.put1 {w0 : World} {B g len H H5 : Nat} {A : Option Addr} {v0 : ByteArray × Option Addr × Nat × List Int} {L : Nat → Bool} {w : World} (h : TwoWorld w0 B g A len H H5 v0 L w) (hg : g = H + 2) (h5 : g < H5) (hw : w0.heap.size ≤ H) (hBH : B ≤ H) : TwoWorld w0 B g A len H H5 v0 (more L 3) ((w.setCell ⟨H, 0, none⟩ (.string v0.1)).setCell ⟨H, 1, none⟩ (.slice v0.2.1 v0.2.2.2.length v0.2.2.1)) := by
  subst hg
  have k := grown_set (grown_set (grown_self w (some H)) 0 (.string v0.1)) 1 (.slice v0.2.1 v0.2.2.2.length v0.2.2.1)
  obtain ⟨x, y, h1⟩ := h.r1
  refine ⟨h.src.grown k (fun i e => by cases e; omega), h.base.grown k (by have := h.src.lt; omega) (fun _ e => by cases e; omega), h.box.grow k (by omega), h.own.grow k (by omega), ⟨_, _, (h1.set 0 _).set 1 _⟩, ?_, fun _ => (h1.set 0 _).set 1 _, fun e => ?_⟩
  · obtain ⟨x, y, h⟩ := h.r2; exact ⟨x, y, h.grow k (by omega)⟩
  · rw [more_ne (by decide)] at e; exact (h.d2 e).grow k (by omega) (by omega)
theorem TwoWorld.put2 {w0 : World} {B g len H H5 cap : Nat} {A A1 : Option Addr} {t : ByteArray} {l : List Int} {v0 : ByteArray × Option Addr × Nat × List Int} {L : Nat → Bool} {w : World} (h : TwoWorld w0 B g A len H H5 v0 L w) (hg : g = H + 2) (h5 : g < H5) (hw : w0.heap.size ≤ H) (hBH : B ≤ H)
    (ht : t.size ≤ 201) (hl : l.length ≤ 201) (ho : OwnInts w (H + 3) (.slice A1 l.length cap) l) : TwoWorld w0 B g A len H H5 v0 (more L 4) ((w.setCell ⟨H + 1, 0, none⟩ (.string t)).setCell ⟨H + 1, 1, none⟩ (.slice A1 l.length cap)) := by
  subst hg
  have k := grown_set (grown_set (grown_self w (some (H + 1))) 0 (.string t)) 1 (.slice A1 l.length cap)
  obtain ⟨x, y, h1⟩ := h.r2
  refine ⟨h.src.grown k (fun i e => by cases e; omega), h.base.grown k (by have := h.src.lt; omega) (fun _ e => by cases e; omega), h.box.grow k (by omega), h.own.grow k (by omega), ?_, ⟨_, _, (h1.set 0 _).set 1 _⟩, fun e => ?_, fun _ => ⟨t, A1, cap, l, (h1.set 0 _).set 1 _, ht, hl, ho.grow k (by omega)⟩⟩
  · obtain ⟨x, y, h⟩ := h.r1; exact ⟨x, y, h.grow k (by omega)⟩
  · rw [more_ne (by decide)] at e; exact (h.d1 e).grow k (by omega)
def joinVals (g lo : Nat) (v0 : Value) : Nat → Value → World → Prop
  | 0, v, _ => v = v0
  | 1, v, _ => v = .pointer (some ⟨g, 0, none⟩)
  | 2, v, w => LabVal lo 201 v w
  | _, _, _ => True
theorem joinVals.grow {g lo b : Nat} {v0 : Value} (i : Nat) (v : Value) (w w' : World) (hb : b < lo) (k : w.grownBy w' (some b)) (h : joinVals g lo v0 i v w) : joinVals g lo v0 i v w' := by
  match i with
  | 0 => exact h
  | 1 => exact h
  | 2 => exact LabVal.grow h k hb
  | n + 3 => trivial
set_option maxRecDepth 100000 in
set_option maxHeartbeats 2000000 in
theorem drawLabJoin_any (A : Option Addr) (len cap B : Nat) (w : World) (hB : B ≤ w.heap.size) (hr : Readable w B A len) :
    Calls Try.prog 12 #[.slice A len cap] w fun e w' => LabJoinEnd e w' ∧ Below w.heap.size w w' := by
  obtain ⟨B1, B2⟩ := boxes2' w (.string ⟨#[]⟩) (.slice none 0 0) (.string ⟨#[]⟩) (.slice none 0 0) 25 25
  have hr' := Lib.hid hr
  have hr1 := hr.1
  clear hr
  replace B1 := Lib.hid B1
  replace B2 := Lib.hid B2
  go_enter Try.func12, Try.ntmps12
  go_wp2_with (go_at_call 40; refine (source_any A len cap B _ (by simp only [World.size_alloc]; omega) (hr'.out.keep fun b hb => ?_)).mono ?_; exact two_kept w _ _ b (Nat.lt_of_lt_of_le hb hB); rintro e w1 ⟨rfl, hs, hb⟩; rw [World.size_alloc, World.size_alloc] at hs; replace B1 := Lib.hid (B1.out.below hb (by simp only [World.size_alloc]; omega)); replace B2 := Lib.hid (B2.out.below hb (by simp only [World.size_alloc]; omega)); replace hs := Lib.hid hs; replace hb := Lib.hid ((two_below w _ _).trans (hb.mono (by simp only [World.size_alloc]; omega))))
  go_wp2_with (go_at_call 41; refine (lab_draw _ A len B _ hs.out).mono ?_; rintro e w2 ⟨⟨t, A1, cap1, l, rfl, ht, hl, ho⟩, hs', hg⟩; have hz1 := Lib.hid hs.out.lt; have hz2 := Lib.hid hg.size; replace B1 := Lib.hid (B1.out.grow hg (by omega)); replace B2 := Lib.hid (B2.out.grow hg (by omega)); replace hs := Lib.hid hs'; replace ho := Lib.hid ho; replace hb := Lib.hid (below_step hb.out hg (by omega) (by omega)); clear hg hs')
  have hz3 := hz1.out
  have hz4 := hz2.out
  have hJ0 : TwoWorld w B (w.heap.size + 1 + 1) A len w.heap.size w2.heap.size (t, A1, cap1, l) (fun _ => false) (w2.alloc (.cells #[.string t, .slice A1 l.length cap1] 25)).drew :=
    ⟨(hs.out.alloc _).drew, below_drew (hb.out.alloc hb.out.size _), heap_alloc_new w2 _, (ho.out.mono (by omega)).alloc _, ⟨_, _, B1.out.alloc _⟩, ⟨_, _, B2.out.alloc _⟩, (fun e => by cases e), fun e => by cases e⟩
  refine wp_region_rows [] (joinVals (w.heap.size + 1 + 1) (w.heap.size + 3) (.agg #[.string t, .slice A1 l.length cap1])) (TwoWorld w B (w.heap.size + 1 + 1) A len w.heap.size w2.heap.size (t, A1, cap1, l)) (fun k w1 w' => ∃ b, b < w.heap.size + 3 ∧ w1.grownBy w' (some b)) (by kernel_rfl) (by kernel_rfl) (by kernel_rfl) (by kernel_rfl) (fun k i v w w' _ _ ⟨b, hb, hM⟩ h => joinVals.grow i v w w' hb hM h) hJ0 ⟨?_, ?_, ?_, ?_, ?_, trivial⟩ ?_
  all_goals clear hJ0 hs B1 B2 ho hb
  · intro y w9 L next hL ha hw hJ hd hn
    have x0 := hJ.box.two.1
    have x1 := hJ.box.two.2.1
    dsimp only at x0 x1
    replace hJ := Lib.hid hJ
    go_simp
    exact hn _ _ ⟨_, by omega, grown_self w9 (some w.heap.size)⟩ (hJ.out.grow (by decide) (by decide) (grown_self w9 _) hJ.out.src rfl (by omega) (Nat.le_refl _)) rfl
  · intro y w9 L next hL ha hw hJ hd hn
    go_simp
    exact hn _ _ ⟨_, by omega, grown_self w9 (some w.heap.size)⟩ (hJ.grow (by decide) (by decide) (grown_self w9 _) hJ.src rfl (by omega) (Nat.le_refl _)) rfl
  · intro y w9 L next hL ha hw hJ hd hn
    have e1 : y 1 = _ := hd 1 (by kernel_rfl)
    go_simp
    have hlt := hJ.src.lt
    refine (lab_draw _ A len B w9 hJ.src).mono ?_
    rintro e w' ⟨⟨t', A', cap', l', rfl, ht', hl', ho'⟩, hs', hg⟩
    exact ⟨_, rfl, hn _ _ ⟨_, by omega, hg⟩ (hJ.grow (by decide) (by decide) hg hs' rfl (by omega) (Nat.le_refl _)) ⟨t', A', cap', l', rfl, ht', hl', ho'.mono (by omega)⟩⟩
  · intro y w9 L next hL ha hw hJ hd hn
    have e0 : y 0 = _ := hd 0 (by kernel_rfl)
    have hr := hJ.r1
    replace hJ := Lib.hid hJ
    clear hd
    go_simp
    obtain ⟨x, y, hr⟩ := hr
    obtain ⟨x0, x1, xf0, xf1⟩ := hr.two
    go_simp
    exact hn _ _ ⟨_, by omega, grown_set (grown_set (grown_self w9 (some w.heap.size)) 0 _) 1 _⟩ (hJ.out.put1 rfl (by omega) (Nat.le_refl _) hB) trivial
  · intro y w9 L next hL ha hw hJ hd hn
    have e2 : LabVal (w.heap.size + 3) 201 (y 2) w9 := hd 2 (by kernel_rfl)
    have hr := hJ.r2
    replace hJ := Lib.hid hJ
    clear hd
    go_simp
    obtain ⟨x, y', hr⟩ := hr
    obtain ⟨x0, x1, xf0, xf1⟩ := hr.two
    obtain ⟨t', A', cap', l', e2, ht', hl', ho'⟩ := e2
    rw [e2]
    go_simp
    exact hn _ _ ⟨_, by omega, grown_set (grown_set (grown_self w9 (some (w.heap.size + 1))) 0 _) 1 _⟩ (hJ.out.put2 rfl (by omega) (Nat.le_refl _) hB ht' hl' ho') trivial
  · intro y L w9 hL hJ hd
    obtain ⟨r0, r1, rf0, rf1⟩ := (hJ.d1 (hL 3 (by decide))).two
    obtain ⟨t', A', cap', l', B2, ht', hl', ho'⟩ := hJ.d2 (hL 4 (by decide))
    obtain ⟨x0, x1, xf0, xf1⟩ := B2.two
    have hbb := Lib.hid hJ.base
    have hoo := Lib.hid hJ.own
    dsimp only at r0 r1 hoo
    replace ho' := Lib.hid ho'
    clear hJ hd B2 hL
    simp only [lay_cons, lay_nil]
    go_wp2
    refine bodyPost_ret (v := .tuple #[.agg #[.string t, .slice A1 l.length cap1], .agg #[.string t', .slice A' l'.length cap']]) (by simp [results, Try.results12, go_sem, r0, r1, x0, x1]) rfl ?_
    exact ⟨⟨_, _, rfl, ⟨t, A1, cap1, l, rfl, ht, hl, hoo.out.ints⟩, ⟨t', A', cap', l', rfl, ht', hl', ho'.out.ints⟩⟩, hbb.out⟩
structure CutWorld (w0 : World) (B g : Nat) (A : Option Addr) (len H H5 : Nat) (v0 : ByteArray × Option Addr × Nat × List Int) (L : Nat → Bool) (w : World) : Prop where
  src : Src w B g A len
  base : Below H w0 w
  box : Blk w H5 25 [.string v0.1, .slice v0.2.1 v0.2.2.2.length v0.2.2.1]
  own : OwnInts w (H + 2) (.slice v0.2.1 v0.2.2.2.length v0.2.2.1) v0.2.2.2
  r1 : ∃ x y, Blk w H 25 [x, y]
  d1 : L 15 = true → Blk w H 25 [.string v0.1, .slice v0.2.1 v0.2.2.2.length v0.2.2.1]
theorem CutWorld.grow {w0 : World} {B g len H H5 j : Nat} {A : Option Addr} {v0 : ByteArray × Option Addr × Nat × List Int} {L : Nat → Bool} {w w' : World} (h : CutWorld w0 B g A len H H5 v0 L w) (h3 : 15 ≠ j) (k : w.grownBy w' (some g)) (hs : Src w' B g A len) (hg : g = H + 1) (h5 : g < H5) (hw : w0.heap.size ≤ H) : CutWorld w0 B g A len H H5 v0 (more L j) w' := by
  subst hg
  refine ⟨hs, h.base.grown k (by have := h.src.lt; omega) (fun _ e => by cases e; omega), h.box.grow k (by omega), h.own.grow k (by omega), ?_, fun e => ?_⟩
  · obtain ⟨x, y, h⟩ := h.r1; exact ⟨x, y, h.grow k (by omega)⟩
  · rw [more_ne h3] at e; exact (h.d1 e).grow k (by omega)
theorem CutWorld.put1 {w0 : World} {B g len H H5 : Nat} {A : Option Addr} {v0 : ByteArray × Option Addr × Nat × List Int} {L : Nat → Bool} {w : World} (h : CutWorld w0 B g A len H H5 v0 L w) (hg : g = H + 1) (h5 : g < H5) (hw : w0.heap.size ≤ H) (hBH : B ≤ H) : CutWorld w0 B g A len H H5 v0 (more L 15) ((w.setCell ⟨H, 0, none⟩ (.string v0.1)).setCell ⟨H, 1, none⟩ (.slice v0.2.1 v0.2.2.2.length v0.2.2.1)) := by
  subst hg
  have k := grown_set (grown_set (grown_self w (some H)) 0 (.string v0.1)) 1 (.slice v0.2.1 v0.2.2.2.length v0.2.2.1)
  obtain ⟨x, y, h1⟩ := h.r1
  exact ⟨h.src.grown k (fun i e => by cases e; omega), h.base.grown k (by have := h.src.lt; omega) (fun _ e => by cases e; omega), h.box.grow k (by omega), h.own.grow k (by omega), ⟨_, _, (h1.set 0 _).set 1 _⟩, fun _ => (h1.set 0 _).set 1 _⟩
def SmallNat (v : Value) : Prop := ∃ k : Nat, k ≤ 300 ∧ v = .int .i64 (k : Int)
/-- What the values are, where a Lab and two places are drawn. -/
def cutVals (g n : Nat) (v0 : Value) : Nat → Value → World → Prop
  | 0, v, _ => v = v0
  | 1, v, _ => v = .pointer (some ⟨g, 0, none⟩)
  | 2, v, _ => v = .int .i64 (n : Int)
  | 3, v, _ => v = .int .i64 ((n : Int) + 2)
  | 4, v, _ => SmallNat v
  | 5, v, _ => v = .pointer (some ⟨g, 0, none⟩)
  | 6, v, _ => NumVal 2 v
  | 7, v, _ => v = .pointer (some ⟨g, 0, none⟩)
  | 8, v, _ => NumVal 2 v
  | 9, v, _ => NumVal 2 v
  | 10, v, _ => SmallVal v
  | 11, v, _ => v = .pointer (some ⟨g, 0, none⟩)
  | 12, v, _ => v = .int .i64 (n : Int)
  | 13, v, _ => v = .int .i64 ((n : Int) + 2)
  | 14, v, _ => SmallVal v
  | 16, v, _ => SmallVal v
  | 17, v, _ => SmallVal v
  | _, _, _ => True
theorem cutVals.grow {g n : Nat} {v0 : Value} (i : Nat) (v : Value) (w w' : World) (h : cutVals g n v0 i v w) : cutVals g n v0 i v w' := by
  unfold cutVals at *
  split <;> simp_all
set_option maxRecDepth 100000 in
set_option maxHeartbeats 2000000 in
theorem drawLabCut_any (A : Option Addr) (len cap B : Nat) (w : World) (hB : B ≤ w.heap.size) (hr : Readable w B A len) :
    Calls Try.prog 14 #[.slice A len cap] w fun e w' => LabCutEnd e w' ∧ Below w.heap.size w w' := by
  have B1 := Lib.hid (show Blk (w.alloc (.cells #[.string ⟨#[]⟩, .slice none 0 0] 25)) w.heap.size 25 [.string ⟨#[]⟩, .slice none 0 0] from heap_alloc_new w _)
  have hr' := Lib.hid hr
  have hr1 := hr.1
  clear hr
  go_enter Try.func14, Try.ntmps14
  go_wp2_with (go_at_call 40; refine (source_any A len cap B _ (by simp only [World.size_alloc]; omega) (hr'.out.keep fun b hb => ?_)).mono ?_; exact Below.heap_alloc w _ b (Nat.lt_of_lt_of_le hb hB); rintro e w1 ⟨rfl, hs, hb⟩; rw [World.size_alloc] at hs; replace B1 := Lib.hid (B1.out.below hb (by simp only [World.size_alloc]; omega)); replace hs := Lib.hid hs; replace hb := Lib.hid (((Below.refl _ _).alloc (Nat.le_refl _) _).trans (hb.mono (by simp only [World.size_alloc]; omega))))
  go_wp2_with (go_at_call 41; refine (lab_draw _ A len B _ hs.out).mono ?_; rintro e w2 ⟨⟨t, A1, cap1, l, rfl, ht, hl, ho⟩, hs', hg⟩; have hz1 := Lib.hid hs.out.lt; have hz2 := Lib.hid hg.size; replace B1 := Lib.hid (B1.out.grow hg (by omega)); replace hs := Lib.hid hs'; replace ho := Lib.hid ho; replace hb := Lib.hid (below_step hb.out hg (by omega) (by omega)); clear hg hs')
  have hz3 := hz1.out
  have hz4 := hz2.out
  have hw1 : IntKind.i64.wrap ((t.size : Int) + 2) = (t.size : Int) + 2 := by rw [IntKind.wrap_i64]; omega
  have hJ0 : CutWorld w B (w.heap.size + 1) A len w.heap.size w2.heap.size (t, A1, cap1, l) (fun _ => false) (w2.alloc (.cells #[.string t, .slice A1 l.length cap1] 25)).drew :=
    ⟨(hs.out.alloc _).drew, below_drew (hb.out.alloc hb.out.size _), heap_alloc_new w2 _, (ho.out.mono (by omega)).alloc _, ⟨_, _, B1.out.alloc _⟩, fun e => by cases e⟩
  refine wp_region_rows [16, 17] (cutVals (w.heap.size + 1) t.size (.agg #[.string t, .slice A1 l.length cap1])) (CutWorld w B (w.heap.size + 1) A len w.heap.size w2.heap.size (t, A1, cap1, l)) (fun k w1 w' => ∃ b, b < w.heap.size + 2 ∧ w1.grownBy w' (some b)) (by kernel_rfl) (by kernel_rfl) (by kernel_rfl) (by kernel_rfl) (fun k i v w w' _ _ _ h => cutVals.grow i v w w' h) hJ0 ⟨?_, ?_, ?_, ?_, ?_, ?_, ?_, ?_, ?_, ?_, ?_, ?_, ?_, ?_, ?_, ?_, ?_, ?_, trivial⟩ ?_
  all_goals clear hJ0 hs B1 ho hb
  · intro y w9 L next hL ha hw hJ hd hn
    have x0 := hJ.box.two.1
    have x1 := hJ.box.two.2.1
    dsimp only at x0 x1
    replace hJ := Lib.hid hJ
    go_simp
    replace hJ := hJ.out
    exact hn _ _ ⟨_, by omega, grown_self w9 (some w.heap.size)⟩ (hJ.grow (by decide) (grown_self w9 _) hJ.src rfl (by omega) (Nat.le_refl _)) rfl
  · intro y w9 L next hL ha hw hJ hd hn
    go_simp
    exact hn _ _ ⟨_, by omega, grown_self w9 (some w.heap.size)⟩ (hJ.grow (by decide) (grown_self w9 _) hJ.src rfl (by omega) (Nat.le_refl _)) rfl
  · intro y w9 L next hL ha hw hJ hd hn
    go_simp
    exact hn _ _ ⟨_, by omega, grown_self w9 (some w.heap.size)⟩ (hJ.grow (by decide) (grown_self w9 _) hJ.src rfl (by omega) (Nat.le_refl _)) rfl
  · intro y w9 L next hL ha hw hJ hd hn
    have e1 : y 2 = _ := hd 2 (by kernel_rfl)
    go_simp
    exact hn _ _ ⟨_, by omega, grown_self w9 (some w.heap.size)⟩ (hJ.grow (by decide) (grown_self w9 _) hJ.src rfl (by omega) (Nat.le_refl _)) rfl
  · intro y w9 L next hL ha hw hJ hd hn
    have e1 : y 1 = _ := hd 1 (by kernel_rfl)
    have e2 : y 3 = _ := hd 3 (by kernel_rfl)
    go_simp
    refine (n_any _ _ A len B (by omega) w9 hJ.src).mono ?_
    rintro e w' ⟨⟨v, hv, rfl⟩, hs', hg⟩
    exact ⟨_, rfl, hn _ _ ⟨_, by omega, hg⟩ (hJ.grow (by decide) hg hs' rfl (by omega) (Nat.le_refl _)) ⟨v, by omega, rfl⟩⟩
  · intro y w9 L next hL ha hw hJ hd hn
    go_simp
    exact hn _ _ ⟨_, by omega, grown_self w9 (some w.heap.size)⟩ (hJ.grow (by decide) (grown_self w9 _) hJ.src rfl (by omega) (Nat.le_refl _)) rfl
  · intro y w9 L next hL ha hw hJ hd hn
    have e1 : y 5 = _ := hd 5 (by kernel_rfl)
    go_simp
    refine (n_any _ _ A len B (by omega) w9 hJ.src).mono ?_
    rintro e w' ⟨⟨v, hv, rfl⟩, hs', hg⟩
    exact ⟨_, rfl, hn _ _ ⟨_, by omega, hg⟩ (hJ.grow (by decide) hg hs' rfl (by omega) (Nat.le_refl _)) ⟨v, by omega, rfl⟩⟩
  · intro y w9 L next hL ha hw hJ hd hn
    go_simp
    exact hn _ _ ⟨_, by omega, grown_self w9 (some w.heap.size)⟩ (hJ.grow (by decide) (grown_self w9 _) hJ.src rfl (by omega) (Nat.le_refl _)) rfl
  · intro y w9 L next hL ha hw hJ hd hn
    have e1 : y 7 = _ := hd 7 (by kernel_rfl)
    go_simp
    refine (n_any _ _ A len B (by omega) w9 hJ.src).mono ?_
    rintro e w' ⟨⟨v, hv, rfl⟩, hs', hg⟩
    exact ⟨_, rfl, hn _ _ ⟨_, by omega, hg⟩ (hJ.grow (by decide) hg hs' rfl (by omega) (Nat.le_refl _)) ⟨v, by omega, rfl⟩⟩
  · intro y w9 L next hL ha hw hJ hd hn
    have e1 : NumVal 2 (y 6) := hd 6 (by kernel_rfl)
    have e2 : NumVal 2 (y 8) := hd 8 (by kernel_rfl)
    go_simp
    obtain ⟨p, hp, e1⟩ := e1
    obtain ⟨q, hq, e2⟩ := e2
    have hpq : ∃ m : Nat, m < 2 ∧ (p : Int) * (q : Int) = (m : Int) := by
      rcases (show p = 0 ∨ p = 1 by omega) with rfl | rfl
      · exact ⟨0, by omega, by simp⟩
      · exact ⟨q, hq, by simp⟩
    obtain ⟨m, hm, hpq⟩ := hpq
    have hwm : IntKind.i64.wrap (m : Int) = (m : Int) := by rw [IntKind.wrap_i64]; omega
    rw [e1, e2]
    go_simp
    exact hn _ _ ⟨_, by omega, grown_self w9 (some w.heap.size)⟩ (hJ.grow (by decide) (grown_self w9 _) hJ.src rfl (by omega) (Nat.le_refl _)) ⟨m, hm, rfl⟩
  · intro y w9 L next hL ha hw hJ hd hn
    have e1 : SmallNat (y 4) := hd 4 (by kernel_rfl)
    have e2 : NumVal 2 (y 9) := hd 9 (by kernel_rfl)
    go_simp
    obtain ⟨p, hp, e1⟩ := e1
    obtain ⟨q, hq, e2⟩ := e2
    have hwm : IntKind.i64.wrap ((p : Int) - (q : Int)) = (p : Int) - (q : Int) := by rw [IntKind.wrap_i64]; omega
    rw [e1, e2]
    go_simp
    exact hn _ _ ⟨_, by omega, grown_self w9 (some w.heap.size)⟩ (hJ.grow (by decide) (grown_self w9 _) hJ.src rfl (by omega) (Nat.le_refl _)) ⟨_, rfl, by omega, by omega⟩
  · intro y w9 L next hL ha hw hJ hd hn
    go_simp
    exact hn _ _ ⟨_, by omega, grown_self w9 (some w.heap.size)⟩ (hJ.grow (by decide) (grown_self w9 _) hJ.src rfl (by omega) (Nat.le_refl _)) rfl
  · intro y w9 L next hL ha hw hJ hd hn
    go_simp
    exact hn _ _ ⟨_, by omega, grown_self w9 (some w.heap.size)⟩ (hJ.grow (by decide) (grown_self w9 _) hJ.src rfl (by omega) (Nat.le_refl _)) rfl
  · intro y w9 L next hL ha hw hJ hd hn
    have e1 : y 12 = _ := hd 12 (by kernel_rfl)
    go_simp
    exact hn _ _ ⟨_, by omega, grown_self w9 (some w.heap.size)⟩ (hJ.grow (by decide) (grown_self w9 _) hJ.src rfl (by omega) (Nat.le_refl _)) rfl
  · intro y w9 L next hL ha hw hJ hd hn
    have e1 : y 11 = _ := hd 11 (by kernel_rfl)
    have e2 : y 13 = _ := hd 13 (by kernel_rfl)
    go_simp
    refine (n_any _ _ A len B (by omega) w9 hJ.src).mono ?_
    rintro e w' ⟨⟨v, hv, rfl⟩, hs', hg⟩
    exact ⟨_, rfl, hn _ _ ⟨_, by omega, hg⟩ (hJ.grow (by decide) hg hs' rfl (by omega) (Nat.le_refl _)) ⟨v, rfl, by omega, by omega⟩⟩
  · intro y w9 L next hL ha hw hJ hd hn
    have e0 : y 0 = _ := hd 0 (by kernel_rfl)
    have hr := hJ.r1
    replace hJ := Lib.hid hJ
    clear hd
    go_simp
    obtain ⟨x, y, hr⟩ := hr
    obtain ⟨x0, x1, xf0, xf1⟩ := hr.two
    go_simp
    exact hn _ _ ⟨_, by omega, grown_set (grown_set (grown_self w9 (some w.heap.size)) 0 _) 1 _⟩ (hJ.out.put1 rfl (by omega) (Nat.le_refl _) hB) trivial
  · intro y w9 L next hL ha hw hJ hd hn
    have e1 : SmallVal (y 10) := hd 10 (by kernel_rfl)
    go_simp
    exact hn _ _ ⟨_, by omega, grown_self w9 (some w.heap.size)⟩ (hJ.grow (by decide) (grown_self w9 _) hJ.src rfl (by omega) (Nat.le_refl _)) e1
  · intro y w9 L next hL ha hw hJ hd hn
    have e1 : SmallVal (y 14) := hd 14 (by kernel_rfl)
    go_simp
    exact hn _ _ ⟨_, by omega, grown_self w9 (some w.heap.size)⟩ (hJ.grow (by decide) (grown_self w9 _) hJ.src rfl (by omega) (Nat.le_refl _)) e1
  · intro y L w9 hL hJ hd
    have e16 : SmallVal (y 16) := hd 16 (by simp)
    have e17 : SmallVal (y 17) := hd 17 (by simp)
    obtain ⟨x16, e16, h16⟩ := e16
    obtain ⟨x17, e17, h17⟩ := e17
    obtain ⟨r0, r1, rf0, rf1⟩ := (hJ.d1 (hL 15 (by decide))).two
    have hbb := Lib.hid hJ.base
    have hoo := Lib.hid hJ.own
    dsimp only at r0 r1 hoo
    clear hJ hd hL
    simp only [lay_cons, lay_nil]
    go_wp2
    refine bodyPost_ret (v := .tuple #[.agg #[.string t, .slice A1 l.length cap1], .int .i64 x16, .int .i64 x17]) (by simp [results, Try.results14, go_sem, r0, r1, e16, e17]) rfl ?_
    exact ⟨⟨_, _, _, rfl, ⟨t, A1, cap1, l, rfl, ht, hl, hoo.out.ints⟩, ⟨x16, rfl, h16⟩, ⟨x17, rfl, h17⟩⟩, hbb.out⟩
end Go.Proofs.Ytlgedbgpekfobaa
