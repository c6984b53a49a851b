/- The input of SameBut: what may be drawn. -/
import Derived.Test.YtlgedbgpekfobaaDrawO
import Derived.Test.YtlgedbgpekfobaaZap
namespace Go.Proofs.Ytlgedbgpekfobaa
open Go.RowKit

theorem Buf.grow {w w' : World} {b g : Nat} {l : List UInt8} (h : Buf w b l) (k : w.grownBy w' (some g)) (hne : b ≠ g) : Buf w' b l := by
  have e := k.block b h.1 (by simpa using hne)
  refine ⟨Nat.lt_of_lt_of_le h.1 k.size, fun j hj => ?_⟩
  obtain ⟨h1, h2⟩ := h.2 j hj
  exact ⟨by rw [World.cell?_of_block (w := w) (w' := w') e]; exact h1, by unfold World.frozen? at h2 ⊢; rw [e]; exact h2⟩
theorem Buf.put {w : World} {g v : Nat} {l : List UInt8} (h : Buf w g l) (hv : v < l.length) (c : UInt8) : Buf (w.setCell ⟨g, v, none⟩ (.int .u8 (c.toNat : Int))) g (l.set v c) := h.set hv c
attribute [local go_sem] vupon_value vupon_skip vupon_enter lay_cons lay_nil
/-- A block whose first cell is no int64. -/
def NotInt (w : World) (b : Nat) : Prop := ∃ x, w.cell? ⟨b, 0, none⟩ = some x ∧ ∀ n, x ≠ .int .i64 n
theorem NotInt.str {w : World} {b : Nat} {s : ByteArray} (h : w.cell? ⟨b, 0, none⟩ = some (.string s)) : NotInt w b := ⟨_, h, fun n e => by cases e⟩
theorem NotInt.byte {w : World} {b : Nat} {c : UInt8} (h : w.cell? ⟨b, 0, none⟩ = some (byteV c)) : NotInt w b := ⟨_, h, fun n e => by cases e⟩
/-- A row that reads as l, in a block behind lo, from its first cell on. -/
def IntsAt (lo : Nat) (w : World) (A : Option Addr) (cap : Nat) (l : List Int) : Prop := Ints w (.slice A l.length cap) l ∧ (l = [] ∨ ∃ c, A = some ⟨c, 0, none⟩ ∧ lo ≤ c)
theorem IntsAt.grow {lo b cap : Nat} {w w' : World} {A : Option Addr} {l : List Int} (h : IntsAt lo w A cap l) (k : w.grownBy w' (some b)) (hb : b < lo ∨ NotInt w b) : IntsAt lo w' A cap l := by
  obtain ⟨⟨h1, A', cap', e, h3, h2⟩, h⟩ := h
  refine ⟨⟨h1, A', cap', e, h3, fun h0 => ?_⟩, h⟩
  obtain ⟨c, off, e2, hc⟩ := h2 h0
  cases e
  rcases h with h | ⟨c', hA, hlo⟩
  · subst h; simp at h0
  rw [hA] at e2
  cases e2
  refine ⟨c, 0, hA, fun i hi => ?_⟩
  have h00 := hc 0 h0
  have hlt := World.block_lt_of_cell? w _ h00
  have hne : c ≠ b := by
    rintro rfl
    rcases hb with hb | ⟨x, hs, hx⟩
    · omega
    · rw [hs] at h00; exact hx _ (Option.some.inj h00)
  rw [World.cell?_of_block (w := w) (w' := w') (k.block c hlt (by simpa using hne))]; exact hc i hi
theorem IntsAt.nil (lo : Nat) (w : World) : IntsAt lo w none 0 [] := ⟨(OwnInts.nil w 0).ints, .inl rfl⟩
theorem OwnInts.at {lo cap : Nat} {w : World} {A : Option Addr} {l : List Int} (h : OwnInts w lo (.slice A l.length cap) l) : IntsAt lo w A cap l := by
  refine ⟨h.ints, ?_⟩
  rcases h.2.2 with ⟨_, hn⟩ | ⟨g, cap, cur, e, hb, _⟩
  · exact .inl (List.eq_nil_of_length_eq_zero hn)
  · injection e with e1 e2 e3
    exact .inr ⟨g, e1, hb⟩
theorem IntsAt.below {lo cap : Nat} {w w' : World} {A : Option Addr} {l : List Int} (h : IntsAt lo w A cap l) (k : Below w.heap.size w w') : IntsAt lo w' A cap l := ⟨h.1.below k, h.2⟩
theorem IntsAt.mono {lo hi cap : Nat} {w : World} {A : Option Addr} {l : List Int} (h : IntsAt hi w A cap l) (k : lo ≤ hi) : IntsAt lo w A cap l := ⟨h.1, h.2.imp id fun ⟨c, e, hc⟩ => ⟨c, e, Nat.le_trans k hc⟩⟩
/-- A box of a Lab that can be read. -/
def LabBoxI (lo b : Nat) (w : World) : Prop := ∃ t A cap l, Blk w b 25 [.string t, .slice A l.length cap] ∧ t.size ≤ 201 ∧ l.length ≤ 201 ∧ IntsAt lo w A cap l
theorem LabBoxI.below {lo b : Nat} {w w' : World} (h : LabBoxI lo b w) (k : Below w.heap.size w w') : LabBoxI lo b w' := by
  obtain ⟨t, A, cap, l, hb, ht, hl, hi⟩ := h
  exact ⟨t, A, cap, l, hb.up k, ht, hl, hi.below k⟩
theorem LabBoxI.grow {lo b b' : Nat} {w w' : World} (h : LabBoxI lo b w) (k : w.grownBy w' (some b')) (hb : b' < lo ∨ NotInt w b') (hne : b ≠ b') : LabBoxI lo b w' := by
  obtain ⟨t, A, cap, l, hB, ht, hl, hi⟩ := h
  exact ⟨t, A, cap, l, hB.grow k hne, ht, hl, hi.grow k hb⟩
theorem LabBoxI.text {lo b : Nat} {w : World} (h : LabBoxI lo b w) (t' : ByteArray) (ht : t'.size ≤ 201) : LabBoxI lo b (w.setCell ⟨b, 0, none⟩ (.string t')) := by
  obtain ⟨t, A, cap, l, hB, _, hl, hi⟩ := h
  exact ⟨t', A, cap, l, hB.set 0 _, ht, hl, hi.grow (grown_set (grown_self w (some b)) 0 _) (.inr (NotInt.str hB.two.1))⟩
theorem LabBoxI.put {lo b : Nat} {w : World} (h : LabBoxI lo b w) {t' : ByteArray} {A' : Option Addr} {cap' : Nat} {l' : List Int} (ht : t'.size ≤ 201) (hl : l'.length ≤ 201) (hi : IntsAt lo w A' cap' l') : LabBoxI lo b ((w.setCell ⟨b, 0, none⟩ (.string t')).setCell ⟨b, 1, none⟩ (.slice A' l'.length cap')) := by
  obtain ⟨t, A, cap, l, hB, _, _, _⟩ := h
  exact ⟨t', A', cap', l', (hB.set 0 _).set 1 _, ht, hl, hi.grow (grown_set (grown_set (grown_self w (some b)) 0 _) 1 _) (.inr (NotInt.str hB.two.1))⟩
/-- The worlds of DrawSameBut behind its first Lab: H, H + 1 the results' boxes, H7 the first Lab's. -/
structure SbWorld (w0 : World) (B g : Nat) (A : Option Addr) (len H H7 : Nat) (t : ByteArray) (A1 : Option Addr) (cap1 : Nat) (l : List Int) (w : World) : Prop where
  src : Src w B g A len
  base : Below H w0 w
  box : Blk w H7 25 [.string t, .slice A1 l.length cap1]
  row : IntsAt (H + 3) w A1 cap1 l
  r1 : ∃ x y, Blk w H 25 [x, y]
  r2 : ∃ x y, Blk w (H + 1) 25 [x, y]
  num : w0.heap.size ≤ H ∧ g = H + 2 ∧ g < H7
theorem SbWorld.grow {w0 : World} {B g len H H7 cap1 : Nat} {A A1 : Option Addr} {t : ByteArray} {l : List Int} {w w' : World} {b : Nat} (h : SbWorld w0 B g A len H H7 t A1 cap1 l w) (k : w.grownBy w' (some b)) (hs : Src w' B g A len) (hb : b = g ∨ (H7 < b ∧ NotInt w b)) : SbWorld w0 B g A len H H7 t A1 cap1 l w' := by
  obtain ⟨n1, n2, n3⟩ := h.num
  subst n2
  have hlt := h.src.lt
  have hbH : H + 2 ≤ b ∧ b ≠ H7 := by rcases hb with hb | hb <;> omega
  refine ⟨hs, h.base.grown k (by omega) (fun _ e => by cases e; omega), h.box.grow k (by omega), h.row.grow k (hb.imp (by omega) fun h => h.2), ?_, ?_, n1, rfl, n3⟩
  · obtain ⟨x, y, h⟩ := h.r1; exact ⟨x, y, h.grow k (by omega)⟩
  · obtain ⟨x, y, h⟩ := h.r2; exact ⟨x, y, h.grow k (by omega)⟩
theorem SbWorld.below {w0 : World} {B g len H H7 cap1 : Nat} {A A1 : Option Addr} {t : ByteArray} {l : List Int} {w w' : World} (h : SbWorld w0 B g A len H H7 t A1 cap1 l w) (k : Below w.heap.size w w') : SbWorld w0 B g A len H H7 t A1 cap1 l w' := h.grow (b := g) (below_grown k) (h.src.near k) (.inl rfl)
theorem SbWorld.set {w0 : World} {B g len H H7 cap1 : Nat} {A A1 : Option Addr} {t : ByteArray} {l : List Int} {w : World} {b lo : Nat} (h : SbWorld w0 B g A len H H7 t A1 cap1 l w) (hB : LabBoxI lo b w) (hb : H7 < b) (i : Nat) (x : Value) : SbWorld w0 B g A len H H7 t A1 cap1 l (w.setCell ⟨b, i, none⟩ x) := by
  obtain ⟨t', A', cap', l', hB, _⟩ := hB
  have n := h.num
  exact h.grow (grown_set (grown_self w (some b)) i x) (h.src.grown (grown_set (grown_self w (some b)) i x) fun j e => by cases e; have := h.src; obtain ⟨_, _, _, _, _, _, _, _, hBg, _⟩ := this; omega) (.inr ⟨hb, NotInt.str hB.two.1⟩)
theorem SbWorld.set2 {w0 : World} {B g len H H7 cap1 : Nat} {A A1 : Option Addr} {t : ByteArray} {l : List Int} {w : World} {b lo : Nat} (h : SbWorld w0 B g A len H H7 t A1 cap1 l w) (hB : LabBoxI lo b w) (hb : H7 < b) (x y : Value) : SbWorld w0 B g A len H H7 t A1 cap1 l ((w.setCell ⟨b, 0, none⟩ x).setCell ⟨b, 1, none⟩ y) := by
  obtain ⟨t', A', cap', l', hB, _⟩ := hB
  have n := h.num
  have k := grown_set (grown_set (grown_self w (some b)) 0 x) 1 y
  exact h.grow k (h.src.grown k fun j e => by cases e; have := h.src; obtain ⟨_, _, _, _, _, _, _, _, hBg, _⟩ := this; omega) (.inr ⟨hb, NotInt.str hB.two.1⟩)
def sbVals (lo H7 : Nat) (t : ByteArray) (A1 : Option Addr) (cap1 : Nat) (l : List Int) : Nat → Value → World → Prop
  | 0, v, _ => v = .pointer (some ⟨H7, 0, none⟩)
  | 1, v, _ => v = .string t
  | 2, v, _ => ∃ b, v = .slice (some ⟨b, 0, none⟩) 0 0
  | 3, v, _ => v = .pointer (some ⟨H7, 1, none⟩)
  | 4, v, _ => v = .slice A1 l.length cap1
  | 5, v, w => ∃ A cap, v = .slice A l.length cap ∧ IntsAt lo w A cap l
  | 6, v, w => ∃ A cap, v = .agg #[.string t, .slice A l.length cap] ∧ IntsAt lo w A cap l
  | 7, v, w => ∃ b, v = .pointer (some ⟨b, 0, none⟩) ∧ H7 < b ∧ LabBoxI lo b w
  | _, _, _ => True
theorem sbVals.below {lo H7 cap1 : Nat} {A1 : Option Addr} {t : ByteArray} {l : List Int} (i : Nat) (v : Value) (w w' : World) (k : Below w.heap.size w w') (h : sbVals lo H7 t A1 cap1 l i v w) : sbVals lo H7 t A1 cap1 l i v w' := by
  match i with
  | 0 => exact h
  | 1 => exact h
  | 2 => exact h
  | 3 => exact h
  | 4 => exact h
  | 5 =>
    obtain ⟨A, cap, e, hi⟩ := h
    exact ⟨A, cap, e, hi.below k⟩
  | 6 =>
    obtain ⟨A, cap, e, hi⟩ := h
    exact ⟨A, cap, e, hi.below k⟩
  | 7 =>
    obtain ⟨b, e, hb, hB⟩ := h
    exact ⟨b, e, hb, hB.below k⟩
  | n + 8 => trivial
theorem byte_inc (c : UInt8) : IntKind.u8.wrap ((c.toNat : Int) + 1) = ((c + 1).toNat : Int) := by
  rw [IntKind.wrap_u8, UInt8.toNat_add]; simp
def SameButEnd (e : Ending) (w : World) : Prop := ∃ (a b : Value) (x : Int), e = .returned (.tuple #[a, b, .int .i64 x]) ∧ LabIn a w ∧ LabIn b w
theorem LabBoxI.others {lo b cap : Nat} {w : World} {t : ByteArray} {A : Option Addr} {l : List Int} (hB : LabBoxI lo b w) (ht : t.size ≤ 201) (hl : l.length ≤ 201) (hi : IntsAt lo w A cap l) (b' : Nat) (h : LabBoxI lo b' w) : LabBoxI lo b' ((w.setCell ⟨b, 0, none⟩ (.string t)).setCell ⟨b, 1, none⟩ (.slice A l.length cap)) := by
  by_cases e : b' = b
  · subst e; exact hB.put ht hl hi
  · obtain ⟨t', A', cap', l', hBb, _⟩ := hB
    exact h.grow (grown_set (grown_set (grown_self w (some b)) 0 _) 1 _) (.inr (NotInt.str hBb.two.1)) e
/-- The worlds where the results are stored. -/
structure RetWorld (w0 : World) (H H7 H8 : Nat) (a b : ByteArray × Option Addr × Nat × List Int) (L : Nat → Bool) (w : World) : Prop where
  base : Below H w0 w
  box7 : Blk w H7 25 [.string a.1, .slice a.2.1 a.2.2.2.length a.2.2.1]
  box8 : Blk w H8 25 [.string b.1, .slice b.2.1 b.2.2.2.length b.2.2.1]
  rowa : IntsAt (H + 3) w a.2.1 a.2.2.1 a.2.2.2
  rowb : IntsAt (H + 3) w b.2.1 b.2.2.1 b.2.2.2
  r1 : ∃ x y, Blk w H 25 [x, y]
  r2 : ∃ x y, Blk w (H + 1) 25 [x, y]
  d1 : L 3 = true → Blk w H 25 [.string a.1, .slice a.2.1 a.2.2.2.length a.2.2.1]
  d2 : L 4 = true → Blk w (H + 1) 25 [.string b.1, .slice b.2.1 b.2.2.2.length b.2.2.1]
theorem RetWorld.same {w0 : World} {H H7 H8 j : Nat} {a b : ByteArray × Option Addr × Nat × List Int} {L : Nat → Bool} {w : World} (h : RetWorld w0 H H7 H8 a b L w) (h3 : 3 ≠ j) (h4 : 4 ≠ j) : RetWorld w0 H H7 H8 a b (more L j) w :=
  ⟨h.base, h.box7, h.box8, h.rowa, h.rowb, h.r1, h.r2, fun e => h.d1 (by rw [more_ne h3] at e; exact e), fun e => h.d2 (by rw [more_ne h4] at e; exact e)⟩
theorem RetWorld.put1 {w0 : World} {H H7 H8 : Nat} {a b : ByteArray × Option Addr × Nat × List Int} {L : Nat → Bool} {w : World} (h : RetWorld w0 H H7 H8 a b L w) (hw : w0.heap.size ≤ H) (h7 : H + 1 < H7) (h8 : H + 1 < H8) : RetWorld w0 H H7 H8 a b (more L 3) ((w.setCell ⟨H, 0, none⟩ (.string a.1)).setCell ⟨H, 1, none⟩ (.slice a.2.1 a.2.2.2.length a.2.2.1)) := by
  have k := grown_set (grown_set (grown_self w (some H)) 0 (.string a.1)) 1 (.slice a.2.1 a.2.2.2.length a.2.2.1)
  obtain ⟨x, y, h1⟩ := h.r1
  have hlt := h1.lt
  refine ⟨h.base.grown k (by omega) (fun _ e => by cases e; omega), h.box7.grow k (by omega), h.box8.grow k (by omega), h.rowa.grow k (.inl (by omega)), h.rowb.grow k (.inl (by omega)), ⟨_, _, (h1.set 0 _).set 1 _⟩, ?_, fun _ => (h1.set 0 _).set 1 _, fun e => ?_⟩
  · obtain ⟨x, y, h⟩ := h.r2; exact ⟨x, y, h.grow k (by omega)⟩
  · rw [more_ne (by decide)] at e; exact (h.d2 e).grow k (by omega)
theorem RetWorld.put2 {w0 : World} {H H7 H8 : Nat} {a b : ByteArray × Option Addr × Nat × List Int} {L : Nat → Bool} {w : World} (h : RetWorld w0 H H7 H8 a b L w) (hw : w0.heap.size ≤ H) (h7 : H + 1 < H7) (h8 : H + 1 < H8) : RetWorld w0 H H7 H8 a b (more L 4) ((w.setCell ⟨H + 1, 0, none⟩ (.string b.1)).setCell ⟨H + 1, 1, none⟩ (.slice b.2.1 b.2.2.2.length b.2.2.1)) := by
  have k := grown_set (grown_set (grown_self w (some (H + 1))) 0 (.string b.1)) 1 (.slice b.2.1 b.2.2.2.length b.2.2.1)
  obtain ⟨x, y, h1⟩ := h.r2
  have hlt := h1.lt
  refine ⟨h.base.grown k (by omega) (fun _ e => by cases e; omega), h.box7.grow k (by omega), h.box8.grow k (by omega), h.rowa.grow k (.inl (by omega)), h.rowb.grow k (.inl (by omega)), ?_, ⟨_, _, (h1.set 0 _).set 1 _⟩, fun e => ?_, fun _ => (h1.set 0 _).set 1 _⟩
  · obtain ⟨x, y, h⟩ := h.r1; exact ⟨x, y, h.grow k (by omega)⟩
  · rw [more_ne (by decide)] at e; exact (h.d1 e).grow k (by omega)
def retVals (va vb : Value) (mk : Int) : Nat → Value → World → Prop
  | 0, v, _ => v = va
  | 1, v, _ => v = vb
  | 2, v, _ => v = .int .i64 mk
  | 5, v, _ => v = .int .i64 mk
  | _, _, _ => True
theorem retVals.any {va vb : Value} {mk : Int} (i : Nat) (v : Value) (w w' : World) (h : retVals va vb mk i v w) : retVals va vb mk i v w' := by
  unfold retVals at *
  split <;> simp_all
set_option maxRecDepth 100000 in
set_option maxHeartbeats 8000000 in
theorem drawSameBut_any (A : Option Addr) (len cap B : Nat) (w : World) (hB : B ≤ w.heap.size) (hr : Readable w B A len) :
    Calls Try.prog 15 #[.slice A len cap] w fun e w' => SameButEnd e w' ∧ Below w.heap.size w w' := by
  obtain ⟨B1, B2⟩ := boxes2' w (.string ⟨#[]⟩) (.slice none 0 0) (.string ⟨#[]⟩) (.slice none 0 0) 25 25
  have hr' := Lib.hid hr
  have hr1 := hr.1
  clear hr
  replace B1 := Lib.hid B1
  replace B2 := Lib.hid B2
  go_enter Try.func15, Try.ntmps15
  go_wp2_with (go_at_call 40; refine (source_any A len cap B _ (by simp only [World.size_alloc]; omega) (hr'.out.keep fun b hb => ?_)).mono ?_; exact two_kept w _ _ b (Nat.lt_of_lt_of_le hb hB); rintro e w1 ⟨rfl, hs, hb⟩; rw [World.size_alloc, World.size_alloc] at hs; replace B1 := Lib.hid (B1.out.below hb (by simp only [World.size_alloc]; omega)); replace B2 := Lib.hid (B2.out.below hb (by simp only [World.size_alloc]; omega)); replace hs := Lib.hid hs; replace hb := Lib.hid ((two_below w _ _).trans (hb.mono (by simp only [World.size_alloc]; omega))))
  go_wp2_with (go_at_call 44; refine (n_any _ _ A len B (by omega) _ hs.out).mono ?_; rintro e w1' ⟨⟨mk, hmk, rfl⟩, hs', hg⟩; have hz1 := Lib.hid hs.out.lt; have hz2 := Lib.hid hg.size; replace B1 := Lib.hid (B1.out.grow hg (by omega)); replace B2 := Lib.hid (B2.out.grow hg (by omega)); replace hs := Lib.hid hs'; replace hb := Lib.hid (below_step hb.out hg (by omega) (by omega)); clear hg hs')
  go_wp2_with (go_at_call 41; refine (lab_draw _ A len B _ hs.out).mono ?_; rintro e w2 ⟨⟨t, A1, cap1, l, rfl, ht, hl, ho⟩, hs', hg⟩; have hz3 := Lib.hid hg.size; replace B1 := Lib.hid (B1.out.grow hg (by omega)); replace B2 := Lib.hid (B2.out.grow hg (by omega)); replace hs := Lib.hid hs'; replace ho := Lib.hid ho; replace hb := Lib.hid (below_step hb.out hg (by omega) (by omega)); clear hg hs')
  have hz4 := hz1.out
  have hz5 := hz2.out
  have hz6 := hz3.out
  have hJ0 : SbWorld w B (w.heap.size + 1 + 1) A len w.heap.size w2.heap.size t A1 cap1 l (w2.alloc (.cells #[.string t, .slice A1 l.length cap1] 25)).drew :=
    ⟨(hs.out.alloc _).drew, below_drew (hb.out.alloc hb.out.size _), heap_alloc_new w2 _, (((ho.out.mono (show w.heap.size + 3 ≤ _ by omega)).alloc _)).at, ⟨_, _, B1.out.alloc _⟩, ⟨_, _, B2.out.alloc _⟩, Nat.le_refl _, rfl, by omega⟩
  refine wp_region_rows [7] (sbVals (w.heap.size + 3) w2.heap.size t A1 cap1 l) (fun _ w' => SbWorld w B (w.heap.size + 1 + 1) A len w.heap.size w2.heap.size t A1 cap1 l w') (fun k w3 w' => (k ≠ 8 → Below w3.heap.size w3 w') ∧ (k = 8 → ∀ b, LabBoxI (w.heap.size + 3) b w3 → LabBoxI (w.heap.size + 3) b w')) (by kernel_rfl) (by kernel_rfl) (by kernel_rfl) (by kernel_rfl) ?_ hJ0 ⟨?_, ?_, ?_, ?_, ?_, ?_, ?_, ?_, ?_, trivial⟩ ?_
  all_goals clear hJ0 hs B1 B2 ho hb
  · intro k i v w3 w' hne hl hM h
    by_cases h8 : k = 8
    · subst h8
      have := live_last (by kernel_rfl) hl
      simp at this
      subst this
      obtain ⟨b, e, hb, hB⟩ := h
      exact ⟨b, e, hb, hM.2 rfl b hB⟩
    · exact sbVals.below i v w3 w' (hM.1 h8) h
  · intro y w9 L next hL ha hw hJ hd hn
    go_simp
    exact hn _ _ ⟨fun _ => Below.refl _ _, fun e => by cases e⟩ hJ rfl
  · intro y w9 L next hL ha hw hJ hd hn
    have e0 : y 0 = _ := hd 0 (by kernel_rfl)
    have x0 := hJ.box.two.1
    replace hJ := Lib.hid hJ
    go_simp
    exact hn _ _ ⟨fun _ => Below.refl _ _, fun e => by cases e⟩ hJ.out rfl
  · intro y w9 L next hL ha hw hJ hd hn
    go_simp
    have k := (Below.refl w9.heap.size w9).alloc (Nat.le_refl _) (.cells #[] 2)
    exact hn _ _ ⟨fun _ => k, fun e => by cases e⟩ (hJ.below k) ⟨_, rfl⟩
  · intro y w9 L next hL ha hw hJ hd hn
    go_simp
    exact hn _ _ ⟨fun _ => Below.refl _ _, fun e => by cases e⟩ hJ rfl
  · intro y w9 L next hL ha hw hJ hd hn
    have e3 : y 3 = _ := hd 3 (by kernel_rfl)
    have x1 := hJ.box.two.2.1
    replace hJ := Lib.hid hJ
    go_simp
    exact hn _ _ ⟨fun _ => Below.refl _ _, fun e => by cases e⟩ hJ.out rfl
  · intro y w9 L next hL ha hw hJ hd hn
    have e4 : y 4 = _ := hd 4 (by kernel_rfl)
    have hi : Ints w9 (y 4) l := by rw [e4]; exact hJ.row.1
    have hx : ∃ v' w', (Builtin.append_ #[23, 23] 23 #[y 2, y 4]).run Try.prog w9 = .ok v' w' ∧ Below w9.heap.size w9 w' ∧ ∃ A cap, v' = .slice A l.length cap ∧ IntsAt (w.heap.size + 3) w' A cap l := by
      obtain ⟨b, e2⟩ : ∃ b, y 2 = .slice (some ⟨b, 0, none⟩) 0 0 := hd 2 (by kernel_rfl)
      obtain ⟨A5, cap5, w', hr, hi5, hk, hA⟩ := run_append_zero w9 23 ⟨b, 0, none⟩ (y 4) l hi
      rw [e2]
      have hlt := hJ.src.lt
      have hnum := hJ.num
      exact ⟨_, w', hr, hk, A5, cap5, rfl, hi5, hA.symm.imp id fun ⟨c, e, hc⟩ => ⟨c, e, by omega⟩⟩
    have hxx := hx.choose_spec.choose_spec
    refine step_append (v := y 2) (u := y 4) rfl rfl (by kernel_rfl) (by kernel_rfl) hxx.1 ?_
    exact hn _ _ ⟨fun _ => hxx.2.1, fun e => by cases e⟩ (hJ.below hxx.2.1) hxx.2.2
  · intro y w9 L next hL ha hw hJ hd hn
    have e1 : y 1 = _ := hd 1 (by kernel_rfl)
    have e5 : ∃ A cap, y 5 = .slice A l.length cap ∧ IntsAt (w.heap.size + 3) w9 A cap l := hd 5 (by kernel_rfl)
    go_simp
    obtain ⟨A5, cap5, e5, hi5⟩ := e5
    rw [e5]
    exact hn _ _ ⟨fun _ => Below.refl _ _, fun e => by cases e⟩ hJ ⟨A5, cap5, rfl, hi5⟩
  · intro y w9 L next hL ha hw hJ hd hn
    go_simp
    have k := (Below.refl w9.heap.size w9).alloc (Nat.le_refl _) (.cells #[.string ⟨#[]⟩, .slice none 0 0] 25)
    exact hn _ _ ⟨fun _ => k, fun e => by cases e⟩ (hJ.below k) ⟨_, rfl, hJ.box.lt, ⟨#[]⟩, none, 0, [], heap_alloc_new w9 _, by decide, by simp, IntsAt.nil _ _⟩
  · intro y w9 L next hL ha hw hJ hd hn
    have e6 : ∃ A cap, y 6 = .agg #[.string t, .slice A l.length cap] ∧ IntsAt (w.heap.size + 3) w9 A cap l := hd 6 (by kernel_rfl)
    have e7 : ∃ b, y 7 = .pointer (some ⟨b, 0, none⟩) ∧ w2.heap.size < b ∧ LabBoxI (w.heap.size + 3) b w9 := hd 7 (by kernel_rfl)
    replace hJ := Lib.hid hJ
    go_simp
    obtain ⟨A5, cap5, e6, hi5⟩ := e6
    obtain ⟨b, e7, hb, hB⟩ := e7
    have hB' := hB
    obtain ⟨t', A', cap', l', hBb, _, _, _⟩ := hB'
    obtain ⟨x0, x1, xf0, xf1⟩ := hBb.two
    rw [e6, e7]
    go_simp
    exact hn undef _ ⟨fun e => absurd rfl e, fun _ b' hb' => hB.others ht hl hi5 b' hb'⟩ (hJ.out.set2 hB hb _ _) trivial
  · intro y L w9 hL hJ hd
    obtain ⟨b8, e7, hb8, hB8⟩ : ∃ b, y 7 = .pointer (some ⟨b, 0, none⟩) ∧ w2.heap.size < b ∧ LabBoxI (w.heap.size + 3) b w9 := hd 7 (by simp)
    clear hd hL
    replace hJ := Lib.hid hJ
    simp only [lay_cons, lay_nil]
    rw [e7]
    clear e7
    have hgw := Lib.hid (show w.heap.size + 1 + 1 < w.heap.size + 3 from by omega)
    obtain ⟨t', A', cap', l', hBk, ht', hl', hI⟩ := hB8
    obtain ⟨x0, x1, xf0, xf1⟩ := hBk.two
    have hB8 := Lib.hid (show LabBoxI (w.heap.size + 3) b8 w9 from ⟨t', A', cap', l', hBk, ht', hl', hI⟩)
    replace hBk := Lib.hid hBk
    have hb9 := Lib.hid hb8
    by_cases ht0 : 0 < t'.size
    · have ht1 : (0 : Int) < (t'.size : Int) := by omega
      have hone := Lib.hid (one_any (w.heap.size + 1 + 1) 4 A len B (by omega) w9 hJ.out.src)
      go_wp2_with (go_at_call_of 45 (Value.int .i64 4); refine hone.out.mono ?_; rintro e w10 ⟨⟨q, rfl⟩, hs', hg⟩; have hb8 := hb9.out; have hg2 := hgw.out; replace hB8 := Lib.hid (hB8.out.grow hg (.inl hg2) (by omega)); replace hBk := Lib.hid (hBk.out.grow hg (by omega)); replace hJ := Lib.hid (hJ.out.grow hg hs' (.inl rfl)); clear hg hs' x0 x1 xf0 xf1; obtain ⟨x0, x1, xf0, xf1⟩ := hBk.out.two; obtain ⟨capb, wb, hrb, hbuf, hbel⟩ := to_bytes w10 t'.data.toList t'.size (by simp); rw [bytesOf_data] at hrb; replace hbuf := Lib.hid hbuf; replace hbel := Lib.hid hbel)
      · go_wp2_with (go_at_call 44; refine (n_any (w.heap.size + 1 + 1) (t'.size : Int) A len B (by omega) wb (hJ.out.src.near hbel.out)).mono ?_; rintro e w11 ⟨⟨v, hv, rfl⟩, hs', hg⟩; have hv2 : v < t'.size := (by omega); have hv3 : (v : Int) < (t'.size : Int) := (by omega); have hb8 := hb9.out; have hg2 := hgw.out; have hlt10 := hJ.out.src.lt; have h710 := hJ.out.box.lt; have h810 := hBk.out.lt; replace hB8 := Lib.hid ((hB8.out.below hbel.out).grow hg (.inl hg2) (by omega)); replace hBk := Lib.hid ((hBk.out.up hbel.out).grow hg (by omega)); replace hJ := Lib.hid ((hJ.out.below hbel.out).grow hg hs' (.inl rfl)); replace hbuf := hbuf.out.grow hg (by omega); clear hg hs' x0 x1 xf0 xf1; obtain ⟨x0, x1, xf0, xf1⟩ := hBk.out.two; have hvl : v < t'.data.toList.length := (by simpa using hv2); obtain ⟨cv, fv⟩ := hbuf.2 v hvl; obtain ⟨c00, f00⟩ := hbuf.2 0 (by omega); have hni := Lib.hid (NotInt.byte c00); obtain ⟨q0, hq0⟩ : ∃ q0 : Nat, t'.data.toList[v].toNat = q0 := ⟨_, rfl⟩; obtain ⟨c, hc⟩ : ∃ c : UInt8, t'.data.toList[v] + 1 = c := ⟨_, rfl⟩; have hwr := byte_inc t'.data.toList[v]; rw [byteV] at cv; rw [hq0] at cv hwr; rw [hc] at hwr; have hput := hbuf.put hvl c; have hstr := hput.string (k := t'.size) (cap := capb) (by simp); have hsz9 := (show (bytesOf (t'.data.toList.set v c)).size ≤ 201 from by rw [bytesOf_size, List.length_set]; simpa using ht'); generalize bytesOf (t'.data.toList.set v c) = tx at hstr hsz9; replace hbuf := Lib.hid hbuf; replace hput := Lib.hid hput; replace hsz9 := Lib.hid hsz9; clear hq0 hc; clear c00 f00)
        have k1 := grown_set (grown_self w11 (some w10.heap.size)) v (.int .u8 (c.toNat : Int))
        have hb8 := hb9.out
        have hBm := hB8.out.grow k1 (.inr hni.out) (by omega)
        have hJm := hJ.out.grow k1 (hJ.out.src.grown k1 fun j e => by cases e; have := hJ.out.src; obtain ⟨_, _, _, _, _, _, _, _, hBg, _⟩ := this; omega) (.inr ⟨by omega, hni.out⟩)
        replace hB8 := Lib.hid (hBm.text tx hsz9.out)
        replace hJ := Lib.hid (hJm.set hBm hb8 0 (.string tx))
        clear hBm hJm k1 hBk cv fv hstr hbuf hput hrb hbel hni
        obtain ⟨t2, A2, cap2, l2, hBk2, ht2, hl2, hI2⟩ := hB8.out
        clear x0 x1 xf0 xf1
        go_wp2_with (first
          | (go_at_call_of 45 (Value.int .i64 6); refine (one_any (w.heap.size + 1 + 1) 6 A len B (by omega) _ hJ.out.src).mono ?_; rintro e w12 ⟨⟨q2, rfl⟩, hs', hg⟩; have hb8 := hb9.out; have hg2 := hgw.out; replace hB8 := Lib.hid (hB8.out.grow hg (.inl hg2) (by omega)); replace hBk2 := hBk2.grow hg (by omega); replace hI2 := hI2.grow hg (.inl hg2); replace hJ := Lib.hid (hJ.out.grow hg hs' (.inl rfl)); clear hg hs'; obtain ⟨x0, x1, xf0, xf1⟩ := hBk2.two; replace hBk2 := Lib.hid hBk2; replace hI2 := Lib.hid hI2)
          | (go_at_call 41; refine (lab_draw (w.heap.size + 1 + 1) A len B _ hJ.out.src).mono ?_; rintro e w13 ⟨⟨t3, A3, cap3, l3, rfl, ht3, hl3, ho3⟩, hs', hg⟩; have hz12 := Lib.hid hJ.out.src.lt; replace hB8 := Lib.hid (hB8.out.grow hg (.inl hgw.out) (by have := hb9.out; omega)); replace hJ := Lib.hid (hJ.out.grow hg hs' (.inl rfl)); replace ho3 := Lib.hid ho3; clear hg hs' x0 x1 xf0 xf1; obtain ⟨t5, A5, cap5, l5, hBk5, _⟩ := hB8.out; obtain ⟨x0, x1, xf0, xf1⟩ := hBk5.two))
        · have hJ9 := hJ.out.set2 hB8.out hb9.out (.string t3) (.slice A3 l3.length cap3)
          have hz13 := hz12.out
          have hB9 := hB8.out.put ht3 hl3 (ho3.out.at.mono (show w.heap.size + 3 ≤ _ by omega))
          obtain ⟨t4, A4, cap4, l4, hBk4, ht4, hl4, hI4⟩ := hB9
          have hb8 := hb9.out
          refine wp_region_rows [5] (retVals (.agg #[.string t, .slice A1 l.length cap1]) (.agg #[.string t4, .slice A4 l4.length cap4]) (mk : Int)) (RetWorld w w.heap.size w2.heap.size b8 (t, A1, cap1, l) (t4, A4, cap4, l4)) (fun _ _ _ => True) (by kernel_rfl) (by kernel_rfl) (by kernel_rfl) (by kernel_rfl) (fun k i v w w' _ _ _ h => retVals.any i v w w' h) ⟨below_drew hJ9.base, hJ9.box, hBk4, hJ9.row, hI4, hJ9.r1, hJ9.r2, (fun e => by cases e), fun e => by cases e⟩ ⟨?_, ?_, ?_, ?_, ?_, ?_, trivial⟩ ?_
          all_goals clear hJ9 hBk4 hI4 hJ hB8 x0 x1 xf0 xf1
          · intro y w9 L next hL ha hw hJ hd hn
            have x0 := hJ.box7.two.1
            have x1 := hJ.box7.two.2.1
            dsimp only at x0 x1
            replace hJ := Lib.hid hJ
            go_simp
            exact hn _ _ trivial (hJ.out.same (by decide) (by decide)) rfl
          · intro y w9 L next hL ha hw hJ hd hn
            have x0 := hJ.box8.two.1
            have x1 := hJ.box8.two.2.1
            dsimp only at x0 x1
            replace hJ := Lib.hid hJ
            go_simp
            exact hn _ _ trivial (hJ.out.same (by decide) (by decide)) rfl
          · intro y w9 L next hL ha hw hJ hd hn
            go_simp
            exact hn _ _ trivial (hJ.same (by decide) (by decide)) rfl
          · intro y w9 L next hL ha hw hJ hd hn
            have e0 : y 0 = _ := hd 0 (by kernel_rfl)
            have hr := hJ.r1
            replace hJ := Lib.hid hJ
            clear hd
            go_simp
            obtain ⟨x, y', hr⟩ := hr
            obtain ⟨x0, x1, xf0, xf1⟩ := hr.two
            go_simp
            exact hn _ _ trivial (hJ.out.put1 (Nat.le_refl _) (by omega) (by omega)) trivial
          · intro y w9 L next hL ha hw hJ hd hn
            have e1 : y 1 = _ := hd 1 (by kernel_rfl)
            have hr := hJ.r2
            replace hJ := Lib.hid hJ
            clear hd
            go_simp
            obtain ⟨x, y', hr⟩ := hr
            obtain ⟨x0, x1, xf0, xf1⟩ := hr.two
            go_simp
            exact hn _ _ trivial (hJ.out.put2 (Nat.le_refl _) (by omega) (by omega)) trivial
          · intro y w9 L next hL ha hw hJ hd hn
            have e2 : y 2 = _ := hd 2 (by kernel_rfl)
            go_simp
            exact hn _ _ trivial (hJ.same (by decide) (by decide)) rfl
          · intro y L w9 hL hJ hd
            have e5 : y 5 = _ := hd 5 (by simp)
            obtain ⟨r0, r1, rf0, rf1⟩ := (hJ.d1 (hL 3 (by decide))).two
            obtain ⟨x0, x1, xf0, xf1⟩ := (hJ.d2 (hL 4 (by decide))).two
            have hbb := Lib.hid hJ.base
            have hra := Lib.hid hJ.rowa
            have hrb := Lib.hid hJ.rowb
            dsimp only at r0 r1 x0 x1 hra hrb
            clear hJ hd hL
            simp only [lay_cons, lay_nil]
            go_wp2
            refine bodyPost_ret (v := .tuple #[.agg #[.string t, .slice A1 l.length cap1], .agg #[.string t4, .slice A4 l4.length cap4], .int .i64 (mk : Int)]) (by simp [results, Try.results15, go_sem, r0, r1, x0, x1, e5]) rfl ?_
            exact ⟨⟨_, _, _, rfl, ⟨t, A1, cap1, l, rfl, ht, hl, hra.out.1⟩, ⟨t4, A4, cap4, l4, rfl, ht4, hl4, hrb.out.1⟩⟩, hbb.out⟩
        · have hJ9 := hJ.out
          obtain ⟨t4, A4, cap4, l4, hBk4, ht4, hl4, hI4⟩ := hB8.out
          have hb8 := hb9.out
          refine wp_region_rows [5] (retVals (.agg #[.string t, .slice A1 l.length cap1]) (.agg #[.string t4, .slice A4 l4.length cap4]) (mk : Int)) (RetWorld w w.heap.size w2.heap.size b8 (t, A1, cap1, l) (t4, A4, cap4, l4)) (fun _ _ _ => True) (by kernel_rfl) (by kernel_rfl) (by kernel_rfl) (by kernel_rfl) (fun k i v w w' _ _ _ h => retVals.any i v w w' h) ⟨below_drew hJ9.base, hJ9.box, hBk4, hJ9.row, hI4, hJ9.r1, hJ9.r2, (fun e => by cases e), fun e => by cases e⟩ ⟨?_, ?_, ?_, ?_, ?_, ?_, trivial⟩ ?_
          all_goals clear hJ9 hBk4 hI4 hJ hB8 x0 x1 xf0 xf1
          · intro y w9 L next hL ha hw hJ hd hn
            have x0 := hJ.box7.two.1
            have x1 := hJ.box7.two.2.1
            dsimp only at x0 x1
            replace hJ := Lib.hid hJ
            go_simp
            exact hn _ _ trivial (hJ.out.same (by decide) (by decide)) rfl
          · intro y w9 L next hL ha hw hJ hd hn
            have x0 := hJ.box8.two.1
            have x1 := hJ.box8.two.2.1
            dsimp only at x0 x1
            replace hJ := Lib.hid hJ
            go_simp
            exact hn _ _ trivial (hJ.out.same (by decide) (by decide)) rfl
          · intro y w9 L next hL ha hw hJ hd hn
            go_simp
            exact hn _ _ trivial (hJ.same (by decide) (by decide)) rfl
          · intro y w9 L next hL ha hw hJ hd hn
            have e0 : y 0 = _ := hd 0 (by kernel_rfl)
            have hr := hJ.r1
            replace hJ := Lib.hid hJ
            clear hd
            go_simp
            obtain ⟨x, y', hr⟩ := hr
            obtain ⟨x0, x1, xf0, xf1⟩ := hr.two
            go_simp
            exact hn _ _ trivial (hJ.out.put1 (Nat.le_refl _) (by omega) (by omega)) trivial
          · intro y w9 L next hL ha hw hJ hd hn
            have e1 : y 1 = _ := hd 1 (by kernel_rfl)
            have hr := hJ.r2
            replace hJ := Lib.hid hJ
            clear hd
            go_simp
            obtain ⟨x, y', hr⟩ := hr
            obtain ⟨x0, x1, xf0, xf1⟩ := hr.two
            go_simp
            exact hn _ _ trivial (hJ.out.put2 (Nat.le_refl _) (by omega) (by omega)) trivial
          · intro y w9 L next hL ha hw hJ hd hn
            have e2 : y 2 = _ := hd 2 (by kernel_rfl)
            go_simp
            exact hn _ _ trivial (hJ.same (by decide) (by decide)) rfl
          · intro y L w9 hL hJ hd
            have e5 : y 5 = _ := hd 5 (by simp)
            obtain ⟨r0, r1, rf0, rf1⟩ := (hJ.d1 (hL 3 (by decide))).two
            obtain ⟨x0, x1, xf0, xf1⟩ := (hJ.d2 (hL 4 (by decide))).two
            have hbb := Lib.hid hJ.base
            have hra := Lib.hid hJ.rowa
            have hrb := Lib.hid hJ.rowb
            dsimp only at r0 r1 x0 x1 hra hrb
            clear hJ hd hL
            simp only [lay_cons, lay_nil]
            go_wp2
            refine bodyPost_ret (v := .tuple #[.agg #[.string t, .slice A1 l.length cap1], .agg #[.string t4, .slice A4 l4.length cap4], .int .i64 (mk : Int)]) (by simp [results, Try.results15, go_sem, r0, r1, x0, x1, e5]) rfl ?_
            exact ⟨⟨_, _, _, rfl, ⟨t, A1, cap1, l, rfl, ht, hl, hra.out.1⟩, ⟨t4, A4, cap4, l4, rfl, ht4, hl4, hrb.out.1⟩⟩, hbb.out⟩
      · clear hBk
        obtain ⟨t2, A2, cap2, l2, hBk2, ht2, hl2, hI2⟩ := hB8.out
        clear x0 x1 xf0 xf1
        go_wp2_with (first
          | (go_at_call_of 45 (Value.int .i64 6); refine (one_any (w.heap.size + 1 + 1) 6 A len B (by omega) _ hJ.out.src).mono ?_; rintro e w12 ⟨⟨q2, rfl⟩, hs', hg⟩; have hb8 := hb9.out; have hg2 := hgw.out; replace hB8 := Lib.hid (hB8.out.grow hg (.inl hg2) (by omega)); replace hBk2 := hBk2.grow hg (by omega); replace hI2 := hI2.grow hg (.inl hg2); replace hJ := Lib.hid (hJ.out.grow hg hs' (.inl rfl)); clear hg hs'; obtain ⟨x0, x1, xf0, xf1⟩ := hBk2.two; replace hBk2 := Lib.hid hBk2; replace hI2 := Lib.hid hI2)
          | (go_at_call 41; refine (lab_draw (w.heap.size + 1 + 1) A len B _ hJ.out.src).mono ?_; rintro e w13 ⟨⟨t3, A3, cap3, l3, rfl, ht3, hl3, ho3⟩, hs', hg⟩; have hz12 := Lib.hid hJ.out.src.lt; replace hB8 := Lib.hid (hB8.out.grow hg (.inl hgw.out) (by have := hb9.out; omega)); replace hJ := Lib.hid (hJ.out.grow hg hs' (.inl rfl)); replace ho3 := Lib.hid ho3; clear hg hs' x0 x1 xf0 xf1; obtain ⟨t5, A5, cap5, l5, hBk5, _⟩ := hB8.out; obtain ⟨x0, x1, xf0, xf1⟩ := hBk5.two))
        · have hJ9 := hJ.out.set2 hB8.out hb9.out (.string t3) (.slice A3 l3.length cap3)
          have hz13 := hz12.out
          have hB9 := hB8.out.put ht3 hl3 (ho3.out.at.mono (show w.heap.size + 3 ≤ _ by omega))
          obtain ⟨t4, A4, cap4, l4, hBk4, ht4, hl4, hI4⟩ := hB9
          have hb8 := hb9.out
          refine wp_region_rows [5] (retVals (.agg #[.string t, .slice A1 l.length cap1]) (.agg #[.string t4, .slice A4 l4.length cap4]) (mk : Int)) (RetWorld w w.heap.size w2.heap.size b8 (t, A1, cap1, l) (t4, A4, cap4, l4)) (fun _ _ _ => True) (by kernel_rfl) (by kernel_rfl) (by kernel_rfl) (by kernel_rfl) (fun k i v w w' _ _ _ h => retVals.any i v w w' h) ⟨below_drew hJ9.base, hJ9.box, hBk4, hJ9.row, hI4, hJ9.r1, hJ9.r2, (fun e => by cases e), fun e => by cases e⟩ ⟨?_, ?_, ?_, ?_, ?_, ?_, trivial⟩ ?_
          all_goals clear hJ9 hBk4 hI4 hJ hB8 x0 x1 xf0 xf1
          · intro y w9 L next hL ha hw hJ hd hn
            have x0 := hJ.box7.two.1
            have x1 := hJ.box7.two.2.1
            dsimp only at x0 x1
            replace hJ := Lib.hid hJ
            go_simp
            exact hn _ _ trivial (hJ.out.same (by decide) (by decide)) rfl
          · intro y w9 L next hL ha hw hJ hd hn
            have x0 := hJ.box8.two.1
            have x1 := hJ.box8.two.2.1
            dsimp only at x0 x1
            replace hJ := Lib.hid hJ
            go_simp
            exact hn _ _ trivial (hJ.out.same (by decide) (by decide)) rfl
          · intro y w9 L next hL ha hw hJ hd hn
            go_simp
            exact hn _ _ trivial (hJ.same (by decide) (by decide)) rfl
          · intro y w9 L next hL ha hw hJ hd hn
            have e0 : y 0 = _ := hd 0 (by kernel_rfl)
            have hr := hJ.r1
            replace hJ := Lib.hid hJ
            clear hd
            go_simp
            obtain ⟨x, y', hr⟩ := hr
            obtain ⟨x0, x1, xf0, xf1⟩ := hr.two
            go_simp
            exact hn _ _ trivial (hJ.out.put1 (Nat.le_refl _) (by omega) (by omega)) trivial
          · intro y w9 L next hL ha hw hJ hd hn
            have e1 : y 1 = _ := hd 1 (by kernel_rfl)
            have hr := hJ.r2
            replace hJ := Lib.hid hJ
            clear hd
            go_simp
            obtain ⟨x, y', hr⟩ := hr
            obtain ⟨x0, x1, xf0, xf1⟩ := hr.two
            go_simp
            exact hn _ _ trivial (hJ.out.put2 (Nat.le_refl _) (by omega) (by omega)) trivial
          · intro y w9 L next hL ha hw hJ hd hn
            have e2 : y 2 = _ := hd 2 (by kernel_rfl)
            go_simp
            exact hn _ _ trivial (hJ.same (by decide) (by decide)) rfl
          · intro y L w9 hL hJ hd
            have e5 : y 5 = _ := hd 5 (by simp)
            obtain ⟨r0, r1, rf0, rf1⟩ := (hJ.d1 (hL 3 (by decide))).two
            obtain ⟨x0, x1, xf0, xf1⟩ := (hJ.d2 (hL 4 (by decide))).two
            have hbb := Lib.hid hJ.base
            have hra := Lib.hid hJ.rowa
            have hrb := Lib.hid hJ.rowb
            dsimp only at r0 r1 x0 x1 hra hrb
            clear hJ hd hL
            simp only [lay_cons, lay_nil]
            go_wp2
            refine bodyPost_ret (v := .tuple #[.agg #[.string t, .slice A1 l.length cap1], .agg #[.string t4, .slice A4 l4.length cap4], .int .i64 (mk : Int)]) (by simp [results, Try.results15, go_sem, r0, r1, x0, x1, e5]) rfl ?_
            exact ⟨⟨_, _, _, rfl, ⟨t, A1, cap1, l, rfl, ht, hl, hra.out.1⟩, ⟨t4, A4, cap4, l4, rfl, ht4, hl4, hrb.out.1⟩⟩, hbb.out⟩
        · have hJ9 := hJ.out
          obtain ⟨t4, A4, cap4, l4, hBk4, ht4, hl4, hI4⟩ := hB8.out
          have hb8 := hb9.out
          refine wp_region_rows [5] (retVals (.agg #[.string t, .slice A1 l.length cap1]) (.agg #[.string t4, .slice A4 l4.length cap4]) (mk : Int)) (RetWorld w w.heap.size w2.heap.size b8 (t, A1, cap1, l) (t4, A4, cap4, l4)) (fun _ _ _ => True) (by kernel_rfl) (by kernel_rfl) (by kernel_rfl) (by kernel_rfl) (fun k i v w w' _ _ _ h => retVals.any i v w w' h) ⟨below_drew hJ9.base, hJ9.box, hBk4, hJ9.row, hI4, hJ9.r1, hJ9.r2, (fun e => by cases e), fun e => by cases e⟩ ⟨?_, ?_, ?_, ?_, ?_, ?_, trivial⟩ ?_
          all_goals clear hJ9 hBk4 hI4 hJ hB8 x0 x1 xf0 xf1
          · intro y w9 L next hL ha hw hJ hd hn
            have x0 := hJ.box7.two.1
            have x1 := hJ.box7.two.2.1
            dsimp only at x0 x1
            replace hJ := Lib.hid hJ
            go_simp
            exact hn _ _ trivial (hJ.out.same (by decide) (by decide)) rfl
          · intro y w9 L next hL ha hw hJ hd hn
            have x0 := hJ.box8.two.1
            have x1 := hJ.box8.two.2.1
            dsimp only at x0 x1
            replace hJ := Lib.hid hJ
            go_simp
            exact hn _ _ trivial (hJ.out.same (by decide) (by decide)) rfl
          · intro y w9 L next hL ha hw hJ hd hn
            go_simp
            exact hn _ _ trivial (hJ.same (by decide) (by decide)) rfl
          · intro y w9 L next hL ha hw hJ hd hn
            have e0 : y 0 = _ := hd 0 (by kernel_rfl)
            have hr := hJ.r1
            replace hJ := Lib.hid hJ
            clear hd
            go_simp
            obtain ⟨x, y', hr⟩ := hr
            obtain ⟨x0, x1, xf0, xf1⟩ := hr.two
            go_simp
            exact hn _ _ trivial (hJ.out.put1 (Nat.le_refl _) (by omega) (by omega)) trivial
          · intro y w9 L next hL ha hw hJ hd hn
            have e1 : y 1 = _ := hd 1 (by kernel_rfl)
            have hr := hJ.r2
            replace hJ := Lib.hid hJ
            clear hd
            go_simp
            obtain ⟨x, y', hr⟩ := hr
            obtain ⟨x0, x1, xf0, xf1⟩ := hr.two
            go_simp
            exact hn _ _ trivial (hJ.out.put2 (Nat.le_refl _) (by omega) (by omega)) trivial
          · intro y w9 L next hL ha hw hJ hd hn
            have e2 : y 2 = _ := hd 2 (by kernel_rfl)
            go_simp
            exact hn _ _ trivial (hJ.same (by decide) (by decide)) rfl
          · intro y L w9 hL hJ hd
            have e5 : y 5 = _ := hd 5 (by simp)
            obtain ⟨r0, r1, rf0, rf1⟩ := (hJ.d1 (hL 3 (by decide))).two
            obtain ⟨x0, x1, xf0, xf1⟩ := (hJ.d2 (hL 4 (by decide))).two
            have hbb := Lib.hid hJ.base
            have hra := Lib.hid hJ.rowa
            have hrb := Lib.hid hJ.rowb
            dsimp only at r0 r1 x0 x1 hra hrb
            clear hJ hd hL
            simp only [lay_cons, lay_nil]
            go_wp2
            refine bodyPost_ret (v := .tuple #[.agg #[.string t, .slice A1 l.length cap1], .agg #[.string t4, .slice A4 l4.length cap4], .int .i64 (mk : Int)]) (by simp [results, Try.results15, go_sem, r0, r1, x0, x1, e5]) rfl ?_
            exact ⟨⟨_, _, _, rfl, ⟨t, A1, cap1, l, rfl, ht, hl, hra.out.1⟩, ⟨t4, A4, cap4, l4, rfl, ht4, hl4, hrb.out.1⟩⟩, hbb.out⟩
    · have ht1 : ¬ (0 : Int) < (t'.size : Int) := by omega
      go_wp2_with fail
      clear hBk
      obtain ⟨t2, A2, cap2, l2, hBk2, ht2, hl2, hI2⟩ := hB8.out
      clear x0 x1 xf0 xf1
      go_wp2_with (first
        | (go_at_call_of 45 (Value.int .i64 6); refine (one_any (w.heap.size + 1 + 1) 6 A len B (by omega) _ hJ.out.src).mono ?_; rintro e w12 ⟨⟨q2, rfl⟩, hs', hg⟩; have hb8 := hb9.out; have hg2 := hgw.out; replace hB8 := Lib.hid (hB8.out.grow hg (.inl hg2) (by omega)); replace hBk2 := hBk2.grow hg (by omega); replace hI2 := hI2.grow hg (.inl hg2); replace hJ := Lib.hid (hJ.out.grow hg hs' (.inl rfl)); clear hg hs'; obtain ⟨x0, x1, xf0, xf1⟩ := hBk2.two; replace hBk2 := Lib.hid hBk2; replace hI2 := Lib.hid hI2)
        | (go_at_call 41; refine (lab_draw (w.heap.size + 1 + 1) A len B _ hJ.out.src).mono ?_; rintro e w13 ⟨⟨t3, A3, cap3, l3, rfl, ht3, hl3, ho3⟩, hs', hg⟩; have hz12 := Lib.hid hJ.out.src.lt; replace hB8 := Lib.hid (hB8.out.grow hg (.inl hgw.out) (by have := hb9.out; omega)); replace hJ := Lib.hid (hJ.out.grow hg hs' (.inl rfl)); replace ho3 := Lib.hid ho3; clear hg hs' x0 x1 xf0 xf1; obtain ⟨t5, A5, cap5, l5, hBk5, _⟩ := hB8.out; obtain ⟨x0, x1, xf0, xf1⟩ := hBk5.two))
      · have hJ9 := hJ.out.set2 hB8.out hb9.out (.string t3) (.slice A3 l3.length cap3)
        have hz13 := hz12.out
        have hB9 := hB8.out.put ht3 hl3 (ho3.out.at.mono (show w.heap.size + 3 ≤ _ by omega))
        obtain ⟨t4, A4, cap4, l4, hBk4, ht4, hl4, hI4⟩ := hB9
        have hb8 := hb9.out
        refine wp_region_rows [5] (retVals (.agg #[.string t, .slice A1 l.length cap1]) (.agg #[.string t4, .slice A4 l4.length cap4]) (mk : Int)) (RetWorld w w.heap.size w2.heap.size b8 (t, A1, cap1, l) (t4, A4, cap4, l4)) (fun _ _ _ => True) (by kernel_rfl) (by kernel_rfl) (by kernel_rfl) (by kernel_rfl) (fun k i v w w' _ _ _ h => retVals.any i v w w' h) ⟨below_drew hJ9.base, hJ9.box, hBk4, hJ9.row, hI4, hJ9.r1, hJ9.r2, (fun e => by cases e), fun e => by cases e⟩ ⟨?_, ?_, ?_, ?_, ?_, ?_, trivial⟩ ?_
        all_goals clear hJ9 hBk4 hI4 hJ hB8 x0 x1 xf0 xf1
        · intro y w9 L next hL ha hw hJ hd hn
          have x0 := hJ.box7.two.1
          have x1 := hJ.box7.two.2.1
          dsimp only at x0 x1
          replace hJ := Lib.hid hJ
          go_simp
          exact hn _ _ trivial (hJ.out.same (by decide) (by decide)) rfl
        · intro y w9 L next hL ha hw hJ hd hn
          have x0 := hJ.box8.two.1
          have x1 := hJ.box8.two.2.1
          dsimp only at x0 x1
          replace hJ := Lib.hid hJ
          go_simp
          exact hn _ _ trivial (hJ.out.same (by decide) (by decide)) rfl
        · intro y w9 L next hL ha hw hJ hd hn
          go_simp
          exact hn _ _ trivial (hJ.same (by decide) (by decide)) rfl
        · intro y w9 L next hL ha hw hJ hd hn
          have e0 : y 0 = _ := hd 0 (by kernel_rfl)
          have hr := hJ.r1
          replace hJ := Lib.hid hJ
          clear hd
          go_simp
          obtain ⟨x, y', hr⟩ := hr
          obtain ⟨x0, x1, xf0, xf1⟩ := hr.two
          go_simp
          exact hn _ _ trivial (hJ.out.put1 (Nat.le_refl _) (by omega) (by omega)) trivial
        · intro y w9 L next hL ha hw hJ hd hn
          have e1 : y 1 = _ := hd 1 (by kernel_rfl)
          have hr := hJ.r2
          replace hJ := Lib.hid hJ
          clear hd
          go_simp
          obtain ⟨x, y', hr⟩ := hr
          obtain ⟨x0, x1, xf0, xf1⟩ := hr.two
          go_simp
          exact hn _ _ trivial (hJ.out.put2 (Nat.le_refl _) (by omega) (by omega)) trivial
        · intro y w9 L next hL ha hw hJ hd hn
          have e2 : y 2 = _ := hd 2 (by kernel_rfl)
          go_simp
          exact hn _ _ trivial (hJ.same (by decide) (by decide)) rfl
        · intro y L w9 hL hJ hd
          have e5 : y 5 = _ := hd 5 (by simp)
          obtain ⟨r0, r1, rf0, rf1⟩ := (hJ.d1 (hL 3 (by decide))).two
          obtain ⟨x0, x1, xf0, xf1⟩ := (hJ.d2 (hL 4 (by decide))).two
          have hbb := Lib.hid hJ.base
          have hra := Lib.hid hJ.rowa
          have hrb := Lib.hid hJ.rowb
          dsimp only at r0 r1 x0 x1 hra hrb
          clear hJ hd hL
          simp only [lay_cons, lay_nil]
          go_wp2
          refine bodyPost_ret (v := .tuple #[.agg #[.string t, .slice A1 l.length cap1], .agg #[.string t4, .slice A4 l4.length cap4], .int .i64 (mk : Int)]) (by simp [results, Try.results15, go_sem, r0, r1, x0, x1, e5]) rfl ?_
          exact ⟨⟨_, _, _, rfl, ⟨t, A1, cap1, l, rfl, ht, hl, hra.out.1⟩, ⟨t4, A4, cap4, l4, rfl, ht4, hl4, hrb.out.1⟩⟩, hbb.out⟩
      · have hJ9 := hJ.out
        obtain ⟨t4, A4, cap4, l4, hBk4, ht4, hl4, hI4⟩ := hB8.out
        have hb8 := hb9.out
        refine wp_region_rows [5] (retVals (.agg #[.string t, .slice A1 l.length cap1]) (.agg #[.string t4, .slice A4 l4.length cap4]) (mk : Int)) (RetWorld w w.heap.size w2.heap.size b8 (t, A1, cap1, l) (t4, A4, cap4, l4)) (fun _ _ _ => True) (by kernel_rfl) (by kernel_rfl) (by kernel_rfl) (by kernel_rfl) (fun k i v w w' _ _ _ h => retVals.any i v w w' h) ⟨below_drew hJ9.base, hJ9.box, hBk4, hJ9.row, hI4, hJ9.r1, hJ9.r2, (fun e => by cases e), fun e => by cases e⟩ ⟨?_, ?_, ?_, ?_, ?_, ?_, trivial⟩ ?_
        all_goals clear hJ9 hBk4 hI4 hJ hB8 x0 x1 xf0 xf1
        · intro y w9 L next hL ha hw hJ hd hn
          have x0 := hJ.box7.two.1
          have x1 := hJ.box7.two.2.1
          dsimp only at x0 x1
          replace hJ := Lib.hid hJ
          go_simp
          exact hn _ _ trivial (hJ.out.same (by decide) (by decide)) rfl
        · intro y w9 L next hL ha hw hJ hd hn
          have x0 := hJ.box8.two.1
          have x1 := hJ.box8.two.2.1
          dsimp only at x0 x1
          replace hJ := Lib.hid hJ
          go_simp
          exact hn _ _ trivial (hJ.out.same (by decide) (by decide)) rfl
        · intro y w9 L next hL ha hw hJ hd hn
          go_simp
          exact hn _ _ trivial (hJ.same (by decide) (by decide)) rfl
        · intro y w9 L next hL ha hw hJ hd hn
          have e0 : y 0 = _ := hd 0 (by kernel_rfl)
          have hr := hJ.r1
          replace hJ := Lib.hid hJ
          clear hd
          go_simp
          obtain ⟨x, y', hr⟩ := hr
          obtain ⟨x0, x1, xf0, xf1⟩ := hr.two
          go_simp
          exact hn _ _ trivial (hJ.out.put1 (Nat.le_refl _) (by omega) (by omega)) trivial
        · intro y w9 L next hL ha hw hJ hd hn
          have e1 : y 1 = _ := hd 1 (by kernel_rfl)
          have hr := hJ.r2
          replace hJ := Lib.hid hJ
          clear hd
          go_simp
          obtain ⟨x, y', hr⟩ := hr
          obtain ⟨x0, x1, xf0, xf1⟩ := hr.two
          go_simp
          exact hn _ _ trivial (hJ.out.put2 (Nat.le_refl _) (by omega) (by omega)) trivial
        · intro y w9 L next hL ha hw hJ hd hn
          have e2 : y 2 = _ := hd 2 (by kernel_rfl)
          go_simp
          exact hn _ _ trivial (hJ.same (by decide) (by decide)) rfl
        · intro y L w9 hL hJ hd
          have e5 : y 5 = _ := hd 5 (by simp)
          obtain ⟨r0, r1, rf0, rf1⟩ := (hJ.d1 (hL 3 (by decide))).two
          obtain ⟨x0, x1, xf0, xf1⟩ := (hJ.d2 (hL 4 (by decide))).two
          have hbb := Lib.hid hJ.base
          have hra := Lib.hid hJ.rowa
          have hrb := Lib.hid hJ.rowb
          dsimp only at r0 r1 x0 x1 hra hrb
          clear hJ hd hL
          simp only [lay_cons, lay_nil]
          go_wp2
          refine bodyPost_ret (v := .tuple #[.agg #[.string t, .slice A1 l.length cap1], .agg #[.string t4, .slice A4 l4.length cap4], .int .i64 (mk : Int)]) (by simp [results, Try.results15, go_sem, r0, r1, x0, x1, e5]) rfl ?_
          exact ⟨⟨_, _, _, rfl, ⟨t, A1, cap1, l, rfl, ht, hl, hra.out.1⟩, ⟨t4, A4, cap4, l4, rfl, ht4, hl4, hrb.out.1⟩⟩, hbb.out⟩
end Go.Proofs.Ytlgedbgpekfobaa
