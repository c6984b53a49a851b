/- The drawing of marked texts, right as a rule: what it may leave. -/
import Derived.Test.YtlgedbgpekfobaaDrawL
import Derived.Maps.AppendAt
namespace Go.Proofs.Ytlgedbgpekfobaa
open Go.RowKit

theorem run_append_ints (w : World) (ty : TypeId) (base : Nat) (v u : Value) (l m : List Int) (hown : OwnInts w base v l) (hin : Ints w u m) (hlen : l.length + m.length ≤ 1048576) (hB : base ≤ w.heap.size) :
    ∃ v' w', (Builtin.append_ #[23, 23] ty #[v, u]).run Try.prog w = .ok v' w' ∧ OwnInts w' base v' (l ++ m) ∧ w.grownBy w' v.ownBlock ∧ (v'.ownBlock = v.ownBlock ∨ v'.ownBlock = some w.heap.size) := by
  obtain ⟨i0, hi, hz0, hz1, hz2⟩ := info_parts Try.info2
  obtain ⟨hm1, A, cap, rfl, _, hc⟩ := hin
  cases A with
  | none =>
    have h0 : m = [] := by
      cases m with
      | nil => rfl
      | cons c t => obtain ⟨b, off, e, _⟩ := hc (by simp); cases e
    subst h0
    refine ⟨v, w, ?_, by rw [List.append_nil]; exact hown, grown_self w _, .inl rfl⟩
    rcases hown.2.2 with ⟨rfl, hn⟩ | ⟨g, cap, cur, rfl, _, _, hnc, _⟩
    · simp [Builtin.append_, run_underlying Try.underlying23, sizeOf, typeInfo, hi, Builtin.lenOf, Builtin.firstCells]
    · simp [Builtin.append_, run_underlying Try.underlying23, sizeOf, typeInfo, hi, Builtin.lenOf, Builtin.firstCells, storeCells, hnc]
  | some ad =>
    obtain ⟨v', w', hr, ho', hg, _, hb⟩ := run_append_own_at (P := Try.prog) w base 23 ty 2 i0 (.int .i64 0) 1 8 Try.underlying23 hi hz0 hz1 hz2 rfl (by decide) v l.length (l.map intV) hown.2 ad m.length cap (m.map intV) (by simp) (by
      intro j y hj
      rw [List.getElem?_map] at hj
      have hjl : j < m.length := by
        rcases Nat.lt_or_ge j m.length with h | h
        · exact h
        · rw [List.getElem?_eq_none h] at hj; simp at hj
      rw [List.getElem?_eq_getElem hjl] at hj
      simp at hj; subst hj
      obtain ⟨b, off, e, hcell⟩ := hc (by omega)
      cases e
      have e1 : (⟨b, off, none⟩ : Addr).add j = ⟨b, off + j, none⟩ := by unfold Addr.add; split <;> simp_all
      rw [e1]; exact hcell j hjl) (by
      intro y hy
      simp at hy
      obtain ⟨n, _, rfl⟩ := hy
      rfl) (by unfold maxLen; omega) (by omega) hB
    refine ⟨v', w', hr, ⟨by simpa using hlen, ?_⟩, hg, hb⟩
    rw [List.map_append, List.length_append]; exact ho'
/-- The operation append of a region that draws its order. -/
theorem step_append {P : Program} {o : Oper} {a : Act} {w w' : World} {next : Value → World → Prop} {E : Prop} {Y : Nat → Option Bool} (hg : o.guard = none) {s x : Operand} {T1 T2 : TypeId}
    (ho : o.op = .call { callee := .builtin .append, args := #[s, x], argTypes := #[T1, T2] }) {v u v' : Value} (hs : a.eval s = v) (hx : a.eval x = u)
    (hrun : (Builtin.append_ #[T1, T2] o.type #[v, u]).run P w = .ok v' w') (h : next v' w') : if Region.wanted o Y = true then VUpon P next ((execOp a.eval o).run P w) else E := by
  rw [if_pos (by simp [Region.wanted, hg])]
  simp [execOp, ho, resolve, invoke, builtin, hs, hx, hrun, Result.andThen]
  exact h
/-- A slice of n numbers; a place in one. -/
def NumsVal (g n : Nat) (v : Value) (w : World) : Prop := ∃ b, v = .slice (some ⟨b, 0, none⟩) n n ∧ b ≠ g ∧ ∀ k, k < n → ∃ x : Int, w.cell? ⟨b, k, none⟩ = some (.int .i64 x)
theorem NumsVal.grow {g n : Nat} {v : Value} {w w' : World} (h : NumsVal g n v w) (k : w.grownBy w' (some g)) : NumsVal g n v w' := by
  obtain ⟨b, rfl, hb, hx⟩ := h
  refine ⟨b, rfl, hb, fun i hi => ?_⟩
  obtain ⟨x, h⟩ := hx i hi
  exact ⟨x, k.cell h (by simpa using hb)⟩
def NumPtr (g : Nat) (v : Value) (w : World) : Prop := ∃ b k, v = .pointer (some ⟨b, k, none⟩) ∧ b ≠ g ∧ ∃ x : Int, w.cell? ⟨b, k, none⟩ = some (.int .i64 x)
theorem NumPtr.grow {g : Nat} {v : Value} {w w' : World} (h : NumPtr g v w) (k : w.grownBy w' (some g)) : NumPtr g v w' := by
  obtain ⟨b, i, rfl, hb, x, h⟩ := h
  exact ⟨b, i, rfl, hb, x, k.cell h (by simpa using hb)⟩
def numsB (cs : Array Value) (n : Nat) : Bool := (List.range n).all fun k => match cs[k]? with | some (.int .i64 _) => true | _ => false
theorem nums_arr {w : World} {b n g : Nat} {cs : Array Value} {t : TypeId} (hb : b = w.heap.size) (h : numsB cs n = true) (hg : g < w.heap.size) : NumsVal g n (.slice (some ⟨b, 0, none⟩) n n) (w.alloc (.cells cs t)) := by
  subst hb
  refine ⟨w.heap.size, rfl, (Nat.ne_of_lt hg).symm, fun k hk => ?_⟩
  have := List.all_eq_true.1 h k (by simpa using hk)
  rw [World.cell?_alloc_new]
  split at this
  · rename_i x hs; exact ⟨x, hs⟩
  · cases this
/-- A Lab's box, with its row behind block lo. -/
def LabBox (H lo m : Nat) (w : World) : Prop := ∃ t A cap l, Blk w H 25 [.string t, .slice A l.length cap] ∧ t.size ≤ m ∧ l.length ≤ m ∧ OwnInts w lo (.slice A l.length cap) l
/-- The worlds of l02Lab's regions: ahead of the store, and behind it. -/
structure LbWorld (w0 : World) (B g : Nat) (A : Option Addr) (len H H1 : Nat) (t : ByteArray) (A1 : Option Addr) (cap1 : Nat) (l : List Int) (b : Bool) (w : World) : Prop where
  src : Src w B g A len
  grown : w0.grownBy w (some g)
  ret : Blk w H 25 [.string ⟨#[]⟩, .slice none 0 0]
  size : H1 < w.heap.size
  ahead : b = false → Blk w H1 25 [.string t, .slice A1 l.length cap1]
  behind : b = true → LabBox H1 (H + 1) 201 w
theorem LbWorld.grow {w0 : World} {B g len H H1 cap1 : Nat} {A A1 : Option Addr} {t : ByteArray} {l : List Int} {w w' : World} (h : LbWorld w0 B g A len H H1 t A1 cap1 l false w) (k : w.grownBy w' (some g)) (hs : Src w' B g A len) (hgH : g < H) (hHH : H < H1) : LbWorld w0 B g A len H H1 t A1 cap1 l false w' :=
  ⟨hs, h.grown.trans k, h.ret.grow k (by omega), Nat.lt_of_lt_of_le h.size k.size, fun _ => (h.ahead rfl).grow k (by omega), fun e => by cases e⟩
/-- The row of one's own is written, or a new one made: all else stays. -/
theorem LbWorld.appended {w0 : World} {B g len H H1 cap1 : Nat} {A A1 : Option Addr} {t : ByteArray} {l : List Int} {w w' : World} (h : LbWorld w0 B g A len H H1 t A1 cap1 l false w) (hw0 : w0.heap.size ≤ H) {row : Option Nat} (k : w.grownBy w' row) (hr : ∀ i, row = some i → H + 1 ≤ i ∧ i < H1) (hgH : g < H) (hHH : H < H1) (hBg : B ≤ g) : LbWorld w0 B g A len H H1 t A1 cap1 l false w' := by
  have hk : ∀ i, i < w.heap.size → i ≤ H ∨ H1 ≤ i → w'.heap[i]? = w.heap[i]? := fun i hi ho => k.block i hi fun e => by have := hr i e.symm; omega
  refine ⟨h.src.grown k fun i e => by have := hr i e; omega, ⟨k.os.trans h.grown.os, k.tape.trans h.grown.tape, k.output.trans h.grown.output, Nat.le_trans h.grown.size k.size, fun i hi hne => (hk i (Nat.lt_of_lt_of_le hi h.grown.size) (by omega)).trans (h.grown.block i hi hne)⟩, (hk H (by have := h.size; omega) (by omega)).trans h.ret, Nat.lt_of_lt_of_le h.size k.size, fun _ => (hk H1 h.size (by omega)).trans (h.ahead rfl), fun e => by cases e⟩
theorem LbWorld.stored {w0 : World} {B g len H H1 cap1 : Nat} {A A1 : Option Addr} {t : ByteArray} {l : List Int} {w w' : World} (h : LbWorld w0 B g A len H H1 t A1 cap1 l false w) (hgH : g < H) (hHH : H < H1) (hw0 : w0.heap.size ≤ H) (k : w.grownBy w' (some H1)) (hb : LabBox H1 (H + 1) 201 w') : LbWorld w0 B g A len H H1 t A1 cap1 l true w' := by
  have hk : ∀ i, i < w.heap.size → i ≠ H1 → w'.heap[i]? = w.heap[i]? := fun i hi ho => k.block i hi (by simpa using ho)
  refine ⟨h.src.grown k fun i e => ?_, ⟨k.os.trans h.grown.os, k.tape.trans h.grown.tape, k.output.trans h.grown.output, Nat.le_trans h.grown.size k.size, fun i hi hne => (hk i (Nat.lt_of_lt_of_le hi h.grown.size) (by omega)).trans (h.grown.block i hi hne)⟩, (hk H (by have := h.size; omega) (by omega)).trans h.ret, Nat.lt_of_lt_of_le h.size k.size, (fun e => by cases e), fun _ => hb⟩
  cases e
  obtain ⟨_, _, _, _, _, _, _, _, hBg, _⟩ := h.src
  omega
/-- The worlds where a mark is put behind: till then the row is as it was. -/
def ApWorld (w0 : World) (B g : Nat) (A : Option Addr) (len H H1 : Nat) (t : ByteArray) (A1 : Option Addr) (cap1 : Nat) (l : List Int) (L : Nat → Bool) (w : World) : Prop :=
  LbWorld w0 B g A len H H1 t A1 cap1 l (L 7) w ∧ (L 5 = false → OwnInts w (H + 1) (.slice A1 l.length cap1) l)
theorem ApWorld.grow {w0 : World} {B g len H H1 cap1 : Nat} {A A1 : Option Addr} {t : ByteArray} {l : List Int} {w w' : World} {L : Nat → Bool} {j : Nat} (h : ApWorld w0 B g A len H H1 t A1 cap1 l L w) (e : L 7 = false) (h5 : 5 ≠ j) (h7 : 7 ≠ j) (k : w.grownBy w' (some g)) (hs : Src w' B g A len) (hgH : g < H) (hHH : H < H1) : ApWorld w0 B g A len H H1 t A1 cap1 l (more L j) w' := by
  unfold ApWorld at *
  rw [more_ne h5, more_ne h7, e]
  rw [e] at h
  exact ⟨h.1.grow k hs hgH hHH, fun e5 => (h.2 e5).grow k (by omega)⟩
/-- What the values are, where a mark is put behind. -/
def apVals (g H H1 : Nat) (A1 : Option Addr) (cap1 : Nat) (l : List Int) : Nat → Value → World → Prop
  | 0, v, _ => v = .pointer (some ⟨H1, 1, none⟩)
  | 1, v, w => v = .slice A1 l.length cap1 ∧ OwnInts w (H + 1) v l
  | 2, v, _ => v = .pointer (some ⟨g, 0, none⟩)
  | 3, v, _ => IntVal v
  | 4, v, w => NumsVal g 1 v w
  | 5, v, w => ∃ A cap m, v = .slice A m.length cap ∧ m.length ≤ l.length + 1 ∧ OwnInts w (H + 1) v m ∧ v.ownBlock ≠ some H1
  | 6, v, _ => v = .pointer (some ⟨H1, 1, none⟩)
  | _, _, _ => True
theorem apVals.grow {g H H1 cap1 : Nat} {A1 : Option Addr} {l : List Int} (hgH : g < H) (i : Nat) (v : Value) (w w' : World) (k : w.grownBy w' (some g)) (h : apVals g H H1 A1 cap1 l i v w) : apVals g H H1 A1 cap1 l i v w' := by
  match i with
  | 0 => exact h
  | 1 => exact ⟨h.1, h.2.grow k (by omega)⟩
  | 2 => exact h
  | 3 => exact h
  | 4 => exact NumsVal.grow h k
  | 5 =>
    obtain ⟨A, cap, m, e, hm, ho, hn⟩ := h
    exact ⟨A, cap, m, e, hm, ho.grow k (by omega), hn⟩
  | 6 => exact h
  | n + 7 => trivial
theorem NumsVal.ints {g : Nat} {v : Value} {w : World} (h : NumsVal g 1 v w) : ∃ x, Ints w v [x] := by
  obtain ⟨b, rfl, _, hx⟩ := h
  obtain ⟨x, hx⟩ := hx 0 (by omega)
  refine ⟨x, by simp, some ⟨b, 0, none⟩, 1, rfl, by simp, fun _ => ⟨b, 0, rfl, fun k hk => ?_⟩⟩
  have : k = 0 := by simpa using hk
  subst this
  exact hx
/-- What the values are, where a byte is joined on. -/
def joVals (g H1 : Nat) (v0 : Value) : Nat → Value → World → Prop
  | 0, v, _ => v = v0
  | 1, v, w => NumsVal g 3 v w
  | 2, v, _ => v = .pointer (some ⟨g, 0, none⟩)
  | 3, v, _ => NumVal 3 v
  | 4, v, w => NumPtr g v w
  | 5, v, _ => IntVal v
  | 6, v, w => LabVal (H1 + 1) 1 v w
  | 7, v, w => LabVal (H1 + 1) 121 v w
  | _, _, _ => True
theorem joVals.grow {g H1 : Nat} {v0 : Value} (hgH : g < H1) (i : Nat) (v : Value) (w w' : World) (k : w.grownBy w' (some g)) (h : joVals g H1 v0 i v w) : joVals g H1 v0 i v w' := by
  match i with
  | 0 => exact h
  | 1 => exact NumsVal.grow h k
  | 2 => exact h
  | 3 => exact h
  | 4 => exact NumPtr.grow h k
  | 5 => exact h
  | 6 => exact LabVal.grow h k (by omega)
  | 7 => exact LabVal.grow h k (by omega)
  | n + 8 => trivial
def JoWorld (w0 : World) (B g : Nat) (A : Option Addr) (len H H1 : Nat) (t : ByteArray) (A1 : Option Addr) (cap1 : Nat) (l : List Int) (b : Bool) (w : World) : Prop :=
  LbWorld w0 B g A len H H1 t A1 cap1 l b w ∧ (b = false → OwnInts w (H + 1) (.slice A1 l.length cap1) l)
theorem JoWorld.grow {w0 : World} {B g len H H1 cap1 : Nat} {A A1 : Option Addr} {t : ByteArray} {l : List Int} {w w' : World} (h : JoWorld w0 B g A len H H1 t A1 cap1 l false w) (k : w.grownBy w' (some g)) (hs : Src w' B g A len) (hgH : g < H) (hHH : H < H1) : JoWorld w0 B g A len H H1 t A1 cap1 l false w' :=
  ⟨h.1.grow k hs hgH hHH, fun e => (h.2 e).grow k (by omega)⟩
attribute [local go_sem] vupon_value vupon_skip vupon_enter lay_cons lay_nil
theorem grown_none {w w' : World} (h : w.grownBy w' none) : Below w.heap.size w w' := ⟨h.os, h.tape, h.output, h.size, fun k hk => h.block k hk (by simp)⟩
set_option maxRecDepth 100000 in
set_option maxHeartbeats 2000000 in
theorem lab_draw (g : Nat) (A : Option Addr) (len B : Nat) (w : World) (hs : Src w B g A len) :
    Calls Try.prog 41 #[.pointer (some ⟨g, 0, none⟩)] w fun e w' => LabDrawn w.heap.size 201 e w' ∧ Src w' B g A len ∧ w.grownBy w' (some g) := by
  have hgl := hs.lt
  have hs' := Lib.hid hs
  clear hs
  have B1 := Lib.hid (show Blk (w.alloc (.cells #[.string ⟨#[]⟩, .slice none 0 0] 25)) w.heap.size 25 [.string ⟨#[]⟩, .slice none 0 0] from heap_alloc_new w _)
  go_enter Try.func41, Try.ntmps41
  go_wp2_with (go_at_call 61; refine (labOf_draw g A len B _ (hs'.out.alloc _)).mono ?_; rintro e w1 ⟨⟨t, A1, cap1, l, rfl, ht, hl, ho⟩, hs1, hg1⟩; replace B1 := Lib.hid (B1.out.grow hg1 (by omega)); have hown0 := Lib.hid ho; have hsz1 := Lib.hid hg1.size; replace ho := ho.mono (b := w.heap.size + 1) (by simp); replace hg1 := Lib.hid ((World.grownBy_alloc _ _ _).trans hg1); replace hs1 := Lib.hid hs1; replace ho := Lib.hid ho)
  have B2 := Lib.hid (show Blk (w1.alloc (.cells #[.string t, .slice A1 l.length cap1] 25)) w1.heap.size 25 [.string t, .slice A1 l.length cap1] from heap_alloc_new w1 _)
  replace B1 := Lib.hid (B1.out.alloc (.cells #[.string t, .slice A1 l.length cap1] 25))
  replace hs1 := Lib.hid (hs1.out.alloc (.cells #[.string t, .slice A1 l.length cap1] 25))
  replace ho := Lib.hid (ho.out.alloc (.cells #[.string t, .slice A1 l.length cap1] 25))
  have hz1 := Lib.hid hg1.out.size
  have hHH1 := Lib.hid (show w.heap.size < w1.heap.size from by have := B1.out.lt; have h2 := hsz1.out; simp at h2; omega)
  have hown := Lib.hid (show ∀ k, (Value.slice A1 l.length cap1).ownBlock = some k → w.heap.size + 1 ≤ k ∧ k < w1.heap.size from fun k e => by have h := hown0.out.2.lt k e; simpa using h)
  have hgw1 := Lib.hid (Nat.lt_of_lt_of_le hgl hg1.out.size)
  replace hg1 := Lib.hid (hg1.out.trans (World.grownBy_alloc w1 (.cells #[.string t, .slice A1 l.length cap1] 25) (some g)))
  go_wp2_with (go_at_call 44; refine (n_any g _ A len B (by omega) _ hs1.out).mono ?_; rintro e w2 ⟨⟨q, hq, rfl⟩, hs2, hg2⟩; have hgw := hgw1.out; replace B1 := Lib.hid (B1.out.grow hg2 (by omega)); replace B2 := Lib.hid (B2.out.grow hg2 (by omega)); replace ho := Lib.hid (ho.out.grow hg2 (by omega)); replace hg1 := Lib.hid (hg1.out.trans hg2); replace hs2 := Lib.hid hs2; have hz2 := Lib.hid hg2.size; clear hg2; obtain ⟨x0, x1, xf0, xf1⟩ := B2.out.two; obtain ⟨r0, r1, rf0, rf1⟩ := B1.out.two)
  · have hHH : w.heap.size < w1.heap.size := hHH1.out
    have hJ0 : ApWorld w B g A len w.heap.size w1.heap.size t A1 cap1 l (fun _ => false) w2.drew := ⟨⟨hs2.out.drew, grown_drew hg1.out, B1.out, B2.out.lt, fun _ => B2.out, fun e => by cases e⟩, fun _ => ho.out⟩
    have hBg : B ≤ g := by obtain ⟨_, _, _, _, _, _, _, _, h, _⟩ := hs2.out; exact h
    refine wp_region_rows [] (apVals g w.heap.size w1.heap.size A1 cap1 l) (ApWorld w B g A len w.heap.size w1.heap.size t A1 cap1 l) (fun k w w' => (k = 5 → w.grownBy w' (Value.slice A1 l.length cap1).ownBlock) ∧ (k ≠ 5 → k ≠ 7 → w.grownBy w' (some g))) (by kernel_rfl) (by kernel_rfl) (by kernel_rfl) (by kernel_rfl) ?_ hJ0 ⟨?_, ?_, ?_, ?_, ?_, ?_, ?_, ?_, trivial⟩ ?_
    all_goals clear hJ0 hg1 hs2 B1 B2 ho hs' x0 x1 xf0 xf1 r0 r1 rf0 rf1
    · intro k i v w w' hne hl hM h
      by_cases h5 : k = 5
      · subst h5
        match i with
        | 0 => exact h
        | 1 => exact absurd hl (by rw [show liveB _ _ 5 1 = false by kernel_rfl]; simp)
        | 2 => exact h
        | 3 => exact h
        | 4 => exact absurd hl (by rw [show liveB _ _ 5 4 = false by kernel_rfl]; simp)
        | 5 => exact absurd rfl hne
        | 6 => exact h
        | n + 7 => trivial
      · by_cases h7 : k = 7
        · subst h7; have := live_last (by kernel_rfl) hl; simp at this
        · exact apVals.grow hgl i v w w' (hM.2 h5 h7) h
    · intro y w9 L next hL ha hw hJ hd hn
      have e7 := ha 7 (by kernel_rfl)
      go_simp
      exact hn _ _ ⟨(fun e => by cases e), fun _ _ => grown_self w9 _⟩ (hJ.grow e7 (by decide) (by decide) (grown_self w9 _) (hJ.1.src) hgl hHH) rfl
    · intro y w9 L next hL ha hw hJ hd hn
      have e7 := ha 7 (by kernel_rfl)
      have e5 := ha 5 (by kernel_rfl)
      have e0 : y 0 = _ := hd 0 (by kernel_rfl)
      have hJ2 := hJ.1
      rw [e7] at hJ2
      have x1 := (hJ2.ahead rfl).two.2.1
      replace hJ := Lib.hid hJ
      replace hJ2 := Lib.hid hJ2
      go_simp
      replace hJ := hJ.out
      exact hn _ _ ⟨(fun e => by cases e), fun _ _ => grown_self w9 _⟩ (hJ.grow e7 (by decide) (by decide) (grown_self w9 _) (hJ.1.src) hgl hHH) ⟨rfl, hJ.2 e5⟩
    · intro y w9 L next hL ha hw hJ hd hn
      have e7 := ha 7 (by kernel_rfl)
      go_simp
      exact hn _ _ ⟨(fun e => by cases e), fun _ _ => grown_self w9 _⟩ (hJ.grow e7 (by decide) (by decide) (grown_self w9 _) (hJ.1.src) hgl hHH) rfl
    · intro y w9 L next hL ha hw hJ hd hn
      have e7 := ha 7 (by kernel_rfl)
      have e2 : y 2 = _ := hd 2 (by kernel_rfl)
      go_simp
      refine (n_any g _ A len B (by omega) w9 hJ.1.src).mono ?_
      rintro e w' ⟨⟨v, hv, rfl⟩, hs', hg⟩
      refine ⟨_, rfl, ?_⟩
      exact hn _ _ ⟨(fun e => by cases e), fun _ _ => hg⟩ (hJ.grow e7 (by decide) (by decide) (hg) (hs') hgl hHH) ⟨_, rfl⟩
    · intro y w9 L next hL ha hw hJ hd hn
      have e7 := ha 7 (by kernel_rfl)
      have e3 : IntVal (y 3) := hd 3 (by kernel_rfl)
      obtain ⟨x, e3⟩ := e3
      go_simp
      have k := World.grownBy_alloc w9 (.cells #[.int .i64 x] 2) (some g)
      exact hn _ _ ⟨(fun e => by cases e), fun _ _ => k⟩ (hJ.grow e7 (by decide) (by decide) (k) (hJ.1.src.alloc _) hgl hHH) (nums_arr rfl (by rfl) hJ.1.src.lt)
    · intro y w9 L next hL ha hw hJ hd hn
      have e7 := ha 7 (by kernel_rfl)
      have e4 : NumsVal g 1 (y 4) w9 := hd 4 (by kernel_rfl)
      obtain ⟨e1, o1⟩ : y 1 = _ ∧ OwnInts w9 (w.heap.size + 1) (y 1) l := hd 1 (by kernel_rfl)
      obtain ⟨x, e4⟩ := e4.ints
      have hz9 := hJ.1.size
      obtain ⟨v', w', hr, ho', hg, hb⟩ := run_append_ints w9 23 (w.heap.size + 1) (y 1) (y 4) l [x] o1 e4 (by simp; omega) (by omega)
      refine step_append rfl rfl (v := y 1) (u := y 4) (by kernel_rfl) (by kernel_rfl) hr ?_
      obtain ⟨A', cap', e'⟩ := ho'.ints.form
      rw [e1] at hb hg
      refine hn v' w' ⟨fun _ => hg, fun e => absurd rfl e⟩ ⟨?_, fun e => ?_⟩ ⟨A', cap', _, e', by simp, ho', fun e => ?_⟩
      · rw [more_ne (by decide), e7]
        have hJ2 := hJ.1
        rw [e7] at hJ2
        exact hJ2.appended (Nat.le_refl _) hg hown.out hgl hHH hBg
      · rw [more_same] at e; cases e
      · rcases hb with h | h
        · rw [h] at e; have := hown.out _ e; omega
        · rw [h] at e; have := Option.some.inj e; omega
    · intro y w9 L next hL ha hw hJ hd hn
      have e7 := ha 7 (by kernel_rfl)
      go_simp
      exact hn _ _ ⟨(fun e => by cases e), fun _ _ => grown_self w9 _⟩ (hJ.grow e7 (by decide) (by decide) (grown_self w9 _) (hJ.1.src) hgl hHH) rfl
    · intro y w9 L next hL ha hw hJ hd hn
      have e5 := hd 5 (by kernel_rfl)
      have e6 : y 6 = _ := hd 6 (by kernel_rfl)
      have hJ2 := hJ.1
      rw [hL] at hJ2
      have x1 := (hJ2.ahead rfl).two.2.1
      have xf1 := (hJ2.ahead rfl).two.2.2.2
      replace hJ := Lib.hid hJ
      replace hJ2 := Lib.hid hJ2
      go_simp
      obtain ⟨A', cap', m, e5, hm, ho', hno⟩ := e5
      rw [e5]
      go_simp
      have hJ3 := hJ.out.1
      rw [hL] at hJ3
      have k := grown_set (grown_self w9 (some w1.heap.size)) 1 (.slice A' m.length cap')
      refine hn undef _ ⟨(fun e => by cases e), fun _ e => absurd rfl e⟩ ⟨?_, fun e => ?_⟩ trivial
      · rw [more_same]
        exact hJ3.stored hgl hHH (Nat.le_refl _) k ⟨t, A', cap', m, ((hJ3.ahead rfl).set 1 _), by omega, by omega, by have h := ho'.kept k (.inr hno); rw [e5] at h; exact h⟩
      · rw [more_ne (by decide), hw 5 (by kernel_rfl)] at e; cases e
    · intro y L w9 hL hJ hd
      have hJ2 := hJ.1
      rw [hL 7 (by decide)] at hJ2
      obtain ⟨t', A', cap', l', B2, ht', hl', ho'⟩ := hJ2.behind rfl
      obtain ⟨x0, x1, xf0, xf1⟩ := B2.two
      obtain ⟨r0, r1, rf0, rf1⟩ := hJ2.ret.two
      have hs2 := Lib.hid hJ2.src
      have hg1 := Lib.hid hJ2.grown
      replace ho' := Lib.hid ho'
      clear hJ hJ2 hd B2 hL
      simp only [lay_cons, lay_nil]
      go_wp2
      refine bodyPost_ret (v := .agg #[.string t', .slice A' l'.length cap']) (by simp [results, Try.results41, go_sem, r0, r1]) rfl ⟨⟨t', A', cap', l', rfl, ht', hl', ?_⟩, ?_, ?_⟩
      · exact (ho'.out.set2 (by omega) (by omega) _ _)
      · exact hs2.out.below (below_set2 (Below.refl w.heap.size _) (Nat.le_refl _) _ _) hgl
      · exact grown_below hg1.out (below_set2 (Below.refl w.heap.size _) (Nat.le_refl _) _ _) (Nat.le_refl _)
  · have hHH : w.heap.size < w1.heap.size := hHH1.out
    have hJ0 : byFlag 8 (JoWorld w B g A len w.heap.size w1.heap.size t A1 cap1 l) (fun _ => false) w2.drew := ⟨⟨hs2.out.drew, grown_drew hg1.out, B1.out, B2.out.lt, fun _ => B2.out, fun e => by cases e⟩, fun _ => ho.out⟩
    have hg1H : g < w1.heap.size := hgw1.out
    refine wp_region_rows [] (joVals g w1.heap.size (.agg #[.string t, .slice A1 l.length cap1])) (byFlag 8 (JoWorld w B g A len w.heap.size w1.heap.size t A1 cap1 l)) (fun k w w' => k ≠ 8 → w.grownBy w' (some g)) (by kernel_rfl) (by kernel_rfl) (by kernel_rfl) (by kernel_rfl) (fun k i v w w' _ hk hM h => joVals.grow hg1H i v w w' (hM fun e => by subst e; have := live_last (by kernel_rfl) hk; simp at this) h) hJ0 ⟨?_, ?_, ?_, ?_, ?_, ?_, ?_, ?_, ?_, trivial⟩ ?_
    all_goals clear hJ0 hg1 hs2 B1 B2 ho hs' x0 x1 xf0 xf1 r0 r1 rf0 rf1
    · intro y w9 L next hL ha hw hJ hd hn
      have e8 := ha 8 (by kernel_rfl)
      replace hJ := hJ.get e8
      replace hn := fun v w' a b c => hn v w' a (.put (by decide) e8 b) c
      have x0 := (hJ.1.ahead rfl).two.1
      have x1 := (hJ.1.ahead rfl).two.2.1
      replace hJ := Lib.hid hJ
      go_simp
      replace hJ := hJ.out
      exact hn _ _ (fun _ => grown_self w9 _) (hJ.grow (grown_self w9 _) (hJ.1.src) hgl hHH) rfl
    · intro y w9 L next hL ha hw hJ hd hn
      have e8 := ha 8 (by kernel_rfl)
      replace hJ := hJ.get e8
      replace hn := fun v w' a b c => hn v w' a (.put (by decide) e8 b) c
      go_simp
      have k := World.grownBy_alloc w9 (.cells #[.int .i64 (-1), .int .i64 15, .int .i64 16] 2) (some g)
      exact hn _ _ (fun _ => k) (hJ.grow (k) (hJ.1.src.alloc _) hgl hHH) (nums_arr rfl (by rfl) hJ.1.src.lt)
    · intro y w9 L next hL ha hw hJ hd hn
      have e8 := ha 8 (by kernel_rfl)
      replace hJ := hJ.get e8
      replace hn := fun v w' a b c => hn v w' a (.put (by decide) e8 b) c
      go_simp
      exact hn _ _ (fun _ => grown_self w9 _) (hJ.grow (grown_self w9 _) (hJ.1.src) hgl hHH) rfl
    · intro y w9 L next hL ha hw hJ hd hn
      have e8 := ha 8 (by kernel_rfl)
      replace hJ := hJ.get e8
      replace hn := fun v w' a b c => hn v w' a (.put (by decide) e8 b) c
      have e2 : y 2 = _ := hd 2 (by kernel_rfl)
      go_simp
      refine (n_any g _ A len B (by omega) w9 hJ.1.src).mono ?_
      rintro e w' ⟨⟨v, hv, rfl⟩, hs', hg⟩
      refine ⟨_, rfl, ?_⟩
      exact hn _ _ (fun _ => hg) (hJ.grow (hg) (hs') hgl hHH) ⟨v, by omega, rfl⟩
    · intro y w9 L next hL ha hw hJ hd hn
      have e8 := ha 8 (by kernel_rfl)
      replace hJ := hJ.get e8
      replace hn := fun v w' a b c => hn v w' a (.put (by decide) e8 b) c
      have e1 : NumsVal g 3 (y 1) w9 := hd 1 (by kernel_rfl)
      have e3 : NumVal 3 (y 3) := hd 3 (by kernel_rfl)
      go_simp
      obtain ⟨b, e1, hb, hx⟩ := e1
      obtain ⟨v, hv, e3⟩ := e3
      have hv2 : (v : Int) < 3 := by omega
      rw [e1, e3]
      go_simp
      exact hn _ _ (fun _ => grown_self w9 _) (hJ.grow (grown_self w9 _) (hJ.1.src) hgl hHH) ⟨b, v, rfl, hb, hx v hv⟩
    · intro y w9 L next hL ha hw hJ hd hn
      have e8 := ha 8 (by kernel_rfl)
      replace hJ := hJ.get e8
      replace hn := fun v w' a b c => hn v w' a (.put (by decide) e8 b) c
      have e4 : NumPtr g (y 4) w9 := hd 4 (by kernel_rfl)
      go_simp
      obtain ⟨b, v, e4, hb, x, hc⟩ := e4
      rw [e4]
      go_simp
      exact hn _ _ (fun _ => grown_self w9 _) (hJ.grow (grown_self w9 _) (hJ.1.src) hgl hHH) ⟨_, rfl⟩
    · intro y w9 L next hL ha hw hJ hd hn
      have e8 := ha 8 (by kernel_rfl)
      replace hJ := hJ.get e8
      replace hn := fun v w' a b c => hn v w' a (.put (by decide) e8 b) c
      have e5 : IntVal (y 5) := hd 5 (by kernel_rfl)
      go_simp
      obtain ⟨x, e5⟩ := e5
      rw [e5]
      refine (specOf_any ⟨#[113]⟩ x w9 (by decide)).mono ?_
      rintro e w' ⟨A5, cap5, rfl, ho5, hb5⟩
      have hg : w9.grownBy w' (some g) := below_grown hb5
      have hz := hJ.1.size
      refine ⟨_, rfl, ?_⟩
      exact hn _ _ (fun _ => hg) (hJ.grow (hg) (hJ.1.src.near hb5) hgl hHH) ⟨_, A5, cap5, _, rfl, (by decide), (by rw [List.length_replicate]; decide), ho5.mono hz⟩
    · intro y w9 L next hL ha hw hJ hd hn
      have e8 := ha 8 (by kernel_rfl)
      replace hJ := hJ.get e8
      replace hn := fun v w' a b c => hn v w' a (.put (by decide) e8 b) c
      have e0 : y 0 = _ := hd 0 (by kernel_rfl)
      have e6 : LabVal (w1.heap.size + 1) 1 (y 6) w9 := hd 6 (by kernel_rfl)
      go_simp
      obtain ⟨s, A5, cap5, m, e6, hs, hm, ho5⟩ := e6
      rw [e6]
      have hz := hJ.1.size
      refine (specJoin_any t s _ _ l m w9 (by omega) (by omega) (by omega) (hJ.2 rfl).ints ho5.ints).mono ?_
      rintro e w' ⟨A6, cap6, rfl, ho6, hb6⟩
      have hg : w9.grownBy w' (some g) := below_grown hb6
      refine ⟨_, rfl, ?_⟩
      exact hn _ _ (fun _ => hg) (hJ.grow (hg) (hJ.1.src.near hb6) hgl hHH) ⟨t ++ s, A6, cap6, _, rfl, (by rw [ByteArray.size_append]; omega), (by rw [List.length_append]; omega), ho6.mono hz⟩
    · intro y w9 L next hL ha hw hJ hd hn
      replace hJ := hJ.get hL
      replace hn := fun v w' a b c => hn v w' a (.done b) c
      have e7 : LabVal (w1.heap.size + 1) 121 (y 7) w9 := hd 7 (by kernel_rfl)
      have x0 := (hJ.1.ahead rfl).two.1
      have x1 := (hJ.1.ahead rfl).two.2.1
      have xf0 := (hJ.1.ahead rfl).two.2.2.1
      have xf1 := (hJ.1.ahead rfl).two.2.2.2
      replace hJ := Lib.hid hJ
      go_simp
      obtain ⟨t', A', cap', m, e7, ht', hm, ho'⟩ := e7
      rw [e7]
      go_simp
      replace hJ := hJ.out
      have k := grown_set (grown_set (grown_self w9 (some w1.heap.size)) 0 (.string t')) 1 (.slice A' m.length cap')
      exact hn undef _ (fun e => absurd rfl e) ⟨hJ.1.stored hgl hHH (Nat.le_refl _) k ⟨t', A', cap', m, (((hJ.1.ahead rfl).set 0 _).set 1 _), by omega, by omega, ho'.set2 (by omega) (by omega) _ _⟩, fun e => by cases e⟩ trivial
    · intro y L w9 hL hJ hd
      have hJ2 := (hJ.got (hL 8 (by decide))).1
      obtain ⟨t', A', cap', l', B2, ht', hl', ho'⟩ := hJ2.behind rfl
      obtain ⟨x0, x1, xf0, xf1⟩ := B2.two
      obtain ⟨r0, r1, rf0, rf1⟩ := hJ2.ret.two
      have hs2 := Lib.hid hJ2.src
      have hg1 := Lib.hid hJ2.grown
      replace ho' := Lib.hid ho'
      clear hJ hJ2 hd B2 hL
      simp only [lay_cons, lay_nil]
      go_wp2
      refine bodyPost_ret (v := .agg #[.string t', .slice A' l'.length cap']) (by simp [results, Try.results41, go_sem, r0, r1]) rfl ⟨⟨t', A', cap', l', rfl, ht', hl', ?_⟩, ?_, ?_⟩
      · exact (ho'.out.set2 (by omega) (by omega) _ _)
      · exact hs2.out.below (below_set2 (Below.refl w.heap.size _) (Nat.le_refl _) _ _) hgl
      · exact grown_below hg1.out (below_set2 (Below.refl w.heap.size _) (Nat.le_refl _) _ _) (Nat.le_refl _)
  · obtain ⟨i0, hi, hz0, hz1', hz2'⟩ := info_parts Try.uinfo5
    have hHH : w.heap.size < w1.heap.size := hHH1.out
    go_wp2_with (first
      | (go_at_call 44; refine (n_any g _ A len B (by omega) _ hs2.out).mono ?_; rintro e w3 ⟨⟨v, hv, rfl⟩, hs3, hg3⟩; have hv2 : (v : Int) < 3 := (by omega); replace B1 := Lib.hid (B1.out.grow hg3 (by omega)); replace B2 := Lib.hid (B2.out.grow hg3 (by omega)); replace hg1 := Lib.hid (hg1.out.trans hg3); replace hs2 := Lib.hid hs3; clear hs3 hg3)
      | (at_make; refine wpList_make_full _ rfl _ _ _ rfl w3.heap.size 5 i0 (.int .u8 0) 1 Try.underlying22 hi hz0 hz1' _ _ _ _ (199 + v) rfl rfl (by first | rfl | omega) (by first | rfl | omega) (by rw [hz2']; omega) (by unfold maxLen; omega) (Nat.le_refl _) ?_; intro w5 ho5 hg5; have hconv := own_string (P := Try.prog) (dst := 9) Try.underlying22 Try.underlying5 Try.underlying9 (own_zeros ho5); have hb5 := grown_none hg5; replace B1 := Lib.hid (B1.out.up hb5); replace B2 := Lib.hid (B2.out.up hb5); replace hs2 := Lib.hid (hs2.out.near hb5); replace hg1 := Lib.hid (hg1.out.trans (below_grown hb5)); clear ho5 hg5 hb5)
      | (go_at_call 53; refine (specOf_any ⟨(List.replicate (199 + v) 0).toArray⟩ 1 w5 (by show (List.replicate (199 + v) (0 : UInt8)).toArray.size ≤ _; simp; omega)).mono ?_; rintro e w6 ⟨A6, cap6, rfl, ho6, hb6⟩; rw [List.length_replicate] at ho6 ⊢; have hz5 := Lib.hid B2.out.lt; replace B1 := Lib.hid (B1.out.up hb6); replace B2 := Lib.hid (B2.out.up hb6); have hz6 := Lib.hid B2.out.lt; replace hs2 := Lib.hid (hs2.out.near hb6); replace hg1 := Lib.hid (hg1.out.trans (below_grown hb6)); have ho' := Lib.hid ho6; clear ho6 hb6; clear x0 x1 xf0 xf1 r0 r1 rf0 rf1; obtain ⟨x0, x1, xf0, xf1⟩ := B2.out.two; obtain ⟨r0, r1, rf0, rf1⟩ := B1.out.two))
    have hsz : (⟨(List.replicate (199 + v) (0 : UInt8)).toArray⟩ : ByteArray).size = 199 + v := by show (List.replicate (199 + v) (0 : UInt8)).toArray.size = _; simp
    have hsz2 : (⟨Array.replicate (199 + v) (0 : UInt8)⟩ : ByteArray).size = 199 + v := by show (Array.replicate (199 + v) (0 : UInt8)).size = _; simp
    replace ho' := ho'.out
    rw [hsz] at ho'
    have h5 := hz5.out
    have k := below_set2 ((below_set2 (Below.refl w1.heap.size w6) (Nat.le_refl _) (.string ⟨Array.replicate (199 + v) 0⟩) (.slice A6 (199 + v) cap6)).mono (Nat.le_of_lt hHH)) (Nat.le_refl w.heap.size) (.string ⟨Array.replicate (199 + v) 0⟩) (.slice A6 (199 + v) cap6)
    refine bodyPost_ret (v := .agg #[.string ⟨Array.replicate (199 + v) 0⟩, .slice A6 (199 + v) cap6]) (by simp [results, Try.results41, go_sem, r0, r1]) rfl ⟨⟨_, A6, cap6, List.replicate (199 + v) 1, by rw [List.length_replicate], by rw [hsz2]; omega, by rw [List.length_replicate]; omega, ?_⟩, ?_, ?_⟩
    · rw [List.length_replicate]
      exact (ho'.set2 (b := w1.heap.size + 1) (by omega) (by omega) _ _).set2 (by omega) (by omega) _ _
    · exact hs2.out.below k hgl
    · exact grown_below hg1.out k (Nat.le_refl _)
  · obtain ⟨t', A', cap', l', ht', hl', ho', hp⟩ : ∃ t' A' cap' l', t'.size ≤ 201 ∧ l'.length ≤ 201 ∧ Hid (OwnInts w2 (w.heap.size + 1) (.slice A' l'.length cap') l') ∧ t' = t ∧ A' = A1 ∧ cap' = cap1 ∧ l' = l := ⟨t, A1, cap1, l, by omega, by omega, ho, rfl, rfl, rfl, rfl⟩
    obtain ⟨rfl, rfl, rfl, rfl⟩ := hp
    · refine bodyPost_ret (v := .agg #[.string t', .slice A' l'.length cap']) (by simp [results, Try.results41, go_sem, r0, r1]) rfl ⟨⟨t', A', cap', l', rfl, ht', hl', ?_⟩, ?_, ?_⟩
      · exact (ho'.out.set2 (by omega) (by omega) _ _)
      · exact hs2.out.below (below_set2 (Below.refl w.heap.size _) (Nat.le_refl _) _ _) hgl
      · exact grown_below hg1.out (below_set2 (Below.refl w.heap.size _) (Nat.le_refl _) _ _) (Nat.le_refl _)
end Go.Proofs.Ytlgedbgpekfobaa
