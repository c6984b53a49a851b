/- Slices of parts: what can be read in them; how large, copied, compared. -/
import Derived.Test.YtejmfpaegkgkjaaStmA
namespace Go.Proofs.Ytejmfpaegkgkjaa
open Go.RowKit

def prtRow (l : List Prt) : List Value := l.flatMap prtV
theorem prtRow_len (l : List Prt) : (prtRow l).length = l.length * 4 := by
  induction l with
  | nil => rfl
  | cons x l ih => unfold prtRow at ih ⊢; rw [List.flatMap_cons, List.length_append, ih, List.length_cons]; show 4 + _ = _; omega
theorem prtRow_at (l : List Prt) (j m : Nat) (hm : m < 4) (hj : j < l.length) : (prtRow l)[j * 4 + m]? = (prtV l[j])[m]? := by
  induction l generalizing j with
  | nil => simp at hj
  | cons x l ih =>
    unfold prtRow at ih ⊢
    rw [List.flatMap_cons]
    cases j with
    | zero => rw [List.getElem?_append_left (by show _ < 4; omega)]; simp
    | succ j =>
      rw [List.getElem?_append_right (by show 4 ≤ _; omega), show (j + 1) * 4 + m - (prtV x).length = j * 4 + m from by show (j + 1) * 4 + m - 4 = _; omega, ih j (by simpa using hj)]
      simp
def int64B (n : Int) : Prop := -9223372036854775808 ≤ n ∧ n ≤ 9223372036854775807
def PrtWf (x : Prt) : Prop := x.text.size ≤ maxLen ∧ int64B x.kind ∧ int64B x.lo ∧ int64B x.hi
/-- A slice that reads as these parts. -/
def Prts (w : World) (v : Value) (l : List Prt) : Prop :=
  l.length ≤ maxLen ∧ (∀ x ∈ l, PrtWf x) ∧ ∃ A cap, v = .slice A l.length cap ∧ (0 < l.length → ∃ b off, A = some ⟨b, off, none⟩ ∧ b < w.heap.size ∧ ∀ j (_ : j < l.length) m, m < 4 → w.cell? ⟨b, off + (j * 4 + m), none⟩ = (prtV l[j])[m]?)
theorem Prts.form {w : World} {v : Value} {l : List Prt} (h : Prts w v l) : ∃ A cap, v = .slice A l.length cap := by obtain ⟨_, _, A, cap, rfl, _⟩ := h; exact ⟨A, cap, rfl⟩
theorem Prts.below {w w' : World} {v : Value} {l : List Prt} (h : Prts w v l) (k : Below w.heap.size w w') : Prts w' v l := by
  obtain ⟨h1, h2, A, cap, rfl, h3⟩ := h
  refine ⟨h1, h2, A, cap, rfl, fun h0 => ?_⟩
  obtain ⟨b, off, rfl, hb, hc⟩ := h3 h0
  exact ⟨b, off, rfl, Nat.lt_of_lt_of_le hb k.size, fun j hj m hm => (World.cell?_of_block (a := ⟨b, off + (j * 4 + m), none⟩) (k.block b hb)).trans (hc j hj m hm)⟩
theorem Prts.alloc {w : World} {v : Value} {l : List Prt} (h : Prts w v l) (o : Obj) : Prts (w.alloc o) v l := h.below ((Below.refl _ _).alloc (Nat.le_refl _) _)
theorem Prts.drew {w : World} {v : Value} {l : List Prt} (h : Prts w v l) : Prts w.drew v l := h
/-- The four cells of part j. -/
theorem Prts.four {w : World} {A : Option Addr} {n cap : Nat} {l : List Prt} (h : Prts w (.slice A n cap) l) (j : Nat) (hj : j < l.length) :
    ∃ b off, A = some ⟨b, off, none⟩ ∧ b < w.heap.size ∧ w.cell? ⟨b, off + j * 4, none⟩ = some (.int .i64 l[j].kind) ∧ w.cell? ⟨b, off + j * 4 + 1, none⟩ = some (.string l[j].text) ∧
      w.cell? ⟨b, off + j * 4 + 2, none⟩ = some (.int .i64 l[j].lo) ∧ w.cell? ⟨b, off + j * 4 + 3, none⟩ = some (.int .i64 l[j].hi) := by
  obtain ⟨h1, h2, A', cap', e, h3⟩ := h
  cases e
  obtain ⟨b, off, rfl, hb, hc⟩ := h3 (by omega)
  exact ⟨b, off, rfl, hb, hc j hj 0 (by omega), hc j hj 1 (by omega), hc j hj 2 (by omega), hc j hj 3 (by omega)⟩
theorem Prts.wf {w : World} {v : Value} {l : List Prt} (h : Prts w v l) {j : Nat} (hj : j < l.length) : PrtWf l[j] := h.2.1 _ (List.getElem_mem hj)
theorem Try.info26 : (Try.prog.info? 26).map (fun i => (i.zero, i.size, i.bytes)) = some (some (.agg #[.int .i64 0, .string ByteArray.empty, .int .i64 0, .int .i64 0]), 4, 40) := by kernel_rfl
/-- A row of which the first k parts are in. -/
def PrtTill (cs : List Value) (l : List Prt) (k : Nat) : Prop := cs.length = l.length * 4 ∧ cs.take (k * 4) = prtRow (l.take k)
theorem PrtTill.none_ {cs : List Value} {l : List Prt} (h : cs.length = l.length * 4) : PrtTill cs l 0 := ⟨h, by simp [prtRow]⟩
theorem PrtTill.all {cs : List Value} {l : List Prt} {k : Nat} (h : PrtTill cs l k) (hk : l.length ≤ k) : cs = prtRow l := by
  have h2 := h.2
  rw [List.take_of_length_le (by have := h.1; omega), List.take_of_length_le hk] at h2
  exact h2
theorem PrtTill.put {cs : List Value} {l : List Prt} {k : Nat} (h : PrtTill cs l k) (hk : k < l.length) :
    PrtTill ((((cs.set (k * 4) (.int .i64 l[k].kind)).set (k * 4 + 1) (.string l[k].text)).set (k * 4 + 2) (.int .i64 l[k].lo)).set (k * 4 + 3) (.int .i64 l[k].hi)) l (k + 1) := by
  refine ⟨by simp [h.1], ?_⟩
  have hc := h.1
  apply List.ext_getElem?
  intro i
  have hr : (prtRow (l.take (k + 1))).length = (k + 1) * 4 := by rw [prtRow_len, List.length_take]; omega
  by_cases hi : i < (k + 1) * 4
  · rw [List.getElem?_take_of_lt hi]
    by_cases hlo : i < k * 4
    · rw [List.getElem?_set_ne (by omega), List.getElem?_set_ne (by omega), List.getElem?_set_ne (by omega), List.getElem?_set_ne (by omega)]
      have h2 : (cs.take (k * 4))[i]? = (prtRow (l.take k))[i]? := by rw [h.2]
      rw [List.getElem?_take_of_lt hlo] at h2
      rw [h2, List.take_succ_eq_append_getElem hk]
      unfold prtRow
      rw [List.flatMap_append, List.getElem?_append_left]
      have := prtRow_len (l.take k)
      unfold prtRow at this
      rw [this, List.length_take]; omega
    · obtain ⟨m, hm, rfl⟩ : ∃ m, m < 4 ∧ i = k * 4 + m := ⟨i - k * 4, by omega, by omega⟩
      rw [prtRow_at (l.take (k + 1)) k m hm (by rw [List.length_take]; omega), List.getElem_take]
      rcases (show m = 0 ∨ m = 1 ∨ m = 2 ∨ m = 3 by omega) with rfl | rfl | rfl | rfl
      · rw [List.getElem?_set_ne (by omega), List.getElem?_set_ne (by omega), List.getElem?_set_ne (by omega), Nat.add_zero, List.getElem?_set_self (by omega)]; rfl
      · rw [List.getElem?_set_ne (by omega), List.getElem?_set_ne (by omega), List.getElem?_set_self (by simp; omega)]; rfl
      · rw [List.getElem?_set_ne (by omega), List.getElem?_set_self (by simp; omega)]; rfl
      · rw [List.getElem?_set_self (by simp; omega)]; rfl
  · rw [List.getElem?_eq_none (by rw [List.length_take]; omega), List.getElem?_eq_none (by omega)]
/-- A list of parts in a block of its own. -/
def OwnPrts (w : World) (base : Nat) (v : Value) (l : List Prt) : Prop := l.length ≤ 1048576 ∧ (∀ x ∈ l, PrtWf x) ∧ ∃ g, v = .slice (some ⟨g, 0, none⟩) l.length l.length ∧ base ≤ g ∧ Blk w g 26 (prtRow l)
theorem OwnPrts.secs {w : World} {base : Nat} {v : Value} {l : List Prt} (h : OwnPrts w base v l) : Prts w v l := by
  obtain ⟨h1, h2, g, rfl, hb, hk⟩ := h
  refine ⟨by unfold maxLen; omega, h2, _, _, rfl, fun h0 => ⟨g, 0, rfl, hk.lt, fun j hj m hm => ?_⟩⟩
  rw [Nat.zero_add, hk.cell?, prtRow_at l j m hm hj]
theorem OwnPrts.below {w w' : World} {base : Nat} {v : Value} {l : List Prt} (h : OwnPrts w base v l) (k : Below w.heap.size w w') : OwnPrts w' base v l := by
  obtain ⟨h1, h2, g, rfl, hb, hk⟩ := h
  exact ⟨h1, h2, g, rfl, hb, hk.up k⟩
theorem OwnPrts.alloc {w : World} {base : Nat} {v : Value} {l : List Prt} (h : OwnPrts w base v l) (o : Obj) : OwnPrts (w.alloc o) base v l := h.below ((Below.refl _ _).alloc (Nat.le_refl _) _)
theorem OwnPrts.drew {w : World} {base : Nat} {v : Value} {l : List Prt} (h : OwnPrts w base v l) : OwnPrts w.drew base v l := h
theorem OwnPrts.form {w : World} {base : Nat} {v : Value} {l : List Prt} (h : OwnPrts w base v l) : ∃ g, v = .slice (some ⟨g, 0, none⟩) l.length l.length := by obtain ⟨_, _, g, rfl, _⟩ := h; exact ⟨g, rfl⟩
def prtSmall (x : Prt) : Prop := x.text.size ≤ 1048576
def PSmall (l : List Prt) : Prop := l.length ≤ 1048576 ∧ ∀ x ∈ l, prtSmall x
set_option maxHeartbeats 1000000 in
theorem szPart_any (x : Prt) (left : Int) (w : World) (hx : x.text.size ≤ maxLen) (h0 : 0 ≤ left) (h1 : left ≤ 1048576) :
    Calls Try.prog 8 #[prtA x, .int .i64 left] w (SzOut (prtSmall x) left w) := by
  have hb := Lib.hid ((Below.refl w.heap.size w).alloc (Nat.le_refl _) (.cells #[.int .i64 x.kind, .string x.text, .int .i64 x.lo, .int .i64 x.hi] 23))
  unfold maxLen at hx
  have n1' : (x.text.size : Int) ≤ 9223372036854775807 := by omega
  unfold prtA
  by_cases c1 : left - x.text.size < 0
  · go_enter Try.func8, Try.ntmps8
    go_wp2
    go_ret
    exact ⟨-1, rfl, .inl rfl, hb.out⟩
  · have hend := Lib.hid (show 0 ≤ left - x.text.size ∧ left - x.text.size ≤ left ∧ prtSmall x from ⟨by omega, by omega, by unfold prtSmall; omega⟩)
    go_enter Try.func8, Try.ntmps8
    go_wp2
    go_ret
    exact ⟨_, rfl, .inr hend.out, hb.out⟩
set_option maxHeartbeats 1000000 in
theorem szParts_any (v : Value) (l : List Prt) (left : Int) (w : World) (hv : Prts w v l) (h0 : 0 ≤ left) (h1 : left ≤ 1048576) :
    Calls Try.prog 32 #[v, .int .i64 left] w (SzOut (PSmall l) left w) := by
  obtain ⟨A, cap, rfl⟩ := hv.form
  have hl := hv.1
  unfold maxLen at hl
  have hl' : (l.length : Int) ≤ 9223372036854775807 := by omega
  have hv' := Lib.hid hv
  clear hv
  by_cases c1 : left - l.length < 0
  · go_enter Try.func32, Try.ntmps32
    go_wp2
    go_ret
    exact ⟨-1, rfl, .inl rfl, Below.refl _ _⟩
  · have hll : l.length ≤ 1048576 := by omega
    have hlft : left - l.length ≤ left := by omega
    go_enter Try.func32, Try.ntmps32
    go_wp2
    go_loopw [1, 5] (fun u i wr => ∃ (k : Nat) (r : Int), k ≤ l.length ∧ i = .int .i64 (k : Int) ∧ u = .int .i64 r ∧ 0 ≤ r ∧ r ≤ left ∧ Hid (∀ j (hj : j < k) (h : j < l.length), prtSmall l[j]) ∧ Hid (Below w.heap.size w wr)) (fun _ i _ => l.length - (intOf i).toNat)
    case atStart => exact ⟨0, _, Nat.zero_le _, rfl, rfl, by omega, by omega, Lib.hid (fun j hj => by omega), Lib.hid (Below.refl _ _)⟩
    case round =>
      obtain ⟨k, r, hk, rfl, rfl, hr0, hr1, hall, hb⟩ := hrel
      by_cases hlt : k < l.length
      · have hlt' : (k : Int) < (l.length : Int) := by omega
        have hsecs := Lib.hid (hv'.out.below hb.out)
        obtain ⟨b, off, rfl, hbk, c0, c1', c2, c3⟩ := hsecs.out.four k hlt
        have hwf := Lib.hid (hsecs.out.wf hlt)
        go_wp2_with (go_at_call 8; refine (szPart_any l[k] r _ hwf.out.1 hr0 (by omega)).mono ?_; rintro e w1 ⟨r1, rfl, hr, hb1⟩; replace hb := Lib.hid (Below.then_ hb.out hb1 (Nat.le_refl _)); clear hb1; rcases hr with rfl | ⟨hr2, hr3, hr4⟩)
        · go_wp2
          go_ret
          exact ⟨-1, rfl, .inl rfl, hb.out⟩
        · have hall2 := Lib.hid (fun j (hj : j < k + 1) (h : j < l.length) => (show prtSmall l[j] from by
            by_cases e : j = k
            · subst e; exact hr4
            · exact hall.out j (by omega) h))
          have hr2' : ¬ r1 < 0 := by omega
          clear hr4 hall
          go_wp2
          go_roundw
          case rel => exact ⟨k + 1, r1, by omega, by go_num, rfl, hr2, by omega, hall2, hb⟩
          case measure => simp [intOf]; omega
      · have hlt' : ¬ (k : Int) < (l.length : Int) := by omega
        have hend := Lib.hid (show PSmall l from ⟨hll, fun x hx => by obtain ⟨j, hj, rfl⟩ := List.mem_iff_getElem.1 hx; exact hall.out j (by omega) hj⟩)
        go_wp2
        go_ret
        exact ⟨r, rfl, .inr ⟨hr0, hr1, hend.out⟩, hb.out⟩
end Go.Proofs.Ytejmfpaegkgkjaa
