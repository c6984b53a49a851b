/- Slices of parts: what can be read in them; how large, copied, compared. -/
import Derived.Test.YtbadpmghlclfkaaDoorStmA
namespace Go.Proofs.YtbadpmghlclfkaaDoor
open Go.RowKit

def prtRow (l : List Prt) : List Value := l.flatMap prtV
theorem prtRow_len (l : List Prt) : (prtRow l).length = l.length * 4 := by
  induction l with
  | nil => rfl
  | cons x l ih => unfold prtRow at ih ⊢; rw [List.flatMap_cons, List.length_append, ih, List.length_cons]; show 4 + _ = _; omega
theorem prtRow_at (l : List Prt) (j m : Nat) (hm : m < 4) (hj : j < l.length) : (prtRow l)[j * 4 + m]? = (prtV l[j])[m]? := by
  induction l generalizing j with
  | nil => simp at hj
  | cons x l ih =>
    unfold prtRow at ih ⊢
    rw [List.flatMap_cons]
    cases j with
    | zero => rw [List.getElem?_append_left (by show _ < 4; omega)]; simp
    | succ j =>
      rw [List.getElem?_append_right (by show 4 ≤ _; omega), show (j + 1) * 4 + m - (prtV x).length = j * 4 + m from by show (j + 1) * 4 + m - 4 = _; omega, ih j (by simpa using hj)]
      simp
def int64B (n : Int) : Prop := -9223372036854775808 ≤ n ∧ n ≤ 9223372036854775807
def PrtWf (x : Prt) : Prop := x.text.size ≤ maxLen ∧ int64B x.kind ∧ int64B x.lo ∧ int64B x.hi
/-- A slice that reads as these parts. -/
def Prts (w : World) (v : Value) (l : List Prt) : Prop :=
  l.length ≤ maxLen ∧ (∀ x ∈ l, PrtWf x) ∧ ∃ A cap, v = .slice A l.length cap ∧ (0 < l.length → ∃ b off, A = some ⟨b, off, none⟩ ∧ b < w.heap.size ∧ ∀ j (_ : j < l.length) m, m < 4 → w.cell? ⟨b, off + (j * 4 + m), none⟩ = (prtV l[j])[m]?)
theorem Prts.form {w : World} {v : Value} {l : List Prt} (h : Prts w v l) : ∃ A cap, v = .slice A l.length cap := by obtain ⟨_, _, A, cap, rfl, _⟩ := h; exact ⟨A, cap, rfl⟩
theorem Prts.below {w w' : World} {v : Value} {l : List Prt} (h : Prts w v l) (k : Below w.heap.size w w') : Prts w' v l := by
  obtain ⟨h1, h2, A, cap, rfl, h3⟩ := h
  refine ⟨h1, h2, A, cap, rfl, fun h0 => ?_⟩
  obtain ⟨b, off, rfl, hb, hc⟩ := h3 h0
  exact ⟨b, off, rfl, Nat.lt_of_lt_of_le hb k.size, fun j hj m hm => (World.cell?_of_block (a := ⟨b, off + (j * 4 + m), none⟩) (k.block b hb)).trans (hc j hj m hm)⟩
theorem Prts.alloc {w : World} {v : Value} {l : List Prt} (h : Prts w v l) (o : Obj) : Prts (w.alloc o) v l := h.below ((Below.refl _ _).alloc (Nat.le_refl _) _)
theorem Prts.drew {w : World} {v : Value} {l : List Prt} (h : Prts w v l) : Prts w.drew v l := h
/-- The four cells of part j. -/
theorem Prts.four {w : World} {A : Option Addr} {n cap : Nat} {l : List Prt} (h : Prts w (.slice A n cap) l) (j : Nat) (hj : j < l.length) :
    ∃ b off, A = some ⟨b, off, none⟩ ∧ b < w.heap.size ∧ w.cell? ⟨b, off + j * 4, none⟩ = some (.int .i64 l[j].kind) ∧ w.cell? ⟨b, off + j * 4 + 1, none⟩ = some (.string l[j].text) ∧
      w.cell? ⟨b, off + j * 4 + 2, none⟩ = some (.int .i64 l[j].lo) ∧ w.cell? ⟨b, off + j * 4 + 3, none⟩ = some (.int .i64 l[j].hi) := by
  obtain ⟨h1, h2, A', cap', e, h3⟩ := h
  cases e
  obtain ⟨b, off, rfl, hb, hc⟩ := h3 (by omega)
  exact ⟨b, off, rfl, hb, hc j hj 0 (by omega), hc j hj 1 (by omega), hc j hj 2 (by omega), hc j hj 3 (by omega)⟩
theorem Prts.wf {w : World} {v : Value} {l : List Prt} (h : Prts w v l) {j : Nat} (hj : j < l.length) : PrtWf l[j] := h.2.1 _ (List.getElem_mem hj)
/-- A row of which the first k parts are in. -/
def PrtTill (cs : List Value) (l : List Prt) (k : Nat) : Prop := cs.length = l.length * 4 ∧ cs.take (k * 4) = prtRow (l.take k)
theorem PrtTill.none_ {cs : List Value} {l : List Prt} (h : cs.length = l.length * 4) : PrtTill cs l 0 := ⟨h, by simp [prtRow]⟩
theorem PrtTill.all {cs : List Value} {l : List Prt} {k : Nat} (h : PrtTill cs l k) (hk : l.length ≤ k) : cs = prtRow l := by
  have h2 := h.2
  rw [List.take_of_length_le (by have := h.1; omega), List.take_of_length_le hk] at h2
  exact h2
theorem PrtTill.put {cs : List Value} {l : List Prt} {k : Nat} (h : PrtTill cs l k) (hk : k < l.length) :
    PrtTill ((((cs.set (k * 4) (.int .i64 l[k].kind)).set (k * 4 + 1) (.string l[k].text)).set (k * 4 + 2) (.int .i64 l[k].lo)).set (k * 4 + 3) (.int .i64 l[k].hi)) l (k + 1) := by
  refine ⟨by simp [h.1], ?_⟩
  have hc := h.1
  apply List.ext_getElem?
  intro i
  have hr : (prtRow (l.take (k + 1))).length = (k + 1) * 4 := by rw [prtRow_len, List.length_take]; omega
  by_cases hi : i < (k + 1) * 4
  · rw [List.getElem?_take_of_lt hi]
    by_cases hlo : i < k * 4
    · rw [List.getElem?_set_ne (by omega), List.getElem?_set_ne (by omega), List.getElem?_set_ne (by omega), List.getElem?_set_ne (by omega)]
      have h2 : (cs.take (k * 4))[i]? = (prtRow (l.take k))[i]? := by rw [h.2]
      rw [List.getElem?_take_of_lt hlo] at h2
      rw [h2, List.take_succ_eq_append_getElem hk]
      unfold prtRow
      rw [List.flatMap_append, List.getElem?_append_left]
      have := prtRow_len (l.take k)
      unfold prtRow at this
      rw [this, List.length_take]; omega
    · obtain ⟨m, hm, rfl⟩ : ∃ m, m < 4 ∧ i = k * 4 + m := ⟨i - k * 4, by omega, by omega⟩
      rw [prtRow_at (l.take (k + 1)) k m hm (by rw [List.length_take]; omega), List.getElem_take]
      rcases (show m = 0 ∨ m = 1 ∨ m = 2 ∨ m = 3 by omega) with rfl | rfl | rfl | rfl
      · rw [List.getElem?_set_ne (by omega), List.getElem?_set_ne (by omega), List.getElem?_set_ne (by omega), Nat.add_zero, List.getElem?_set_self (by omega)]; rfl
      · rw [List.getElem?_set_ne (by omega), List.getElem?_set_ne (by omega), List.getElem?_set_self (by simp; omega)]; rfl
      · rw [List.getElem?_set_ne (by omega), List.getElem?_set_self (by simp; omega)]; rfl
      · rw [List.getElem?_set_self (by simp; omega)]; rfl
  · rw [List.getElem?_eq_none (by rw [List.length_take]; omega), List.getElem?_eq_none (by omega)]
def prtSmall (x : Prt) : Prop := x.text.size ≤ 1048576
def PSmall (l : List Prt) : Prop := l.length ≤ 1048576 ∧ ∀ x ∈ l, prtSmall x
end Go.Proofs.YtbadpmghlclfkaaDoor
