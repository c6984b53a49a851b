/- Slices of secrets: what can be read in them; how large, copied, compared. -/
import Derived.Test.YtajnligcngekcaaVaultW
import Derived.Test.YtajnligcngekcaaBlk
import Derived.Deep.RegionHeld3
namespace Go.Proofs.Ytajnligcngekcaa
open Go.RowKit

def secV (x : Sec) : List Value := [.string x.name, .int .i64 x.seat, .string x.word, .string x.prompt]
def secA (x : Sec) : Value := .agg #[.string x.name, .int .i64 x.seat, .string x.word, .string x.prompt]
def secRow (l : List Sec) : List Value := l.flatMap secV
theorem secRow_len (l : List Sec) : (secRow l).length = l.length * 4 := by
  induction l with
  | nil => rfl
  | cons x l ih => unfold secRow at ih ⊢; rw [List.flatMap_cons, List.length_append, ih, List.length_cons]; show 4 + _ = _; omega
theorem secRow_at (l : List Sec) (j m : Nat) (hm : m < 4) (hj : j < l.length) : (secRow l)[j * 4 + m]? = (secV l[j])[m]? := by
  induction l generalizing j with
  | nil => simp at hj
  | cons x l ih =>
    unfold secRow at ih ⊢
    rw [List.flatMap_cons]
    cases j with
    | zero => rw [List.getElem?_append_left (by show _ < 4; omega)]; simp
    | succ j =>
      rw [List.getElem?_append_right (by show 4 ≤ _; omega), show (j + 1) * 4 + m - (secV x).length = j * 4 + m from by show (j + 1) * 4 + m - 4 = _; omega, ih j (by simpa using hj)]
      simp
/-- What the model's values are: a text is no longer than a length can be, a number is one of 64 bits. -/
def SecWf (x : Sec) : Prop := x.name.size ≤ maxLen ∧ x.word.size ≤ maxLen ∧ x.prompt.size ≤ maxLen ∧ (-9223372036854775808 ≤ x.seat ∧ x.seat ≤ 9223372036854775807)
/-- A slice that reads as these secrets. -/
def Secs (w : World) (v : Value) (l : List Sec) : Prop :=
  l.length ≤ maxLen ∧ (∀ x ∈ l, SecWf x) ∧ ∃ A cap, v = .slice A l.length cap ∧ (0 < l.length → ∃ b off, A = some ⟨b, off, none⟩ ∧ b < w.heap.size ∧ ∀ j (_ : j < l.length) m, m < 4 → w.cell? ⟨b, off + (j * 4 + m), none⟩ = (secV l[j])[m]?)
theorem Secs.form {w : World} {v : Value} {l : List Sec} (h : Secs w v l) : ∃ A cap, v = .slice A l.length cap := by obtain ⟨_, _, A, cap, rfl, _⟩ := h; exact ⟨A, cap, rfl⟩
theorem Secs.below {w w' : World} {v : Value} {l : List Sec} (h : Secs w v l) (k : Below w.heap.size w w') : Secs w' v l := by
  obtain ⟨h1, h2, A, cap, rfl, h3⟩ := h
  refine ⟨h1, h2, A, cap, rfl, fun h0 => ?_⟩
  obtain ⟨b, off, rfl, hb, hc⟩ := h3 h0
  exact ⟨b, off, rfl, Nat.lt_of_lt_of_le hb k.size, fun j hj m hm => (World.cell?_of_block (a := ⟨b, off + (j * 4 + m), none⟩) (k.block b hb)).trans (hc j hj m hm)⟩
theorem Secs.alloc {w : World} {v : Value} {l : List Sec} (h : Secs w v l) (o : Obj) : Secs (w.alloc o) v l := h.below ((Below.refl _ _).alloc (Nat.le_refl _) _)
theorem Secs.drew {w : World} {v : Value} {l : List Sec} (h : Secs w v l) : Secs w.drew v l := h
/-- The four cells of secret j. -/
theorem Secs.four {w : World} {A : Option Addr} {n cap : Nat} {l : List Sec} (h : Secs w (.slice A n cap) l) (j : Nat) (hj : j < l.length) :
    ∃ b off, A = some ⟨b, off, none⟩ ∧ b < w.heap.size ∧ w.cell? ⟨b, off + j * 4, none⟩ = some (.string l[j].name) ∧ w.cell? ⟨b, off + j * 4 + 1, none⟩ = some (.int .i64 l[j].seat) ∧
      w.cell? ⟨b, off + j * 4 + 2, none⟩ = some (.string l[j].word) ∧ w.cell? ⟨b, off + j * 4 + 3, none⟩ = some (.string l[j].prompt) := by
  obtain ⟨h1, h2, A', cap', e, h3⟩ := h
  cases e
  obtain ⟨b, off, rfl, hb, hc⟩ := h3 (by omega)
  exact ⟨b, off, rfl, hb, hc j hj 0 (by omega), hc j hj 1 (by omega), hc j hj 2 (by omega), hc j hj 3 (by omega)⟩
theorem Secs.wf {w : World} {v : Value} {l : List Sec} (h : Secs w v l) {j : Nat} (hj : j < l.length) : SecWf l[j] := h.2.1 _ (List.getElem_mem hj)
theorem Blk.four {w : World} {g : Nat} {t : TypeId} {x y z u : Value} (h : Blk w g t [x, y, z, u]) : w.cell? ⟨g, 0, none⟩ = some x ∧ w.cell? ⟨g, 1, none⟩ = some y ∧ w.cell? ⟨g, 2, none⟩ = some z ∧ w.cell? ⟨g, 3, none⟩ = some u :=
  ⟨h.cell 0 (by simp), h.cell 1 (by simp), h.cell 2 (by simp), h.cell 3 (by simp)⟩
/-- make([]T, n) of elements of more than one cell: some block of so many cells. -/
theorem wpList_make_some {P : Program} {w w0 : World} {ops : Array Oper} {rest : List Oper} {o : Oper} {a : Act} {Q : Exit → Act → World → Prop} (hg : o.guard = none) (l c : Operand) (t : TypeId) (hop : o.op = Op.makeSlice t l c)
    (base : Nat) (e : TypeId) (i : TypeInfo) (z : Value) (size bytes : Nat) (ht : P.underlying t = some (.slice e)) (hi : P.info? e = some i) (hz : i.zero = some z) (hsize : i.size = size) (hby : i.bytes = bytes)
    (kl kc : IntKind) (L C : Int) (n : Nat) (hl : a.eval l = .int kl L) (hc : a.eval c = .int kc C) (hL : L = (n : Int)) (hC : C = (n : Int)) (hn : bytes * n ≤ 281474976710656) (hn2 : n ≤ 1048576) (hbel : Below base w0 w) (hB : base ≤ w.heap.size)
    (h : ∀ w' cs, Blk w' w.heap.size e cs → cs.length = n * size → Below base w0 w' → wpList P ops Q rest (a.put o.dst (.slice (some ⟨w.heap.size, 0, none⟩) n n)) w') : wpList P ops Q (o :: rest) a w := by
  refine wpList_make_full w hg l c t hop base e i z size ht hi hz hsize kl kc L C n hl hc hL hC (by rw [hby]; omega) (by unfold maxLen; omega) hB ?_
  intro w' ho hg'
  rcases ho.2 with ⟨h', _⟩ | ⟨g, cap, cur, h', _, hh, _, _, hcs, htk⟩
  · simp at h'
  · simp at h'
    obtain ⟨rfl, rfl⟩ := h'
    exact h w' cur.toList (by unfold Blk; rw [hh]) (by simpa using hcs) (hbel.grown hg' hB (fun k hk => by simp at hk))
/-- A row of which the first k secrets are in. -/
def RowTill (cs : List Value) (l : List Sec) (k : Nat) : Prop := cs.length = l.length * 4 ∧ cs.take (k * 4) = secRow (l.take k)
theorem RowTill.none_ {cs : List Value} {l : List Sec} (h : cs.length = l.length * 4) : RowTill cs l 0 := ⟨h, by simp [secRow]⟩
theorem RowTill.all {cs : List Value} {l : List Sec} {k : Nat} (h : RowTill cs l k) (hk : l.length ≤ k) : cs = secRow l := by
  have h2 := h.2
  rw [List.take_of_length_le (by have := h.1; omega), List.take_of_length_le hk] at h2
  exact h2
theorem RowTill.put {cs : List Value} {l : List Sec} {k : Nat} (h : RowTill cs l k) (hk : k < l.length) :
    RowTill ((((cs.set (k * 4) (.string l[k].name)).set (k * 4 + 1) (.int .i64 l[k].seat)).set (k * 4 + 2) (.string l[k].word)).set (k * 4 + 3) (.string l[k].prompt)) l (k + 1) := by
  refine ⟨by simp [h.1], ?_⟩
  have hc := h.1
  apply List.ext_getElem?
  intro i
  have hr : (secRow (l.take (k + 1))).length = (k + 1) * 4 := by rw [secRow_len, List.length_take]; omega
  by_cases hi : i < (k + 1) * 4
  · rw [List.getElem?_take_of_lt hi]
    by_cases hlo : i < k * 4
    · rw [List.getElem?_set_ne (by omega), List.getElem?_set_ne (by omega), List.getElem?_set_ne (by omega), List.getElem?_set_ne (by omega)]
      have h2 : (cs.take (k * 4))[i]? = (secRow (l.take k))[i]? := by rw [h.2]
      rw [List.getElem?_take_of_lt hlo] at h2
      rw [h2, List.take_succ_eq_append_getElem hk]
      unfold secRow
      rw [List.flatMap_append, List.getElem?_append_left]
      have := secRow_len (l.take k)
      unfold secRow at this
      rw [this, List.length_take]; omega
    · obtain ⟨m, hm, rfl⟩ : ∃ m, m < 4 ∧ i = k * 4 + m := ⟨i - k * 4, by omega, by omega⟩
      rw [secRow_at (l.take (k + 1)) k m hm (by rw [List.length_take]; omega), List.getElem_take]
      rcases (show m = 0 ∨ m = 1 ∨ m = 2 ∨ m = 3 by omega) with rfl | rfl | rfl | rfl
      · rw [List.getElem?_set_ne (by omega), List.getElem?_set_ne (by omega), List.getElem?_set_ne (by omega), Nat.add_zero, List.getElem?_set_self (by omega)]; rfl
      · rw [List.getElem?_set_ne (by omega), List.getElem?_set_ne (by omega), List.getElem?_set_self (by simp; omega)]; rfl
      · rw [List.getElem?_set_ne (by omega), List.getElem?_set_self (by simp; omega)]; rfl
      · rw [List.getElem?_set_self (by simp; omega)]; rfl
  · rw [List.getElem?_eq_none (by rw [List.length_take]; omega), List.getElem?_eq_none (by omega)]
theorem Blk.set4 {w : World} {g : Nat} {t : TypeId} {cs : List Value} (h : Blk w g t cs) (i j k m : Nat) (a b c d : Value) :
    Blk ((((w.setCell ⟨g, i, none⟩ a).setCell ⟨g, j, none⟩ b).setCell ⟨g, k, none⟩ c).setCell ⟨g, m, none⟩ d) g t ((((cs.set i a).set j b).set k c).set m d) := (((h.set i a).set j b).set k c).set m d
theorem below_set4 {B : Nat} {w0 w : World} (h : Below B w0 w) {g : Nat} (hg : B ≤ g) (i j k m : Nat) (a b c d : Value) :
    Below B w0 ((((w.setCell ⟨g, i, none⟩ a).setCell ⟨g, j, none⟩ b).setCell ⟨g, k, none⟩ c).setCell ⟨g, m, none⟩ d) := (((h.setCell (p := ⟨g, i, none⟩) hg a).setCell (p := ⟨g, j, none⟩) hg b).setCell (p := ⟨g, k, none⟩) hg c).setCell (p := ⟨g, m, none⟩) hg d
/-- A call that answers a value, and writes into new memory alone. -/
def Gives (v : Value) (w : World) (e : Ending) (w' : World) : Prop := e = .returned v ∧ Below w.heap.size w w'

/-- How much is left when a secret of that size is taken. -/
def SzOut (p : Prop) (left : Int) (w : World) (e : Ending) (w' : World) : Prop := ∃ r : Int, e = .returned (.int .i64 r) ∧ (r = -1 ∨ (0 ≤ r ∧ r ≤ left ∧ p)) ∧ Below w.heap.size w w'
def secSmall (x : Sec) : Prop := x.name.size ≤ 1048576 ∧ x.word.size ≤ 1048576 ∧ x.prompt.size ≤ 1048576
def Small (l : List Sec) : Prop := l.length ≤ 1048576 ∧ ∀ x ∈ l, secSmall x
end Go.Proofs.Ytajnligcngekcaa
