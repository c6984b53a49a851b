/- Slices of texts: what can be read in them; rows of the call's own. -/
import Derived.Test.YtbadpmghlclfkaaDoorBlk
import Derived.Laws.OwnMore
import Derived.ArgAppend
namespace Go.Proofs.YtbadpmghlclfkaaDoor
open Go.RowKit

def txV (x : ByteArray) : Value := .string x
/-- A slice that reads as l. -/
def Txts (w : World) (v : Value) (l : List ByteArray) : Prop :=
  l.length ≤ 1048576 ∧ ∃ A cap, v = .slice A l.length cap ∧ l.length ≤ cap ∧ (0 < l.length → ∃ b off, A = some ⟨b, off, none⟩ ∧ ∀ i (h : i < l.length), w.cell? ⟨b, off + i, none⟩ = some (.string l[i]))
theorem Txts.keep {w w' : World} {v : Value} {l : List ByteArray} (h : Txts w v l) (hb : ∀ a x, w.cell? a = some x → w'.cell? a = some x) : Txts w' v l := by
  obtain ⟨h1, A, cap, rfl, hc, h2⟩ := h
  refine ⟨h1, A, cap, rfl, hc, fun h0 => ?_⟩
  obtain ⟨b, off, rfl, hc⟩ := h2 h0
  exact ⟨b, off, rfl, fun i hi => hb _ _ (hc i hi)⟩
theorem Txts.at_ {w : World} {A : Option Addr} {n cap : Nat} {l : List ByteArray} (h : Txts w (.slice A n cap) l) (k : Nat) (hk : k < l.length) : ∃ b off, A = some ⟨b, off, none⟩ ∧ b < w.heap.size ∧ w.cell? ⟨b, off + k, none⟩ = some (.string l[k]) := by
  obtain ⟨h1, A', cap', e, _, h2⟩ := h
  cases e
  obtain ⟨b, off, rfl, hc⟩ := h2 (by omega)
  exact ⟨b, off, rfl, World.block_lt_of_cell? w _ (hc k hk), hc k hk⟩
theorem Txts.form {w : World} {v : Value} {l : List ByteArray} (h : Txts w v l) : ∃ A cap, v = .slice A l.length cap := by
  obtain ⟨h1, A, cap, rfl, _, h2⟩ := h; exact ⟨A, cap, rfl⟩
theorem Txts.cap_le {w : World} {A : Option Addr} {n cap : Nat} {l : List ByteArray} (h : Txts w (.slice A n cap) l) : l.length ≤ cap := by
  obtain ⟨h1, A', cap', e, h3, h2⟩ := h; cases e; exact h3
theorem Txts.below {w w' : World} {v : Value} {l : List ByteArray} (h : Txts w v l) (k : Below w.heap.size w w') : Txts w' v l := h.keep (cell_below k (Nat.le_refl _))
theorem Txts.alloc {w : World} {v : Value} {l : List ByteArray} (h : Txts w v l) (o : Obj) : Txts (w.alloc o) v l := h.below ((Below.refl _ _).alloc (Nat.le_refl _) _)
theorem Txts.drew {w : World} {v : Value} {l : List ByteArray} (h : Txts w v l) : Txts w.drew v l := h.keep fun _ _ h => h
/-- A row of texts of the call's own. -/
def OwnTxts (w : World) (base : Nat) (v : Value) (l : List ByteArray) : Prop := l.length ≤ 1048576 ∧ w.ownsRow base 9 1 v l.length (l.map txV)
theorem OwnTxts.txts {w : World} {base : Nat} {v : Value} {l : List ByteArray} (h : OwnTxts w base v l) : Txts w v l := by
  refine ⟨h.1, ?_⟩
  have hc := fun (g : Nat) (hg : v.ownBlock = some g) => World.ownsRow.cells h.2 hg
  rcases h.2.2 with ⟨rfl, hn⟩ | ⟨g, cap, cur, rfl, hb, hh, hnc, hcm, hcs, ht⟩
  · exact ⟨none, 0, by rw [hn], by omega, fun h0 => by omega⟩
  · refine ⟨_, cap, rfl, hnc, fun h0 => ⟨g, 0, rfl, fun i hi => ?_⟩⟩
    have := hc g rfl i (.string l[i]) (by simp [List.getElem?_eq_getElem hi]; rfl)
    have e1 : (⟨g, 0, none⟩ : Addr).add i = ⟨g, 0 + i, none⟩ := by unfold Addr.add; split <;> simp_all
    rw [← e1]; exact this
theorem OwnTxts.nil (w : World) (base : Nat) : OwnTxts w base (.slice none 0 0) [] := ⟨by simp, World.ownsRow_nil w base _ 1⟩
theorem OwnTxts.kept {w w' : World} {base : Nat} {v : Value} {l : List ByteArray} {row : Option Nat} (h : OwnTxts w base v l) (hg : w.grownBy w' row) (hne : v.ownBlock = none ∨ v.ownBlock ≠ row) : OwnTxts w' base v l := ⟨h.1, h.2.kept hg hne⟩
theorem OwnTxts.below {w w' : World} {base : Nat} {v : Value} {l : List ByteArray} (h : OwnTxts w base v l) (k : Below w.heap.size w w') : OwnTxts w' base v l :=
  h.kept (grown_of_below k (Nat.le_refl _)) (by cases v.ownBlock <;> simp)
theorem OwnTxts.mono {w : World} {b c : Nat} {v : Value} {l : List ByteArray} (h : OwnTxts w c v l) (hb : b ≤ c) : OwnTxts w b v l := by
  refine ⟨h.1, h.2.1, ?_⟩
  rcases h.2.2 with h | ⟨g, cap, cur, h1, h2, h3⟩
  · exact .inl h
  · exact .inr ⟨g, cap, cur, h1, Nat.le_trans hb h2, h3⟩
theorem Tryd.infoS9 : (Tryd.prog.info? 9).map (fun i => (i.zero, i.size, i.bytes)) = some (some (.string ByteArray.empty), 1, 16) := by kernel_rfl

/-- append(own, those...): those can be nil, or any that can be read. -/
theorem wpList_append_txts {w w0 : World} {ops : Array Oper} {rest : List Oper} {o : Oper} {a : Act} {Q : Exit → Act → World → Prop} (hgd : o.guard = none) (s x : Operand)
    (ho : o.op = .call { callee := .builtin .append, args := #[s, x], argTypes := #[80, 80] })
    (base : Nat) (v u : Value) (l m : List ByteArray) (hs : a.eval s = v) (hown : OwnTxts w base v l) (hx : a.eval x = u) (hin : Txts w u m) (hlen : l.length + m.length ≤ 1048576)
    (hbel : Below base w0 w) (hB : base ≤ w.heap.size)
    (h : ∀ v' w', OwnTxts w' base v' (l ++ m) → Below base w0 w' → wpList Tryd.prog ops Q rest (a.put o.dst v') w') : wpList Tryd.prog ops Q (o :: rest) a w := by
  obtain ⟨i0, hi, hz0, hz1, hz2⟩ := info_parts Tryd.infoS9
  obtain ⟨hm1, A, cap, rfl, _, hc⟩ := hin
  cases A with
  | none =>
    have h0 : m = [] := by
      cases m with
      | nil => rfl
      | cons c t => obtain ⟨b, off, e, _⟩ := hc (by simp); cases e
    subst h0
    refine wpList_plain hgd fun K hK => ?_
    have hrun : (Builtin.append_ #[80, 80] o.type #[v, .slice none 0 cap]).run Tryd.prog w = .ok v w := by
      rcases hown.2.2 with ⟨rfl, hn⟩ | ⟨g, cap, cur, rfl, _, _, hnc, _⟩
      · simp [Builtin.append_, run_underlying Tryd.underlying80, sizeOf, typeInfo, hi, Builtin.lenOf, Builtin.firstCells]
      · simp [Builtin.append_, run_underlying Tryd.underlying80, sizeOf, typeInfo, hi, Builtin.lenOf, Builtin.firstCells, storeCells, hnc]
    unfold Oper.wp
    simp [execOp, ho, resolve, invoke, builtin, hs, hx, hrun, Result.andThen]
    rw [List.append_nil] at h
    exact hK _ _ (h v w hown hbel)
  | some ad =>
    refine wpList_append_own w hgd s x 80 ho base 9 i0 (.string ByteArray.empty) 1 16 Tryd.underlying80 hi hz0 hz1 hz2 rfl (by decide) v l.length (l.map txV) hs hown.2 ad m.length cap (m.map txV) hx (by simp) ?_ ?_ (by unfold maxLen; omega) (by omega) hB ?_
    · intro j y hj
      rw [List.getElem?_map] at hj
      have hjl : j < m.length := by
        rcases Nat.lt_or_ge j m.length with h | h
        · exact h
        · rw [List.getElem?_eq_none h] at hj; simp at hj
      rw [List.getElem?_eq_getElem hjl] at hj
      simp at hj; subst hj
      obtain ⟨b, off, e, hcell⟩ := hc (by omega)
      cases e
      have e1 : (⟨b, off, none⟩ : Addr).add j = ⟨b, off + j, none⟩ := by unfold Addr.add; split <;> simp_all
      rw [e1]; exact hcell j hjl
    · intro y hy
      simp at hy
      obtain ⟨n, _, rfl⟩ := hy
      rfl
    · intro v' w' ho' hg _
      refine h v' w' ⟨by simpa using hlen, ?_⟩ (own_kept hown.2 hbel hg hB)
      rw [List.map_append, List.length_append]; exact ho'
theorem Txts.nil (w : World) (A : Option Addr) : Txts w (.slice A 0 0) [] := ⟨by simp, A, 0, rfl, Nat.le_refl _, fun h => by simp at h⟩
/-- A block that is known whole, read as texts. -/
theorem txts_blk {w : World} {g : Nat} {t : TypeId} {l : List ByteArray} {n : Nat} (h : Blk w g t (l.map txV)) (hn : l.length = n) (hs : n ≤ 1048576) : Txts w (.slice (some ⟨g, 0, none⟩) n n) l := by
  subst hn
  refine ⟨hs, some ⟨g, 0, none⟩, l.length, rfl, Nat.le_refl _, fun _ => ⟨g, 0, rfl, fun i hi => ?_⟩⟩
  rw [Nat.zero_add, h.cell?, List.getElem?_map, List.getElem?_eq_getElem hi]; rfl
/-- append to a slice that has no room: new memory, or itself. -/
theorem run_append_full (w : World) (ty : TypeId) (b n : Nat) (l m : List ByteArray) (u : Value) (hl : l.length = n) (hc : ∀ j (hj : j < l.length), w.cell? ⟨b, j, none⟩ = some (.string l[j])) (hin : Txts w u m) (hlen : l.length + m.length ≤ 1048576) :
    ∃ v' w', (Builtin.append_ #[80, 80] ty #[.slice (some ⟨b, 0, none⟩) n n, u]).run Tryd.prog w = .ok v' w' ∧ Txts w' v' (l ++ m) ∧ Below w.heap.size w w' := by
  obtain ⟨i0, hi, hz0, hz1, hz2⟩ := info_parts Tryd.infoS9
  obtain ⟨hm1, A, cap, rfl, hcap, hmc⟩ := hin
  by_cases h0 : m.length = 0
  · have hm : m = [] := List.eq_nil_of_length_eq_zero h0
    subst hm
    refine ⟨.slice (some ⟨b, 0, none⟩) n n, w, ?_, ?_, Below.refl _ _⟩
    · cases A with
      | none => simp [Builtin.append_, run_underlying Tryd.underlying80, sizeOf, typeInfo, hi, Builtin.lenOf, Builtin.firstCells, storeCells]
      | some a =>
        have hl2 : ∀ w, Sem.run Tryd.prog (loadCellsFrom a 0 0 #[]) w = .ok #[] w := fun w => rfl
        simp [Builtin.append_, hl2, loadCells, Result.andThen, run_underlying Tryd.underlying80, sizeOf, typeInfo, hi, Builtin.lenOf, Builtin.firstCells, storeCells]
    · rw [List.append_nil]
      subst hl
      exact ⟨by simpa using hlen, some ⟨b, 0, none⟩, l.length, rfl, Nat.le_refl _, fun _ => ⟨b, 0, rfl, fun i hi => by rw [Nat.zero_add]; exact hc i hi⟩⟩
  · obtain ⟨b2, off2, rfl, hmx⟩ := hmc (by omega)
    have e1 : ∀ b off j : Nat, (⟨b, off, none⟩ : Addr).add j = ⟨b, off + j, none⟩ := fun b off j => by unfold Addr.add; split <;> simp_all
    have cellOf : ∀ (k : List ByteArray) (b off : Nat), (∀ j (hj : j < k.length), w.cell? ⟨b, off + j, none⟩ = some (.string k[j])) → ∀ j u, (k.map txV)[j]? = some u → w.cell? ((⟨b, off, none⟩ : Addr).add j) = some u := by
      intro k b off h j u hj
      rw [List.getElem?_map] at hj
      have hjl : j < k.length := by
        rcases Nat.lt_or_ge j k.length with h | h
        · exact h
        · rw [List.getElem?_eq_none h] at hj; simp at hj
      rw [List.getElem?_eq_getElem hjl] at hj
      simp at hj; subst hj
      rw [e1]; exact h j hjl
    obtain ⟨v', w', hr, ho, hg⟩ := run_append_arg_grows (P := Tryd.prog) w 80 ty 9 i0 (.string ByteArray.empty) 1 16 Tryd.underlying80 hi hz0 hz1 hz2 rfl (by decide) ⟨b, 0, none⟩ n n (l.map txV) (by simpa using hl) (cellOf l b 0 (fun j hj => by rw [Nat.zero_add]; exact hc j hj)) ⟨b2, off2, none⟩ m.length cap (m.map txV) (by simp) (cellOf m b2 off2 hmx) (by omega) (by unfold maxLen; omega) (by omega)
    have hb : Below w.heap.size w w' := ⟨hg.os, hg.tape, hg.output, hg.size, fun i hi => hg.block i hi (by simp)⟩
    refine ⟨v', w', hr, ?_, hb⟩
    have hO : OwnTxts w' w.heap.size v' (l ++ m) := ⟨by simpa using hlen, by rw [List.map_append, List.length_append, hl]; exact ho⟩
    exact hO.txts
end Go.Proofs.YtbadpmghlclfkaaDoor
