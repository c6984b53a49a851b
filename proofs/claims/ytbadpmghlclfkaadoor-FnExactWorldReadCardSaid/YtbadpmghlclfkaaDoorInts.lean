/- Slices of int64: what can be read in them; rows of the call's own. -/
import Derived.Test.YtbadpmghlclfkaaDoorBlk
import Derived.Laws.OwnMore
namespace Go.Proofs.YtbadpmghlclfkaaDoor
open Go.RowKit

def intV (n : Int) : Value := .int .i64 n
/-- A slice that reads as l. -/
def Ints (w : World) (v : Value) (l : List Int) : Prop :=
  l.length ≤ 1048576 ∧ ∃ A cap, v = .slice A l.length cap ∧ l.length ≤ cap ∧ (0 < l.length → ∃ b off, A = some ⟨b, off, none⟩ ∧ ∀ i (h : i < l.length), w.cell? ⟨b, off + i, none⟩ = some (.int .i64 l[i]))
theorem Ints.keep {w w' : World} {v : Value} {l : List Int} (h : Ints w v l) (hb : ∀ a x, w.cell? a = some x → w'.cell? a = some x) : Ints w' v l := by
  obtain ⟨h1, A, cap, rfl, hc, h2⟩ := h
  refine ⟨h1, A, cap, rfl, hc, fun h0 => ?_⟩
  obtain ⟨b, off, rfl, hc⟩ := h2 h0
  exact ⟨b, off, rfl, fun i hi => hb _ _ (hc i hi)⟩
theorem Ints.at_ {w : World} {A : Option Addr} {n cap : Nat} {l : List Int} (h : Ints w (.slice A n cap) l) (k : Nat) (hk : k < l.length) : ∃ b off, A = some ⟨b, off, none⟩ ∧ b < w.heap.size ∧ w.cell? ⟨b, off + k, none⟩ = some (.int .i64 l[k]) := by
  obtain ⟨h1, A', cap', e, _, h2⟩ := h
  cases e
  obtain ⟨b, off, rfl, hc⟩ := h2 (by omega)
  exact ⟨b, off, rfl, World.block_lt_of_cell? w _ (hc k hk), hc k hk⟩
theorem Ints.form {w : World} {v : Value} {l : List Int} (h : Ints w v l) : ∃ A cap, v = .slice A l.length cap := by
  obtain ⟨h1, A, cap, rfl, _, h2⟩ := h; exact ⟨A, cap, rfl⟩
theorem Ints.cap_le {w : World} {A : Option Addr} {n cap : Nat} {l : List Int} (h : Ints w (.slice A n cap) l) : l.length ≤ cap := by
  obtain ⟨h1, A', cap', e, h3, h2⟩ := h; cases e; exact h3
theorem ints_of_row {w : World} {x : Addr} {len cap : Nat} {zs : List Int} (hlen : len ≤ zs.length) (hl : len ≤ cap) (hc : ∀ i, i < zs.length → w.cell? (x.add i) = some (.int .i64 (zs.getD i 0))) (hs : len ≤ 1048576) : Ints w (.slice (some x) len cap) (zs.take len) := by
  have hl2 : (zs.take len).length = len := by rw [List.length_take]; omega
  refine ⟨by rw [hl2]; exact hs, some x, cap, by rw [hl2], by rw [hl2]; exact hl, fun h0 => ?_⟩
  rw [hl2] at h0
  obtain ⟨b, off, spot⟩ := x
  have hc0 := hc 0 (by omega)
  have hspot : spot = none := by simpa [Addr.add] using World.cell?_spot hc0
  subst hspot
  refine ⟨b, off, rfl, fun i hi => ?_⟩
  have hi2 : i < zs.length := by omega
  have hci := hc i hi2
  have e1 : (⟨b, off, none⟩ : Addr).add i = ⟨b, off + i, none⟩ := by unfold Addr.add; split <;> simp_all
  rw [e1] at hci
  rw [hci, List.getElem_take]
  simp [List.getD_eq_getElem?_getD, List.getElem?_eq_getElem hi2]
theorem Ints.below {w w' : World} {v : Value} {l : List Int} (h : Ints w v l) (k : Below w.heap.size w w') : Ints w' v l := h.keep (cell_below k (Nat.le_refl _))
theorem Ints.alloc {w : World} {v : Value} {l : List Int} (h : Ints w v l) (o : Obj) : Ints (w.alloc o) v l := h.below ((Below.refl _ _).alloc (Nat.le_refl _) _)
theorem Ints.drew {w : World} {v : Value} {l : List Int} (h : Ints w v l) : Ints w.drew v l := h.keep fun _ _ h => h
/-- A row of int64 of the call's own. -/
def OwnInts (w : World) (base : Nat) (v : Value) (l : List Int) : Prop := l.length ≤ 1048576 ∧ w.ownsRow base 2 1 v l.length (l.map intV)
theorem OwnInts.ints {w : World} {base : Nat} {v : Value} {l : List Int} (h : OwnInts w base v l) : Ints w v l := by
  refine ⟨h.1, ?_⟩
  have hc := fun (g : Nat) (hg : v.ownBlock = some g) => World.ownsRow.cells h.2 hg
  rcases h.2.2 with ⟨rfl, hn⟩ | ⟨g, cap, cur, rfl, hb, hh, hnc, hcm, hcs, ht⟩
  · exact ⟨none, 0, by rw [hn], by omega, fun h0 => by omega⟩
  · refine ⟨_, cap, rfl, hnc, fun h0 => ⟨g, 0, rfl, fun i hi => ?_⟩⟩
    have := hc g rfl i (.int .i64 l[i]) (by simp [List.getElem?_eq_getElem hi]; rfl)
    have e1 : (⟨g, 0, none⟩ : Addr).add i = ⟨g, 0 + i, none⟩ := by unfold Addr.add; split <;> simp_all
    rw [← e1]; exact this
theorem OwnInts.nil (w : World) (base : Nat) : OwnInts w base (.slice none 0 0) [] := ⟨by simp, World.ownsRow_nil w base _ 1⟩
theorem OwnInts.kept {w w' : World} {base : Nat} {v : Value} {l : List Int} {row : Option Nat} (h : OwnInts w base v l) (hg : w.grownBy w' row) (hne : v.ownBlock = none ∨ v.ownBlock ≠ row) : OwnInts w' base v l := ⟨h.1, h.2.kept hg hne⟩
theorem OwnInts.below {w w' : World} {base : Nat} {v : Value} {l : List Int} (h : OwnInts w base v l) (k : Below w.heap.size w w') : OwnInts w' base v l :=
  h.kept (grown_of_below k (Nat.le_refl _)) (by cases v.ownBlock <;> simp)
theorem OwnInts.mono {w : World} {b c : Nat} {v : Value} {l : List Int} (h : OwnInts w c v l) (hb : b ≤ c) : OwnInts w b v l := by
  refine ⟨h.1, h.2.1, ?_⟩
  rcases h.2.2 with h | ⟨g, cap, cur, h1, h2, h3⟩
  · exact .inl h
  · exact .inr ⟨g, cap, cur, h1, Nat.le_trans hb h2, h3⟩
theorem Tryd.info2 : (Tryd.prog.info? 2).map (fun i => (i.zero, i.size, i.bytes)) = some (some (.int .i64 0), 1, 8) := by kernel_rfl

/-- append(own, those...): those can be nil, or any that can be read. -/
theorem wpList_append_ints {w w0 : World} {ops : Array Oper} {rest : List Oper} {o : Oper} {a : Act} {Q : Exit → Act → World → Prop} (hgd : o.guard = none) (s x : Operand)
    (ho : o.op = .call { callee := .builtin .append, args := #[s, x], argTypes := #[44, 44] })
    (base : Nat) (v u : Value) (l m : List Int) (hs : a.eval s = v) (hown : OwnInts w base v l) (hx : a.eval x = u) (hin : Ints w u m) (hlen : l.length + m.length ≤ 1048576)
    (hbel : Below base w0 w) (hB : base ≤ w.heap.size)
    (h : ∀ v' w', OwnInts w' base v' (l ++ m) → Below base w0 w' → wpList Tryd.prog ops Q rest (a.put o.dst v') w') : wpList Tryd.prog ops Q (o :: rest) a w := by
  obtain ⟨i0, hi, hz0, hz1, hz2⟩ := info_parts Tryd.info2
  obtain ⟨hm1, A, cap, rfl, _, hc⟩ := hin
  cases A with
  | none =>
    have h0 : m = [] := by
      cases m with
      | nil => rfl
      | cons c t => obtain ⟨b, off, e, _⟩ := hc (by simp); cases e
    subst h0
    refine wpList_plain hgd fun K hK => ?_
    have hrun : (Builtin.append_ #[44, 44] o.type #[v, .slice none 0 cap]).run Tryd.prog w = .ok v w := by
      rcases hown.2.2 with ⟨rfl, hn⟩ | ⟨g, cap, cur, rfl, _, _, hnc, _⟩
      · simp [Builtin.append_, run_underlying Tryd.underlying44, sizeOf, typeInfo, hi, Builtin.lenOf, Builtin.firstCells]
      · simp [Builtin.append_, run_underlying Tryd.underlying44, sizeOf, typeInfo, hi, Builtin.lenOf, Builtin.firstCells, storeCells, hnc]
    unfold Oper.wp
    simp [execOp, ho, resolve, invoke, builtin, hs, hx, hrun, Result.andThen]
    rw [List.append_nil] at h
    exact hK _ _ (h v w hown hbel)
  | some ad =>
    refine wpList_append_own w hgd s x 44 ho base 2 i0 (.int .i64 0) 1 8 Tryd.underlying44 hi hz0 hz1 hz2 rfl (by decide) v l.length (l.map intV) hs hown.2 ad m.length cap (m.map intV) hx (by simp) ?_ ?_ (by unfold maxLen; omega) (by omega) hB ?_
    · intro j y hj
      rw [List.getElem?_map] at hj
      have hjl : j < m.length := by
        rcases Nat.lt_or_ge j m.length with h | h
        · exact h
        · rw [List.getElem?_eq_none h] at hj; simp at hj
      rw [List.getElem?_eq_getElem hjl] at hj
      simp at hj; subst hj
      obtain ⟨b, off, e, hcell⟩ := hc (by omega)
      cases e
      have e1 : (⟨b, off, none⟩ : Addr).add j = ⟨b, off + j, none⟩ := by unfold Addr.add; split <;> simp_all
      rw [e1]; exact hcell j hjl
    · intro y hy
      simp at hy
      obtain ⟨n, _, rfl⟩ := hy
      rfl
    · intro v' w' ho' hg _
      refine h v' w' ⟨by simpa using hlen, ?_⟩ (own_kept hown.2 hbel hg hB)
      rw [List.map_append, List.length_append]; exact ho'
end Go.Proofs.YtbadpmghlclfkaaDoor
