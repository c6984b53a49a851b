/- Twin of the model. -/
import Derived.Test.YtbadpmghlclfkaaDoorVaultI
import Derived.Test.YtbadpmghlclfkaaDoorVaultU
import Derived.Test.YtbadpmghlclfkaaDoorBuf
namespace Go.Proofs.YtbadpmghlclfkaaDoor
open Go.RowKit

/-- A row of secrets that grows. -/
def OwnRow (w : World) (base : Nat) (v : Value) (l : List Sec) : Prop := w.ownsRow base 100 4 v l.length (secRow l)
theorem OwnRow.alloc {w : World} {base : Nat} {v : Value} {l : List Sec} (h : OwnRow w base v l) (o : Obj) : OwnRow (w.alloc o) base v l := World.ownsRow.alloc h o
theorem OwnRow.below {w w' : World} {base : Nat} {v : Value} {l : List Sec} (h : OwnRow w base v l) (k : Below w.heap.size w w') : OwnRow w' base v l := World.ownsRow.kept h (grown_of_below k (Nat.le_refl _)) (by
  rcases h.2 with ⟨rfl, _⟩ | ⟨g, cap, cur, rfl, _⟩
  · exact .inl rfl
  · exact .inr (by simp [Value.ownBlock]))
theorem OwnRow.setOther {w : World} {base g : Nat} {v : Value} {l : List Sec} (h : OwnRow w base v l) (hg : v.ownBlock ≠ some g) (i : Nat) (u : Value) : OwnRow (w.setCell ⟨g, i, none⟩ u) base v l :=
  World.ownsRow.kept h (grown_put (World.grownBy.refl w (some g)) i u) (.inr hg)
theorem OwnRow.lt {w : World} {base : Nat} {v : Value} {l : List Sec} (h : OwnRow w base v l) : ∀ g, v.ownBlock = some g → g < w.heap.size := by
  intro k hk
  rcases h.2 with ⟨rfl, _⟩ | ⟨g, cap, cur, rfl, hb, hh, _⟩
  · simp [Value.ownBlock] at hk
  · simp [Value.ownBlock] at hk
    subst hk
    exact lt_of_block hh
theorem OwnRow.secs {w : World} {base : Nat} {v : Value} {l : List Sec} (h : OwnRow w base v l) (hl : l.length ≤ 1048576) (hwf : ∀ x ∈ l, SecWf x) : Secs w v l := by
  have h' := h
  rcases h.2 with ⟨rfl, h0⟩ | ⟨g, cap, cur, rfl, hb, hg, hnc, hcm, hcs, ht⟩
  · exact ⟨by unfold maxLen; omega, hwf, none, 0, by rw [h0], fun h => by omega⟩
  · refine ⟨by unfold maxLen; omega, hwf, _, cap, rfl, fun h0 => ⟨g, 0, rfl, lt_of_block hg, fun j hj m hm => ?_⟩⟩
    rw [Nat.zero_add, ← secRow_at l j m hm hj]
    exact World.ownsRow.cellAt h' (j * 4 + m) (by omega)
theorem new_sec (w : World) (y : Sec) (t : TypeId) (j : Nat) (u : Value) (h : (secV y)[j]? = some u) : (w.alloc (.cells (secV y).toArray t)).cell? ((⟨w.heap.size, 0, none⟩ : Addr).add j) = some u := by
  have e1 : (⟨w.heap.size, 0, none⟩ : Addr).add j = ⟨w.heap.size, j, none⟩ := by unfold Addr.add; split <;> simp_all
  rw [e1, cell_of_row _ _ _ _ _ _ (heap_alloc_new w _), List.getElem?_toArray, h]
/-- One secret appended. -/
theorem wpList_append_sec {w w0 : World} {ops : Array Oper} {rest : List Oper} {o : Oper} {a : Act} {Q : Exit → Act → World → Prop} (hgd : o.guard = none) (s x : Operand)
    (ho : o.op = .call { callee := .builtin .append, args := #[s, x], argTypes := #[61, 61] })
    (base : Nat) (v : Value) (l : List Sec) (y : Sec) (t : TypeId) (hs : a.eval s = v) (hown : OwnRow w base v l) (hx : a.eval x = .slice (some ⟨w.heap.size, 0, none⟩) 1 1)
    (hlen : l.length < 1048576) (hbel : Below base w0 w) (hB : base ≤ w.heap.size)
    (h : ∀ v' w', OwnRow w' base v' (l ++ [y]) → Below base w0 w' → wpList Tryd.prog ops Q rest (a.put o.dst v') w') : wpList Tryd.prog ops Q (o :: rest) a (w.alloc (.cells (secV y).toArray t)) := by
  obtain ⟨i0, hi, hz0, hz1, hz2⟩ := info_parts Tryd.info100
  refine wpList_append_own _ hgd s x 61 ho base 100 i0 _ 4 56 Tryd.underlying61 hi hz0 hz1 hz2 rfl (by decide) v l.length _ hs (hown.alloc _) ⟨w.heap.size, 0, none⟩ 1 1 (secV y) hx rfl (fun j u hj => new_sec w y t j u hj) ?_ (by unfold maxLen; omega) (by omega) (by simp; omega) ?_
  · intro u hu
    simp [secV] at hu
    rcases hu with rfl | rfl | rfl | rfl <;> rfl
  · intro v' w' ho' hg _
    refine h v' w' ?_ (own_kept (World.ownsRow.alloc hown _) (hbel.alloc hB _) hg (by simp; omega))
    unfold OwnRow secRow
    rw [List.flatMap_append, List.length_append]
    rw [List.flatMap_cons, List.flatMap_nil, List.append_nil]
    exact ho'
/-- A word of which the first k letters are turned on. -/
def mixL (n : Nat) (T : List UInt8) (k : Nat) : List UInt8 := turnL n (T.take k) ++ T.drop k
theorem mixL_len (n : Nat) (T : List UInt8) (k : Nat) : (mixL n T k).length = T.length := by unfold mixL turnL; simp; omega
theorem mixL_at (n : Nat) (T : List UInt8) (k : Nat) (hk : k < T.length) (h : k < (mixL n T k).length) : (mixL n T k)[k] = T[k] := by
  have e : (mixL n T k)[k]? = T[k]? := by
    unfold mixL
    have hl : (turnL n (T.take k)).length = k := by unfold turnL; simp; omega
    rw [List.getElem?_append_right (by omega), hl, Nat.sub_self]
    simp
  rw [List.getElem?_eq_getElem h, List.getElem?_eq_getElem hk] at e
  exact Option.some.inj e
theorem mixL_set (n : Nat) (T : List UInt8) (k : Nat) (hk : k < T.length) : (mixL n T k).set k (turnB n T[k]) = mixL n T (k + 1) := by
  have hl : (turnL n (T.take k)).length = k := by unfold turnL; simp; omega
  unfold mixL
  rw [List.set_append, if_neg (by omega), hl, Nat.sub_self, List.drop_eq_getElem_cons hk, List.set_cons_zero, List.take_succ_eq_append_getElem hk]
  unfold turnL
  rw [List.map_append, List.append_assoc]; rfl
theorem mixL_all (n : Nat) (T : List UInt8) : mixL n T T.length = turnL n T := by unfold mixL; simp
theorem bytesOf_self (t : ByteArray) : bytesOf t.data.toList = t := bytesOf_data' t
def RowEnd4 (l : List Sec) (w : World) (e : Ending) (w' : World) : Prop := ∃ v, e = .returned v ∧ OwnRow w' w.heap.size v l ∧ Below w.heap.size w w'
end Go.Proofs.YtbadpmghlclfkaaDoor
