/- The draws of globs, and of texts: how long each may be. -/
import Derived.Test.YtbadpmghlclfkaaDoorPick
import Derived.Lib.AppendStr
namespace Go.Proofs.YtbadpmghlclfkaaDoor
open Go.RowKit

theorem strCells_map (s : ByteArray) : Lib.strCells s = s.data.toList.map byteV := rfl
/-- append(own, text...) -/
theorem wpList_append_str {w : World} {ops : Array Oper} {rest : List Oper} {o : Oper} {a : Act} {Q : Exit → Act → World → Prop} (hgd : o.guard = none) (s x : Operand)
    (ho : o.op = .call { callee := .builtin .append, args := #[s, x], argTypes := #[22, 9] })
    (base : Nat) (v : Value) (l : List UInt8) (str : ByteArray) (hs : a.eval s = v) (hown : OwnBytes w base 5 v l) (hx : a.eval x = .string str) (hlen : l.length + str.size ≤ 1048576) (hB : base ≤ w.heap.size)
    (h : ∀ v' w', OwnBytes w' base 5 v' (l ++ str.data.toList) → w.grownBy w' v.ownBlock → wpList Tryd.prog ops Q rest (a.put o.dst v') w') : wpList Tryd.prog ops Q (o :: rest) a w := by
  obtain ⟨i0, hi, hz0, hz1, hz2⟩ := info_parts Tryd.uinfo5
  refine wpList_plain hgd fun K hK => ?_
  obtain ⟨v', w', hr, ho', hg, _⟩ := Lib.run_append_own_string (P := Tryd.prog) (w := w) base 22 9 o.type 5 i0 Tryd.underlying22 Tryd.underlying9 hi hz0 hz1 hz2 v l.length (l.map byteV) hown str (by unfold maxLen; omega) (by omega) hB
  unfold Oper.wp
  simp [execOp, ho, resolve, invoke, builtin, hs, hx, hr, Result.andThen]
  refine hK _ _ (h v' w' ?_ hg)
  unfold OwnBytes
  rw [List.map_append, List.length_append, Array.length_toList]
  exact ho'
theorem OwnBytes.grow {w w' : World} {base g : Nat} {e : TypeId} {v : Value} {l : List UInt8} (h : OwnBytes w base e v l) (k : w.grownBy w' (some g)) (hg : g < base) : OwnBytes w' base e v l := by
  refine World.ownsRow.kept h k ?_
  cases hv : v.ownBlock with
  | none => exact .inl rfl
  | some b => have := (World.ownsRow.lt h b hv).1; exact .inr (by simp; omega)
theorem grown_row {w0 w w' : World} {g base : Nat} {row : Option Nat} (h : w0.grownBy w (some g)) (k : w.grownBy w' row) (hr : ∀ i, row = some i → base ≤ i) (hb : w0.heap.size ≤ base) : w0.grownBy w' (some g) :=
  ⟨k.os.trans h.os, k.tape.trans h.tape, k.output.trans h.output, Nat.le_trans h.size k.size, fun i hi hne => (k.block i (Nat.lt_of_lt_of_le hi h.size) (fun e => by have := hr i e.symm; omega)).trans (h.block i hi hne)⟩

end Go.Proofs.YtbadpmghlclfkaaDoor
