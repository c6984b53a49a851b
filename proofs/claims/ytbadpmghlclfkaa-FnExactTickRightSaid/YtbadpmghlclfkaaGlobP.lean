/- The model's parts of a glob: a row of structs of the call's own; GlobRight of the model. -/
import Derived.Test.YtbadpmghlclfkaaGlobF
namespace Go.Proofs.Ytbadpmghlclfkaa
open Go.RowKit

def ptV : Pt → List Value
  | .star => [.bool true, .bool false, .int .u8 0]
  | .any => [.bool false, .bool true, .int .u8 0]
  | .byte b => [.bool false, .bool false, .int .u8 (b.toNat : Int)]
theorem ptV_three (x : Pt) : (ptV x).length = 3 := by cases x <;> rfl
theorem ptV_row (ps : List Pt) : (ps.flatMap ptV).length = ps.length * 3 := by
  induction ps with
  | nil => rfl
  | cons p ps ih => rw [List.flatMap_cons, List.length_append, ih, ptV_three, List.length_cons]; omega
theorem new_part (w : World) (x : Pt) (t : TypeId) (j : Nat) (u : Value) (h : (ptV x)[j]? = some u) : (w.alloc (.cells (ptV x).toArray t)).cell? ((⟨w.heap.size, 0, none⟩ : Addr).add j) = some u := by
  have e1 : (⟨w.heap.size, 0, none⟩ : Addr).add j = ⟨w.heap.size, j, none⟩ := by unfold Addr.add; split <;> simp_all
  rw [e1, cell_of_row _ _ _ _ _ _ (heap_alloc_new w _), List.getElem?_toArray, h]
/-- How far the parts have been read. -/
def PartsAt (l : List UInt8) (k : Nat) (pre : List Pt) : Prop := pre.length ≤ k ∧ parts l = (parts (l.drop k)).map (pre ++ ·)
theorem PartsAt.put {l : List UInt8} {k n : Nat} {pre : List Pt} {x : Pt} (h : PartsAt l k pre) (hk : k + 1 ≤ n) (hx : parts (l.drop k) = (parts (l.drop n)).map (x :: ·)) : PartsAt l n (pre ++ [x]) := by
  refine ⟨by have := h.1; simp; omega, ?_⟩
  rw [h.2, hx]
  cases parts (l.drop n) <;> simp
theorem own_slice {w : World} {base : Nat} {e : TypeId} {size n : Nat} {v : Value} {xs : List Value} (h : w.ownsRow base e size v n xs) : ∃ A cap, v = .slice A n cap := by
  rcases h.2 with ⟨rfl, rfl⟩ | ⟨g, cap, cur, rfl, _⟩
  · exact ⟨none, 0, rfl⟩
  · exact ⟨_, cap, rfl⟩
theorem PartsAt.all {l : List UInt8} {pre : List Pt} (h : PartsAt l l.length pre) : parts l = some pre := by
  rw [h.2, parts_end (Nat.le_refl _)]; simp
theorem ok_of {l : List UInt8} {pre : List Pt} (h : PartsAt l l.length pre) : globOk l = (decide (1 ≤ l.length) && decide (l.length ≤ 40)) := by
  simp [globOk, h.all]

end Go.Proofs.Ytbadpmghlclfkaa
