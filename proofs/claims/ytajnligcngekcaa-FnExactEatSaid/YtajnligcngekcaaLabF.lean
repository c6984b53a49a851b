/- The program's marked texts: cut, redacted, all marks. -/
import Derived.Test.YtajnligcngekcaaLabE
namespace Go.Proofs.Ytajnligcngekcaa
open Go.RowKit

def cutR (t : ByteArray) (l : List Int) (a b : Int) : LabR := if labB t l = true then (if 0 ≤ a ∧ a ≤ b ∧ b ≤ (t.size : Int) then ⟨0, bytesOf ((t.data.toList.drop a.toNat).take (b.toNat - a.toNat)), (l.drop a.toNat).take (b.toNat - a.toNat)⟩ else noLab 8) else noLab 1
theorem cutR_no {t : ByteArray} {l : List Int} {a b : Int} (h : labB t l = false) : cutR t l a b = noLab 1 := by rw [cutR, if_neg (by rw [h]; simp)]
theorem cutR_range {t : ByteArray} {l : List Int} {a b : Int} (h : labB t l = true) (h1 : ¬ (0 ≤ a ∧ a ≤ b ∧ b ≤ (t.size : Int))) : cutR t l a b = noLab 8 := by rw [cutR, if_pos h, if_neg h1]
theorem cutR_ok {t : ByteArray} {l : List Int} {a b : Nat} (h : labB t l = true) (h1 : a ≤ b) (h2 : b ≤ t.size) : cutR t l (a : Int) (b : Int) = ⟨0, bytesOf ((t.data.toList.drop a).take (b - a)), (l.drop a).take (b - a)⟩ := by rw [cutR, if_pos h, if_pos (by omega)]; rfl
theorem cells_part (T : List UInt8) (l : List Int) (a n : Nat) : ((cellsL T l).drop a).take n = cellsL ((T.drop a).take n) ((l.drop a).take n) := by
  unfold cellsL; rw [List.drop_zipWith, List.take_zipWith]
end Go.Proofs.Ytajnligcngekcaa
