/- VaultMarks of the program (the marks lie in a table) and of the model. The premise 'Four': the table holds 1, 2, 4, 8. -/
import Derived.Test.YtajnligcngekcaaDoorVaultU
namespace Go.Proofs.YtajnligcngekcaaDoor
open Go.RowKit

/-- The table of the marks. -/
def Four (w : World) : Prop := w.cell? ⟨0, 0, none⟩ = some (.int .i64 1) ∧ w.cell? ⟨0, 1, none⟩ = some (.int .i64 2) ∧ w.cell? ⟨0, 2, none⟩ = some (.int .i64 4) ∧ w.cell? ⟨0, 3, none⟩ = some (.int .i64 8)
theorem Four.pos {w : World} (h : Four w) : 0 < w.heap.size := World.block_lt_of_cell? w _ h.1
theorem Four.below {w w' : World} (h : Four w) (hb : Below w.heap.size w w') : Four w' := by
  have hp := h.pos
  unfold Four at h ⊢
  rw [hb.cell (p := ⟨0, 0, none⟩) hp, hb.cell (p := ⟨0, 1, none⟩) hp, hb.cell (p := ⟨0, 2, none⟩) hp, hb.cell (p := ⟨0, 3, none⟩) hp]; exact h
theorem marks_no {l : List Sec} (h : vaultB l = false) : marksOf l = 0 := if_neg (by rw [h]; simp)
theorem marks_yes {l : List Sec} (h : vaultB l = true) : marksOf l = 2 ^ l.length - 1 := if_pos h
end Go.Proofs.YtajnligcngekcaaDoor
