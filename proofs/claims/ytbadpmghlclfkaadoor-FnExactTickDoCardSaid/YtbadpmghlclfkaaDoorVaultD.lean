/- VaultMarks of the program (the marks lie in a table) and of the model. The premise 'Four': the table holds 1, 2, 4, 8. -/
import Derived.Test.YtbadpmghlclfkaaDoorVaultU
namespace Go.Proofs.YtbadpmghlclfkaaDoor
open Go.RowKit

/-- The table of the marks. -/
def Four (w : World) : Prop := w.cell? ⟨1, 0, none⟩ = some (.int .i64 1) ∧ w.cell? ⟨1, 1, none⟩ = some (.int .i64 2) ∧ w.cell? ⟨1, 2, none⟩ = some (.int .i64 4) ∧ w.cell? ⟨1, 3, none⟩ = some (.int .i64 8)
theorem Four.pos {w : World} (h : Four w) : 1 < w.heap.size := World.block_lt_of_cell? w _ h.1
theorem Four.below {w w' : World} (h : Four w) (hb : Below w.heap.size w w') : Four w' := by
  have hp := h.pos
  unfold Four at h ⊢
  rw [hb.cell (p := ⟨1, 0, none⟩) hp, hb.cell (p := ⟨1, 1, none⟩) hp, hb.cell (p := ⟨1, 2, none⟩) hp, hb.cell (p := ⟨1, 3, none⟩) hp]; exact h
theorem marks_no {l : List Sec} (h : vaultB l = false) : marksOf l = 0 := if_neg (by rw [h]; simp)
theorem marks_yes {l : List Sec} (h : vaultB l = true) : marksOf l = 2 ^ l.length - 1 := if_pos h
end Go.Proofs.YtbadpmghlclfkaaDoor
