/- A region that draws its order, reads, and ends in one store: its reads walked as a quiet region is. -/
import Derived.Test.YtbadpmghlclfkaaDoorBase
import Derived.StillTailTactics
import Derived.BigQuiet
namespace Go.Proofs.YtbadpmghlclfkaaDoor
open Go.RowKit
theorem wpStill_of_quiet {P : Program} {ops : Array Oper} {w : World} {Q : Act → Prop} {l : List Oper} {a : Act} (h : wpQuiet P ops (fun w' => w' = w) Q l a) : wpStill P ops w Q l a := by
  induction l generalizing a with
  | nil => exact h
  | cons o rest ih =>
    unfold wpQuiet at h
    unfold wpStill
    by_cases hw : Region.wanted o (yielded ops a.tmps) = true
    · rw [if_pos hw] at h ⊢
      obtain ⟨v, hv, hn⟩ := h
      have hv := hv w rfl
      unfold Oper.quietAt at hv
      unfold Oper.still
      generalize (execOp a.eval o).run P w = r at hv
      cases r with
      | ok x w' =>
        cases x with
        | value u => obtain ⟨h1, h2⟩ := hv; subst h2; exact ⟨h1, ih hn⟩
        | skip => obtain ⟨h1, h2⟩ := hv; subst h2; exact ⟨h1, ih hn⟩
        | enter f args => exact ⟨hv.1, v, hv.2, ih hn⟩
        | _ => exact hv.elim
      | _ => exact hv.elim
    · rw [if_neg hw] at h ⊢
      exact ih h
end Go.Proofs.YtbadpmghlclfkaaDoor
