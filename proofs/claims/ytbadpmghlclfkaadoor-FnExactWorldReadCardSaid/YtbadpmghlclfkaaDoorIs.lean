/- Whether a number lies between two others, as the model asks it; what a function that only looks leaves. -/
import Derived.Test.YtbadpmghlclfkaaDoorBase
namespace Go.Proofs.YtbadpmghlclfkaaDoor
open Go.RowKit

def isB (n lo hi : Int) : Bool := decide (lo ≤ n ∧ n ≤ hi)
theorem is_any (n lo hi : Int) (w : World) : Calls Tryd.prog 57 #[.int .i64 n, .int .i64 lo, .int .i64 hi] w fun e w' => e = .returned (.bool (isB n lo hi)) ∧ w = w' := by
  by_cases h0 : lo ≤ n
  · have e := Lib.hid (show isB n lo hi = decide (n ≤ hi) by simp [isB, h0])
    go_enter Tryd.func57, Tryd.ntmps57
    go_wp2
    go_ret
    exact ⟨ret_bool (by rw [e.out]), rfl⟩
  · have e := Lib.hid (show isB n lo hi = false by simp [isB, h0])
    go_enter Tryd.func57, Tryd.ntmps57
    go_wp2
    go_ret
    exact ⟨ret_bool (by rw [e.out]), rfl⟩
theorem isB_yes {n lo hi : Int} (h : lo ≤ n) (h' : n ≤ hi) : isB n lo hi = true := by simp [isB, h, h']
theorem isB_no {n lo hi : Int} (h : ¬ (lo ≤ n ∧ n ≤ hi)) : isB n lo hi = false := by unfold isB; exact decide_eq_false h
/-- What a function that only looks leaves: a box of its own, at the most. -/
def LookEnd (b : Bool) (w : World) (e : Ending) (w' : World) : Prop := e = .returned (.bool b) ∧ Below w.heap.size w w'
theorem LookEnd.of {b c : Bool} {w w' : World} (h : c = b) (k : Below w.heap.size w w') : LookEnd b w (.returned (.bool c)) w' := by subst h; exact ⟨rfl, k⟩
theorem there_any (n : Int) (w : World) : Calls Tryd.prog 56 #[.int .i64 n] w fun e w' => e = .returned (.bool (isB n 0 2)) ∧ w = w' := by
  go_enter Tryd.func56, Tryd.ntmps56
  go_wp2_with (go_at_call 57; refine (is_any _ _ _ _).mono ?_; rintro e w' ⟨rfl, rfl⟩)
  go_ret
  exact ⟨rfl, rfl⟩
end Go.Proofs.YtbadpmghlclfkaaDoor
