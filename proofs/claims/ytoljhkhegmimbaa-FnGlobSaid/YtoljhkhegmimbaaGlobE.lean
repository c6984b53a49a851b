/- Two spans compared by the laws. -/
import Derived.Test.YtoljhkhegmimbaaGlobC
namespace Go.Proofs.Ytoljhkhegmimbaa
open Go.RowKit
set_option maxHeartbeats 1000000 in
theorem eqSpan_same (a b : Int) (c : Bool) (w : World) :
    Calls Try.prog 22 #[.agg #[.int .i64 a, .int .i64 b, .bool c], .agg #[.int .i64 a, .int .i64 b, .bool c]] w fun e w' => e = .returned (.bool true) ∧ Below w.heap.size w w' := by
  have hB := Lib.hid (((Below.refl w.heap.size w).alloc (Nat.le_refl _) (.cells #[.int .i64 a, .int .i64 b, .bool c] 26)).alloc (by simp) (.cells #[.int .i64 a, .int .i64 b, .bool c] 26))
  go_enter Try.func22, Try.ntmps22
  go_wp2
  go_ret
  exact ⟨rfl, hB.out⟩
end Go.Proofs.Ytoljhkhegmimbaa
