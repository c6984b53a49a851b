/- StmtRight of the model, every kind. -/
import Derived.Test.YtejmfpaegkgkjaaStmF1
import Derived.Test.YtejmfpaegkgkjaaStmF2
import Derived.Test.YtejmfpaegkgkjaaStmF3
import Derived.Test.YtejmfpaegkgkjaaStmF4
import Derived.Test.YtejmfpaegkgkjaaStmF5
import Derived.Test.YtejmfpaegkgkjaaStmF6
import Derived.Test.YtejmfpaegkgkjaaStmF7
import Derived.Test.YtejmfpaegkgkjaaStmF8
import Derived.Test.YtejmfpaegkgkjaaStmF9
namespace Go.Proofs.Ytejmfpaegkgkjaa
open Go.RowKit


theorem specStmt_any (x : Stm) (v : Value) (w : World) (wf : StmWf x) (hs1 : x.text.size ≤ 1048576) (hv : Prts w v x.parts) : Calls Try.prog 13 #[stmA x v] w (Gives (.bool (stmtOk x)) w) := by
  obtain ⟨A, cap, rfl⟩ := hv.form
  by_cases k1 : x.kind = 1
  · exact specStmt1_any x A _ cap w wf hv k1
  by_cases k2 : x.kind = 2
  · exact specStmt2_any x A _ cap w wf hv k2
  by_cases k3 : x.kind = 3
  · exact specStmt3_any x A _ cap w wf hv k3
  by_cases k4 : x.kind = 4
  · exact specStmt4_any x A _ cap w wf hs1 hv k4
  by_cases k5 : x.kind = 5
  · exact specStmt5_any x A _ cap w wf hv k5
  by_cases k6 : x.kind = 6
  · exact specStmt6_any x A _ cap w wf hv k6
  by_cases k7 : x.kind = 7
  · exact specStmt7_any x A _ cap w wf hv k7
  by_cases k8 : x.kind = 8
  · exact specStmt8_any x A _ cap w wf hv k8
  exact specStmt9_any x A _ cap w wf hv k1 k2 k3 k4 k5 k6 k7 k8
end Go.Proofs.Ytejmfpaegkgkjaa
