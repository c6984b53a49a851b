/- StmtRight of the program, every kind. -/
import Derived.Test.YtejmfpaegkgkjaaStmE9
import Derived.Test.YtejmfpaegkgkjaaStmE1
import Derived.Test.YtejmfpaegkgkjaaStmE2
import Derived.Test.YtejmfpaegkgkjaaStmE3
import Derived.Test.YtejmfpaegkgkjaaStmE4
import Derived.Test.YtejmfpaegkgkjaaStmE5
import Derived.Test.YtejmfpaegkgkjaaStmE6
import Derived.Test.YtejmfpaegkgkjaaStmE7
import Derived.Test.YtejmfpaegkgkjaaStmE8
namespace Go.Proofs.Ytejmfpaegkgkjaa
open Go.RowKit

theorem implStmt_any (x : Stm) (v : Value) (w : World) (wf : StmWf x) (hv : Prts w v x.parts) : Calls Try.prog 15 #[stmA x v] w (Gives (.bool (stmtOk x)) w) := by
  obtain ⟨A, cap, rfl⟩ := hv.form
  by_cases k1 : x.kind = 1
  · exact implStmt1_any x A _ cap w wf hv k1
  by_cases k2 : x.kind = 2
  · exact implStmt2_any x A _ cap w wf hv k2
  by_cases k3 : x.kind = 3
  · exact implStmt3_any x A _ cap w wf hv k3
  by_cases k4 : x.kind = 4
  · exact implStmt4_any x A _ cap w wf hv k4
  by_cases k5 : x.kind = 5
  · exact implStmt5_any x A _ cap w wf hv k5
  by_cases k6 : x.kind = 6
  · exact implStmt6_any x A _ cap w wf hv k6
  by_cases k7 : x.kind = 7
  · exact implStmt7_any x A _ cap w wf hv k7
  by_cases k8 : x.kind = 8
  · exact implStmt8_any x A _ cap w wf hv k8
  exact implStmt9_any x A _ cap w hv k1 k2 k3 k4 k5 k6 k7 k8
end Go.Proofs.Ytejmfpaegkgkjaa
