/- PartRight of the program and of the model. -/
import Derived.Test.YtbadpmghlclfkaaDoorStmP
import Derived.Test.YtbadpmghlclfkaaDoorVaultT
namespace Go.Proofs.YtbadpmghlclfkaaDoor
open Go.RowKit

def prtA (p : Prt) : Value := .agg #[.int .i64 p.kind, .string p.text, .int .i64 p.lo, .int .i64 p.hi]
theorem isB_t {n lo hi : Int} (h : isB n lo hi = true) : lo ≤ n ∧ n ≤ hi := of_decide_eq_true h
theorem isB_f {n lo hi : Int} (h : isB n lo hi = false) : ¬ (lo ≤ n ∧ n ≤ hi) := of_decide_eq_false h
def prtV (p : Prt) : List Value := [.int .i64 p.kind, .string p.text, .int .i64 p.lo, .int .i64 p.hi]
theorem prt_box {w : World} (p : Prt) (t : TypeId) : Blk (w.alloc (.cells #[.int .i64 p.kind, .string p.text, .int .i64 p.lo, .int .i64 p.hi] t)) w.heap.size t (prtV p) := heap_alloc_new w _
end Go.Proofs.YtbadpmghlclfkaaDoor
