/- Slices of parts, copied and compared by the laws. -/
import Derived.Test.YtbadpmghlclfkaaDoorStmS
namespace Go.Proofs.YtbadpmghlclfkaaDoor
open Go.RowKit

end Go.Proofs.YtbadpmghlclfkaaDoor
