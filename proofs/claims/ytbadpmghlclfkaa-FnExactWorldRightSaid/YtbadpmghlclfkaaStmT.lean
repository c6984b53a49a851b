/- Slices of parts, copied and compared by the laws. -/
import Derived.Test.YtbadpmghlclfkaaStmS
namespace Go.Proofs.Ytbadpmghlclfkaa
open Go.RowKit

end Go.Proofs.Ytbadpmghlclfkaa
