/- Slices of secrets, copied and compared by the laws. -/
import Derived.Test.YtajnligcngekcaaVaultS
namespace Go.Proofs.Ytajnligcngekcaa
open Go.RowKit

/-- Two secrets that are alike. -/
def sameSec (x y : Sec) : Bool := decide (x.name = y.name) && decide (x.seat = y.seat) && decide (x.word = y.word) && decide (x.prompt = y.prompt)
theorem sameSec_self (x : Sec) : sameSec x x = true := by simp [sameSec]
end Go.Proofs.Ytajnligcngekcaa
