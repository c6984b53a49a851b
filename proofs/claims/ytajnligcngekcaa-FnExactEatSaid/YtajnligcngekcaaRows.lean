/-
  No cell of these rows narrows 'for every input' (looked for: loops, veiled, ifaces, maps, wideKeys, modest, calm, conditions, laid).
  DERIVED. THE GIVEN ROWS OF THIS SEAT. 4 by the template 'for every input the law returns true; each argument reads behind the call as it read before'; 0 by the template 'total and deterministic' (their statements: YtajnligcngekcaaTotals.lean).
  GIVEN WITH THE SEED: the statements are not yours to turn. If you find one false, say at which input.
  Laid BY PROGRAM, IN A SANDBOX (cutbox-rows.mjs): the forced cells as the released guide's own fill.sh prints them over the translation 68208da02311827b… (all of the seat's roots in one cut). By AI agents, Wed Nov 11 2026. No macro, syntax, notation, axiom, sorry.
-/
import Derived.Test.YtajnligcngekcaaChecked
import GoSem.Claim
import GoSem.ClaimJoined
import GoSem.ClaimMapViews
import Derived.JoinedTies
import Derived.KernelRfl
namespace Go.Proofs.Ytajnligcngekcaa
/- THE CELL 'sum', in the pinned program and in every row, IS THE sha256 OF THE DUMP (.gsa) THAT YtajnligcngekcaaProg.lean LOADS. Nothing in Lean hashes anything: it is a label: what it is worth is what the hold of that sum in a sandbox is worth. -/
noncomputable def Try.pinned : Pinned := { name := "ytajnligcngekcaa", sum := "68208da02311827b3cc7f8fb1650ee09bf1cc351c27f84022e723f7fde3d14f3", checked := Try.checked }
namespace Rows
def none {H : Type} : Left H := { results := [], args := [] }

/-- 'laws.FnExactSeatRight': WHATEVER THE INPUT: true; the input reads as it did. -/
def fnExactSeatRightSpec : ChangeSpec := { name := "fnExactSeatRight", fn := fun _ => fun
  | [d] => { results := [.lit (.bool true)], args := [d] }
  | _ => none }
def fnExactSeatRightRow : OpenClaim := { program := "ytajnligcngekcaa", sum := "68208da02311827b3cc7f8fb1650ee09bf1cc351c27f84022e723f7fde3d14f3", func := "loop.example/g00752/laws.FnExactSeatRight", spec := "fnExactSeatRight", apart := false }
def FnExactSeatRightSaid : Prop := fnExactSeatRightRow.holds Try.pinned (OpenSpec.ofChange fnExactSeatRightSpec)

/-- ITS FALSE NEIGHBOUR: 'it returns false'. Refute it at one input. -/
def fnExactSeatRightWrong : ChangeSpec := { name := "fnExactSeatRight", fn := fun _ => fun
  | [d] => { results := [.lit (.bool false)], args := [d] }
  | _ => none }
def FnExactSeatRightWrongFalsely : Prop := fnExactSeatRightRow.holds Try.pinned (OpenSpec.ofChange fnExactSeatRightWrong)

/-- 'laws.FnExactSeatNew': WHATEVER THE INPUT: true; the input reads as it did. -/
def fnExactSeatNewSpec : ChangeSpec := { name := "fnExactSeatNew", fn := fun _ => fun
  | [] => { results := [.lit (.bool true)], args := [] }
  | _ => none }
def fnExactSeatNewRow : OpenClaim := { program := "ytajnligcngekcaa", sum := "68208da02311827b3cc7f8fb1650ee09bf1cc351c27f84022e723f7fde3d14f3", func := "loop.example/g00752/laws.FnExactSeatNew", spec := "fnExactSeatNew", apart := false }
def FnExactSeatNewSaid : Prop := fnExactSeatNewRow.holds Try.pinned (OpenSpec.ofChange fnExactSeatNewSpec)

/-- ITS FALSE NEIGHBOUR: 'it returns false'. Refute it at one input. -/
def fnExactSeatNewWrong : ChangeSpec := { name := "fnExactSeatNew", fn := fun _ => fun
  | [] => { results := [.lit (.bool false)], args := [] }
  | _ => none }
def FnExactSeatNewWrongFalsely : Prop := fnExactSeatNewRow.holds Try.pinned (OpenSpec.ofChange fnExactSeatNewWrong)

/-- 'laws.FnExactTurn': WHATEVER THE INPUT: true; the input reads as it did. -/
def fnExactTurnSpec : ChangeSpec := { name := "fnExactTurn", fn := fun _ => fun
  | [d1, d2] => { results := [.lit (.bool true)], args := [d1, d2] }
  | _ => none }
def fnExactTurnRow : OpenClaim := { program := "ytajnligcngekcaa", sum := "68208da02311827b3cc7f8fb1650ee09bf1cc351c27f84022e723f7fde3d14f3", func := "loop.example/g00752/laws.FnExactTurn", spec := "fnExactTurn", apart := false }
def FnExactTurnSaid : Prop := fnExactTurnRow.holds Try.pinned (OpenSpec.ofChange fnExactTurnSpec)

/-- ITS FALSE NEIGHBOUR: 'it returns false'. Refute it at one input. -/
def fnExactTurnWrong : ChangeSpec := { name := "fnExactTurn", fn := fun _ => fun
  | [d1, d2] => { results := [.lit (.bool false)], args := [d1, d2] }
  | _ => none }
def FnExactTurnWrongFalsely : Prop := fnExactTurnRow.holds Try.pinned (OpenSpec.ofChange fnExactTurnWrong)

/-- 'laws.FnExactEat': WHATEVER THE INPUT: true; the input reads as it did. -/
def fnExactEatSpec : ChangeSpec := { name := "fnExactEat", fn := fun _ => fun
  | [d1, d2] => { results := [.lit (.bool true)], args := [d1, d2] }
  | _ => none }
def fnExactEatRow : OpenClaim := { program := "ytajnligcngekcaa", sum := "68208da02311827b3cc7f8fb1650ee09bf1cc351c27f84022e723f7fde3d14f3", func := "loop.example/g00752/laws.FnExactEat", spec := "fnExactEat", apart := false }
def FnExactEatSaid : Prop := fnExactEatRow.holds Try.pinned (OpenSpec.ofChange fnExactEatSpec)

/-- ITS FALSE NEIGHBOUR: 'it returns false'. Refute it at one input. -/
def fnExactEatWrong : ChangeSpec := { name := "fnExactEat", fn := fun _ => fun
  | [d1, d2] => { results := [.lit (.bool false)], args := [d1, d2] }
  | _ => none }
def FnExactEatWrongFalsely : Prop := fnExactEatRow.holds Try.pinned (OpenSpec.ofChange fnExactEatWrong)

/- THE SECOND FORM. 'bulk': how many values and letters a reading holds, each counted each time it is reached (what is shared counts as often as it is met; a slice's spare places count too). A statement '..UptoSaid' is the law's where the arguments, and the package variables that the reading takes, are together of bulk at most 1048576: NARROWER than '..Said'. Prove '..Said' where nothing that the law and all that it calls make is longer than what came in: it says more and counts as full. Else prove '..UptoSaid'. A law counts once. -/
mutual
def uptoBulk {H : Type} : DataW H → Nat
  | .lit (.string bytes) => bytes.length + 1
  | .lit _ => 1
  | .nil => 1
  | .ptr d => uptoBulk d + 1
  | .slice elems spare => uptoBulkAll elems + uptoBulkAll spare + 1
  | .agg parts => uptoBulkAll parts + 1
  | .iface _ d => uptoBulk d + 1
  | .map entries => uptoBulkEntries entries + 1
  | .held _ => 1
def uptoBulkAll {H : Type} : List (DataW H) → Nat
  | [] => 0
  | d :: r => uptoBulk d + uptoBulkAll r
def uptoBulkEntries {H : Type} : List (Lit × DataW H) → Nat
  | [] => 0
  | x :: r => uptoBulkEntry x + uptoBulkEntries r
def uptoBulkEntry {H : Type} : Lit × DataW H → Nat
  | (.string bytes, d) => bytes.length + uptoBulk d + 1
  | (_, d) => uptoBulk d + 1
 end
def uptoSmall : (H : Type) → List (DataW H) → Bool := fun _ ds => decide (uptoBulkAll ds ≤ 1048576)
def OpenSpec.upto (s : _root_.Go.ChangeSpec) : _root_.Go.OpenSpec := { _root_.Go.OpenSpec.ofChange s with cond := some uptoSmall }

/-- 'laws.FnExactSeatRight', WHERE WHAT IT READS IS OF BULK AT MOST 1048576: true; the input reads as it did. -/
def fnExactSeatRightUptoRow : OpenClaim := { program := "ytajnligcngekcaa", sum := "68208da02311827b3cc7f8fb1650ee09bf1cc351c27f84022e723f7fde3d14f3", func := "loop.example/g00752/laws.FnExactSeatRight", spec := "fnExactSeatRight", apart := false, narrowed := true }
def FnExactSeatRightUptoSaid : Prop := fnExactSeatRightUptoRow.holds Try.pinned (OpenSpec.upto fnExactSeatRightSpec)

/-- 'laws.FnExactSeatNew', WHERE WHAT IT READS IS OF BULK AT MOST 1048576: true; the input reads as it did. -/
def fnExactSeatNewUptoRow : OpenClaim := { program := "ytajnligcngekcaa", sum := "68208da02311827b3cc7f8fb1650ee09bf1cc351c27f84022e723f7fde3d14f3", func := "loop.example/g00752/laws.FnExactSeatNew", spec := "fnExactSeatNew", apart := false, narrowed := true }
def FnExactSeatNewUptoSaid : Prop := fnExactSeatNewUptoRow.holds Try.pinned (OpenSpec.upto fnExactSeatNewSpec)

/-- 'laws.FnExactTurn', WHERE WHAT IT READS IS OF BULK AT MOST 1048576: true; the input reads as it did. -/
def fnExactTurnUptoRow : OpenClaim := { program := "ytajnligcngekcaa", sum := "68208da02311827b3cc7f8fb1650ee09bf1cc351c27f84022e723f7fde3d14f3", func := "loop.example/g00752/laws.FnExactTurn", spec := "fnExactTurn", apart := false, narrowed := true }
def FnExactTurnUptoSaid : Prop := fnExactTurnUptoRow.holds Try.pinned (OpenSpec.upto fnExactTurnSpec)

/-- 'laws.FnExactEat', WHERE WHAT IT READS IS OF BULK AT MOST 1048576: true; the input reads as it did. -/
def fnExactEatUptoRow : OpenClaim := { program := "ytajnligcngekcaa", sum := "68208da02311827b3cc7f8fb1650ee09bf1cc351c27f84022e723f7fde3d14f3", func := "loop.example/g00752/laws.FnExactEat", spec := "fnExactEat", apart := false, narrowed := true }
def FnExactEatUptoSaid : Prop := fnExactEatUptoRow.holds Try.pinned (OpenSpec.upto fnExactEatSpec)

end Rows
end Go.Proofs.Ytajnligcngekcaa
