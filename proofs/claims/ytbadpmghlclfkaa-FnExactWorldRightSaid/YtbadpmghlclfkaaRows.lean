/-
  No cell of these rows narrows 'for every input' (looked for: loops, veiled, ifaces, maps, wideKeys, modest, calm, conditions, laid).
  DERIVED. THE GIVEN ROWS OF THIS SEAT. 2 by the template 'for every input the law returns true; each argument reads behind the call as it read before'; 0 by the template 'total and deterministic' (their statements: YtbadpmghlclfkaaTotals.lean).
  GIVEN WITH THE SEED: the statements are not yours to turn. If you find one false, say at which input.
  Laid BY PROGRAM, IN A SANDBOX (cutbox-rows.mjs): the forced cells as the released guide's own fill.sh prints them over the translation e541495cc3d897dc… (all of the seat's roots in one cut). By AI agents, Wed Nov 11 2026. No macro, syntax, notation, axiom, sorry.
-/
import Derived.Test.YtbadpmghlclfkaaChecked
import GoSem.Claim
import GoSem.ClaimJoined
import GoSem.ClaimMapViews
import Derived.JoinedTies
import Derived.KernelRfl
namespace Go.Proofs.Ytbadpmghlclfkaa
/- THE CELL 'sum', in the pinned program and in every row, IS THE sha256 OF THE DUMP (.gsa) THAT YtbadpmghlclfkaaProg.lean LOADS. Nothing in Lean hashes anything: it is a label: what it is worth is what the hold of that sum in a sandbox is worth. -/
noncomputable def Try.pinned : Pinned := { name := "ytbadpmghlclfkaa", sum := "e541495cc3d897dc6cec293182e6c06406ee753ce95ff4cd82041062bd50dfcd", checked := Try.checked }
namespace Rows
def none {H : Type} : Left H := { results := [], args := [] }

/-- 'laws.FnExactTickRight': WHATEVER THE INPUT: true; the input reads as it did. -/
def fnExactTickRightSpec : ChangeSpec := { name := "fnExactTickRight", fn := fun _ => fun
  | [d] => { results := [.lit (.bool true)], args := [d] }
  | _ => none }
def fnExactTickRightRow : OpenClaim := { program := "ytbadpmghlclfkaa", sum := "e541495cc3d897dc6cec293182e6c06406ee753ce95ff4cd82041062bd50dfcd", func := "loop.example/g00752/laws.FnExactTickRight", spec := "fnExactTickRight", apart := false }
def FnExactTickRightSaid : Prop := fnExactTickRightRow.holds Try.pinned (OpenSpec.ofChange fnExactTickRightSpec)

/-- ITS FALSE NEIGHBOUR: 'it returns false'. Refute it at one input. -/
def fnExactTickRightWrong : ChangeSpec := { name := "fnExactTickRight", fn := fun _ => fun
  | [d] => { results := [.lit (.bool false)], args := [d] }
  | _ => none }
def FnExactTickRightWrongFalsely : Prop := fnExactTickRightRow.holds Try.pinned (OpenSpec.ofChange fnExactTickRightWrong)

/-- 'laws.FnExactWorldRight': WHATEVER THE INPUT: true; the input reads as it did. -/
def fnExactWorldRightSpec : ChangeSpec := { name := "fnExactWorldRight", fn := fun _ => fun
  | [d] => { results := [.lit (.bool true)], args := [d] }
  | _ => none }
def fnExactWorldRightRow : OpenClaim := { program := "ytbadpmghlclfkaa", sum := "e541495cc3d897dc6cec293182e6c06406ee753ce95ff4cd82041062bd50dfcd", func := "loop.example/g00752/laws.FnExactWorldRight", spec := "fnExactWorldRight", apart := false }
def FnExactWorldRightSaid : Prop := fnExactWorldRightRow.holds Try.pinned (OpenSpec.ofChange fnExactWorldRightSpec)

/-- ITS FALSE NEIGHBOUR: 'it returns false'. Refute it at one input. -/
def fnExactWorldRightWrong : ChangeSpec := { name := "fnExactWorldRight", fn := fun _ => fun
  | [d] => { results := [.lit (.bool false)], args := [d] }
  | _ => none }
def FnExactWorldRightWrongFalsely : Prop := fnExactWorldRightRow.holds Try.pinned (OpenSpec.ofChange fnExactWorldRightWrong)

/- THE SECOND FORM. 'bulk': how many values and letters a reading holds, each counted each time it is reached (what is shared counts as often as it is met; a slice's spare places count too). A statement '..UptoSaid' is the law's where the arguments, and the package variables that the reading takes, are together of bulk at most 1048576: NARROWER than '..Said'. Prove '..Said' where nothing that the law and all that it calls make is longer than what came in: it says more and counts as full. Else prove '..UptoSaid'. A law counts once. -/
mutual
def uptoBulk {H : Type} : DataW H → Nat
  | .lit (.string bytes) => bytes.length + 1
  | .lit _ => 1
  | .nil => 1
  | .ptr d => uptoBulk d + 1
  | .slice elems spare => uptoBulkAll elems + uptoBulkAll spare + 1
  | .agg parts => uptoBulkAll parts + 1
  | .iface _ d => uptoBulk d + 1
  | .map entries => uptoBulkEntries entries + 1
  | .held _ => 1
def uptoBulkAll {H : Type} : List (DataW H) → Nat
  | [] => 0
  | d :: r => uptoBulk d + uptoBulkAll r
def uptoBulkEntries {H : Type} : List (Lit × DataW H) → Nat
  | [] => 0
  | x :: r => uptoBulkEntry x + uptoBulkEntries r
def uptoBulkEntry {H : Type} : Lit × DataW H → Nat
  | (.string bytes, d) => bytes.length + uptoBulk d + 1
  | (_, d) => uptoBulk d + 1
 end
def uptoSmall : (H : Type) → List (DataW H) → Bool := fun _ ds => decide (uptoBulkAll ds ≤ 1048576)
def OpenSpec.upto (s : _root_.Go.ChangeSpec) : _root_.Go.OpenSpec := { _root_.Go.OpenSpec.ofChange s with cond := some uptoSmall }

/-- 'laws.FnExactTickRight', WHERE WHAT IT READS IS OF BULK AT MOST 1048576: true; the input reads as it did. -/
def fnExactTickRightUptoRow : OpenClaim := { program := "ytbadpmghlclfkaa", sum := "e541495cc3d897dc6cec293182e6c06406ee753ce95ff4cd82041062bd50dfcd", func := "loop.example/g00752/laws.FnExactTickRight", spec := "fnExactTickRight", apart := false, narrowed := true }
def FnExactTickRightUptoSaid : Prop := fnExactTickRightUptoRow.holds Try.pinned (OpenSpec.upto fnExactTickRightSpec)

/-- 'laws.FnExactWorldRight', WHERE WHAT IT READS IS OF BULK AT MOST 1048576: true; the input reads as it did. -/
def fnExactWorldRightUptoRow : OpenClaim := { program := "ytbadpmghlclfkaa", sum := "e541495cc3d897dc6cec293182e6c06406ee753ce95ff4cd82041062bd50dfcd", func := "loop.example/g00752/laws.FnExactWorldRight", spec := "fnExactWorldRight", apart := false, narrowed := true }
def FnExactWorldRightUptoSaid : Prop := fnExactWorldRightUptoRow.holds Try.pinned (OpenSpec.upto fnExactWorldRightSpec)

end Rows
end Go.Proofs.Ytbadpmghlclfkaa
