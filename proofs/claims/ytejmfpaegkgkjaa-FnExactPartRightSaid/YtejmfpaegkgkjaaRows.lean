/-
  No cell of these rows narrows 'for every input' (looked for: loops, veiled, ifaces, maps, wideKeys, modest, calm, conditions, laid).
  DERIVED. THE GIVEN ROWS OF THIS SEAT. 5 by the template 'for every input the law returns true; each argument reads behind the call as it read before'; 0 by the template 'total and deterministic' (their statements: YtejmfpaegkgkjaaTotals.lean).
  GIVEN WITH THE SEED: the statements are not yours to turn. If you find one false, say at which input.
  Laid BY PROGRAM, IN A SANDBOX (cutbox-rows.mjs): the forced cells as the released guide's own fill.sh prints them over the translation 1c30a59418a3422e… (all of the seat's roots in one cut). By AI agents, Wed Nov 11 2026. No macro, syntax, notation, axiom, sorry.
-/
import Derived.Test.YtejmfpaegkgkjaaChecked
import GoSem.Claim
import GoSem.ClaimJoined
import GoSem.ClaimMapViews
import Derived.JoinedTies
import Derived.KernelRfl
namespace Go.Proofs.Ytejmfpaegkgkjaa
/- THE CELL 'sum', in the pinned program and in every row, IS THE sha256 OF THE DUMP (.gsa) THAT YtejmfpaegkgkjaaProg.lean LOADS. Nothing in Lean hashes anything: it is a label: what it is worth is what the hold of that sum in a sandbox is worth. -/
noncomputable def Try.pinned : Pinned := { name := "ytejmfpaegkgkjaa", sum := "1c30a59418a3422e4822e742e92794a73fa9e8efc038fe98db1cd7382c0570ec", checked := Try.checked }
namespace Rows
def none {H : Type} : Left H := { results := [], args := [] }

/-- 'laws.FnExactPartRight': WHATEVER THE INPUT: true; the input reads as it did. -/
def fnExactPartRightSpec : ChangeSpec := { name := "fnExactPartRight", fn := fun _ => fun
  | [d] => { results := [.lit (.bool true)], args := [d] }
  | _ => none }
def fnExactPartRightRow : OpenClaim := { program := "ytejmfpaegkgkjaa", sum := "1c30a59418a3422e4822e742e92794a73fa9e8efc038fe98db1cd7382c0570ec", func := "loop.example/g00752/laws.FnExactPartRight", spec := "fnExactPartRight", apart := false }
def FnExactPartRightSaid : Prop := fnExactPartRightRow.holds Try.pinned (OpenSpec.ofChange fnExactPartRightSpec)

/-- ITS FALSE NEIGHBOUR: 'it returns false'. Refute it at one input. -/
def fnExactPartRightWrong : ChangeSpec := { name := "fnExactPartRight", fn := fun _ => fun
  | [d] => { results := [.lit (.bool false)], args := [d] }
  | _ => none }
def FnExactPartRightWrongFalsely : Prop := fnExactPartRightRow.holds Try.pinned (OpenSpec.ofChange fnExactPartRightWrong)

/-- 'laws.FnExactStmtRight': WHATEVER THE INPUT: true; the input reads as it did. -/
def fnExactStmtRightSpec : ChangeSpec := { name := "fnExactStmtRight", fn := fun _ => fun
  | [d] => { results := [.lit (.bool true)], args := [d] }
  | _ => none }
def fnExactStmtRightRow : OpenClaim := { program := "ytejmfpaegkgkjaa", sum := "1c30a59418a3422e4822e742e92794a73fa9e8efc038fe98db1cd7382c0570ec", func := "loop.example/g00752/laws.FnExactStmtRight", spec := "fnExactStmtRight", unfollowed := true, recurses := true, apart := false }
def FnExactStmtRightSaid : Prop := fnExactStmtRightRow.holds Try.pinned (OpenSpec.ofChange fnExactStmtRightSpec)

/-- ITS FALSE NEIGHBOUR: 'it returns false'. Refute it at one input. -/
def fnExactStmtRightWrong : ChangeSpec := { name := "fnExactStmtRight", fn := fun _ => fun
  | [d] => { results := [.lit (.bool false)], args := [d] }
  | _ => none }
def FnExactStmtRightWrongFalsely : Prop := fnExactStmtRightRow.holds Try.pinned (OpenSpec.ofChange fnExactStmtRightWrong)

/-- 'laws.FnExactProgRight': WHATEVER THE INPUT: true; the input reads as it did. -/
def fnExactProgRightSpec : ChangeSpec := { name := "fnExactProgRight", fn := fun _ => fun
  | [d] => { results := [.lit (.bool true)], args := [d] }
  | _ => none }
def fnExactProgRightRow : OpenClaim := { program := "ytejmfpaegkgkjaa", sum := "1c30a59418a3422e4822e742e92794a73fa9e8efc038fe98db1cd7382c0570ec", func := "loop.example/g00752/laws.FnExactProgRight", spec := "fnExactProgRight", unfollowed := true, recurses := true, apart := false }
def FnExactProgRightSaid : Prop := fnExactProgRightRow.holds Try.pinned (OpenSpec.ofChange fnExactProgRightSpec)

/-- ITS FALSE NEIGHBOUR: 'it returns false'. Refute it at one input. -/
def fnExactProgRightWrong : ChangeSpec := { name := "fnExactProgRight", fn := fun _ => fun
  | [d] => { results := [.lit (.bool false)], args := [d] }
  | _ => none }
def FnExactProgRightWrongFalsely : Prop := fnExactProgRightRow.holds Try.pinned (OpenSpec.ofChange fnExactProgRightWrong)

/-- 'laws.FnExactStmtText': WHATEVER THE INPUT: true; the input reads as it did. -/
def fnExactStmtTextSpec : ChangeSpec := { name := "fnExactStmtText", fn := fun _ => fun
  | [d] => { results := [.lit (.bool true)], args := [d] }
  | _ => none }
def fnExactStmtTextRow : OpenClaim := { program := "ytejmfpaegkgkjaa", sum := "1c30a59418a3422e4822e742e92794a73fa9e8efc038fe98db1cd7382c0570ec", func := "loop.example/g00752/laws.FnExactStmtText", spec := "fnExactStmtText", inPlace := ["internal/abi.NoEscape", "internal/bytealg.MakeNoZero"], unfollowed := true, recurses := true, apart := false }
def FnExactStmtTextSaid : Prop := fnExactStmtTextRow.holds Try.pinned (OpenSpec.ofChange fnExactStmtTextSpec)

/-- ITS FALSE NEIGHBOUR: 'it returns false'. Refute it at one input. -/
def fnExactStmtTextWrong : ChangeSpec := { name := "fnExactStmtText", fn := fun _ => fun
  | [d] => { results := [.lit (.bool false)], args := [d] }
  | _ => none }
def FnExactStmtTextWrongFalsely : Prop := fnExactStmtTextRow.holds Try.pinned (OpenSpec.ofChange fnExactStmtTextWrong)

/-- 'laws.FnExactProgText': WHATEVER THE INPUT: true; the input reads as it did. -/
def fnExactProgTextSpec : ChangeSpec := { name := "fnExactProgText", fn := fun _ => fun
  | [d] => { results := [.lit (.bool true)], args := [d] }
  | _ => none }
def fnExactProgTextRow : OpenClaim := { program := "ytejmfpaegkgkjaa", sum := "1c30a59418a3422e4822e742e92794a73fa9e8efc038fe98db1cd7382c0570ec", func := "loop.example/g00752/laws.FnExactProgText", spec := "fnExactProgText", inPlace := ["internal/abi.NoEscape", "internal/bytealg.MakeNoZero"], unfollowed := true, recurses := true, apart := false }
def FnExactProgTextSaid : Prop := fnExactProgTextRow.holds Try.pinned (OpenSpec.ofChange fnExactProgTextSpec)

/-- ITS FALSE NEIGHBOUR: 'it returns false'. Refute it at one input. -/
def fnExactProgTextWrong : ChangeSpec := { name := "fnExactProgText", fn := fun _ => fun
  | [d] => { results := [.lit (.bool false)], args := [d] }
  | _ => none }
def FnExactProgTextWrongFalsely : Prop := fnExactProgTextRow.holds Try.pinned (OpenSpec.ofChange fnExactProgTextWrong)

/- THE SECOND FORM. 'bulk': how many values and letters a reading holds, each counted each time it is reached (what is shared counts as often as it is met; a slice's spare places count too). A statement '..UptoSaid' is the law's where the arguments, and the package variables that the reading takes, are together of bulk at most 1048576: NARROWER than '..Said'. Prove '..Said' where nothing that the law and all that it calls make is longer than what came in: it says more and counts as full. Else prove '..UptoSaid'. A law counts once. -/
mutual
def uptoBulk {H : Type} : DataW H → Nat
  | .lit (.string bytes) => bytes.length + 1
  | .lit _ => 1
  | .nil => 1
  | .ptr d => uptoBulk d + 1
  | .slice elems spare => uptoBulkAll elems + uptoBulkAll spare + 1
  | .agg parts => uptoBulkAll parts + 1
  | .iface _ d => uptoBulk d + 1
  | .map entries => uptoBulkEntries entries + 1
  | .held _ => 1
def uptoBulkAll {H : Type} : List (DataW H) → Nat
  | [] => 0
  | d :: r => uptoBulk d + uptoBulkAll r
def uptoBulkEntries {H : Type} : List (Lit × DataW H) → Nat
  | [] => 0
  | x :: r => uptoBulkEntry x + uptoBulkEntries r
def uptoBulkEntry {H : Type} : Lit × DataW H → Nat
  | (.string bytes, d) => bytes.length + uptoBulk d + 1
  | (_, d) => uptoBulk d + 1
 end
def uptoSmall : (H : Type) → List (DataW H) → Bool := fun _ ds => decide (uptoBulkAll ds ≤ 1048576)
def OpenSpec.upto (s : _root_.Go.ChangeSpec) : _root_.Go.OpenSpec := { _root_.Go.OpenSpec.ofChange s with cond := some uptoSmall }

/-- 'laws.FnExactPartRight', WHERE WHAT IT READS IS OF BULK AT MOST 1048576: true; the input reads as it did. -/
def fnExactPartRightUptoRow : OpenClaim := { program := "ytejmfpaegkgkjaa", sum := "1c30a59418a3422e4822e742e92794a73fa9e8efc038fe98db1cd7382c0570ec", func := "loop.example/g00752/laws.FnExactPartRight", spec := "fnExactPartRight", apart := false, narrowed := true }
def FnExactPartRightUptoSaid : Prop := fnExactPartRightUptoRow.holds Try.pinned (OpenSpec.upto fnExactPartRightSpec)

/-- 'laws.FnExactStmtRight', WHERE WHAT IT READS IS OF BULK AT MOST 1048576: true; the input reads as it did. -/
def fnExactStmtRightUptoRow : OpenClaim := { program := "ytejmfpaegkgkjaa", sum := "1c30a59418a3422e4822e742e92794a73fa9e8efc038fe98db1cd7382c0570ec", func := "loop.example/g00752/laws.FnExactStmtRight", spec := "fnExactStmtRight", unfollowed := true, recurses := true, apart := false, narrowed := true }
def FnExactStmtRightUptoSaid : Prop := fnExactStmtRightUptoRow.holds Try.pinned (OpenSpec.upto fnExactStmtRightSpec)

/-- 'laws.FnExactProgRight', WHERE WHAT IT READS IS OF BULK AT MOST 1048576: true; the input reads as it did. -/
def fnExactProgRightUptoRow : OpenClaim := { program := "ytejmfpaegkgkjaa", sum := "1c30a59418a3422e4822e742e92794a73fa9e8efc038fe98db1cd7382c0570ec", func := "loop.example/g00752/laws.FnExactProgRight", spec := "fnExactProgRight", unfollowed := true, recurses := true, apart := false, narrowed := true }
def FnExactProgRightUptoSaid : Prop := fnExactProgRightUptoRow.holds Try.pinned (OpenSpec.upto fnExactProgRightSpec)

/-- 'laws.FnExactStmtText', WHERE WHAT IT READS IS OF BULK AT MOST 1048576: true; the input reads as it did. -/
def fnExactStmtTextUptoRow : OpenClaim := { program := "ytejmfpaegkgkjaa", sum := "1c30a59418a3422e4822e742e92794a73fa9e8efc038fe98db1cd7382c0570ec", func := "loop.example/g00752/laws.FnExactStmtText", spec := "fnExactStmtText", inPlace := ["internal/abi.NoEscape", "internal/bytealg.MakeNoZero"], unfollowed := true, recurses := true, apart := false, narrowed := true }
def FnExactStmtTextUptoSaid : Prop := fnExactStmtTextUptoRow.holds Try.pinned (OpenSpec.upto fnExactStmtTextSpec)

/-- 'laws.FnExactProgText', WHERE WHAT IT READS IS OF BULK AT MOST 1048576: true; the input reads as it did. -/
def fnExactProgTextUptoRow : OpenClaim := { program := "ytejmfpaegkgkjaa", sum := "1c30a59418a3422e4822e742e92794a73fa9e8efc038fe98db1cd7382c0570ec", func := "loop.example/g00752/laws.FnExactProgText", spec := "fnExactProgText", inPlace := ["internal/abi.NoEscape", "internal/bytealg.MakeNoZero"], unfollowed := true, recurses := true, apart := false, narrowed := true }
def FnExactProgTextUptoSaid : Prop := fnExactProgTextUptoRow.holds Try.pinned (OpenSpec.upto fnExactProgTextSpec)

end Rows
end Go.Proofs.Ytejmfpaegkgkjaa
