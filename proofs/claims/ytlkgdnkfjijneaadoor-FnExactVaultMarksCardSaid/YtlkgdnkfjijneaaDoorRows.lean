/-
  NARROWER THAN 'FOR EVERY INPUT', by the rows' own cells (each row's printed sentence says how): FnExactVaultMarks: laid.
  DERIVED. THE GIVEN ROWS OF THIS SEAT. 1 by the template 'for every input the law returns true; each argument reads behind the call as it read before'; 0 by the template 'total and deterministic' (their statements: YtlkgdnkfjijneaaDoorTotals.lean).
  GIVEN WITH THE SEED: the statements are not yours to turn. If you find one false, say at which input.
  Laid BY PROGRAM, IN A SANDBOX (cutbox-rows.mjs): the forced cells as the released guide's own fill.sh prints them over the translation fc0b66c5a4d35801… (all of the seat's roots in one cut). By AI agents, Wed Nov 11 2026. No macro, syntax, notation, axiom, sorry.
-/
import Derived.Test.YtlkgdnkfjijneaaDoorChecked
import GoSem.Claim
import GoSem.ClaimJoined
import GoSem.ClaimMapViews
import Derived.JoinedTies
import Derived.KernelRfl
namespace Go.Proofs.YtlkgdnkfjijneaaDoor
/- THE CELL 'sum', in the pinned program and in every row, IS THE sha256 OF THE DUMP (.gsa) THAT YtlkgdnkfjijneaaDoorProg.lean LOADS. Nothing in Lean hashes anything: it is a label: what it is worth is what the hold of that sum in a sandbox is worth. -/
noncomputable def Tryd.pinned : Pinned := { name := "ytlkgdnkfjijneaadoor", sum := "fc0b66c5a4d3580122e60d1d5b9246712d566791a9ad8475c6d692a9978efb77", checked := Tryd.checked }
namespace Rows
def none {H : Type} : Left H := { results := [], args := [] }

/- WHAT THE LISTED PACKAGE-LEVEL VARIABLES READ AS WHEN THE CALL BEGINS. Each datum BY PROGRAM (the guide's laid-datum.mjs) off the statement by which the dump's own 'gosem.cut.vars' lays the variable. In a bare row this is a premise. The card (YtlkgdnkfjijneaaDoorCards.lean) ties it to the program's text. -/
def laid_loop_example_g00752_impl_secretMarks {H : Type} : DataW H := .agg [.lit (.int .i64 1), .lit (.int .i64 2), .lit (.int .i64 4), .lit (.int .i64 8)]

/-- 'laws.FnExactVaultMarks': WHATEVER THE INPUT: true; the input reads as it did. -/
def fnExactVaultMarksSpec : ChangeSpec := { name := "fnExactVaultMarks", vars := ["loop.example/g00752/impl.secretMarks"], fn := fun _ => fun
  | [d, g1] => { results := [.lit (.bool true)], args := [d], vars := [g1] }
  | _ => none }
def fnExactVaultMarksRow : OpenClaim := { program := "ytlkgdnkfjijneaadoor", sum := "fc0b66c5a4d3580122e60d1d5b9246712d566791a9ad8475c6d692a9978efb77", func := "loop.example/g00752/laws.FnExactVaultMarks", spec := "fnExactVaultMarks", named := ["loop.example/g00752/impl.secretMarks"], apart := false, laid := [("loop.example/g00752/impl.secretMarks", laid_loop_example_g00752_impl_secretMarks)] }
def FnExactVaultMarksSaid : Prop := fnExactVaultMarksRow.holds Tryd.pinned (OpenSpec.ofChange fnExactVaultMarksSpec)

/-- ITS FALSE NEIGHBOUR: 'it returns false'. Refute it at one input. -/
def fnExactVaultMarksWrong : ChangeSpec := { name := "fnExactVaultMarks", vars := ["loop.example/g00752/impl.secretMarks"], fn := fun _ => fun
  | [d, g1] => { results := [.lit (.bool false)], args := [d], vars := [g1] }
  | _ => none }
def FnExactVaultMarksWrongFalsely : Prop := fnExactVaultMarksRow.holds Tryd.pinned (OpenSpec.ofChange fnExactVaultMarksWrong)

/- THE SECOND FORM. 'bulk': how many values and letters a reading holds, each counted each time it is reached (what is shared counts as often as it is met; a slice's spare places count too). A statement '..UptoSaid' is the law's where the arguments, and the package variables that the reading takes, are together of bulk at most 1048576: NARROWER than '..Said'. Prove '..Said' where nothing that the law and all that it calls make is longer than what came in: it says more and counts as full. Else prove '..UptoSaid'. A law counts once. -/
mutual
def uptoBulk {H : Type} : DataW H → Nat
  | .lit (.string bytes) => bytes.length + 1
  | .lit _ => 1
  | .nil => 1
  | .ptr d => uptoBulk d + 1
  | .slice elems spare => uptoBulkAll elems + uptoBulkAll spare + 1
  | .agg parts => uptoBulkAll parts + 1
  | .iface _ d => uptoBulk d + 1
  | .map entries => uptoBulkEntries entries + 1
  | .held _ => 1
def uptoBulkAll {H : Type} : List (DataW H) → Nat
  | [] => 0
  | d :: r => uptoBulk d + uptoBulkAll r
def uptoBulkEntries {H : Type} : List (Lit × DataW H) → Nat
  | [] => 0
  | x :: r => uptoBulkEntry x + uptoBulkEntries r
def uptoBulkEntry {H : Type} : Lit × DataW H → Nat
  | (.string bytes, d) => bytes.length + uptoBulk d + 1
  | (_, d) => uptoBulk d + 1
 end
def uptoSmall : (H : Type) → List (DataW H) → Bool := fun _ ds => decide (uptoBulkAll ds ≤ 1048576)
def OpenSpec.upto (s : _root_.Go.ChangeSpec) : _root_.Go.OpenSpec := { _root_.Go.OpenSpec.ofChange s with cond := some uptoSmall }

/-- 'laws.FnExactVaultMarks', WHERE WHAT IT READS IS OF BULK AT MOST 1048576: true; the input reads as it did. -/
def fnExactVaultMarksUptoRow : OpenClaim := { program := "ytlkgdnkfjijneaadoor", sum := "fc0b66c5a4d3580122e60d1d5b9246712d566791a9ad8475c6d692a9978efb77", func := "loop.example/g00752/laws.FnExactVaultMarks", spec := "fnExactVaultMarks", named := ["loop.example/g00752/impl.secretMarks"], apart := false, laid := [("loop.example/g00752/impl.secretMarks", laid_loop_example_g00752_impl_secretMarks)], narrowed := true }
def FnExactVaultMarksUptoSaid : Prop := fnExactVaultMarksUptoRow.holds Tryd.pinned (OpenSpec.upto fnExactVaultMarksSpec)

end Rows
end Go.Proofs.YtlkgdnkfjijneaaDoor
