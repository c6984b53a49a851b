/-
  No cell of these rows narrows 'for every input' (looked for: loops, veiled, ifaces, maps, wideKeys, modest, calm, conditions, laid).
  DERIVED. THE GIVEN ROWS OF THIS SEAT. 5 by the template 'for every input the law returns true; each argument reads behind the call as it read before'; 0 by the template 'total and deterministic' (their statements: YtlkgdnkfjijneaaTotals.lean).
  GIVEN WITH THE SEED: the statements are not yours to turn. If you find one false, say at which input.
  Laid BY PROGRAM, IN A SANDBOX (cutbox-rows.mjs): the forced cells as the released guide's own fill.sh prints them over the translation dc213300d72b3ea4… (all of the seat's roots in one cut). By AI agents, Wed Nov 11 2026. No macro, syntax, notation, axiom, sorry.
-/
import Derived.Test.YtlkgdnkfjijneaaChecked
import GoSem.Claim
import GoSem.ClaimJoined
import GoSem.ClaimMapViews
import Derived.JoinedTies
import Derived.KernelRfl
namespace Go.Proofs.Ytlkgdnkfjijneaa
/- THE CELL 'sum', in the pinned program and in every row, IS THE sha256 OF THE DUMP (.gsa) THAT YtlkgdnkfjijneaaProg.lean LOADS. Nothing in Lean hashes anything: it is a label: what it is worth is what the hold of that sum in a sandbox is worth. -/
noncomputable def Try.pinned : Pinned := { name := "ytlkgdnkfjijneaa", sum := "dc213300d72b3ea458869b9dd622d962b84b84f4894d2c3e6a1aa934cf073e6e", checked := Try.checked }
namespace Rows
def none {H : Type} : Left H := { results := [], args := [] }

/-- 'laws.FnExactWordRight': WHATEVER THE INPUT: true; the input reads as it did. -/
def fnExactWordRightSpec : ChangeSpec := { name := "fnExactWordRight", fn := fun _ => fun
  | [d] => { results := [.lit (.bool true)], args := [d] }
  | _ => none }
def fnExactWordRightRow : OpenClaim := { program := "ytlkgdnkfjijneaa", sum := "dc213300d72b3ea458869b9dd622d962b84b84f4894d2c3e6a1aa934cf073e6e", func := "loop.example/g00752/laws.FnExactWordRight", spec := "fnExactWordRight", apart := false }
def FnExactWordRightSaid : Prop := fnExactWordRightRow.holds Try.pinned (OpenSpec.ofChange fnExactWordRightSpec)

/-- ITS FALSE NEIGHBOUR: 'it returns false'. Refute it at one input. -/
def fnExactWordRightWrong : ChangeSpec := { name := "fnExactWordRight", fn := fun _ => fun
  | [d] => { results := [.lit (.bool false)], args := [d] }
  | _ => none }
def FnExactWordRightWrongFalsely : Prop := fnExactWordRightRow.holds Try.pinned (OpenSpec.ofChange fnExactWordRightWrong)

/-- 'laws.FnExactVaultRight': WHATEVER THE INPUT: true; the input reads as it did. -/
def fnExactVaultRightSpec : ChangeSpec := { name := "fnExactVaultRight", fn := fun _ => fun
  | [d] => { results := [.lit (.bool true)], args := [d] }
  | _ => none }
def fnExactVaultRightRow : OpenClaim := { program := "ytlkgdnkfjijneaa", sum := "dc213300d72b3ea458869b9dd622d962b84b84f4894d2c3e6a1aa934cf073e6e", func := "loop.example/g00752/laws.FnExactVaultRight", spec := "fnExactVaultRight", apart := false }
def FnExactVaultRightSaid : Prop := fnExactVaultRightRow.holds Try.pinned (OpenSpec.ofChange fnExactVaultRightSpec)

/-- ITS FALSE NEIGHBOUR: 'it returns false'. Refute it at one input. -/
def fnExactVaultRightWrong : ChangeSpec := { name := "fnExactVaultRight", fn := fun _ => fun
  | [d] => { results := [.lit (.bool false)], args := [d] }
  | _ => none }
def FnExactVaultRightWrongFalsely : Prop := fnExactVaultRightRow.holds Try.pinned (OpenSpec.ofChange fnExactVaultRightWrong)

/-- 'laws.FnExactSecretAt': WHATEVER THE INPUT: true; the input reads as it did. -/
def fnExactSecretAtSpec : ChangeSpec := { name := "fnExactSecretAt", fn := fun _ => fun
  | [d1, d2] => { results := [.lit (.bool true)], args := [d1, d2] }
  | _ => none }
def fnExactSecretAtRow : OpenClaim := { program := "ytlkgdnkfjijneaa", sum := "dc213300d72b3ea458869b9dd622d962b84b84f4894d2c3e6a1aa934cf073e6e", func := "loop.example/g00752/laws.FnExactSecretAt", spec := "fnExactSecretAt", apart := false }
def FnExactSecretAtSaid : Prop := fnExactSecretAtRow.holds Try.pinned (OpenSpec.ofChange fnExactSecretAtSpec)

/-- ITS FALSE NEIGHBOUR: 'it returns false'. Refute it at one input. -/
def fnExactSecretAtWrong : ChangeSpec := { name := "fnExactSecretAt", fn := fun _ => fun
  | [d1, d2] => { results := [.lit (.bool false)], args := [d1, d2] }
  | _ => none }
def FnExactSecretAtWrongFalsely : Prop := fnExactSecretAtRow.holds Try.pinned (OpenSpec.ofChange fnExactSecretAtWrong)

/-- 'laws.FnExactSameShape': WHATEVER THE INPUT: true; the input reads as it did. -/
def fnExactSameShapeSpec : ChangeSpec := { name := "fnExactSameShape", fn := fun _ => fun
  | [d1, d2] => { results := [.lit (.bool true)], args := [d1, d2] }
  | _ => none }
def fnExactSameShapeRow : OpenClaim := { program := "ytlkgdnkfjijneaa", sum := "dc213300d72b3ea458869b9dd622d962b84b84f4894d2c3e6a1aa934cf073e6e", func := "loop.example/g00752/laws.FnExactSameShape", spec := "fnExactSameShape", unfollowed := true, recurses := true, apart := false }
def FnExactSameShapeSaid : Prop := fnExactSameShapeRow.holds Try.pinned (OpenSpec.ofChange fnExactSameShapeSpec)

/-- ITS FALSE NEIGHBOUR: 'it returns false'. Refute it at one input. -/
def fnExactSameShapeWrong : ChangeSpec := { name := "fnExactSameShape", fn := fun _ => fun
  | [d1, d2] => { results := [.lit (.bool false)], args := [d1, d2] }
  | _ => none }
def FnExactSameShapeWrongFalsely : Prop := fnExactSameShapeRow.holds Try.pinned (OpenSpec.ofChange fnExactSameShapeWrong)

/-- 'laws.FnExactTwin': WHATEVER THE INPUT: true; the input reads as it did. -/
def fnExactTwinSpec : ChangeSpec := { name := "fnExactTwin", fn := fun _ => fun
  | [d1, d2] => { results := [.lit (.bool true)], args := [d1, d2] }
  | _ => none }
def fnExactTwinRow : OpenClaim := { program := "ytlkgdnkfjijneaa", sum := "dc213300d72b3ea458869b9dd622d962b84b84f4894d2c3e6a1aa934cf073e6e", func := "loop.example/g00752/laws.FnExactTwin", spec := "fnExactTwin", apart := false }
def FnExactTwinSaid : Prop := fnExactTwinRow.holds Try.pinned (OpenSpec.ofChange fnExactTwinSpec)

/-- ITS FALSE NEIGHBOUR: 'it returns false'. Refute it at one input. -/
def fnExactTwinWrong : ChangeSpec := { name := "fnExactTwin", fn := fun _ => fun
  | [d1, d2] => { results := [.lit (.bool false)], args := [d1, d2] }
  | _ => none }
def FnExactTwinWrongFalsely : Prop := fnExactTwinRow.holds Try.pinned (OpenSpec.ofChange fnExactTwinWrong)

/- THE SECOND FORM. 'bulk': how many values and letters a reading holds, each counted each time it is reached (what is shared counts as often as it is met; a slice's spare places count too). A statement '..UptoSaid' is the law's where the arguments, and the package variables that the reading takes, are together of bulk at most 1048576: NARROWER than '..Said'. Prove '..Said' where nothing that the law and all that it calls make is longer than what came in: it says more and counts as full. Else prove '..UptoSaid'. A law counts once. -/
mutual
def uptoBulk {H : Type} : DataW H → Nat
  | .lit (.string bytes) => bytes.length + 1
  | .lit _ => 1
  | .nil => 1
  | .ptr d => uptoBulk d + 1
  | .slice elems spare => uptoBulkAll elems + uptoBulkAll spare + 1
  | .agg parts => uptoBulkAll parts + 1
  | .iface _ d => uptoBulk d + 1
  | .map entries => uptoBulkEntries entries + 1
  | .held _ => 1
def uptoBulkAll {H : Type} : List (DataW H) → Nat
  | [] => 0
  | d :: r => uptoBulk d + uptoBulkAll r
def uptoBulkEntries {H : Type} : List (Lit × DataW H) → Nat
  | [] => 0
  | x :: r => uptoBulkEntry x + uptoBulkEntries r
def uptoBulkEntry {H : Type} : Lit × DataW H → Nat
  | (.string bytes, d) => bytes.length + uptoBulk d + 1
  | (_, d) => uptoBulk d + 1
 end
def uptoSmall : (H : Type) → List (DataW H) → Bool := fun _ ds => decide (uptoBulkAll ds ≤ 1048576)
def OpenSpec.upto (s : _root_.Go.ChangeSpec) : _root_.Go.OpenSpec := { _root_.Go.OpenSpec.ofChange s with cond := some uptoSmall }

/-- 'laws.FnExactWordRight', WHERE WHAT IT READS IS OF BULK AT MOST 1048576: true; the input reads as it did. -/
def fnExactWordRightUptoRow : OpenClaim := { program := "ytlkgdnkfjijneaa", sum := "dc213300d72b3ea458869b9dd622d962b84b84f4894d2c3e6a1aa934cf073e6e", func := "loop.example/g00752/laws.FnExactWordRight", spec := "fnExactWordRight", apart := false, narrowed := true }
def FnExactWordRightUptoSaid : Prop := fnExactWordRightUptoRow.holds Try.pinned (OpenSpec.upto fnExactWordRightSpec)

/-- 'laws.FnExactVaultRight', WHERE WHAT IT READS IS OF BULK AT MOST 1048576: true; the input reads as it did. -/
def fnExactVaultRightUptoRow : OpenClaim := { program := "ytlkgdnkfjijneaa", sum := "dc213300d72b3ea458869b9dd622d962b84b84f4894d2c3e6a1aa934cf073e6e", func := "loop.example/g00752/laws.FnExactVaultRight", spec := "fnExactVaultRight", apart := false, narrowed := true }
def FnExactVaultRightUptoSaid : Prop := fnExactVaultRightUptoRow.holds Try.pinned (OpenSpec.upto fnExactVaultRightSpec)

/-- 'laws.FnExactSecretAt', WHERE WHAT IT READS IS OF BULK AT MOST 1048576: true; the input reads as it did. -/
def fnExactSecretAtUptoRow : OpenClaim := { program := "ytlkgdnkfjijneaa", sum := "dc213300d72b3ea458869b9dd622d962b84b84f4894d2c3e6a1aa934cf073e6e", func := "loop.example/g00752/laws.FnExactSecretAt", spec := "fnExactSecretAt", apart := false, narrowed := true }
def FnExactSecretAtUptoSaid : Prop := fnExactSecretAtUptoRow.holds Try.pinned (OpenSpec.upto fnExactSecretAtSpec)

/-- 'laws.FnExactSameShape', WHERE WHAT IT READS IS OF BULK AT MOST 1048576: true; the input reads as it did. -/
def fnExactSameShapeUptoRow : OpenClaim := { program := "ytlkgdnkfjijneaa", sum := "dc213300d72b3ea458869b9dd622d962b84b84f4894d2c3e6a1aa934cf073e6e", func := "loop.example/g00752/laws.FnExactSameShape", spec := "fnExactSameShape", unfollowed := true, recurses := true, apart := false, narrowed := true }
def FnExactSameShapeUptoSaid : Prop := fnExactSameShapeUptoRow.holds Try.pinned (OpenSpec.upto fnExactSameShapeSpec)

/-- 'laws.FnExactTwin', WHERE WHAT IT READS IS OF BULK AT MOST 1048576: true; the input reads as it did. -/
def fnExactTwinUptoRow : OpenClaim := { program := "ytlkgdnkfjijneaa", sum := "dc213300d72b3ea458869b9dd622d962b84b84f4894d2c3e6a1aa934cf073e6e", func := "loop.example/g00752/laws.FnExactTwin", spec := "fnExactTwin", apart := false, narrowed := true }
def FnExactTwinUptoSaid : Prop := fnExactTwinUptoRow.holds Try.pinned (OpenSpec.upto fnExactTwinSpec)

end Rows
end Go.Proofs.Ytlkgdnkfjijneaa
