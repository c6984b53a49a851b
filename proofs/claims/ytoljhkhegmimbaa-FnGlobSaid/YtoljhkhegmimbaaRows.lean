/-
  No cell of these rows narrows 'for every input' (looked for: loops, veiled, ifaces, maps, wideKeys, modest, calm, conditions, laid).
  DERIVED. THE GIVEN ROWS OF THIS SEAT. 6 by the template 'for every input the law returns true; each argument reads behind the call as it read before'; 0 by the template 'total and deterministic' (their statements: YtoljhkhegmimbaaTotals.lean).
  GIVEN WITH THE SEED: the statements are not yours to turn. If you find one false, say at which input.
  Laid BY PROGRAM, IN A SANDBOX (cutbox-rows.mjs): the forced cells as the released guide's own fill.sh prints them over the translation 0c526c19cc0385ce… (all of the seat's roots in one cut). By AI agents, Wed Nov 11 2026. No macro, syntax, notation, axiom, sorry.
-/
import Derived.Test.YtoljhkhegmimbaaChecked
import GoSem.Claim
import GoSem.ClaimJoined
import GoSem.ClaimMapViews
import Derived.JoinedTies
import Derived.KernelRfl
namespace Go.Proofs.Ytoljhkhegmimbaa
/- THE CELL 'sum', in the pinned program and in every row, IS THE sha256 OF THE DUMP (.gsa) THAT YtoljhkhegmimbaaProg.lean LOADS. Nothing in Lean hashes anything: it is a label: what it is worth is what the hold of that sum in a sandbox is worth. -/
noncomputable def Try.pinned : Pinned := { name := "ytoljhkhegmimbaa", sum := "0c526c19cc0385ceadad562d0fee544339aa88a28d0fc4d36654aa5754b433db", checked := Try.checked }
namespace Rows
def none {H : Type} : Left H := { results := [], args := [] }

/-- 'laws.FnGlob': WHATEVER THE INPUT: true; the input reads as it did. -/
def fnGlobSpec : ChangeSpec := { name := "fnGlob", fn := fun _ => fun
  | [d1, d2] => { results := [.lit (.bool true)], args := [d1, d2] }
  | _ => none }
def fnGlobRow : OpenClaim := { program := "ytoljhkhegmimbaa", sum := "0c526c19cc0385ceadad562d0fee544339aa88a28d0fc4d36654aa5754b433db", func := "loop.example/g00752/laws.FnGlob", spec := "fnGlob", unfollowed := true, recurses := true, apart := false }
def FnGlobSaid : Prop := fnGlobRow.holds Try.pinned (OpenSpec.ofChange fnGlobSpec)

/-- ITS FALSE NEIGHBOUR: 'it returns false'. Refute it at one input. -/
def fnGlobWrong : ChangeSpec := { name := "fnGlob", fn := fun _ => fun
  | [d1, d2] => { results := [.lit (.bool false)], args := [d1, d2] }
  | _ => none }
def FnGlobWrongFalsely : Prop := fnGlobRow.holds Try.pinned (OpenSpec.ofChange fnGlobWrong)

/-- 'laws.FnExactGlobRight': WHATEVER THE INPUT: true; the input reads as it did. -/
def fnExactGlobRightSpec : ChangeSpec := { name := "fnExactGlobRight", fn := fun _ => fun
  | [d] => { results := [.lit (.bool true)], args := [d] }
  | _ => none }
def fnExactGlobRightRow : OpenClaim := { program := "ytoljhkhegmimbaa", sum := "0c526c19cc0385ceadad562d0fee544339aa88a28d0fc4d36654aa5754b433db", func := "loop.example/g00752/laws.FnExactGlobRight", spec := "fnExactGlobRight", apart := false }
def FnExactGlobRightSaid : Prop := fnExactGlobRightRow.holds Try.pinned (OpenSpec.ofChange fnExactGlobRightSpec)

/-- ITS FALSE NEIGHBOUR: 'it returns false'. Refute it at one input. -/
def fnExactGlobRightWrong : ChangeSpec := { name := "fnExactGlobRight", fn := fun _ => fun
  | [d] => { results := [.lit (.bool false)], args := [d] }
  | _ => none }
def FnExactGlobRightWrongFalsely : Prop := fnExactGlobRightRow.holds Try.pinned (OpenSpec.ofChange fnExactGlobRightWrong)

/-- 'laws.FnExactGlobAll': WHATEVER THE INPUT: true; the input reads as it did. -/
def fnExactGlobAllSpec : ChangeSpec := { name := "fnExactGlobAll", fn := fun _ => fun
  | [d1, d2] => { results := [.lit (.bool true)], args := [d1, d2] }
  | _ => none }
def fnExactGlobAllRow : OpenClaim := { program := "ytoljhkhegmimbaa", sum := "0c526c19cc0385ceadad562d0fee544339aa88a28d0fc4d36654aa5754b433db", func := "loop.example/g00752/laws.FnExactGlobAll", spec := "fnExactGlobAll", unfollowed := true, recurses := true, apart := false }
def FnExactGlobAllSaid : Prop := fnExactGlobAllRow.holds Try.pinned (OpenSpec.ofChange fnExactGlobAllSpec)

/-- ITS FALSE NEIGHBOUR: 'it returns false'. Refute it at one input. -/
def fnExactGlobAllWrong : ChangeSpec := { name := "fnExactGlobAll", fn := fun _ => fun
  | [d1, d2] => { results := [.lit (.bool false)], args := [d1, d2] }
  | _ => none }
def FnExactGlobAllWrongFalsely : Prop := fnExactGlobAllRow.holds Try.pinned (OpenSpec.ofChange fnExactGlobAllWrong)

/-- 'laws.FnExactGlobFind': WHATEVER THE INPUT: true; the input reads as it did. -/
def fnExactGlobFindSpec : ChangeSpec := { name := "fnExactGlobFind", fn := fun _ => fun
  | [d1, d2] => { results := [.lit (.bool true)], args := [d1, d2] }
  | _ => none }
def fnExactGlobFindRow : OpenClaim := { program := "ytoljhkhegmimbaa", sum := "0c526c19cc0385ceadad562d0fee544339aa88a28d0fc4d36654aa5754b433db", func := "loop.example/g00752/laws.FnExactGlobFind", spec := "fnExactGlobFind", unfollowed := true, recurses := true, apart := false }
def FnExactGlobFindSaid : Prop := fnExactGlobFindRow.holds Try.pinned (OpenSpec.ofChange fnExactGlobFindSpec)

/-- ITS FALSE NEIGHBOUR: 'it returns false'. Refute it at one input. -/
def fnExactGlobFindWrong : ChangeSpec := { name := "fnExactGlobFind", fn := fun _ => fun
  | [d1, d2] => { results := [.lit (.bool false)], args := [d1, d2] }
  | _ => none }
def FnExactGlobFindWrongFalsely : Prop := fnExactGlobFindRow.holds Try.pinned (OpenSpec.ofChange fnExactGlobFindWrong)

/-- 'laws.FnExactGlobEnds': WHATEVER THE INPUT: true; the input reads as it did. -/
def fnExactGlobEndsSpec : ChangeSpec := { name := "fnExactGlobEnds", fn := fun _ => fun
  | [d1, d2] => { results := [.lit (.bool true)], args := [d1, d2] }
  | _ => none }
def fnExactGlobEndsRow : OpenClaim := { program := "ytoljhkhegmimbaa", sum := "0c526c19cc0385ceadad562d0fee544339aa88a28d0fc4d36654aa5754b433db", func := "loop.example/g00752/laws.FnExactGlobEnds", spec := "fnExactGlobEnds", unfollowed := true, recurses := true, apart := false }
def FnExactGlobEndsSaid : Prop := fnExactGlobEndsRow.holds Try.pinned (OpenSpec.ofChange fnExactGlobEndsSpec)

/-- ITS FALSE NEIGHBOUR: 'it returns false'. Refute it at one input. -/
def fnExactGlobEndsWrong : ChangeSpec := { name := "fnExactGlobEnds", fn := fun _ => fun
  | [d1, d2] => { results := [.lit (.bool false)], args := [d1, d2] }
  | _ => none }
def FnExactGlobEndsWrongFalsely : Prop := fnExactGlobEndsRow.holds Try.pinned (OpenSpec.ofChange fnExactGlobEndsWrong)

/-- 'laws.FnExactGlobQuote': WHATEVER THE INPUT: true; the input reads as it did. -/
def fnExactGlobQuoteSpec : ChangeSpec := { name := "fnExactGlobQuote", fn := fun _ => fun
  | [d] => { results := [.lit (.bool true)], args := [d] }
  | _ => none }
def fnExactGlobQuoteRow : OpenClaim := { program := "ytoljhkhegmimbaa", sum := "0c526c19cc0385ceadad562d0fee544339aa88a28d0fc4d36654aa5754b433db", func := "loop.example/g00752/laws.FnExactGlobQuote", spec := "fnExactGlobQuote", apart := false }
def FnExactGlobQuoteSaid : Prop := fnExactGlobQuoteRow.holds Try.pinned (OpenSpec.ofChange fnExactGlobQuoteSpec)

/-- ITS FALSE NEIGHBOUR: 'it returns false'. Refute it at one input. -/
def fnExactGlobQuoteWrong : ChangeSpec := { name := "fnExactGlobQuote", fn := fun _ => fun
  | [d] => { results := [.lit (.bool false)], args := [d] }
  | _ => none }
def FnExactGlobQuoteWrongFalsely : Prop := fnExactGlobQuoteRow.holds Try.pinned (OpenSpec.ofChange fnExactGlobQuoteWrong)

/- THE SECOND FORM. 'bulk': how many values and letters a reading holds, each counted each time it is reached (what is shared counts as often as it is met; a slice's spare places count too). A statement '..UptoSaid' is the law's where the arguments, and the package variables that the reading takes, are together of bulk at most 1048576: NARROWER than '..Said'. Prove '..Said' where nothing that the law and all that it calls make is longer than what came in: it says more and counts as full. Else prove '..UptoSaid'. A law counts once. -/
mutual
def uptoBulk {H : Type} : DataW H → Nat
  | .lit (.string bytes) => bytes.length + 1
  | .lit _ => 1
  | .nil => 1
  | .ptr d => uptoBulk d + 1
  | .slice elems spare => uptoBulkAll elems + uptoBulkAll spare + 1
  | .agg parts => uptoBulkAll parts + 1
  | .iface _ d => uptoBulk d + 1
  | .map entries => uptoBulkEntries entries + 1
  | .held _ => 1
def uptoBulkAll {H : Type} : List (DataW H) → Nat
  | [] => 0
  | d :: r => uptoBulk d + uptoBulkAll r
def uptoBulkEntries {H : Type} : List (Lit × DataW H) → Nat
  | [] => 0
  | x :: r => uptoBulkEntry x + uptoBulkEntries r
def uptoBulkEntry {H : Type} : Lit × DataW H → Nat
  | (.string bytes, d) => bytes.length + uptoBulk d + 1
  | (_, d) => uptoBulk d + 1
 end
def uptoSmall : (H : Type) → List (DataW H) → Bool := fun _ ds => decide (uptoBulkAll ds ≤ 1048576)
def OpenSpec.upto (s : _root_.Go.ChangeSpec) : _root_.Go.OpenSpec := { _root_.Go.OpenSpec.ofChange s with cond := some uptoSmall }

/-- 'laws.FnGlob', WHERE WHAT IT READS IS OF BULK AT MOST 1048576: true; the input reads as it did. -/
def fnGlobUptoRow : OpenClaim := { program := "ytoljhkhegmimbaa", sum := "0c526c19cc0385ceadad562d0fee544339aa88a28d0fc4d36654aa5754b433db", func := "loop.example/g00752/laws.FnGlob", spec := "fnGlob", unfollowed := true, recurses := true, apart := false, narrowed := true }
def FnGlobUptoSaid : Prop := fnGlobUptoRow.holds Try.pinned (OpenSpec.upto fnGlobSpec)

/-- 'laws.FnExactGlobRight', WHERE WHAT IT READS IS OF BULK AT MOST 1048576: true; the input reads as it did. -/
def fnExactGlobRightUptoRow : OpenClaim := { program := "ytoljhkhegmimbaa", sum := "0c526c19cc0385ceadad562d0fee544339aa88a28d0fc4d36654aa5754b433db", func := "loop.example/g00752/laws.FnExactGlobRight", spec := "fnExactGlobRight", apart := false, narrowed := true }
def FnExactGlobRightUptoSaid : Prop := fnExactGlobRightUptoRow.holds Try.pinned (OpenSpec.upto fnExactGlobRightSpec)

/-- 'laws.FnExactGlobAll', WHERE WHAT IT READS IS OF BULK AT MOST 1048576: true; the input reads as it did. -/
def fnExactGlobAllUptoRow : OpenClaim := { program := "ytoljhkhegmimbaa", sum := "0c526c19cc0385ceadad562d0fee544339aa88a28d0fc4d36654aa5754b433db", func := "loop.example/g00752/laws.FnExactGlobAll", spec := "fnExactGlobAll", unfollowed := true, recurses := true, apart := false, narrowed := true }
def FnExactGlobAllUptoSaid : Prop := fnExactGlobAllUptoRow.holds Try.pinned (OpenSpec.upto fnExactGlobAllSpec)

/-- 'laws.FnExactGlobFind', WHERE WHAT IT READS IS OF BULK AT MOST 1048576: true; the input reads as it did. -/
def fnExactGlobFindUptoRow : OpenClaim := { program := "ytoljhkhegmimbaa", sum := "0c526c19cc0385ceadad562d0fee544339aa88a28d0fc4d36654aa5754b433db", func := "loop.example/g00752/laws.FnExactGlobFind", spec := "fnExactGlobFind", unfollowed := true, recurses := true, apart := false, narrowed := true }
def FnExactGlobFindUptoSaid : Prop := fnExactGlobFindUptoRow.holds Try.pinned (OpenSpec.upto fnExactGlobFindSpec)

/-- 'laws.FnExactGlobEnds', WHERE WHAT IT READS IS OF BULK AT MOST 1048576: true; the input reads as it did. -/
def fnExactGlobEndsUptoRow : OpenClaim := { program := "ytoljhkhegmimbaa", sum := "0c526c19cc0385ceadad562d0fee544339aa88a28d0fc4d36654aa5754b433db", func := "loop.example/g00752/laws.FnExactGlobEnds", spec := "fnExactGlobEnds", unfollowed := true, recurses := true, apart := false, narrowed := true }
def FnExactGlobEndsUptoSaid : Prop := fnExactGlobEndsUptoRow.holds Try.pinned (OpenSpec.upto fnExactGlobEndsSpec)

/-- 'laws.FnExactGlobQuote', WHERE WHAT IT READS IS OF BULK AT MOST 1048576: true; the input reads as it did. -/
def fnExactGlobQuoteUptoRow : OpenClaim := { program := "ytoljhkhegmimbaa", sum := "0c526c19cc0385ceadad562d0fee544339aa88a28d0fc4d36654aa5754b433db", func := "loop.example/g00752/laws.FnExactGlobQuote", spec := "fnExactGlobQuote", apart := false, narrowed := true }
def FnExactGlobQuoteUptoSaid : Prop := fnExactGlobQuoteUptoRow.holds Try.pinned (OpenSpec.upto fnExactGlobQuoteSpec)

end Rows
end Go.Proofs.Ytoljhkhegmimbaa
