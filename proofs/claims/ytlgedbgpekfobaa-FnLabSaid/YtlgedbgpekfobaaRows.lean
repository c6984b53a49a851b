/-
  No cell of these rows narrows 'for every input' (looked for: loops, veiled, ifaces, maps, wideKeys, modest, calm, conditions, laid).
  DERIVED. THE GIVEN ROWS OF THIS SEAT. 9 by the template 'for every input the law returns true; each argument reads behind the call as it read before'; 0 by the template 'total and deterministic' (their statements: YtlgedbgpekfobaaTotals.lean).
  GIVEN WITH THE SEED: the statements are not yours to turn. If you find one false, say at which input.
  Laid BY PROGRAM, IN A SANDBOX (cutbox-rows.mjs): the forced cells as the released guide's own fill.sh prints them over the translation 03041fd48074eab6… (all of the seat's roots in one cut). By AI agents, Wed Nov 11 2026. No macro, syntax, notation, axiom, sorry.
-/
import Derived.Test.YtlgedbgpekfobaaChecked
import GoSem.Claim
import GoSem.ClaimJoined
import GoSem.ClaimMapViews
import Derived.JoinedTies
import Derived.KernelRfl
namespace Go.Proofs.Ytlgedbgpekfobaa
/- THE CELL 'sum', in the pinned program and in every row, IS THE sha256 OF THE DUMP (.gsa) THAT YtlgedbgpekfobaaProg.lean LOADS. Nothing in Lean hashes anything: it is a label: what it is worth is what the hold of that sum in a sandbox is worth. -/
noncomputable def Try.pinned : Pinned := { name := "ytlgedbgpekfobaa", sum := "03041fd48074eab611c894f167b59a9c67a4f0dbea9a055a621ee38bc93c8b6d", checked := Try.checked }
namespace Rows
def none {H : Type} : Left H := { results := [], args := [] }

/-- 'laws.FnLab': WHATEVER THE INPUT: true; the input reads as it did. -/
def fnLabSpec : ChangeSpec := { name := "fnLab", fn := fun _ => fun
  | [d1, d2] => { results := [.lit (.bool true)], args := [d1, d2] }
  | _ => none }
def fnLabRow : OpenClaim := { program := "ytlgedbgpekfobaa", sum := "03041fd48074eab611c894f167b59a9c67a4f0dbea9a055a621ee38bc93c8b6d", func := "loop.example/g00752/laws.FnLab", spec := "fnLab", apart := false }
def FnLabSaid : Prop := fnLabRow.holds Try.pinned (OpenSpec.ofChange fnLabSpec)

/-- ITS FALSE NEIGHBOUR: 'it returns false'. Refute it at one input. -/
def fnLabWrong : ChangeSpec := { name := "fnLab", fn := fun _ => fun
  | [d1, d2] => { results := [.lit (.bool false)], args := [d1, d2] }
  | _ => none }
def FnLabWrongFalsely : Prop := fnLabRow.holds Try.pinned (OpenSpec.ofChange fnLabWrong)

/-- 'laws.FnExactLabRight': WHATEVER THE INPUT: true; the input reads as it did. -/
def fnExactLabRightSpec : ChangeSpec := { name := "fnExactLabRight", fn := fun _ => fun
  | [d] => { results := [.lit (.bool true)], args := [d] }
  | _ => none }
def fnExactLabRightRow : OpenClaim := { program := "ytlgedbgpekfobaa", sum := "03041fd48074eab611c894f167b59a9c67a4f0dbea9a055a621ee38bc93c8b6d", func := "loop.example/g00752/laws.FnExactLabRight", spec := "fnExactLabRight", apart := false }
def FnExactLabRightSaid : Prop := fnExactLabRightRow.holds Try.pinned (OpenSpec.ofChange fnExactLabRightSpec)

/-- ITS FALSE NEIGHBOUR: 'it returns false'. Refute it at one input. -/
def fnExactLabRightWrong : ChangeSpec := { name := "fnExactLabRight", fn := fun _ => fun
  | [d] => { results := [.lit (.bool false)], args := [d] }
  | _ => none }
def FnExactLabRightWrongFalsely : Prop := fnExactLabRightRow.holds Try.pinned (OpenSpec.ofChange fnExactLabRightWrong)

/-- 'laws.FnExactLabOf': WHATEVER THE INPUT: true; the input reads as it did. -/
def fnExactLabOfSpec : ChangeSpec := { name := "fnExactLabOf", fn := fun _ => fun
  | [d1, d2] => { results := [.lit (.bool true)], args := [d1, d2] }
  | _ => none }
def fnExactLabOfRow : OpenClaim := { program := "ytlgedbgpekfobaa", sum := "03041fd48074eab611c894f167b59a9c67a4f0dbea9a055a621ee38bc93c8b6d", func := "loop.example/g00752/laws.FnExactLabOf", spec := "fnExactLabOf", apart := false }
def FnExactLabOfSaid : Prop := fnExactLabOfRow.holds Try.pinned (OpenSpec.ofChange fnExactLabOfSpec)

/-- ITS FALSE NEIGHBOUR: 'it returns false'. Refute it at one input. -/
def fnExactLabOfWrong : ChangeSpec := { name := "fnExactLabOf", fn := fun _ => fun
  | [d1, d2] => { results := [.lit (.bool false)], args := [d1, d2] }
  | _ => none }
def FnExactLabOfWrongFalsely : Prop := fnExactLabOfRow.holds Try.pinned (OpenSpec.ofChange fnExactLabOfWrong)

/-- 'laws.FnExactLabJoin': WHATEVER THE INPUT: true; the input reads as it did. -/
def fnExactLabJoinSpec : ChangeSpec := { name := "fnExactLabJoin", fn := fun _ => fun
  | [d1, d2] => { results := [.lit (.bool true)], args := [d1, d2] }
  | _ => none }
def fnExactLabJoinRow : OpenClaim := { program := "ytlgedbgpekfobaa", sum := "03041fd48074eab611c894f167b59a9c67a4f0dbea9a055a621ee38bc93c8b6d", func := "loop.example/g00752/laws.FnExactLabJoin", spec := "fnExactLabJoin", apart := false }
def FnExactLabJoinSaid : Prop := fnExactLabJoinRow.holds Try.pinned (OpenSpec.ofChange fnExactLabJoinSpec)

/-- ITS FALSE NEIGHBOUR: 'it returns false'. Refute it at one input. -/
def fnExactLabJoinWrong : ChangeSpec := { name := "fnExactLabJoin", fn := fun _ => fun
  | [d1, d2] => { results := [.lit (.bool false)], args := [d1, d2] }
  | _ => none }
def FnExactLabJoinWrongFalsely : Prop := fnExactLabJoinRow.holds Try.pinned (OpenSpec.ofChange fnExactLabJoinWrong)

/-- 'laws.FnExactLabCut': WHATEVER THE INPUT: true; the input reads as it did. -/
def fnExactLabCutSpec : ChangeSpec := { name := "fnExactLabCut", fn := fun _ => fun
  | [d1, d2, d3] => { results := [.lit (.bool true)], args := [d1, d2, d3] }
  | _ => none }
def fnExactLabCutRow : OpenClaim := { program := "ytlgedbgpekfobaa", sum := "03041fd48074eab611c894f167b59a9c67a4f0dbea9a055a621ee38bc93c8b6d", func := "loop.example/g00752/laws.FnExactLabCut", spec := "fnExactLabCut", apart := false }
def FnExactLabCutSaid : Prop := fnExactLabCutRow.holds Try.pinned (OpenSpec.ofChange fnExactLabCutSpec)

/-- ITS FALSE NEIGHBOUR: 'it returns false'. Refute it at one input. -/
def fnExactLabCutWrong : ChangeSpec := { name := "fnExactLabCut", fn := fun _ => fun
  | [d1, d2, d3] => { results := [.lit (.bool false)], args := [d1, d2, d3] }
  | _ => none }
def FnExactLabCutWrongFalsely : Prop := fnExactLabCutRow.holds Try.pinned (OpenSpec.ofChange fnExactLabCutWrong)

/-- 'laws.FnExactRedact': WHATEVER THE INPUT: true; the input reads as it did. -/
def fnExactRedactSpec : ChangeSpec := { name := "fnExactRedact", fn := fun _ => fun
  | [d] => { results := [.lit (.bool true)], args := [d] }
  | _ => none }
def fnExactRedactRow : OpenClaim := { program := "ytlgedbgpekfobaa", sum := "03041fd48074eab611c894f167b59a9c67a4f0dbea9a055a621ee38bc93c8b6d", func := "loop.example/g00752/laws.FnExactRedact", spec := "fnExactRedact", apart := false }
def FnExactRedactSaid : Prop := fnExactRedactRow.holds Try.pinned (OpenSpec.ofChange fnExactRedactSpec)

/-- ITS FALSE NEIGHBOUR: 'it returns false'. Refute it at one input. -/
def fnExactRedactWrong : ChangeSpec := { name := "fnExactRedact", fn := fun _ => fun
  | [d] => { results := [.lit (.bool false)], args := [d] }
  | _ => none }
def FnExactRedactWrongFalsely : Prop := fnExactRedactRow.holds Try.pinned (OpenSpec.ofChange fnExactRedactWrong)

/-- 'laws.FnExactMarkOf': WHATEVER THE INPUT: true; the input reads as it did. -/
def fnExactMarkOfSpec : ChangeSpec := { name := "fnExactMarkOf", fn := fun _ => fun
  | [d] => { results := [.lit (.bool true)], args := [d] }
  | _ => none }
def fnExactMarkOfRow : OpenClaim := { program := "ytlgedbgpekfobaa", sum := "03041fd48074eab611c894f167b59a9c67a4f0dbea9a055a621ee38bc93c8b6d", func := "loop.example/g00752/laws.FnExactMarkOf", spec := "fnExactMarkOf", apart := false }
def FnExactMarkOfSaid : Prop := fnExactMarkOfRow.holds Try.pinned (OpenSpec.ofChange fnExactMarkOfSpec)

/-- ITS FALSE NEIGHBOUR: 'it returns false'. Refute it at one input. -/
def fnExactMarkOfWrong : ChangeSpec := { name := "fnExactMarkOf", fn := fun _ => fun
  | [d] => { results := [.lit (.bool false)], args := [d] }
  | _ => none }
def FnExactMarkOfWrongFalsely : Prop := fnExactMarkOfRow.holds Try.pinned (OpenSpec.ofChange fnExactMarkOfWrong)

/-- 'laws.FnExactLabSame': WHATEVER THE INPUT: true; the input reads as it did. -/
def fnExactLabSameSpec : ChangeSpec := { name := "fnExactLabSame", fn := fun _ => fun
  | [d1, d2] => { results := [.lit (.bool true)], args := [d1, d2] }
  | _ => none }
def fnExactLabSameRow : OpenClaim := { program := "ytlgedbgpekfobaa", sum := "03041fd48074eab611c894f167b59a9c67a4f0dbea9a055a621ee38bc93c8b6d", func := "loop.example/g00752/laws.FnExactLabSame", spec := "fnExactLabSame", apart := false }
def FnExactLabSameSaid : Prop := fnExactLabSameRow.holds Try.pinned (OpenSpec.ofChange fnExactLabSameSpec)

/-- ITS FALSE NEIGHBOUR: 'it returns false'. Refute it at one input. -/
def fnExactLabSameWrong : ChangeSpec := { name := "fnExactLabSame", fn := fun _ => fun
  | [d1, d2] => { results := [.lit (.bool false)], args := [d1, d2] }
  | _ => none }
def FnExactLabSameWrongFalsely : Prop := fnExactLabSameRow.holds Try.pinned (OpenSpec.ofChange fnExactLabSameWrong)

/-- 'laws.FnExactSameBut': WHATEVER THE INPUT: true; the input reads as it did. -/
def fnExactSameButSpec : ChangeSpec := { name := "fnExactSameBut", fn := fun _ => fun
  | [d1, d2, d3] => { results := [.lit (.bool true)], args := [d1, d2, d3] }
  | _ => none }
def fnExactSameButRow : OpenClaim := { program := "ytlgedbgpekfobaa", sum := "03041fd48074eab611c894f167b59a9c67a4f0dbea9a055a621ee38bc93c8b6d", func := "loop.example/g00752/laws.FnExactSameBut", spec := "fnExactSameBut", apart := false }
def FnExactSameButSaid : Prop := fnExactSameButRow.holds Try.pinned (OpenSpec.ofChange fnExactSameButSpec)

/-- ITS FALSE NEIGHBOUR: 'it returns false'. Refute it at one input. -/
def fnExactSameButWrong : ChangeSpec := { name := "fnExactSameBut", fn := fun _ => fun
  | [d1, d2, d3] => { results := [.lit (.bool false)], args := [d1, d2, d3] }
  | _ => none }
def FnExactSameButWrongFalsely : Prop := fnExactSameButRow.holds Try.pinned (OpenSpec.ofChange fnExactSameButWrong)

/- THE SECOND FORM. 'bulk': how many values and letters a reading holds, each counted each time it is reached (what is shared counts as often as it is met; a slice's spare places count too). A statement '..UptoSaid' is the law's where the arguments, and the package variables that the reading takes, are together of bulk at most 1048576: NARROWER than '..Said'. Prove '..Said' where nothing that the law and all that it calls make is longer than what came in: it says more and counts as full. Else prove '..UptoSaid'. A law counts once. -/
mutual
def uptoBulk {H : Type} : DataW H → Nat
  | .lit (.string bytes) => bytes.length + 1
  | .lit _ => 1
  | .nil => 1
  | .ptr d => uptoBulk d + 1
  | .slice elems spare => uptoBulkAll elems + uptoBulkAll spare + 1
  | .agg parts => uptoBulkAll parts + 1
  | .iface _ d => uptoBulk d + 1
  | .map entries => uptoBulkEntries entries + 1
  | .held _ => 1
def uptoBulkAll {H : Type} : List (DataW H) → Nat
  | [] => 0
  | d :: r => uptoBulk d + uptoBulkAll r
def uptoBulkEntries {H : Type} : List (Lit × DataW H) → Nat
  | [] => 0
  | x :: r => uptoBulkEntry x + uptoBulkEntries r
def uptoBulkEntry {H : Type} : Lit × DataW H → Nat
  | (.string bytes, d) => bytes.length + uptoBulk d + 1
  | (_, d) => uptoBulk d + 1
 end
def uptoSmall : (H : Type) → List (DataW H) → Bool := fun _ ds => decide (uptoBulkAll ds ≤ 1048576)
def OpenSpec.upto (s : _root_.Go.ChangeSpec) : _root_.Go.OpenSpec := { _root_.Go.OpenSpec.ofChange s with cond := some uptoSmall }

/-- 'laws.FnLab', WHERE WHAT IT READS IS OF BULK AT MOST 1048576: true; the input reads as it did. -/
def fnLabUptoRow : OpenClaim := { program := "ytlgedbgpekfobaa", sum := "03041fd48074eab611c894f167b59a9c67a4f0dbea9a055a621ee38bc93c8b6d", func := "loop.example/g00752/laws.FnLab", spec := "fnLab", apart := false, narrowed := true }
def FnLabUptoSaid : Prop := fnLabUptoRow.holds Try.pinned (OpenSpec.upto fnLabSpec)

/-- 'laws.FnExactLabRight', WHERE WHAT IT READS IS OF BULK AT MOST 1048576: true; the input reads as it did. -/
def fnExactLabRightUptoRow : OpenClaim := { program := "ytlgedbgpekfobaa", sum := "03041fd48074eab611c894f167b59a9c67a4f0dbea9a055a621ee38bc93c8b6d", func := "loop.example/g00752/laws.FnExactLabRight", spec := "fnExactLabRight", apart := false, narrowed := true }
def FnExactLabRightUptoSaid : Prop := fnExactLabRightUptoRow.holds Try.pinned (OpenSpec.upto fnExactLabRightSpec)

/-- 'laws.FnExactLabOf', WHERE WHAT IT READS IS OF BULK AT MOST 1048576: true; the input reads as it did. -/
def fnExactLabOfUptoRow : OpenClaim := { program := "ytlgedbgpekfobaa", sum := "03041fd48074eab611c894f167b59a9c67a4f0dbea9a055a621ee38bc93c8b6d", func := "loop.example/g00752/laws.FnExactLabOf", spec := "fnExactLabOf", apart := false, narrowed := true }
def FnExactLabOfUptoSaid : Prop := fnExactLabOfUptoRow.holds Try.pinned (OpenSpec.upto fnExactLabOfSpec)

/-- 'laws.FnExactLabJoin', WHERE WHAT IT READS IS OF BULK AT MOST 1048576: true; the input reads as it did. -/
def fnExactLabJoinUptoRow : OpenClaim := { program := "ytlgedbgpekfobaa", sum := "03041fd48074eab611c894f167b59a9c67a4f0dbea9a055a621ee38bc93c8b6d", func := "loop.example/g00752/laws.FnExactLabJoin", spec := "fnExactLabJoin", apart := false, narrowed := true }
def FnExactLabJoinUptoSaid : Prop := fnExactLabJoinUptoRow.holds Try.pinned (OpenSpec.upto fnExactLabJoinSpec)

/-- 'laws.FnExactLabCut', WHERE WHAT IT READS IS OF BULK AT MOST 1048576: true; the input reads as it did. -/
def fnExactLabCutUptoRow : OpenClaim := { program := "ytlgedbgpekfobaa", sum := "03041fd48074eab611c894f167b59a9c67a4f0dbea9a055a621ee38bc93c8b6d", func := "loop.example/g00752/laws.FnExactLabCut", spec := "fnExactLabCut", apart := false, narrowed := true }
def FnExactLabCutUptoSaid : Prop := fnExactLabCutUptoRow.holds Try.pinned (OpenSpec.upto fnExactLabCutSpec)

/-- 'laws.FnExactRedact', WHERE WHAT IT READS IS OF BULK AT MOST 1048576: true; the input reads as it did. -/
def fnExactRedactUptoRow : OpenClaim := { program := "ytlgedbgpekfobaa", sum := "03041fd48074eab611c894f167b59a9c67a4f0dbea9a055a621ee38bc93c8b6d", func := "loop.example/g00752/laws.FnExactRedact", spec := "fnExactRedact", apart := false, narrowed := true }
def FnExactRedactUptoSaid : Prop := fnExactRedactUptoRow.holds Try.pinned (OpenSpec.upto fnExactRedactSpec)

/-- 'laws.FnExactMarkOf', WHERE WHAT IT READS IS OF BULK AT MOST 1048576: true; the input reads as it did. -/
def fnExactMarkOfUptoRow : OpenClaim := { program := "ytlgedbgpekfobaa", sum := "03041fd48074eab611c894f167b59a9c67a4f0dbea9a055a621ee38bc93c8b6d", func := "loop.example/g00752/laws.FnExactMarkOf", spec := "fnExactMarkOf", apart := false, narrowed := true }
def FnExactMarkOfUptoSaid : Prop := fnExactMarkOfUptoRow.holds Try.pinned (OpenSpec.upto fnExactMarkOfSpec)

/-- 'laws.FnExactLabSame', WHERE WHAT IT READS IS OF BULK AT MOST 1048576: true; the input reads as it did. -/
def fnExactLabSameUptoRow : OpenClaim := { program := "ytlgedbgpekfobaa", sum := "03041fd48074eab611c894f167b59a9c67a4f0dbea9a055a621ee38bc93c8b6d", func := "loop.example/g00752/laws.FnExactLabSame", spec := "fnExactLabSame", apart := false, narrowed := true }
def FnExactLabSameUptoSaid : Prop := fnExactLabSameUptoRow.holds Try.pinned (OpenSpec.upto fnExactLabSameSpec)

/-- 'laws.FnExactSameBut', WHERE WHAT IT READS IS OF BULK AT MOST 1048576: true; the input reads as it did. -/
def fnExactSameButUptoRow : OpenClaim := { program := "ytlgedbgpekfobaa", sum := "03041fd48074eab611c894f167b59a9c67a4f0dbea9a055a621ee38bc93c8b6d", func := "loop.example/g00752/laws.FnExactSameBut", spec := "fnExactSameBut", apart := false, narrowed := true }
def FnExactSameButUptoSaid : Prop := fnExactSameButUptoRow.holds Try.pinned (OpenSpec.upto fnExactSameButSpec)

end Rows
end Go.Proofs.Ytlgedbgpekfobaa
