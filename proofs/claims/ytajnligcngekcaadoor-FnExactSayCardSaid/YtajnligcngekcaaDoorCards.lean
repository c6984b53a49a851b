/-
  DERIVED. GIVEN WITH THE SEED: THE CARDS: each row of YtajnligcngekcaaDoorRows.lean that lists a variable, with what it lists TIED to the program's text (the seventh form; the later family's looks); each row that meets fmt, with fmt's text TOLD by the authors' own Lean function (tested against real Go, not proved from fmt's source: count such statements apart). THE CARD IS WHAT COUNTS. Prove the row's statement (the work); the ties are given (YtajnligcngekcaaDoorTie.lean); close each card by the builder's one call (the guide's Derived/Test/ToyasCard.lean, 'card_holds'). Laid BY PROGRAM, IN A SANDBOX (cutbox-door.mjs). By AI agents, Wed Nov 11 2026. No macro, syntax, notation, axiom, sorry.
-/
import Derived.Test.YtajnligcngekcaaDoorRows
import GoSem.ClaimSeven
namespace Go.Proofs.YtajnligcngekcaaDoor
namespace Rows

/-- THE TIED CARD OF 'laws.FnExactHear'. -/
def fnExactHearCard : Claim7 := { stood := { row := fnExactHearRow, standIns := [], harness := (true, "7c00f6c1cc44a82621f11a31a5e3eb84e8a190921e93594f0cc56c6aa9be9efe"), looks := true }, kinds := [], alts := [], laidByText := true, laidKinds := [.data], laidTests := true, laidLooks := .later }
def FnExactHearCardSaid : Prop := Claim7.holds Tryd.pinned (.plain (OpenSpec.ofChange fnExactHearSpec)) fnExactHearCard

/-- THE TIED CARD OF 'laws.FnExactSay'. -/
def fnExactSayCard : Claim7 := { stood := { row := fnExactSayRow, standIns := [], harness := (true, "7c00f6c1cc44a82621f11a31a5e3eb84e8a190921e93594f0cc56c6aa9be9efe"), looks := true }, kinds := [], alts := [], laidByText := true, laidKinds := [.handle, .data], laidTests := true, laidLooks := .later }
def FnExactSayCardSaid : Prop := Claim7.holds Tryd.pinned (.plain (OpenSpec.ofChange fnExactSaySpec)) fnExactSayCard

/-- THE SECOND FORM's CARD OF 'laws.FnExactHear'. -/
def fnExactHearUptoCard : Claim7 := { stood := { row := fnExactHearUptoRow, standIns := [], harness := (true, "7c00f6c1cc44a82621f11a31a5e3eb84e8a190921e93594f0cc56c6aa9be9efe"), looks := true }, kinds := [], alts := [], laidByText := true, laidKinds := [.data], laidTests := true, laidLooks := .later }
def FnExactHearUptoCardSaid : Prop := Claim7.holds Tryd.pinned (.plain (OpenSpec.upto fnExactHearSpec)) fnExactHearUptoCard

/-- THE SECOND FORM's CARD OF 'laws.FnExactSay'. -/
def fnExactSayUptoCard : Claim7 := { stood := { row := fnExactSayUptoRow, standIns := [], harness := (true, "7c00f6c1cc44a82621f11a31a5e3eb84e8a190921e93594f0cc56c6aa9be9efe"), looks := true }, kinds := [], alts := [], laidByText := true, laidKinds := [.handle, .data], laidTests := true, laidLooks := .later }
def FnExactSayUptoCardSaid : Prop := Claim7.holds Tryd.pinned (.plain (OpenSpec.upto fnExactSaySpec)) fnExactSayUptoCard
end Rows
end Go.Proofs.YtajnligcngekcaaDoor
