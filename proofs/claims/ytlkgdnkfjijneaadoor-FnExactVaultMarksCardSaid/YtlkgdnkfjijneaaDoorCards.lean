/-
  DERIVED. GIVEN WITH THE SEED: THE CARDS: each row of YtlkgdnkfjijneaaDoorRows.lean that lists a variable, with what it lists TIED to the program's text (the seventh form; the later family's looks); each row that meets fmt, with fmt's text TOLD by the authors' own Lean function (tested against real Go, not proved from fmt's source: count such statements apart). THE CARD IS WHAT COUNTS. Prove the row's statement (the work); the ties are given (YtlkgdnkfjijneaaDoorTie.lean); close each card by the builder's one call (the guide's Derived/Test/ToyasCard.lean, 'card_holds'). Laid BY PROGRAM, IN A SANDBOX (cutbox-door.mjs). By AI agents, Wed Nov 11 2026. No macro, syntax, notation, axiom, sorry.
-/
import Derived.Test.YtlkgdnkfjijneaaDoorRows
import GoSem.ClaimSeven
namespace Go.Proofs.YtlkgdnkfjijneaaDoor
namespace Rows

/-- THE TIED CARD OF 'laws.FnExactVaultMarks'. -/
def fnExactVaultMarksCard : Claim7 := { stood := { row := fnExactVaultMarksRow, standIns := [], harness := (true, "12c0ebec17f23f742951dc485ee5c3020573335b8c2d2f9a47081ab993ef7e4f"), looks := false }, kinds := [], alts := [], laidByText := true, laidKinds := [.data], laidTests := true, laidLooks := .later }
def FnExactVaultMarksCardSaid : Prop := Claim7.holds Tryd.pinned (.plain (OpenSpec.ofChange fnExactVaultMarksSpec)) fnExactVaultMarksCard

/-- THE SECOND FORM's CARD OF 'laws.FnExactVaultMarks'. -/
def fnExactVaultMarksUptoCard : Claim7 := { stood := { row := fnExactVaultMarksUptoRow, standIns := [], harness := (true, "12c0ebec17f23f742951dc485ee5c3020573335b8c2d2f9a47081ab993ef7e4f"), looks := false }, kinds := [], alts := [], laidByText := true, laidKinds := [.data], laidTests := true, laidLooks := .later }
def FnExactVaultMarksUptoCardSaid : Prop := Claim7.holds Tryd.pinned (.plain (OpenSpec.upto fnExactVaultMarksSpec)) fnExactVaultMarksUptoCard
end Rows
end Go.Proofs.YtlkgdnkfjijneaaDoor
