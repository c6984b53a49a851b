/-
  DERIVED. GIVEN WITH THE SEED: THE CARDS: each row of YtbadpmghlclfkaaDoorRows.lean that lists a variable, with what it lists TIED to the program's text (the seventh form; the later family's looks); each row that meets fmt, with fmt's text TOLD by the authors' own Lean function (tested against real Go, not proved from fmt's source: count such statements apart). THE CARD IS WHAT COUNTS. Prove the row's statement (the work); the ties are given (YtbadpmghlclfkaaDoorTie.lean); close each card by the builder's one call (the guide's Derived/Test/ToyasCard.lean, 'card_holds'). Laid BY PROGRAM, IN A SANDBOX (cutbox-door.mjs). By AI agents, Wed Nov 11 2026. No macro, syntax, notation, axiom, sorry.
-/
import Derived.Test.YtbadpmghlclfkaaDoorRows
import GoSem.ClaimSeven
namespace Go.Proofs.YtbadpmghlclfkaaDoor
namespace Rows

/-- THE TIED CARD OF 'laws.FnWorld'. -/
def fnWorldCard : Claim7 := { stood := { row := fnWorldRow, standIns := [], harness := (true, "1b75690eb9ca68e5e234885992545c9ea331ee106bced5bf5657e0c4207c855f"), looks := true }, kinds := [], alts := [], laidByText := true, laidKinds := [.data, .data, .data, .sentinel, .sentinel, .data], laidTests := true, laidLooks := .later }
def FnWorldCardSaid : Prop := Claim7.holds Tryd.pinned (.plain (OpenSpec.ofChange fnWorldSpec)) fnWorldCard

/-- THE TIED CARD OF 'laws.FnExactWorldText'. -/
def fnExactWorldTextCard : Claim7 := { stood := { row := fnExactWorldTextRow, standIns := [], harness := (true, "1b75690eb9ca68e5e234885992545c9ea331ee106bced5bf5657e0c4207c855f"), looks := true }, kinds := [], alts := [], laidByText := true, laidKinds := [.data, .data, .data, .data], laidTests := true, laidLooks := .later }
def FnExactWorldTextCardSaid : Prop := Claim7.holds Tryd.pinned (.plain (OpenSpec.ofChange fnExactWorldTextSpec)) fnExactWorldTextCard

/-- THE TIED CARD OF 'laws.FnExactWorldRead'. -/
def fnExactWorldReadCard : Claim7 := { stood := { row := fnExactWorldReadRow, standIns := [], harness := (true, "1b75690eb9ca68e5e234885992545c9ea331ee106bced5bf5657e0c4207c855f"), looks := true }, kinds := [], alts := [], laidByText := true, laidKinds := [.data, .data, .data, .sentinel, .sentinel, .data], laidTests := true, laidLooks := .later }
def FnExactWorldReadCardSaid : Prop := Claim7.holds Tryd.pinned (.plain (OpenSpec.ofChange fnExactWorldReadSpec)) fnExactWorldReadCard

/-- THE TIED CARD OF 'laws.FnExactTickDo'. -/
def fnExactTickDoCard : Claim7 := { stood := { row := fnExactTickDoRow, standIns := [], harness := (true, "1b75690eb9ca68e5e234885992545c9ea331ee106bced5bf5657e0c4207c855f"), looks := true }, kinds := [], alts := [], laidByText := true, laidKinds := [.data], laidTests := true, laidLooks := .later }
def FnExactTickDoCardSaid : Prop := Claim7.holds Tryd.pinned (.plain (OpenSpec.ofChange fnExactTickDoSpec)) fnExactTickDoCard

/-- THE SECOND FORM's CARD OF 'laws.FnWorld'. -/
def fnWorldUptoCard : Claim7 := { stood := { row := fnWorldUptoRow, standIns := [], harness := (true, "1b75690eb9ca68e5e234885992545c9ea331ee106bced5bf5657e0c4207c855f"), looks := true }, kinds := [], alts := [], laidByText := true, laidKinds := [.data, .data, .data, .sentinel, .sentinel, .data], laidTests := true, laidLooks := .later }
def FnWorldUptoCardSaid : Prop := Claim7.holds Tryd.pinned (.plain (OpenSpec.upto fnWorldSpec)) fnWorldUptoCard

/-- THE SECOND FORM's CARD OF 'laws.FnExactWorldText'. -/
def fnExactWorldTextUptoCard : Claim7 := { stood := { row := fnExactWorldTextUptoRow, standIns := [], harness := (true, "1b75690eb9ca68e5e234885992545c9ea331ee106bced5bf5657e0c4207c855f"), looks := true }, kinds := [], alts := [], laidByText := true, laidKinds := [.data, .data, .data, .data], laidTests := true, laidLooks := .later }
def FnExactWorldTextUptoCardSaid : Prop := Claim7.holds Tryd.pinned (.plain (OpenSpec.upto fnExactWorldTextSpec)) fnExactWorldTextUptoCard

/-- THE SECOND FORM's CARD OF 'laws.FnExactWorldRead'. -/
def fnExactWorldReadUptoCard : Claim7 := { stood := { row := fnExactWorldReadUptoRow, standIns := [], harness := (true, "1b75690eb9ca68e5e234885992545c9ea331ee106bced5bf5657e0c4207c855f"), looks := true }, kinds := [], alts := [], laidByText := true, laidKinds := [.data, .data, .data, .sentinel, .sentinel, .data], laidTests := true, laidLooks := .later }
def FnExactWorldReadUptoCardSaid : Prop := Claim7.holds Tryd.pinned (.plain (OpenSpec.upto fnExactWorldReadSpec)) fnExactWorldReadUptoCard

/-- THE SECOND FORM's CARD OF 'laws.FnExactTickDo'. -/
def fnExactTickDoUptoCard : Claim7 := { stood := { row := fnExactTickDoUptoRow, standIns := [], harness := (true, "1b75690eb9ca68e5e234885992545c9ea331ee106bced5bf5657e0c4207c855f"), looks := true }, kinds := [], alts := [], laidByText := true, laidKinds := [.data], laidTests := true, laidLooks := .later }
def FnExactTickDoUptoCardSaid : Prop := Claim7.holds Tryd.pinned (.plain (OpenSpec.upto fnExactTickDoSpec)) fnExactTickDoUptoCard
end Rows
end Go.Proofs.YtbadpmghlclfkaaDoor
