/-
  DERIVED. GIVEN WITH THE SEED: THE CARDS: each row of YtklhcofonkmiiaaGreatDoorRows.lean that lists a variable, with what it lists TIED to the program's text (the seventh form; the later family's looks); each row that meets fmt, with fmt's text TOLD by the authors' own Lean function (tested against real Go, not proved from fmt's source: count such statements apart). THE CARD IS WHAT COUNTS. Prove the row's statement (the work); the ties are given (YtklhcofonkmiiaaGreatDoorTie.lean); close each card by the builder's one call (the guide's Derived/Test/ToyasCard.lean, 'card_holds'). Laid BY PROGRAM, IN A SANDBOX (cutbox-door.mjs). By AI agents, Wed Nov 11 2026. No macro, syntax, notation, axiom, sorry.
-/
import Derived.Test.YtklhcofonkmiiaaGreatDoorRows
import GoSem.ClaimSeven
namespace Go.Proofs.YtklhcofonkmiiaaGreatDoor
namespace Rows

/-- THE TIED CARD OF 'laws.FnVoyageTexts'. -/
def fnVoyageTextsCard : Claim7 := { stood := { row := fnVoyageTextsRow, standIns := [], harness := (true, "6308aca5102051f99e1f714ab467959db9e7f6651b8cc1e0483143eff36b7987"), looks := true }, kinds := [], alts := [], laidByText := true, laidKinds := [.data, .data, .data, .data, .sentinel, .sentinel, .pinned], laidTests := true, laidLooks := .later }
def FnVoyageTextsCardSaid : Prop := Claim7.holds Tryz.pinned (.plain (OpenSpec.ofChange fnVoyageTextsSpec)) fnVoyageTextsCard

/-- THE TIED CARD OF 'laws.FnExactReadVoyage'. -/
def fnExactReadVoyageCard : Claim7 := { stood := { row := fnExactReadVoyageRow, standIns := [], harness := (true, "6308aca5102051f99e1f714ab467959db9e7f6651b8cc1e0483143eff36b7987"), looks := true }, kinds := [], alts := [], laidByText := true, laidKinds := [.data, .data, .data, .data, .sentinel, .sentinel, .pinned], laidTests := true, laidLooks := .later }
def FnExactReadVoyageCardSaid : Prop := Claim7.holds Tryz.pinned (.plain (OpenSpec.ofChange fnExactReadVoyageSpec)) fnExactReadVoyageCard

/-- THE SECOND FORM's CARD OF 'laws.FnVoyageTexts'. -/
def fnVoyageTextsUptoCard : Claim7 := { stood := { row := fnVoyageTextsUptoRow, standIns := [], harness := (true, "6308aca5102051f99e1f714ab467959db9e7f6651b8cc1e0483143eff36b7987"), looks := true }, kinds := [], alts := [], laidByText := true, laidKinds := [.data, .data, .data, .data, .sentinel, .sentinel, .pinned], laidTests := true, laidLooks := .later }
def FnVoyageTextsUptoCardSaid : Prop := Claim7.holds Tryz.pinned (.plain (OpenSpec.upto fnVoyageTextsSpec)) fnVoyageTextsUptoCard

/-- THE SECOND FORM's CARD OF 'laws.FnExactReadVoyage'. -/
def fnExactReadVoyageUptoCard : Claim7 := { stood := { row := fnExactReadVoyageUptoRow, standIns := [], harness := (true, "6308aca5102051f99e1f714ab467959db9e7f6651b8cc1e0483143eff36b7987"), looks := true }, kinds := [], alts := [], laidByText := true, laidKinds := [.data, .data, .data, .data, .sentinel, .sentinel, .pinned], laidTests := true, laidLooks := .later }
def FnExactReadVoyageUptoCardSaid : Prop := Claim7.holds Tryz.pinned (.plain (OpenSpec.upto fnExactReadVoyageSpec)) fnExactReadVoyageUptoCard
end Rows
end Go.Proofs.YtklhcofonkmiiaaGreatDoor
