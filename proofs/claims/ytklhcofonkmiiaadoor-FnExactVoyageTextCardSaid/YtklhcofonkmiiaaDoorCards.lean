/-
  DERIVED. GIVEN WITH THE SEED: THE CARDS: each row of YtklhcofonkmiiaaDoorRows.lean that lists a variable, with what it lists TIED to the program's text (the seventh form; the later family's looks); each row that meets fmt, with fmt's text TOLD by the authors' own Lean function (tested against real Go, not proved from fmt's source: count such statements apart). THE CARD IS WHAT COUNTS. Prove the row's statement (the work); the ties are given (YtklhcofonkmiiaaDoorTie.lean); close each card by the builder's one call (the guide's Derived/Test/ToyasCard.lean, 'card_holds'). Laid BY PROGRAM, IN A SANDBOX (cutbox-door.mjs). By AI agents, Wed Nov 11 2026. No macro, syntax, notation, axiom, sorry.
-/
import Derived.Test.YtklhcofonkmiiaaDoorRows
import GoSem.ClaimSeven
namespace Go.Proofs.YtklhcofonkmiiaaDoor
namespace Rows

/-- THE TIED CARD OF 'laws.FnExactVoyageText'. -/
def fnExactVoyageTextCard : Claim7 := { stood := { row := fnExactVoyageTextRow, standIns := [], harness := (true, "dd0c625a75b4507ddc8d2d2c10edd9707f8b7cd90ce8d84ce5c009303756d73c"), looks := false }, kinds := [], alts := [], laidByText := true, laidKinds := [.data, .data, .data], laidTests := true, laidLooks := .later }
def FnExactVoyageTextCardSaid : Prop := Claim7.holds Tryd.pinned (.plain (OpenSpec.ofChange fnExactVoyageTextSpec)) fnExactVoyageTextCard

/-- THE SECOND FORM's CARD OF 'laws.FnExactVoyageText'. -/
def fnExactVoyageTextUptoCard : Claim7 := { stood := { row := fnExactVoyageTextUptoRow, standIns := [], harness := (true, "dd0c625a75b4507ddc8d2d2c10edd9707f8b7cd90ce8d84ce5c009303756d73c"), looks := false }, kinds := [], alts := [], laidByText := true, laidKinds := [.data, .data, .data], laidTests := true, laidLooks := .later }
def FnExactVoyageTextUptoCardSaid : Prop := Claim7.holds Tryd.pinned (.plain (OpenSpec.upto fnExactVoyageTextSpec)) fnExactVoyageTextUptoCard
end Rows
end Go.Proofs.YtklhcofonkmiiaaDoor
