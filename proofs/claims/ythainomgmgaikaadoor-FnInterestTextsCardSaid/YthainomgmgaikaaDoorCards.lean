/-
  DERIVED. GIVEN WITH THE SEED: THE CARDS: each row of YthainomgmgaikaaDoorRows.lean that lists a variable, with what it lists TIED to the program's text (the seventh form; the later family's looks); each row that meets fmt, with fmt's text TOLD by the authors' own Lean function (tested against real Go, not proved from fmt's source: count such statements apart). THE CARD IS WHAT COUNTS. Prove the row's statement (the work); the ties are given (YthainomgmgaikaaDoorTie.lean); close each card by the builder's one call (the guide's Derived/Test/ToyasCard.lean, 'card_holds'). Laid BY PROGRAM, IN A SANDBOX (cutbox-door.mjs). By AI agents, Wed Nov 11 2026. No macro, syntax, notation, axiom, sorry.
-/
import Derived.Test.YthainomgmgaikaaDoorRows
import GoSem.ClaimSeven
namespace Go.Proofs.YthainomgmgaikaaDoor
namespace Rows

/-- THE TIED CARD OF 'laws.FnInterestTexts'. -/
def fnInterestTextsCard : Claim7 := { stood := { row := fnInterestTextsRow, standIns := [], harness := (true, "bd53098b18eb0ccd84bd8dda021fbadd68a1924879acb34c69e4282c98348fcb"), looks := true }, kinds := [], alts := [], laidByText := true, laidKinds := [.data, .data, .data, .data, .sentinel, .sentinel, .pinned], laidTests := true, laidLooks := .later }
def FnInterestTextsCardSaid : Prop := Claim7.holds Tryd.pinned (.plain (OpenSpec.ofChange fnInterestTextsSpec)) fnInterestTextsCard

/-- THE TIED CARD OF 'laws.FnExactInterestText'. -/
def fnExactInterestTextCard : Claim7 := { stood := { row := fnExactInterestTextRow, standIns := [], harness := (true, "bd53098b18eb0ccd84bd8dda021fbadd68a1924879acb34c69e4282c98348fcb"), looks := true }, kinds := [], alts := [], laidByText := true, laidKinds := [.data, .data, .data], laidTests := true, laidLooks := .later }
def FnExactInterestTextCardSaid : Prop := Claim7.holds Tryd.pinned (.plain (OpenSpec.ofChange fnExactInterestTextSpec)) fnExactInterestTextCard

/-- THE TIED CARD OF 'laws.FnExactReadInterest'. -/
def fnExactReadInterestCard : Claim7 := { stood := { row := fnExactReadInterestRow, standIns := [], harness := (true, "bd53098b18eb0ccd84bd8dda021fbadd68a1924879acb34c69e4282c98348fcb"), looks := true }, kinds := [], alts := [], laidByText := true, laidKinds := [.data, .data, .data, .data, .sentinel, .sentinel, .pinned], laidTests := true, laidLooks := .later }
def FnExactReadInterestCardSaid : Prop := Claim7.holds Tryd.pinned (.plain (OpenSpec.ofChange fnExactReadInterestSpec)) fnExactReadInterestCard

/-- THE SECOND FORM's CARD OF 'laws.FnInterestTexts'. -/
def fnInterestTextsUptoCard : Claim7 := { stood := { row := fnInterestTextsUptoRow, standIns := [], harness := (true, "bd53098b18eb0ccd84bd8dda021fbadd68a1924879acb34c69e4282c98348fcb"), looks := true }, kinds := [], alts := [], laidByText := true, laidKinds := [.data, .data, .data, .data, .sentinel, .sentinel, .pinned], laidTests := true, laidLooks := .later }
def FnInterestTextsUptoCardSaid : Prop := Claim7.holds Tryd.pinned (.plain (OpenSpec.upto fnInterestTextsSpec)) fnInterestTextsUptoCard

/-- THE SECOND FORM's CARD OF 'laws.FnExactInterestText'. -/
def fnExactInterestTextUptoCard : Claim7 := { stood := { row := fnExactInterestTextUptoRow, standIns := [], harness := (true, "bd53098b18eb0ccd84bd8dda021fbadd68a1924879acb34c69e4282c98348fcb"), looks := true }, kinds := [], alts := [], laidByText := true, laidKinds := [.data, .data, .data], laidTests := true, laidLooks := .later }
def FnExactInterestTextUptoCardSaid : Prop := Claim7.holds Tryd.pinned (.plain (OpenSpec.upto fnExactInterestTextSpec)) fnExactInterestTextUptoCard

/-- THE SECOND FORM's CARD OF 'laws.FnExactReadInterest'. -/
def fnExactReadInterestUptoCard : Claim7 := { stood := { row := fnExactReadInterestUptoRow, standIns := [], harness := (true, "bd53098b18eb0ccd84bd8dda021fbadd68a1924879acb34c69e4282c98348fcb"), looks := true }, kinds := [], alts := [], laidByText := true, laidKinds := [.data, .data, .data, .data, .sentinel, .sentinel, .pinned], laidTests := true, laidLooks := .later }
def FnExactReadInterestUptoCardSaid : Prop := Claim7.holds Tryd.pinned (.plain (OpenSpec.upto fnExactReadInterestSpec)) fnExactReadInterestUptoCard
end Rows
end Go.Proofs.YthainomgmgaikaaDoor
