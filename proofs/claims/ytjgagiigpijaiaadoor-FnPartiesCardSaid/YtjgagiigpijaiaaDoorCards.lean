/-
  DERIVED. GIVEN WITH THE SEED: THE CARDS: each row of YtjgagiigpijaiaaDoorRows.lean that lists a variable, with what it lists TIED to the program's text (the seventh form; the later family's looks); each row that meets fmt, with fmt's text TOLD by the authors' own Lean function (tested against real Go, not proved from fmt's source: count such statements apart). THE CARD IS WHAT COUNTS. Prove the row's statement (the work); the ties are given (YtjgagiigpijaiaaDoorTie.lean); close each card by the builder's one call (the guide's Derived/Test/ToyasCard.lean, 'card_holds'). Laid BY PROGRAM, IN A SANDBOX (cutbox-door.mjs). By AI agents, Wed Nov 11 2026. No macro, syntax, notation, axiom, sorry.
-/
import Derived.Test.YtjgagiigpijaiaaDoorRows
import GoSem.ClaimSeven
namespace Go.Proofs.YtjgagiigpijaiaaDoor
namespace Rows

/-- THE TIED CARD OF 'laws.FnExactFindParty'. -/
def fnExactFindPartyCard : Claim7 := { stood := { row := fnExactFindPartyRow, standIns := [], harness := (true, "5434408bc3800324dcd8ded6a4910040faf53cf424f1cb862f5dd379594de796"), looks := true }, kinds := [], alts := [], laidByText := true, laidKinds := [.handle], laidTests := true, laidLooks := .later }
def FnExactFindPartyCardSaid : Prop := Claim7.holds Tryd.pinned (.plain (OpenSpec.ofChange fnExactFindPartySpec)) fnExactFindPartyCard

/-- THE TIED CARD OF 'laws.FnExactAddParty'. -/
def fnExactAddPartyCard : Claim7 := { stood := { row := fnExactAddPartyRow, standIns := [], harness := (true, "5434408bc3800324dcd8ded6a4910040faf53cf424f1cb862f5dd379594de796"), looks := true }, kinds := [], alts := [], laidByText := true, laidKinds := [.handle], laidTests := true, laidLooks := .later }
def FnExactAddPartyCardSaid : Prop := Claim7.holds Tryd.pinned (.plain (OpenSpec.ofChange fnExactAddPartySpec)) fnExactAddPartyCard

/-- THE TIED CARD OF 'laws.FnExactActsFor'. -/
def fnExactActsForCard : Claim7 := { stood := { row := fnExactActsForRow, standIns := [], harness := (true, "5434408bc3800324dcd8ded6a4910040faf53cf424f1cb862f5dd379594de796"), looks := true }, kinds := [], alts := [], laidByText := true, laidKinds := [.handle], laidTests := true, laidLooks := .later }
def FnExactActsForCardSaid : Prop := Claim7.holds Tryd.pinned (.plain (OpenSpec.ofChange fnExactActsForSpec)) fnExactActsForCard

/-- THE TIED CARD OF 'laws.FnExactClientsOf'. -/
def fnExactClientsOfCard : Claim7 := { stood := { row := fnExactClientsOfRow, standIns := [], harness := (true, "5434408bc3800324dcd8ded6a4910040faf53cf424f1cb862f5dd379594de796"), looks := true }, kinds := [], alts := [], laidByText := true, laidKinds := [.handle], laidTests := true, laidLooks := .later }
def FnExactClientsOfCardSaid : Prop := Claim7.holds Tryd.pinned (.plain (OpenSpec.ofChange fnExactClientsOfSpec)) fnExactClientsOfCard

/-- THE TIED CARD OF 'laws.FnExactPartyText'. -/
def fnExactPartyTextCard : Claim7 := { stood := { row := fnExactPartyTextRow, standIns := [], harness := (true, "5434408bc3800324dcd8ded6a4910040faf53cf424f1cb862f5dd379594de796"), looks := true }, kinds := [], alts := [], laidByText := true, laidKinds := [.data, .data, .data], laidTests := true, laidLooks := .later }
def FnExactPartyTextCardSaid : Prop := Claim7.holds Tryd.pinned (.plain (OpenSpec.ofChange fnExactPartyTextSpec)) fnExactPartyTextCard

/-- THE TIED CARD OF 'laws.FnExactReadParty'. -/
def fnExactReadPartyCard : Claim7 := { stood := { row := fnExactReadPartyRow, standIns := [], harness := (true, "5434408bc3800324dcd8ded6a4910040faf53cf424f1cb862f5dd379594de796"), looks := true }, kinds := [], alts := [], laidByText := true, laidKinds := [.data, .data, .data, .sentinel, .sentinel], laidTests := true, laidLooks := .later }
def FnExactReadPartyCardSaid : Prop := Claim7.holds Tryd.pinned (.plain (OpenSpec.ofChange fnExactReadPartySpec)) fnExactReadPartyCard

/-- THE TIED CARD OF 'laws.FnPartyTexts'. -/
def fnPartyTextsCard : Claim7 := { stood := { row := fnPartyTextsRow, standIns := [], harness := (true, "5434408bc3800324dcd8ded6a4910040faf53cf424f1cb862f5dd379594de796"), looks := true }, kinds := [], alts := [], laidByText := true, laidKinds := [.data, .data, .data, .sentinel, .sentinel], laidTests := true, laidLooks := .later }
def FnPartyTextsCardSaid : Prop := Claim7.holds Tryd.pinned (.plain (OpenSpec.ofChange fnPartyTextsSpec)) fnPartyTextsCard

/-- THE TIED CARD OF 'laws.FnParties'. -/
def fnPartiesCard : Claim7 := { stood := { row := fnPartiesRow, standIns := [], harness := (true, "5434408bc3800324dcd8ded6a4910040faf53cf424f1cb862f5dd379594de796"), looks := true }, kinds := [], alts := [], laidByText := true, laidKinds := [.handle], laidTests := true, laidLooks := .later }
def FnPartiesCardSaid : Prop := Claim7.holds Tryd.pinned (.plain (OpenSpec.ofChange fnPartiesSpec)) fnPartiesCard

/-- THE SECOND FORM's CARD OF 'laws.FnExactFindParty'. -/
def fnExactFindPartyUptoCard : Claim7 := { stood := { row := fnExactFindPartyUptoRow, standIns := [], harness := (true, "5434408bc3800324dcd8ded6a4910040faf53cf424f1cb862f5dd379594de796"), looks := true }, kinds := [], alts := [], laidByText := true, laidKinds := [.handle], laidTests := true, laidLooks := .later }
def FnExactFindPartyUptoCardSaid : Prop := Claim7.holds Tryd.pinned (.plain (OpenSpec.upto fnExactFindPartySpec)) fnExactFindPartyUptoCard

/-- THE SECOND FORM's CARD OF 'laws.FnExactAddParty'. -/
def fnExactAddPartyUptoCard : Claim7 := { stood := { row := fnExactAddPartyUptoRow, standIns := [], harness := (true, "5434408bc3800324dcd8ded6a4910040faf53cf424f1cb862f5dd379594de796"), looks := true }, kinds := [], alts := [], laidByText := true, laidKinds := [.handle], laidTests := true, laidLooks := .later }
def FnExactAddPartyUptoCardSaid : Prop := Claim7.holds Tryd.pinned (.plain (OpenSpec.upto fnExactAddPartySpec)) fnExactAddPartyUptoCard

/-- THE SECOND FORM's CARD OF 'laws.FnExactActsFor'. -/
def fnExactActsForUptoCard : Claim7 := { stood := { row := fnExactActsForUptoRow, standIns := [], harness := (true, "5434408bc3800324dcd8ded6a4910040faf53cf424f1cb862f5dd379594de796"), looks := true }, kinds := [], alts := [], laidByText := true, laidKinds := [.handle], laidTests := true, laidLooks := .later }
def FnExactActsForUptoCardSaid : Prop := Claim7.holds Tryd.pinned (.plain (OpenSpec.upto fnExactActsForSpec)) fnExactActsForUptoCard

/-- THE SECOND FORM's CARD OF 'laws.FnExactClientsOf'. -/
def fnExactClientsOfUptoCard : Claim7 := { stood := { row := fnExactClientsOfUptoRow, standIns := [], harness := (true, "5434408bc3800324dcd8ded6a4910040faf53cf424f1cb862f5dd379594de796"), looks := true }, kinds := [], alts := [], laidByText := true, laidKinds := [.handle], laidTests := true, laidLooks := .later }
def FnExactClientsOfUptoCardSaid : Prop := Claim7.holds Tryd.pinned (.plain (OpenSpec.upto fnExactClientsOfSpec)) fnExactClientsOfUptoCard

/-- THE SECOND FORM's CARD OF 'laws.FnExactPartyText'. -/
def fnExactPartyTextUptoCard : Claim7 := { stood := { row := fnExactPartyTextUptoRow, standIns := [], harness := (true, "5434408bc3800324dcd8ded6a4910040faf53cf424f1cb862f5dd379594de796"), looks := true }, kinds := [], alts := [], laidByText := true, laidKinds := [.data, .data, .data], laidTests := true, laidLooks := .later }
def FnExactPartyTextUptoCardSaid : Prop := Claim7.holds Tryd.pinned (.plain (OpenSpec.upto fnExactPartyTextSpec)) fnExactPartyTextUptoCard

/-- THE SECOND FORM's CARD OF 'laws.FnExactReadParty'. -/
def fnExactReadPartyUptoCard : Claim7 := { stood := { row := fnExactReadPartyUptoRow, standIns := [], harness := (true, "5434408bc3800324dcd8ded6a4910040faf53cf424f1cb862f5dd379594de796"), looks := true }, kinds := [], alts := [], laidByText := true, laidKinds := [.data, .data, .data, .sentinel, .sentinel], laidTests := true, laidLooks := .later }
def FnExactReadPartyUptoCardSaid : Prop := Claim7.holds Tryd.pinned (.plain (OpenSpec.upto fnExactReadPartySpec)) fnExactReadPartyUptoCard

/-- THE SECOND FORM's CARD OF 'laws.FnPartyTexts'. -/
def fnPartyTextsUptoCard : Claim7 := { stood := { row := fnPartyTextsUptoRow, standIns := [], harness := (true, "5434408bc3800324dcd8ded6a4910040faf53cf424f1cb862f5dd379594de796"), looks := true }, kinds := [], alts := [], laidByText := true, laidKinds := [.data, .data, .data, .sentinel, .sentinel], laidTests := true, laidLooks := .later }
def FnPartyTextsUptoCardSaid : Prop := Claim7.holds Tryd.pinned (.plain (OpenSpec.upto fnPartyTextsSpec)) fnPartyTextsUptoCard

/-- THE SECOND FORM's CARD OF 'laws.FnParties'. -/
def fnPartiesUptoCard : Claim7 := { stood := { row := fnPartiesUptoRow, standIns := [], harness := (true, "5434408bc3800324dcd8ded6a4910040faf53cf424f1cb862f5dd379594de796"), looks := true }, kinds := [], alts := [], laidByText := true, laidKinds := [.handle], laidTests := true, laidLooks := .later }
def FnPartiesUptoCardSaid : Prop := Claim7.holds Tryd.pinned (.plain (OpenSpec.upto fnPartiesSpec)) fnPartiesUptoCard
end Rows
end Go.Proofs.YtjgagiigpijaiaaDoor
