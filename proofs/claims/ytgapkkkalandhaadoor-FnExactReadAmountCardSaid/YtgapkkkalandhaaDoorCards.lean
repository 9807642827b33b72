/-
  DERIVED. GIVEN WITH THE SEED: THE CARDS: each row of YtgapkkkalandhaaDoorRows.lean that lists a variable, with what it lists TIED to the program's text (the seventh form; the later family's looks); each row that meets fmt, with fmt's text TOLD by the authors' own Lean function (tested against real Go, not proved from fmt's source: count such statements apart). THE CARD IS WHAT COUNTS. Prove the row's statement (the work); the ties are given (YtgapkkkalandhaaDoorTie.lean); close each card by the builder's one call (the guide's Derived/Test/ToyasCard.lean, 'card_holds'). Laid BY PROGRAM, IN A SANDBOX (cutbox-door.mjs). By AI agents, Wed Nov 11 2026. No macro, syntax, notation, axiom, sorry.
-/
import Derived.Test.YtgapkkkalandhaaDoorRows
import GoSem.ClaimSeven
namespace Go.Proofs.YtgapkkkalandhaaDoor
namespace Rows

/-- THE TIED CARD OF 'laws.FnAmountTexts'. -/
def fnAmountTextsCard : Claim7 := { stood := { row := fnAmountTextsRow, standIns := [], harness := (true, "5356b938b3afdd974dcc21bb780a209c4171a02d753bc397074d6b88dc15d347"), looks := true }, kinds := [], alts := [], laidByText := true, laidKinds := [.data, .data, .data, .sentinel, .sentinel], laidTests := true, laidLooks := .later }
def FnAmountTextsCardSaid : Prop := Claim7.holds Tryd.pinned (.plain (OpenSpec.ofChange fnAmountTextsSpec)) fnAmountTextsCard

/-- THE TIED CARD OF 'laws.FnExactAmountText'. -/
def fnExactAmountTextCard : Claim7 := { stood := { row := fnExactAmountTextRow, standIns := [], harness := (true, "5356b938b3afdd974dcc21bb780a209c4171a02d753bc397074d6b88dc15d347"), looks := true }, kinds := [], alts := [], laidByText := true, laidKinds := [.data, .data, .data], laidTests := true, laidLooks := .later }
def FnExactAmountTextCardSaid : Prop := Claim7.holds Tryd.pinned (.plain (OpenSpec.ofChange fnExactAmountTextSpec)) fnExactAmountTextCard

/-- THE TIED CARD OF 'laws.FnExactReadAmount'. -/
def fnExactReadAmountCard : Claim7 := { stood := { row := fnExactReadAmountRow, standIns := [], harness := (true, "5356b938b3afdd974dcc21bb780a209c4171a02d753bc397074d6b88dc15d347"), looks := true }, kinds := [], alts := [], laidByText := true, laidKinds := [.data, .data, .data, .sentinel, .sentinel], laidTests := true, laidLooks := .later }
def FnExactReadAmountCardSaid : Prop := Claim7.holds Tryd.pinned (.plain (OpenSpec.ofChange fnExactReadAmountSpec)) fnExactReadAmountCard

/-- THE SECOND FORM's CARD OF 'laws.FnAmountTexts'. -/
def fnAmountTextsUptoCard : Claim7 := { stood := { row := fnAmountTextsUptoRow, standIns := [], harness := (true, "5356b938b3afdd974dcc21bb780a209c4171a02d753bc397074d6b88dc15d347"), looks := true }, kinds := [], alts := [], laidByText := true, laidKinds := [.data, .data, .data, .sentinel, .sentinel], laidTests := true, laidLooks := .later }
def FnAmountTextsUptoCardSaid : Prop := Claim7.holds Tryd.pinned (.plain (OpenSpec.upto fnAmountTextsSpec)) fnAmountTextsUptoCard

/-- THE SECOND FORM's CARD OF 'laws.FnExactAmountText'. -/
def fnExactAmountTextUptoCard : Claim7 := { stood := { row := fnExactAmountTextUptoRow, standIns := [], harness := (true, "5356b938b3afdd974dcc21bb780a209c4171a02d753bc397074d6b88dc15d347"), looks := true }, kinds := [], alts := [], laidByText := true, laidKinds := [.data, .data, .data], laidTests := true, laidLooks := .later }
def FnExactAmountTextUptoCardSaid : Prop := Claim7.holds Tryd.pinned (.plain (OpenSpec.upto fnExactAmountTextSpec)) fnExactAmountTextUptoCard

/-- THE SECOND FORM's CARD OF 'laws.FnExactReadAmount'. -/
def fnExactReadAmountUptoCard : Claim7 := { stood := { row := fnExactReadAmountUptoRow, standIns := [], harness := (true, "5356b938b3afdd974dcc21bb780a209c4171a02d753bc397074d6b88dc15d347"), looks := true }, kinds := [], alts := [], laidByText := true, laidKinds := [.data, .data, .data, .sentinel, .sentinel], laidTests := true, laidLooks := .later }
def FnExactReadAmountUptoCardSaid : Prop := Claim7.holds Tryd.pinned (.plain (OpenSpec.upto fnExactReadAmountSpec)) fnExactReadAmountUptoCard
end Rows
end Go.Proofs.YtgapkkkalandhaaDoor
