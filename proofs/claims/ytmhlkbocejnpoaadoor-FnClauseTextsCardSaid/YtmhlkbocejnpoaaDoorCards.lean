/-
  DERIVED. GIVEN WITH THE SEED: THE CARDS: each row of YtmhlkbocejnpoaaDoorRows.lean that lists a variable, with what it lists TIED to the program's text (the seventh form; the later family's looks); each row that meets fmt, with fmt's text TOLD by the authors' own Lean function (tested against real Go, not proved from fmt's source: count such statements apart). THE CARD IS WHAT COUNTS. Prove the row's statement (the work); the ties are given (YtmhlkbocejnpoaaDoorTie.lean); close each card by the builder's one call (the guide's Derived/Test/ToyasCard.lean, 'card_holds'). Laid BY PROGRAM, IN A SANDBOX (cutbox-door.mjs). By AI agents, Wed Nov 11 2026. No macro, syntax, notation, axiom, sorry.
-/
import Derived.Test.YtmhlkbocejnpoaaDoorRows
import GoSem.ClaimSeven
namespace Go.Proofs.YtmhlkbocejnpoaaDoor
namespace Rows

/-- THE TIED CARD OF 'laws.FnClauseTexts'. -/
def fnClauseTextsCard : Claim7 := { stood := { row := fnClauseTextsRow, standIns := [], harness := (true, "35e5c3966a673716b2093a794020e2eaed6b7002ea0dfa16079850f1610bb16c"), looks := true }, kinds := [], alts := [], laidByText := true, laidKinds := [.data, .data, .data, .data, .sentinel, .sentinel, .pinned], laidTests := true, laidLooks := .later }
def FnClauseTextsCardSaid : Prop := Claim7.holds Tryd.pinned (.plain (OpenSpec.ofChange fnClauseTextsSpec)) fnClauseTextsCard

/-- THE TIED CARD OF 'laws.FnExactClauseText'. -/
def fnExactClauseTextCard : Claim7 := { stood := { row := fnExactClauseTextRow, standIns := [], harness := (true, "35e5c3966a673716b2093a794020e2eaed6b7002ea0dfa16079850f1610bb16c"), looks := true }, kinds := [], alts := [], laidByText := true, laidKinds := [.data, .data, .data], laidTests := true, laidLooks := .later }
def FnExactClauseTextCardSaid : Prop := Claim7.holds Tryd.pinned (.plain (OpenSpec.ofChange fnExactClauseTextSpec)) fnExactClauseTextCard

/-- THE TIED CARD OF 'laws.FnExactReadClause'. -/
def fnExactReadClauseCard : Claim7 := { stood := { row := fnExactReadClauseRow, standIns := [], harness := (true, "35e5c3966a673716b2093a794020e2eaed6b7002ea0dfa16079850f1610bb16c"), looks := true }, kinds := [], alts := [], laidByText := true, laidKinds := [.data, .data, .data, .data, .sentinel, .sentinel, .pinned], laidTests := true, laidLooks := .later }
def FnExactReadClauseCardSaid : Prop := Claim7.holds Tryd.pinned (.plain (OpenSpec.ofChange fnExactReadClauseSpec)) fnExactReadClauseCard

/-- THE SECOND FORM's CARD OF 'laws.FnClauseTexts'. -/
def fnClauseTextsUptoCard : Claim7 := { stood := { row := fnClauseTextsUptoRow, standIns := [], harness := (true, "35e5c3966a673716b2093a794020e2eaed6b7002ea0dfa16079850f1610bb16c"), looks := true }, kinds := [], alts := [], laidByText := true, laidKinds := [.data, .data, .data, .data, .sentinel, .sentinel, .pinned], laidTests := true, laidLooks := .later }
def FnClauseTextsUptoCardSaid : Prop := Claim7.holds Tryd.pinned (.plain (OpenSpec.upto fnClauseTextsSpec)) fnClauseTextsUptoCard

/-- THE SECOND FORM's CARD OF 'laws.FnExactClauseText'. -/
def fnExactClauseTextUptoCard : Claim7 := { stood := { row := fnExactClauseTextUptoRow, standIns := [], harness := (true, "35e5c3966a673716b2093a794020e2eaed6b7002ea0dfa16079850f1610bb16c"), looks := true }, kinds := [], alts := [], laidByText := true, laidKinds := [.data, .data, .data], laidTests := true, laidLooks := .later }
def FnExactClauseTextUptoCardSaid : Prop := Claim7.holds Tryd.pinned (.plain (OpenSpec.upto fnExactClauseTextSpec)) fnExactClauseTextUptoCard

/-- THE SECOND FORM's CARD OF 'laws.FnExactReadClause'. -/
def fnExactReadClauseUptoCard : Claim7 := { stood := { row := fnExactReadClauseUptoRow, standIns := [], harness := (true, "35e5c3966a673716b2093a794020e2eaed6b7002ea0dfa16079850f1610bb16c"), looks := true }, kinds := [], alts := [], laidByText := true, laidKinds := [.data, .data, .data, .data, .sentinel, .sentinel, .pinned], laidTests := true, laidLooks := .later }
def FnExactReadClauseUptoCardSaid : Prop := Claim7.holds Tryd.pinned (.plain (OpenSpec.upto fnExactReadClauseSpec)) fnExactReadClauseUptoCard
end Rows
end Go.Proofs.YtmhlkbocejnpoaaDoor
