/-
  No cell of these rows narrows 'for every input' (looked for: loops, veiled, ifaces, maps, wideKeys, modest, calm, conditions, laid).
  DERIVED. THE GIVEN ROWS OF THIS SEAT. 10 by the template 'for every input the law returns true; each argument reads behind the call as it read before'; 0 by the template 'total and deterministic' (their statements: YtjcklmhgjdmjoaaTotals.lean).
  GIVEN WITH THE SEED: the statements are not yours to turn. If you find one false, say at which input.
  Laid BY PROGRAM, IN A SANDBOX (cutbox-rows.mjs): the forced cells as the released guide's own fill.sh prints them over the translation ced5a887de254408… (all of the seat's roots in one cut). By AI agents, Wed Nov 11 2026. No macro, syntax, notation, axiom, sorry.
-/
import Derived.Test.YtjcklmhgjdmjoaaChecked
import GoSem.Claim
import GoSem.ClaimJoined
import GoSem.ClaimMapViews
import Derived.JoinedTies
import Derived.KernelRfl
namespace Go.Proofs.Ytjcklmhgjdmjoaa
/- THE CELL 'sum', in the pinned program and in every row, IS THE sha256 OF THE DUMP (.gsa) THAT YtjcklmhgjdmjoaaProg.lean LOADS. Nothing in Lean hashes anything: it is a label: what it is worth is what the hold of that sum in a sandbox is worth. -/
noncomputable def Try.pinned : Pinned := { name := "ytjcklmhgjdmjoaa", sum := "ced5a887de254408ff478251b8a2f86a783c3adfe7158a7dea6009e83ec9c57b", checked := Try.checked }
namespace Rows
def none {H : Type} : Left H := { results := [], args := [] }

/-- 'laws.FnDecisions': WHATEVER THE INPUT: true; the input reads as it did. -/
def fnDecisionsSpec : ChangeSpec := { name := "fnDecisions", fn := fun _ => fun
  | [d] => { results := [.lit (.bool true)], args := [d] }
  | _ => none }
def fnDecisionsRow : OpenClaim := { program := "ytjcklmhgjdmjoaa", sum := "ced5a887de254408ff478251b8a2f86a783c3adfe7158a7dea6009e83ec9c57b", func := "loop.example/g01010/laws.FnDecisions", spec := "fnDecisions", unfollowed := true, recurses := true, apart := false }
def FnDecisionsSaid : Prop := fnDecisionsRow.holds Try.pinned (OpenSpec.ofChange fnDecisionsSpec)

/-- ITS FALSE NEIGHBOUR: 'it returns false'. Refute it at one input. -/
def fnDecisionsWrong : ChangeSpec := { name := "fnDecisions", fn := fun _ => fun
  | [d] => { results := [.lit (.bool false)], args := [d] }
  | _ => none }
def FnDecisionsWrongFalsely : Prop := fnDecisionsRow.holds Try.pinned (OpenSpec.ofChange fnDecisionsWrong)

/-- 'laws.FnExactIsReachable': WHATEVER THE INPUT: true; the input reads as it did. -/
def fnExactIsReachableSpec : ChangeSpec := { name := "fnExactIsReachable", fn := fun _ => fun
  | [d1, d2] => { results := [.lit (.bool true)], args := [d1, d2] }
  | _ => none }
def fnExactIsReachableRow : OpenClaim := { program := "ytjcklmhgjdmjoaa", sum := "ced5a887de254408ff478251b8a2f86a783c3adfe7158a7dea6009e83ec9c57b", func := "loop.example/g01010/laws.FnExactIsReachable", spec := "fnExactIsReachable", unfollowed := true, recurses := true, apart := false }
def FnExactIsReachableSaid : Prop := fnExactIsReachableRow.holds Try.pinned (OpenSpec.ofChange fnExactIsReachableSpec)

/-- ITS FALSE NEIGHBOUR: 'it returns false'. Refute it at one input. -/
def fnExactIsReachableWrong : ChangeSpec := { name := "fnExactIsReachable", fn := fun _ => fun
  | [d1, d2] => { results := [.lit (.bool false)], args := [d1, d2] }
  | _ => none }
def FnExactIsReachableWrongFalsely : Prop := fnExactIsReachableRow.holds Try.pinned (OpenSpec.ofChange fnExactIsReachableWrong)

/-- 'laws.FnExactChangedClauses': WHATEVER THE INPUT: true; the input reads as it did. -/
def fnExactChangedClausesSpec : ChangeSpec := { name := "fnExactChangedClauses", fn := fun _ => fun
  | [d1, d2] => { results := [.lit (.bool true)], args := [d1, d2] }
  | _ => none }
def fnExactChangedClausesRow : OpenClaim := { program := "ytjcklmhgjdmjoaa", sum := "ced5a887de254408ff478251b8a2f86a783c3adfe7158a7dea6009e83ec9c57b", func := "loop.example/g01010/laws.FnExactChangedClauses", spec := "fnExactChangedClauses", unfollowed := true, recurses := true, apart := false }
def FnExactChangedClausesSaid : Prop := fnExactChangedClausesRow.holds Try.pinned (OpenSpec.ofChange fnExactChangedClausesSpec)

/-- ITS FALSE NEIGHBOUR: 'it returns false'. Refute it at one input. -/
def fnExactChangedClausesWrong : ChangeSpec := { name := "fnExactChangedClauses", fn := fun _ => fun
  | [d1, d2] => { results := [.lit (.bool false)], args := [d1, d2] }
  | _ => none }
def FnExactChangedClausesWrongFalsely : Prop := fnExactChangedClausesRow.holds Try.pinned (OpenSpec.ofChange fnExactChangedClausesWrong)

/-- 'laws.FnExactSameDecisions': WHATEVER THE INPUT: true; the input reads as it did. -/
def fnExactSameDecisionsSpec : ChangeSpec := { name := "fnExactSameDecisions", fn := fun _ => fun
  | [d1, d2] => { results := [.lit (.bool true)], args := [d1, d2] }
  | _ => none }
def fnExactSameDecisionsRow : OpenClaim := { program := "ytjcklmhgjdmjoaa", sum := "ced5a887de254408ff478251b8a2f86a783c3adfe7158a7dea6009e83ec9c57b", func := "loop.example/g01010/laws.FnExactSameDecisions", spec := "fnExactSameDecisions", unfollowed := true, recurses := true, apart := false }
def FnExactSameDecisionsSaid : Prop := fnExactSameDecisionsRow.holds Try.pinned (OpenSpec.ofChange fnExactSameDecisionsSpec)

/-- ITS FALSE NEIGHBOUR: 'it returns false'. Refute it at one input. -/
def fnExactSameDecisionsWrong : ChangeSpec := { name := "fnExactSameDecisions", fn := fun _ => fun
  | [d1, d2] => { results := [.lit (.bool false)], args := [d1, d2] }
  | _ => none }
def FnExactSameDecisionsWrongFalsely : Prop := fnExactSameDecisionsRow.holds Try.pinned (OpenSpec.ofChange fnExactSameDecisionsWrong)

/-- 'laws.FnExactFirstDifference': WHATEVER THE INPUT: true; the input reads as it did. -/
def fnExactFirstDifferenceSpec : ChangeSpec := { name := "fnExactFirstDifference", fn := fun _ => fun
  | [d1, d2] => { results := [.lit (.bool true)], args := [d1, d2] }
  | _ => none }
def fnExactFirstDifferenceRow : OpenClaim := { program := "ytjcklmhgjdmjoaa", sum := "ced5a887de254408ff478251b8a2f86a783c3adfe7158a7dea6009e83ec9c57b", func := "loop.example/g01010/laws.FnExactFirstDifference", spec := "fnExactFirstDifference", unfollowed := true, recurses := true, apart := false }
def FnExactFirstDifferenceSaid : Prop := fnExactFirstDifferenceRow.holds Try.pinned (OpenSpec.ofChange fnExactFirstDifferenceSpec)

/-- ITS FALSE NEIGHBOUR: 'it returns false'. Refute it at one input. -/
def fnExactFirstDifferenceWrong : ChangeSpec := { name := "fnExactFirstDifference", fn := fun _ => fun
  | [d1, d2] => { results := [.lit (.bool false)], args := [d1, d2] }
  | _ => none }
def FnExactFirstDifferenceWrongFalsely : Prop := fnExactFirstDifferenceRow.holds Try.pinned (OpenSpec.ofChange fnExactFirstDifferenceWrong)

/-- 'laws.FnExactDecideEvent': WHATEVER THE INPUT: true; the input reads as it did. -/
def fnExactDecideEventSpec : ChangeSpec := { name := "fnExactDecideEvent", fn := fun _ => fun
  | [d1, d2] => { results := [.lit (.bool true)], args := [d1, d2] }
  | _ => none }
def fnExactDecideEventRow : OpenClaim := { program := "ytjcklmhgjdmjoaa", sum := "ced5a887de254408ff478251b8a2f86a783c3adfe7158a7dea6009e83ec9c57b", func := "loop.example/g01010/laws.FnExactDecideEvent", spec := "fnExactDecideEvent", unfollowed := true, recurses := true, apart := false }
def FnExactDecideEventSaid : Prop := fnExactDecideEventRow.holds Try.pinned (OpenSpec.ofChange fnExactDecideEventSpec)

/-- ITS FALSE NEIGHBOUR: 'it returns false'. Refute it at one input. -/
def fnExactDecideEventWrong : ChangeSpec := { name := "fnExactDecideEvent", fn := fun _ => fun
  | [d1, d2] => { results := [.lit (.bool false)], args := [d1, d2] }
  | _ => none }
def FnExactDecideEventWrongFalsely : Prop := fnExactDecideEventRow.holds Try.pinned (OpenSpec.ofChange fnExactDecideEventWrong)

/-- 'laws.FnExactDecideLog': WHATEVER THE INPUT: true; the input reads as it did. -/
def fnExactDecideLogSpec : ChangeSpec := { name := "fnExactDecideLog", fn := fun _ => fun
  | [d1, d2] => { results := [.lit (.bool true)], args := [d1, d2] }
  | _ => none }
def fnExactDecideLogRow : OpenClaim := { program := "ytjcklmhgjdmjoaa", sum := "ced5a887de254408ff478251b8a2f86a783c3adfe7158a7dea6009e83ec9c57b", func := "loop.example/g01010/laws.FnExactDecideLog", spec := "fnExactDecideLog", unfollowed := true, recurses := true, apart := false }
def FnExactDecideLogSaid : Prop := fnExactDecideLogRow.holds Try.pinned (OpenSpec.ofChange fnExactDecideLogSpec)

/-- ITS FALSE NEIGHBOUR: 'it returns false'. Refute it at one input. -/
def fnExactDecideLogWrong : ChangeSpec := { name := "fnExactDecideLog", fn := fun _ => fun
  | [d1, d2] => { results := [.lit (.bool false)], args := [d1, d2] }
  | _ => none }
def FnExactDecideLogWrongFalsely : Prop := fnExactDecideLogRow.holds Try.pinned (OpenSpec.ofChange fnExactDecideLogWrong)

/-- 'laws.FnExactEventsWith': WHATEVER THE INPUT: true; the input reads as it did. -/
def fnExactEventsWithSpec : ChangeSpec := { name := "fnExactEventsWith", fn := fun _ => fun
  | [d1, d2, d3] => { results := [.lit (.bool true)], args := [d1, d2, d3] }
  | _ => none }
def fnExactEventsWithRow : OpenClaim := { program := "ytjcklmhgjdmjoaa", sum := "ced5a887de254408ff478251b8a2f86a783c3adfe7158a7dea6009e83ec9c57b", func := "loop.example/g01010/laws.FnExactEventsWith", spec := "fnExactEventsWith", unfollowed := true, recurses := true, apart := false }
def FnExactEventsWithSaid : Prop := fnExactEventsWithRow.holds Try.pinned (OpenSpec.ofChange fnExactEventsWithSpec)

/-- ITS FALSE NEIGHBOUR: 'it returns false'. Refute it at one input. -/
def fnExactEventsWithWrong : ChangeSpec := { name := "fnExactEventsWith", fn := fun _ => fun
  | [d1, d2, d3] => { results := [.lit (.bool false)], args := [d1, d2, d3] }
  | _ => none }
def FnExactEventsWithWrongFalsely : Prop := fnExactEventsWithRow.holds Try.pinned (OpenSpec.ofChange fnExactEventsWithWrong)

/-- 'laws.FnExactTotalsByResult': WHATEVER THE INPUT: true; the input reads as it did. -/
def fnExactTotalsByResultSpec : ChangeSpec := { name := "fnExactTotalsByResult", fn := fun _ => fun
  | [d1, d2] => { results := [.lit (.bool true)], args := [d1, d2] }
  | _ => none }
def fnExactTotalsByResultRow : OpenClaim := { program := "ytjcklmhgjdmjoaa", sum := "ced5a887de254408ff478251b8a2f86a783c3adfe7158a7dea6009e83ec9c57b", func := "loop.example/g01010/laws.FnExactTotalsByResult", spec := "fnExactTotalsByResult", unfollowed := true, recurses := true, apart := false }
def FnExactTotalsByResultSaid : Prop := fnExactTotalsByResultRow.holds Try.pinned (OpenSpec.ofChange fnExactTotalsByResultSpec)

/-- ITS FALSE NEIGHBOUR: 'it returns false'. Refute it at one input. -/
def fnExactTotalsByResultWrong : ChangeSpec := { name := "fnExactTotalsByResult", fn := fun _ => fun
  | [d1, d2] => { results := [.lit (.bool false)], args := [d1, d2] }
  | _ => none }
def FnExactTotalsByResultWrongFalsely : Prop := fnExactTotalsByResultRow.holds Try.pinned (OpenSpec.ofChange fnExactTotalsByResultWrong)

/-- 'laws.FnExactCountUses': WHATEVER THE INPUT: true; the input reads as it did. -/
def fnExactCountUsesSpec : ChangeSpec := { name := "fnExactCountUses", fn := fun _ => fun
  | [d1, d2] => { results := [.lit (.bool true)], args := [d1, d2] }
  | _ => none }
def fnExactCountUsesRow : OpenClaim := { program := "ytjcklmhgjdmjoaa", sum := "ced5a887de254408ff478251b8a2f86a783c3adfe7158a7dea6009e83ec9c57b", func := "loop.example/g01010/laws.FnExactCountUses", spec := "fnExactCountUses", unfollowed := true, recurses := true, apart := false }
def FnExactCountUsesSaid : Prop := fnExactCountUsesRow.holds Try.pinned (OpenSpec.ofChange fnExactCountUsesSpec)

/-- ITS FALSE NEIGHBOUR: 'it returns false'. Refute it at one input. -/
def fnExactCountUsesWrong : ChangeSpec := { name := "fnExactCountUses", fn := fun _ => fun
  | [d1, d2] => { results := [.lit (.bool false)], args := [d1, d2] }
  | _ => none }
def FnExactCountUsesWrongFalsely : Prop := fnExactCountUsesRow.holds Try.pinned (OpenSpec.ofChange fnExactCountUsesWrong)

/- THE SECOND FORM. 'bulk': how many values and letters a reading holds, each counted each time it is reached (what is shared counts as often as it is met; a slice's spare places count too). A statement '..UptoSaid' is the law's where the arguments, and the package variables that the reading takes, are together of bulk at most 1048576: NARROWER than '..Said'. Prove '..Said' where nothing that the law and all that it calls make is longer than what came in: it says more and counts as full. Else prove '..UptoSaid'. A law counts once. -/
mutual
def uptoBulk {H : Type} : DataW H → Nat
  | .lit (.string bytes) => bytes.length + 1
  | .lit _ => 1
  | .nil => 1
  | .ptr d => uptoBulk d + 1
  | .slice elems spare => uptoBulkAll elems + uptoBulkAll spare + 1
  | .agg parts => uptoBulkAll parts + 1
  | .iface _ d => uptoBulk d + 1
  | .map entries => uptoBulkEntries entries + 1
  | .held _ => 1
def uptoBulkAll {H : Type} : List (DataW H) → Nat
  | [] => 0
  | d :: r => uptoBulk d + uptoBulkAll r
def uptoBulkEntries {H : Type} : List (Lit × DataW H) → Nat
  | [] => 0
  | x :: r => uptoBulkEntry x + uptoBulkEntries r
def uptoBulkEntry {H : Type} : Lit × DataW H → Nat
  | (.string bytes, d) => bytes.length + uptoBulk d + 1
  | (_, d) => uptoBulk d + 1
 end
def uptoSmall : (H : Type) → List (DataW H) → Bool := fun _ ds => decide (uptoBulkAll ds ≤ 1048576)
def OpenSpec.upto (s : _root_.Go.ChangeSpec) : _root_.Go.OpenSpec := { _root_.Go.OpenSpec.ofChange s with cond := some uptoSmall }

/-- 'laws.FnDecisions', WHERE WHAT IT READS IS OF BULK AT MOST 1048576: true; the input reads as it did. -/
def fnDecisionsUptoRow : OpenClaim := { program := "ytjcklmhgjdmjoaa", sum := "ced5a887de254408ff478251b8a2f86a783c3adfe7158a7dea6009e83ec9c57b", func := "loop.example/g01010/laws.FnDecisions", spec := "fnDecisions", unfollowed := true, recurses := true, apart := false, narrowed := true }
def FnDecisionsUptoSaid : Prop := fnDecisionsUptoRow.holds Try.pinned (OpenSpec.upto fnDecisionsSpec)

/-- 'laws.FnExactIsReachable', WHERE WHAT IT READS IS OF BULK AT MOST 1048576: true; the input reads as it did. -/
def fnExactIsReachableUptoRow : OpenClaim := { program := "ytjcklmhgjdmjoaa", sum := "ced5a887de254408ff478251b8a2f86a783c3adfe7158a7dea6009e83ec9c57b", func := "loop.example/g01010/laws.FnExactIsReachable", spec := "fnExactIsReachable", unfollowed := true, recurses := true, apart := false, narrowed := true }
def FnExactIsReachableUptoSaid : Prop := fnExactIsReachableUptoRow.holds Try.pinned (OpenSpec.upto fnExactIsReachableSpec)

/-- 'laws.FnExactChangedClauses', WHERE WHAT IT READS IS OF BULK AT MOST 1048576: true; the input reads as it did. -/
def fnExactChangedClausesUptoRow : OpenClaim := { program := "ytjcklmhgjdmjoaa", sum := "ced5a887de254408ff478251b8a2f86a783c3adfe7158a7dea6009e83ec9c57b", func := "loop.example/g01010/laws.FnExactChangedClauses", spec := "fnExactChangedClauses", unfollowed := true, recurses := true, apart := false, narrowed := true }
def FnExactChangedClausesUptoSaid : Prop := fnExactChangedClausesUptoRow.holds Try.pinned (OpenSpec.upto fnExactChangedClausesSpec)

/-- 'laws.FnExactSameDecisions', WHERE WHAT IT READS IS OF BULK AT MOST 1048576: true; the input reads as it did. -/
def fnExactSameDecisionsUptoRow : OpenClaim := { program := "ytjcklmhgjdmjoaa", sum := "ced5a887de254408ff478251b8a2f86a783c3adfe7158a7dea6009e83ec9c57b", func := "loop.example/g01010/laws.FnExactSameDecisions", spec := "fnExactSameDecisions", unfollowed := true, recurses := true, apart := false, narrowed := true }
def FnExactSameDecisionsUptoSaid : Prop := fnExactSameDecisionsUptoRow.holds Try.pinned (OpenSpec.upto fnExactSameDecisionsSpec)

/-- 'laws.FnExactFirstDifference', WHERE WHAT IT READS IS OF BULK AT MOST 1048576: true; the input reads as it did. -/
def fnExactFirstDifferenceUptoRow : OpenClaim := { program := "ytjcklmhgjdmjoaa", sum := "ced5a887de254408ff478251b8a2f86a783c3adfe7158a7dea6009e83ec9c57b", func := "loop.example/g01010/laws.FnExactFirstDifference", spec := "fnExactFirstDifference", unfollowed := true, recurses := true, apart := false, narrowed := true }
def FnExactFirstDifferenceUptoSaid : Prop := fnExactFirstDifferenceUptoRow.holds Try.pinned (OpenSpec.upto fnExactFirstDifferenceSpec)

/-- 'laws.FnExactDecideEvent', WHERE WHAT IT READS IS OF BULK AT MOST 1048576: true; the input reads as it did. -/
def fnExactDecideEventUptoRow : OpenClaim := { program := "ytjcklmhgjdmjoaa", sum := "ced5a887de254408ff478251b8a2f86a783c3adfe7158a7dea6009e83ec9c57b", func := "loop.example/g01010/laws.FnExactDecideEvent", spec := "fnExactDecideEvent", unfollowed := true, recurses := true, apart := false, narrowed := true }
def FnExactDecideEventUptoSaid : Prop := fnExactDecideEventUptoRow.holds Try.pinned (OpenSpec.upto fnExactDecideEventSpec)

/-- 'laws.FnExactDecideLog', WHERE WHAT IT READS IS OF BULK AT MOST 1048576: true; the input reads as it did. -/
def fnExactDecideLogUptoRow : OpenClaim := { program := "ytjcklmhgjdmjoaa", sum := "ced5a887de254408ff478251b8a2f86a783c3adfe7158a7dea6009e83ec9c57b", func := "loop.example/g01010/laws.FnExactDecideLog", spec := "fnExactDecideLog", unfollowed := true, recurses := true, apart := false, narrowed := true }
def FnExactDecideLogUptoSaid : Prop := fnExactDecideLogUptoRow.holds Try.pinned (OpenSpec.upto fnExactDecideLogSpec)

/-- 'laws.FnExactEventsWith', WHERE WHAT IT READS IS OF BULK AT MOST 1048576: true; the input reads as it did. -/
def fnExactEventsWithUptoRow : OpenClaim := { program := "ytjcklmhgjdmjoaa", sum := "ced5a887de254408ff478251b8a2f86a783c3adfe7158a7dea6009e83ec9c57b", func := "loop.example/g01010/laws.FnExactEventsWith", spec := "fnExactEventsWith", unfollowed := true, recurses := true, apart := false, narrowed := true }
def FnExactEventsWithUptoSaid : Prop := fnExactEventsWithUptoRow.holds Try.pinned (OpenSpec.upto fnExactEventsWithSpec)

/-- 'laws.FnExactTotalsByResult', WHERE WHAT IT READS IS OF BULK AT MOST 1048576: true; the input reads as it did. -/
def fnExactTotalsByResultUptoRow : OpenClaim := { program := "ytjcklmhgjdmjoaa", sum := "ced5a887de254408ff478251b8a2f86a783c3adfe7158a7dea6009e83ec9c57b", func := "loop.example/g01010/laws.FnExactTotalsByResult", spec := "fnExactTotalsByResult", unfollowed := true, recurses := true, apart := false, narrowed := true }
def FnExactTotalsByResultUptoSaid : Prop := fnExactTotalsByResultUptoRow.holds Try.pinned (OpenSpec.upto fnExactTotalsByResultSpec)

/-- 'laws.FnExactCountUses', WHERE WHAT IT READS IS OF BULK AT MOST 1048576: true; the input reads as it did. -/
def fnExactCountUsesUptoRow : OpenClaim := { program := "ytjcklmhgjdmjoaa", sum := "ced5a887de254408ff478251b8a2f86a783c3adfe7158a7dea6009e83ec9c57b", func := "loop.example/g01010/laws.FnExactCountUses", spec := "fnExactCountUses", unfollowed := true, recurses := true, apart := false, narrowed := true }
def FnExactCountUsesUptoSaid : Prop := fnExactCountUsesUptoRow.holds Try.pinned (OpenSpec.upto fnExactCountUsesSpec)

end Rows
end Go.Proofs.Ytjcklmhgjdmjoaa
