/-
  No cell of these rows narrows 'for every input' (looked for: loops, veiled, ifaces, maps, wideKeys, modest, calm, conditions, laid).
  DERIVED. THE GIVEN ROWS OF THIS SEAT. 9 by the template 'for every input the law returns true; each argument reads behind the call as it read before'; 0 by the template 'total and deterministic' (their statements: YtpdkgjmppknbpaaTotals.lean).
  GIVEN WITH THE SEED: the statements are not yours to turn. If you find one false, say at which input.
  Laid BY PROGRAM, IN A SANDBOX (cutbox-rows.mjs): the forced cells as the released guide's own fill.sh prints them over the translation 471ca012fcb92b88… (all of the seat's roots in one cut). By AI agents, Wed Nov 11 2026. No macro, syntax, notation, axiom, sorry.
-/
import Derived.Test.YtpdkgjmppknbpaaChecked
import GoSem.Claim
import GoSem.ClaimJoined
import GoSem.ClaimMapViews
import Derived.JoinedTies
import Derived.KernelRfl
namespace Go.Proofs.Ytpdkgjmppknbpaa
/- THE CELL 'sum', in the pinned program and in every row, IS THE sha256 OF THE DUMP (.gsa) THAT YtpdkgjmppknbpaaProg.lean LOADS. Nothing in Lean hashes anything: it is a label: what it is worth is what the hold of that sum in a sandbox is worth. -/
noncomputable def Try.pinned : Pinned := { name := "ytpdkgjmppknbpaa", sum := "471ca012fcb92b88238c0574fecd88b02a2928ba911556634dc88e9487aae82a", checked := Try.checked }
namespace Rows
def none {H : Type} : Left H := { results := [], args := [] }

/-- 'laws.FnExactIsLibrary': WHATEVER THE INPUT: true; the input reads as it did. -/
def fnExactIsLibrarySpec : ChangeSpec := { name := "fnExactIsLibrary", fn := fun _ => fun
  | [d] => { results := [.lit (.bool true)], args := [d] }
  | _ => none }
def fnExactIsLibraryRow : OpenClaim := { program := "ytpdkgjmppknbpaa", sum := "471ca012fcb92b88238c0574fecd88b02a2928ba911556634dc88e9487aae82a", func := "loop.example/g01010/laws.FnExactIsLibrary", spec := "fnExactIsLibrary", unfollowed := true, recurses := true, apart := false }
def FnExactIsLibrarySaid : Prop := fnExactIsLibraryRow.holds Try.pinned (OpenSpec.ofChange fnExactIsLibrarySpec)

/-- ITS FALSE NEIGHBOUR: 'it returns false'. Refute it at one input. -/
def fnExactIsLibraryWrong : ChangeSpec := { name := "fnExactIsLibrary", fn := fun _ => fun
  | [d] => { results := [.lit (.bool false)], args := [d] }
  | _ => none }
def FnExactIsLibraryWrongFalsely : Prop := fnExactIsLibraryRow.holds Try.pinned (OpenSpec.ofChange fnExactIsLibraryWrong)

/-- 'laws.FnExactEditionFor': WHATEVER THE INPUT: true; the input reads as it did. -/
def fnExactEditionForSpec : ChangeSpec := { name := "fnExactEditionFor", fn := fun _ => fun
  | [d1, d2] => { results := [.lit (.bool true)], args := [d1, d2] }
  | _ => none }
def fnExactEditionForRow : OpenClaim := { program := "ytpdkgjmppknbpaa", sum := "471ca012fcb92b88238c0574fecd88b02a2928ba911556634dc88e9487aae82a", func := "loop.example/g01010/laws.FnExactEditionFor", spec := "fnExactEditionFor", unfollowed := true, recurses := true, apart := false }
def FnExactEditionForSaid : Prop := fnExactEditionForRow.holds Try.pinned (OpenSpec.ofChange fnExactEditionForSpec)

/-- ITS FALSE NEIGHBOUR: 'it returns false'. Refute it at one input. -/
def fnExactEditionForWrong : ChangeSpec := { name := "fnExactEditionFor", fn := fun _ => fun
  | [d1, d2] => { results := [.lit (.bool false)], args := [d1, d2] }
  | _ => none }
def FnExactEditionForWrongFalsely : Prop := fnExactEditionForRow.holds Try.pinned (OpenSpec.ofChange fnExactEditionForWrong)

/-- 'laws.FnExactAddEdition': WHATEVER THE INPUT: true; the input reads as it did. -/
def fnExactAddEditionSpec : ChangeSpec := { name := "fnExactAddEdition", fn := fun _ => fun
  | [d1, d2] => { results := [.lit (.bool true)], args := [d1, d2] }
  | _ => none }
def fnExactAddEditionRow : OpenClaim := { program := "ytpdkgjmppknbpaa", sum := "471ca012fcb92b88238c0574fecd88b02a2928ba911556634dc88e9487aae82a", func := "loop.example/g01010/laws.FnExactAddEdition", spec := "fnExactAddEdition", unfollowed := true, recurses := true, apart := false }
def FnExactAddEditionSaid : Prop := fnExactAddEditionRow.holds Try.pinned (OpenSpec.ofChange fnExactAddEditionSpec)

/-- ITS FALSE NEIGHBOUR: 'it returns false'. Refute it at one input. -/
def fnExactAddEditionWrong : ChangeSpec := { name := "fnExactAddEdition", fn := fun _ => fun
  | [d1, d2] => { results := [.lit (.bool false)], args := [d1, d2] }
  | _ => none }
def FnExactAddEditionWrongFalsely : Prop := fnExactAddEditionRow.holds Try.pinned (OpenSpec.ofChange fnExactAddEditionWrong)

/-- 'laws.FnExactAmendEdition': WHATEVER THE INPUT: true; the input reads as it did. -/
def fnExactAmendEditionSpec : ChangeSpec := { name := "fnExactAmendEdition", fn := fun _ => fun
  | [d1, d2, d3] => { results := [.lit (.bool true)], args := [d1, d2, d3] }
  | _ => none }
def fnExactAmendEditionRow : OpenClaim := { program := "ytpdkgjmppknbpaa", sum := "471ca012fcb92b88238c0574fecd88b02a2928ba911556634dc88e9487aae82a", func := "loop.example/g01010/laws.FnExactAmendEdition", spec := "fnExactAmendEdition", unfollowed := true, recurses := true, apart := false }
def FnExactAmendEditionSaid : Prop := fnExactAmendEditionRow.holds Try.pinned (OpenSpec.ofChange fnExactAmendEditionSpec)

/-- ITS FALSE NEIGHBOUR: 'it returns false'. Refute it at one input. -/
def fnExactAmendEditionWrong : ChangeSpec := { name := "fnExactAmendEdition", fn := fun _ => fun
  | [d1, d2, d3] => { results := [.lit (.bool false)], args := [d1, d2, d3] }
  | _ => none }
def FnExactAmendEditionWrongFalsely : Prop := fnExactAmendEditionRow.holds Try.pinned (OpenSpec.ofChange fnExactAmendEditionWrong)

/-- 'laws.FnExactChangedClauses': WHATEVER THE INPUT: true; the input reads as it did. -/
def fnExactChangedClausesSpec : ChangeSpec := { name := "fnExactChangedClauses", fn := fun _ => fun
  | [d1, d2] => { results := [.lit (.bool true)], args := [d1, d2] }
  | _ => none }
def fnExactChangedClausesRow : OpenClaim := { program := "ytpdkgjmppknbpaa", sum := "471ca012fcb92b88238c0574fecd88b02a2928ba911556634dc88e9487aae82a", func := "loop.example/g01010/laws.FnExactChangedClauses", spec := "fnExactChangedClauses", unfollowed := true, recurses := true, apart := false }
def FnExactChangedClausesSaid : Prop := fnExactChangedClausesRow.holds Try.pinned (OpenSpec.ofChange fnExactChangedClausesSpec)

/-- ITS FALSE NEIGHBOUR: 'it returns false'. Refute it at one input. -/
def fnExactChangedClausesWrong : ChangeSpec := { name := "fnExactChangedClauses", fn := fun _ => fun
  | [d1, d2] => { results := [.lit (.bool false)], args := [d1, d2] }
  | _ => none }
def FnExactChangedClausesWrongFalsely : Prop := fnExactChangedClausesRow.holds Try.pinned (OpenSpec.ofChange fnExactChangedClausesWrong)

/-- 'laws.FnExactSameDecisions': WHATEVER THE INPUT: true; the input reads as it did. -/
def fnExactSameDecisionsSpec : ChangeSpec := { name := "fnExactSameDecisions", fn := fun _ => fun
  | [d1, d2] => { results := [.lit (.bool true)], args := [d1, d2] }
  | _ => none }
def fnExactSameDecisionsRow : OpenClaim := { program := "ytpdkgjmppknbpaa", sum := "471ca012fcb92b88238c0574fecd88b02a2928ba911556634dc88e9487aae82a", func := "loop.example/g01010/laws.FnExactSameDecisions", spec := "fnExactSameDecisions", unfollowed := true, recurses := true, apart := false }
def FnExactSameDecisionsSaid : Prop := fnExactSameDecisionsRow.holds Try.pinned (OpenSpec.ofChange fnExactSameDecisionsSpec)

/-- ITS FALSE NEIGHBOUR: 'it returns false'. Refute it at one input. -/
def fnExactSameDecisionsWrong : ChangeSpec := { name := "fnExactSameDecisions", fn := fun _ => fun
  | [d1, d2] => { results := [.lit (.bool false)], args := [d1, d2] }
  | _ => none }
def FnExactSameDecisionsWrongFalsely : Prop := fnExactSameDecisionsRow.holds Try.pinned (OpenSpec.ofChange fnExactSameDecisionsWrong)

/-- 'laws.FnExactYearsOf': WHATEVER THE INPUT: true; the input reads as it did. -/
def fnExactYearsOfSpec : ChangeSpec := { name := "fnExactYearsOf", fn := fun _ => fun
  | [d1, d2] => { results := [.lit (.bool true)], args := [d1, d2] }
  | _ => none }
def fnExactYearsOfRow : OpenClaim := { program := "ytpdkgjmppknbpaa", sum := "471ca012fcb92b88238c0574fecd88b02a2928ba911556634dc88e9487aae82a", func := "loop.example/g01010/laws.FnExactYearsOf", spec := "fnExactYearsOf", unfollowed := true, recurses := true, apart := false }
def FnExactYearsOfSaid : Prop := fnExactYearsOfRow.holds Try.pinned (OpenSpec.ofChange fnExactYearsOfSpec)

/-- ITS FALSE NEIGHBOUR: 'it returns false'. Refute it at one input. -/
def fnExactYearsOfWrong : ChangeSpec := { name := "fnExactYearsOf", fn := fun _ => fun
  | [d1, d2] => { results := [.lit (.bool false)], args := [d1, d2] }
  | _ => none }
def FnExactYearsOfWrongFalsely : Prop := fnExactYearsOfRow.holds Try.pinned (OpenSpec.ofChange fnExactYearsOfWrong)

/-- 'laws.FnExactFirstDifference': WHATEVER THE INPUT: true; the input reads as it did. -/
def fnExactFirstDifferenceSpec : ChangeSpec := { name := "fnExactFirstDifference", fn := fun _ => fun
  | [d1, d2] => { results := [.lit (.bool true)], args := [d1, d2] }
  | _ => none }
def fnExactFirstDifferenceRow : OpenClaim := { program := "ytpdkgjmppknbpaa", sum := "471ca012fcb92b88238c0574fecd88b02a2928ba911556634dc88e9487aae82a", func := "loop.example/g01010/laws.FnExactFirstDifference", spec := "fnExactFirstDifference", unfollowed := true, recurses := true, apart := false }
def FnExactFirstDifferenceSaid : Prop := fnExactFirstDifferenceRow.holds Try.pinned (OpenSpec.ofChange fnExactFirstDifferenceSpec)

/-- ITS FALSE NEIGHBOUR: 'it returns false'. Refute it at one input. -/
def fnExactFirstDifferenceWrong : ChangeSpec := { name := "fnExactFirstDifference", fn := fun _ => fun
  | [d1, d2] => { results := [.lit (.bool false)], args := [d1, d2] }
  | _ => none }
def FnExactFirstDifferenceWrongFalsely : Prop := fnExactFirstDifferenceRow.holds Try.pinned (OpenSpec.ofChange fnExactFirstDifferenceWrong)

/-- 'laws.FnExactIsReachable': WHATEVER THE INPUT: true; the input reads as it did. -/
def fnExactIsReachableSpec : ChangeSpec := { name := "fnExactIsReachable", fn := fun _ => fun
  | [d1, d2] => { results := [.lit (.bool true)], args := [d1, d2] }
  | _ => none }
def fnExactIsReachableRow : OpenClaim := { program := "ytpdkgjmppknbpaa", sum := "471ca012fcb92b88238c0574fecd88b02a2928ba911556634dc88e9487aae82a", func := "loop.example/g01010/laws.FnExactIsReachable", spec := "fnExactIsReachable", unfollowed := true, recurses := true, apart := false }
def FnExactIsReachableSaid : Prop := fnExactIsReachableRow.holds Try.pinned (OpenSpec.ofChange fnExactIsReachableSpec)

/-- ITS FALSE NEIGHBOUR: 'it returns false'. Refute it at one input. -/
def fnExactIsReachableWrong : ChangeSpec := { name := "fnExactIsReachable", fn := fun _ => fun
  | [d1, d2] => { results := [.lit (.bool false)], args := [d1, d2] }
  | _ => none }
def FnExactIsReachableWrongFalsely : Prop := fnExactIsReachableRow.holds Try.pinned (OpenSpec.ofChange fnExactIsReachableWrong)

/- THE SECOND FORM. 'bulk': how many values and letters a reading holds, each counted each time it is reached (what is shared counts as often as it is met; a slice's spare places count too). A statement '..UptoSaid' is the law's where the arguments, and the package variables that the reading takes, are together of bulk at most 1048576: NARROWER than '..Said'. Prove '..Said' where nothing that the law and all that it calls make is longer than what came in: it says more and counts as full. Else prove '..UptoSaid'. A law counts once. -/
mutual
def uptoBulk {H : Type} : DataW H → Nat
  | .lit (.string bytes) => bytes.length + 1
  | .lit _ => 1
  | .nil => 1
  | .ptr d => uptoBulk d + 1
  | .slice elems spare => uptoBulkAll elems + uptoBulkAll spare + 1
  | .agg parts => uptoBulkAll parts + 1
  | .iface _ d => uptoBulk d + 1
  | .map entries => uptoBulkEntries entries + 1
  | .held _ => 1
def uptoBulkAll {H : Type} : List (DataW H) → Nat
  | [] => 0
  | d :: r => uptoBulk d + uptoBulkAll r
def uptoBulkEntries {H : Type} : List (Lit × DataW H) → Nat
  | [] => 0
  | x :: r => uptoBulkEntry x + uptoBulkEntries r
def uptoBulkEntry {H : Type} : Lit × DataW H → Nat
  | (.string bytes, d) => bytes.length + uptoBulk d + 1
  | (_, d) => uptoBulk d + 1
 end
def uptoSmall : (H : Type) → List (DataW H) → Bool := fun _ ds => decide (uptoBulkAll ds ≤ 1048576)
def OpenSpec.upto (s : _root_.Go.ChangeSpec) : _root_.Go.OpenSpec := { _root_.Go.OpenSpec.ofChange s with cond := some uptoSmall }

/-- 'laws.FnExactIsLibrary', WHERE WHAT IT READS IS OF BULK AT MOST 1048576: true; the input reads as it did. -/
def fnExactIsLibraryUptoRow : OpenClaim := { program := "ytpdkgjmppknbpaa", sum := "471ca012fcb92b88238c0574fecd88b02a2928ba911556634dc88e9487aae82a", func := "loop.example/g01010/laws.FnExactIsLibrary", spec := "fnExactIsLibrary", unfollowed := true, recurses := true, apart := false, narrowed := true }
def FnExactIsLibraryUptoSaid : Prop := fnExactIsLibraryUptoRow.holds Try.pinned (OpenSpec.upto fnExactIsLibrarySpec)

/-- 'laws.FnExactEditionFor', WHERE WHAT IT READS IS OF BULK AT MOST 1048576: true; the input reads as it did. -/
def fnExactEditionForUptoRow : OpenClaim := { program := "ytpdkgjmppknbpaa", sum := "471ca012fcb92b88238c0574fecd88b02a2928ba911556634dc88e9487aae82a", func := "loop.example/g01010/laws.FnExactEditionFor", spec := "fnExactEditionFor", unfollowed := true, recurses := true, apart := false, narrowed := true }
def FnExactEditionForUptoSaid : Prop := fnExactEditionForUptoRow.holds Try.pinned (OpenSpec.upto fnExactEditionForSpec)

/-- 'laws.FnExactAddEdition', WHERE WHAT IT READS IS OF BULK AT MOST 1048576: true; the input reads as it did. -/
def fnExactAddEditionUptoRow : OpenClaim := { program := "ytpdkgjmppknbpaa", sum := "471ca012fcb92b88238c0574fecd88b02a2928ba911556634dc88e9487aae82a", func := "loop.example/g01010/laws.FnExactAddEdition", spec := "fnExactAddEdition", unfollowed := true, recurses := true, apart := false, narrowed := true }
def FnExactAddEditionUptoSaid : Prop := fnExactAddEditionUptoRow.holds Try.pinned (OpenSpec.upto fnExactAddEditionSpec)

/-- 'laws.FnExactAmendEdition', WHERE WHAT IT READS IS OF BULK AT MOST 1048576: true; the input reads as it did. -/
def fnExactAmendEditionUptoRow : OpenClaim := { program := "ytpdkgjmppknbpaa", sum := "471ca012fcb92b88238c0574fecd88b02a2928ba911556634dc88e9487aae82a", func := "loop.example/g01010/laws.FnExactAmendEdition", spec := "fnExactAmendEdition", unfollowed := true, recurses := true, apart := false, narrowed := true }
def FnExactAmendEditionUptoSaid : Prop := fnExactAmendEditionUptoRow.holds Try.pinned (OpenSpec.upto fnExactAmendEditionSpec)

/-- 'laws.FnExactChangedClauses', WHERE WHAT IT READS IS OF BULK AT MOST 1048576: true; the input reads as it did. -/
def fnExactChangedClausesUptoRow : OpenClaim := { program := "ytpdkgjmppknbpaa", sum := "471ca012fcb92b88238c0574fecd88b02a2928ba911556634dc88e9487aae82a", func := "loop.example/g01010/laws.FnExactChangedClauses", spec := "fnExactChangedClauses", unfollowed := true, recurses := true, apart := false, narrowed := true }
def FnExactChangedClausesUptoSaid : Prop := fnExactChangedClausesUptoRow.holds Try.pinned (OpenSpec.upto fnExactChangedClausesSpec)

/-- 'laws.FnExactSameDecisions', WHERE WHAT IT READS IS OF BULK AT MOST 1048576: true; the input reads as it did. -/
def fnExactSameDecisionsUptoRow : OpenClaim := { program := "ytpdkgjmppknbpaa", sum := "471ca012fcb92b88238c0574fecd88b02a2928ba911556634dc88e9487aae82a", func := "loop.example/g01010/laws.FnExactSameDecisions", spec := "fnExactSameDecisions", unfollowed := true, recurses := true, apart := false, narrowed := true }
def FnExactSameDecisionsUptoSaid : Prop := fnExactSameDecisionsUptoRow.holds Try.pinned (OpenSpec.upto fnExactSameDecisionsSpec)

/-- 'laws.FnExactYearsOf', WHERE WHAT IT READS IS OF BULK AT MOST 1048576: true; the input reads as it did. -/
def fnExactYearsOfUptoRow : OpenClaim := { program := "ytpdkgjmppknbpaa", sum := "471ca012fcb92b88238c0574fecd88b02a2928ba911556634dc88e9487aae82a", func := "loop.example/g01010/laws.FnExactYearsOf", spec := "fnExactYearsOf", unfollowed := true, recurses := true, apart := false, narrowed := true }
def FnExactYearsOfUptoSaid : Prop := fnExactYearsOfUptoRow.holds Try.pinned (OpenSpec.upto fnExactYearsOfSpec)

/-- 'laws.FnExactFirstDifference', WHERE WHAT IT READS IS OF BULK AT MOST 1048576: true; the input reads as it did. -/
def fnExactFirstDifferenceUptoRow : OpenClaim := { program := "ytpdkgjmppknbpaa", sum := "471ca012fcb92b88238c0574fecd88b02a2928ba911556634dc88e9487aae82a", func := "loop.example/g01010/laws.FnExactFirstDifference", spec := "fnExactFirstDifference", unfollowed := true, recurses := true, apart := false, narrowed := true }
def FnExactFirstDifferenceUptoSaid : Prop := fnExactFirstDifferenceUptoRow.holds Try.pinned (OpenSpec.upto fnExactFirstDifferenceSpec)

/-- 'laws.FnExactIsReachable', WHERE WHAT IT READS IS OF BULK AT MOST 1048576: true; the input reads as it did. -/
def fnExactIsReachableUptoRow : OpenClaim := { program := "ytpdkgjmppknbpaa", sum := "471ca012fcb92b88238c0574fecd88b02a2928ba911556634dc88e9487aae82a", func := "loop.example/g01010/laws.FnExactIsReachable", spec := "fnExactIsReachable", unfollowed := true, recurses := true, apart := false, narrowed := true }
def FnExactIsReachableUptoSaid : Prop := fnExactIsReachableUptoRow.holds Try.pinned (OpenSpec.upto fnExactIsReachableSpec)

end Rows
end Go.Proofs.Ytpdkgjmppknbpaa
