/-
  No cell of these rows narrows 'for every input' (looked for: loops, veiled, ifaces, maps, wideKeys, modest, calm, conditions, laid).
  DERIVED. THE GIVEN ROWS OF THIS SEAT. 6 by the template 'for every input the law returns true; each argument reads behind the call as it read before'; 0 by the template 'total and deterministic' (their statements: YtmhlkbocejnpoaaTotals.lean).
  GIVEN WITH THE SEED: the statements are not yours to turn. If you find one false, say at which input.
  Laid BY PROGRAM, IN A SANDBOX (cutbox-rows.mjs): the forced cells as the released guide's own fill.sh prints them over the translation b15083b11e81db8c… (all of the seat's roots in one cut). By AI agents, Wed Nov 11 2026. No macro, syntax, notation, axiom, sorry.
-/
import Derived.Test.YtmhlkbocejnpoaaChecked
import GoSem.Claim
import GoSem.ClaimJoined
import GoSem.ClaimMapViews
import Derived.JoinedTies
import Derived.KernelRfl
namespace Go.Proofs.Ytmhlkbocejnpoaa
/- THE CELL 'sum', in the pinned program and in every row, IS THE sha256 OF THE DUMP (.gsa) THAT YtmhlkbocejnpoaaProg.lean LOADS. Nothing in Lean hashes anything: it is a label: what it is worth is what the hold of that sum in a sandbox is worth. -/
noncomputable def Try.pinned : Pinned := { name := "ytmhlkbocejnpoaa", sum := "b15083b11e81db8cf75e270dfe83c24e67ed300b8eca0effd6d10cdc8851375f", checked := Try.checked }
namespace Rows
def none {H : Type} : Left H := { results := [], args := [] }

/-- 'laws.FnExactIsClause': WHATEVER THE INPUT: true; the input reads as it did. -/
def fnExactIsClauseSpec : ChangeSpec := { name := "fnExactIsClause", fn := fun _ => fun
  | [d] => { results := [.lit (.bool true)], args := [d] }
  | _ => none }
def fnExactIsClauseRow : OpenClaim := { program := "ytmhlkbocejnpoaa", sum := "b15083b11e81db8cf75e270dfe83c24e67ed300b8eca0effd6d10cdc8851375f", func := "loop.example/g01010/laws.FnExactIsClause", spec := "fnExactIsClause", apart := false }
def FnExactIsClauseSaid : Prop := fnExactIsClauseRow.holds Try.pinned (OpenSpec.ofChange fnExactIsClauseSpec)

/-- ITS FALSE NEIGHBOUR: 'it returns false'. Refute it at one input. -/
def fnExactIsClauseWrong : ChangeSpec := { name := "fnExactIsClause", fn := fun _ => fun
  | [d] => { results := [.lit (.bool false)], args := [d] }
  | _ => none }
def FnExactIsClauseWrongFalsely : Prop := fnExactIsClauseRow.holds Try.pinned (OpenSpec.ofChange fnExactIsClauseWrong)

/-- 'laws.FnExactIsRulebook': WHATEVER THE INPUT: true; the input reads as it did. -/
def fnExactIsRulebookSpec : ChangeSpec := { name := "fnExactIsRulebook", fn := fun _ => fun
  | [d] => { results := [.lit (.bool true)], args := [d] }
  | _ => none }
def fnExactIsRulebookRow : OpenClaim := { program := "ytmhlkbocejnpoaa", sum := "b15083b11e81db8cf75e270dfe83c24e67ed300b8eca0effd6d10cdc8851375f", func := "loop.example/g01010/laws.FnExactIsRulebook", spec := "fnExactIsRulebook", unfollowed := true, recurses := true, apart := false }
def FnExactIsRulebookSaid : Prop := fnExactIsRulebookRow.holds Try.pinned (OpenSpec.ofChange fnExactIsRulebookSpec)

/-- ITS FALSE NEIGHBOUR: 'it returns false'. Refute it at one input. -/
def fnExactIsRulebookWrong : ChangeSpec := { name := "fnExactIsRulebook", fn := fun _ => fun
  | [d] => { results := [.lit (.bool false)], args := [d] }
  | _ => none }
def FnExactIsRulebookWrongFalsely : Prop := fnExactIsRulebookRow.holds Try.pinned (OpenSpec.ofChange fnExactIsRulebookWrong)

/-- 'laws.FnExactDoesMatch': WHATEVER THE INPUT: true; the input reads as it did. -/
def fnExactDoesMatchSpec : ChangeSpec := { name := "fnExactDoesMatch", fn := fun _ => fun
  | [d1, d2] => { results := [.lit (.bool true)], args := [d1, d2] }
  | _ => none }
def fnExactDoesMatchRow : OpenClaim := { program := "ytmhlkbocejnpoaa", sum := "b15083b11e81db8cf75e270dfe83c24e67ed300b8eca0effd6d10cdc8851375f", func := "loop.example/g01010/laws.FnExactDoesMatch", spec := "fnExactDoesMatch", unfollowed := true, recurses := true, apart := false }
def FnExactDoesMatchSaid : Prop := fnExactDoesMatchRow.holds Try.pinned (OpenSpec.ofChange fnExactDoesMatchSpec)

/-- ITS FALSE NEIGHBOUR: 'it returns false'. Refute it at one input. -/
def fnExactDoesMatchWrong : ChangeSpec := { name := "fnExactDoesMatch", fn := fun _ => fun
  | [d1, d2] => { results := [.lit (.bool false)], args := [d1, d2] }
  | _ => none }
def FnExactDoesMatchWrongFalsely : Prop := fnExactDoesMatchRow.holds Try.pinned (OpenSpec.ofChange fnExactDoesMatchWrong)

/-- 'laws.FnExactFindClause': WHATEVER THE INPUT: true; the input reads as it did. -/
def fnExactFindClauseSpec : ChangeSpec := { name := "fnExactFindClause", fn := fun _ => fun
  | [d1, d2] => { results := [.lit (.bool true)], args := [d1, d2] }
  | _ => none }
def fnExactFindClauseRow : OpenClaim := { program := "ytmhlkbocejnpoaa", sum := "b15083b11e81db8cf75e270dfe83c24e67ed300b8eca0effd6d10cdc8851375f", func := "loop.example/g01010/laws.FnExactFindClause", spec := "fnExactFindClause", unfollowed := true, recurses := true, apart := false }
def FnExactFindClauseSaid : Prop := fnExactFindClauseRow.holds Try.pinned (OpenSpec.ofChange fnExactFindClauseSpec)

/-- ITS FALSE NEIGHBOUR: 'it returns false'. Refute it at one input. -/
def fnExactFindClauseWrong : ChangeSpec := { name := "fnExactFindClause", fn := fun _ => fun
  | [d1, d2] => { results := [.lit (.bool false)], args := [d1, d2] }
  | _ => none }
def FnExactFindClauseWrongFalsely : Prop := fnExactFindClauseRow.holds Try.pinned (OpenSpec.ofChange fnExactFindClauseWrong)

/-- 'laws.FnExactFirstMatch': WHATEVER THE INPUT: true; the input reads as it did. -/
def fnExactFirstMatchSpec : ChangeSpec := { name := "fnExactFirstMatch", fn := fun _ => fun
  | [d1, d2, d3] => { results := [.lit (.bool true)], args := [d1, d2, d3] }
  | _ => none }
def fnExactFirstMatchRow : OpenClaim := { program := "ytmhlkbocejnpoaa", sum := "b15083b11e81db8cf75e270dfe83c24e67ed300b8eca0effd6d10cdc8851375f", func := "loop.example/g01010/laws.FnExactFirstMatch", spec := "fnExactFirstMatch", unfollowed := true, recurses := true, apart := false }
def FnExactFirstMatchSaid : Prop := fnExactFirstMatchRow.holds Try.pinned (OpenSpec.ofChange fnExactFirstMatchSpec)

/-- ITS FALSE NEIGHBOUR: 'it returns false'. Refute it at one input. -/
def fnExactFirstMatchWrong : ChangeSpec := { name := "fnExactFirstMatch", fn := fun _ => fun
  | [d1, d2, d3] => { results := [.lit (.bool false)], args := [d1, d2, d3] }
  | _ => none }
def FnExactFirstMatchWrongFalsely : Prop := fnExactFirstMatchRow.holds Try.pinned (OpenSpec.ofChange fnExactFirstMatchWrong)

/-- 'laws.FnExactIsReachable': WHATEVER THE INPUT: true; the input reads as it did. -/
def fnExactIsReachableSpec : ChangeSpec := { name := "fnExactIsReachable", fn := fun _ => fun
  | [d1, d2] => { results := [.lit (.bool true)], args := [d1, d2] }
  | _ => none }
def fnExactIsReachableRow : OpenClaim := { program := "ytmhlkbocejnpoaa", sum := "b15083b11e81db8cf75e270dfe83c24e67ed300b8eca0effd6d10cdc8851375f", func := "loop.example/g01010/laws.FnExactIsReachable", spec := "fnExactIsReachable", unfollowed := true, recurses := true, apart := false }
def FnExactIsReachableSaid : Prop := fnExactIsReachableRow.holds Try.pinned (OpenSpec.ofChange fnExactIsReachableSpec)

/-- ITS FALSE NEIGHBOUR: 'it returns false'. Refute it at one input. -/
def fnExactIsReachableWrong : ChangeSpec := { name := "fnExactIsReachable", fn := fun _ => fun
  | [d1, d2] => { results := [.lit (.bool false)], args := [d1, d2] }
  | _ => none }
def FnExactIsReachableWrongFalsely : Prop := fnExactIsReachableRow.holds Try.pinned (OpenSpec.ofChange fnExactIsReachableWrong)

/- THE SECOND FORM. 'bulk': how many values and letters a reading holds, each counted each time it is reached (what is shared counts as often as it is met; a slice's spare places count too). A statement '..UptoSaid' is the law's where the arguments, and the package variables that the reading takes, are together of bulk at most 1048576: NARROWER than '..Said'. Prove '..Said' where nothing that the law and all that it calls make is longer than what came in: it says more and counts as full. Else prove '..UptoSaid'. A law counts once. -/
mutual
def uptoBulk {H : Type} : DataW H → Nat
  | .lit (.string bytes) => bytes.length + 1
  | .lit _ => 1
  | .nil => 1
  | .ptr d => uptoBulk d + 1
  | .slice elems spare => uptoBulkAll elems + uptoBulkAll spare + 1
  | .agg parts => uptoBulkAll parts + 1
  | .iface _ d => uptoBulk d + 1
  | .map entries => uptoBulkEntries entries + 1
  | .held _ => 1
def uptoBulkAll {H : Type} : List (DataW H) → Nat
  | [] => 0
  | d :: r => uptoBulk d + uptoBulkAll r
def uptoBulkEntries {H : Type} : List (Lit × DataW H) → Nat
  | [] => 0
  | x :: r => uptoBulkEntry x + uptoBulkEntries r
def uptoBulkEntry {H : Type} : Lit × DataW H → Nat
  | (.string bytes, d) => bytes.length + uptoBulk d + 1
  | (_, d) => uptoBulk d + 1
 end
def uptoSmall : (H : Type) → List (DataW H) → Bool := fun _ ds => decide (uptoBulkAll ds ≤ 1048576)
def OpenSpec.upto (s : _root_.Go.ChangeSpec) : _root_.Go.OpenSpec := { _root_.Go.OpenSpec.ofChange s with cond := some uptoSmall }

/-- 'laws.FnExactIsClause', WHERE WHAT IT READS IS OF BULK AT MOST 1048576: true; the input reads as it did. -/
def fnExactIsClauseUptoRow : OpenClaim := { program := "ytmhlkbocejnpoaa", sum := "b15083b11e81db8cf75e270dfe83c24e67ed300b8eca0effd6d10cdc8851375f", func := "loop.example/g01010/laws.FnExactIsClause", spec := "fnExactIsClause", apart := false, narrowed := true }
def FnExactIsClauseUptoSaid : Prop := fnExactIsClauseUptoRow.holds Try.pinned (OpenSpec.upto fnExactIsClauseSpec)

/-- 'laws.FnExactIsRulebook', WHERE WHAT IT READS IS OF BULK AT MOST 1048576: true; the input reads as it did. -/
def fnExactIsRulebookUptoRow : OpenClaim := { program := "ytmhlkbocejnpoaa", sum := "b15083b11e81db8cf75e270dfe83c24e67ed300b8eca0effd6d10cdc8851375f", func := "loop.example/g01010/laws.FnExactIsRulebook", spec := "fnExactIsRulebook", unfollowed := true, recurses := true, apart := false, narrowed := true }
def FnExactIsRulebookUptoSaid : Prop := fnExactIsRulebookUptoRow.holds Try.pinned (OpenSpec.upto fnExactIsRulebookSpec)

/-- 'laws.FnExactDoesMatch', WHERE WHAT IT READS IS OF BULK AT MOST 1048576: true; the input reads as it did. -/
def fnExactDoesMatchUptoRow : OpenClaim := { program := "ytmhlkbocejnpoaa", sum := "b15083b11e81db8cf75e270dfe83c24e67ed300b8eca0effd6d10cdc8851375f", func := "loop.example/g01010/laws.FnExactDoesMatch", spec := "fnExactDoesMatch", unfollowed := true, recurses := true, apart := false, narrowed := true }
def FnExactDoesMatchUptoSaid : Prop := fnExactDoesMatchUptoRow.holds Try.pinned (OpenSpec.upto fnExactDoesMatchSpec)

/-- 'laws.FnExactFindClause', WHERE WHAT IT READS IS OF BULK AT MOST 1048576: true; the input reads as it did. -/
def fnExactFindClauseUptoRow : OpenClaim := { program := "ytmhlkbocejnpoaa", sum := "b15083b11e81db8cf75e270dfe83c24e67ed300b8eca0effd6d10cdc8851375f", func := "loop.example/g01010/laws.FnExactFindClause", spec := "fnExactFindClause", unfollowed := true, recurses := true, apart := false, narrowed := true }
def FnExactFindClauseUptoSaid : Prop := fnExactFindClauseUptoRow.holds Try.pinned (OpenSpec.upto fnExactFindClauseSpec)

/-- 'laws.FnExactFirstMatch', WHERE WHAT IT READS IS OF BULK AT MOST 1048576: true; the input reads as it did. -/
def fnExactFirstMatchUptoRow : OpenClaim := { program := "ytmhlkbocejnpoaa", sum := "b15083b11e81db8cf75e270dfe83c24e67ed300b8eca0effd6d10cdc8851375f", func := "loop.example/g01010/laws.FnExactFirstMatch", spec := "fnExactFirstMatch", unfollowed := true, recurses := true, apart := false, narrowed := true }
def FnExactFirstMatchUptoSaid : Prop := fnExactFirstMatchUptoRow.holds Try.pinned (OpenSpec.upto fnExactFirstMatchSpec)

/-- 'laws.FnExactIsReachable', WHERE WHAT IT READS IS OF BULK AT MOST 1048576: true; the input reads as it did. -/
def fnExactIsReachableUptoRow : OpenClaim := { program := "ytmhlkbocejnpoaa", sum := "b15083b11e81db8cf75e270dfe83c24e67ed300b8eca0effd6d10cdc8851375f", func := "loop.example/g01010/laws.FnExactIsReachable", spec := "fnExactIsReachable", unfollowed := true, recurses := true, apart := false, narrowed := true }
def FnExactIsReachableUptoSaid : Prop := fnExactIsReachableUptoRow.holds Try.pinned (OpenSpec.upto fnExactIsReachableSpec)

end Rows
end Go.Proofs.Ytmhlkbocejnpoaa
