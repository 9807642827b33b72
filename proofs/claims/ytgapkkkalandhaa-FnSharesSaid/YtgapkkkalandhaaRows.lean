/-
  No cell of these rows narrows 'for every input' (looked for: loops, veiled, ifaces, maps, wideKeys, modest, calm, conditions, laid).
  DERIVED. THE GIVEN ROWS OF THIS SEAT. 8 by the template 'for every input the law returns true; each argument reads behind the call as it read before'; 0 by the template 'total and deterministic' (their statements: YtgapkkkalandhaaTotals.lean).
  GIVEN WITH THE SEED: the statements are not yours to turn. If you find one false, say at which input.
  Laid BY PROGRAM, IN A SANDBOX (cutbox-rows.mjs): the forced cells as the released guide's own fill.sh prints them over the translation a6b2513227e08de7… (all of the seat's roots in one cut). By AI agents, Wed Nov 11 2026. No macro, syntax, notation, axiom, sorry.
-/
import Derived.Test.YtgapkkkalandhaaChecked
import GoSem.Claim
import GoSem.ClaimJoined
import GoSem.ClaimMapViews
import Derived.JoinedTies
import Derived.KernelRfl
namespace Go.Proofs.Ytgapkkkalandhaa
/- THE CELL 'sum', in the pinned program and in every row, IS THE sha256 OF THE DUMP (.gsa) THAT YtgapkkkalandhaaProg.lean LOADS. Nothing in Lean hashes anything: it is a label: what it is worth is what the hold of that sum in a sandbox is worth. -/
noncomputable def Try.pinned : Pinned := { name := "ytgapkkkalandhaa", sum := "a6b2513227e08de7bdfd533345af0a36da9b4fdd0c8a834f6905ed6647a4adfb", checked := Try.checked }
namespace Rows
def none {H : Type} : Left H := { results := [], args := [] }

/-- 'laws.FnShares': WHATEVER THE INPUT: true; the input reads as it did. -/
def fnSharesSpec : ChangeSpec := { name := "fnShares", fn := fun _ => fun
  | [d] => { results := [.lit (.bool true)], args := [d] }
  | _ => none }
def fnSharesRow : OpenClaim := { program := "ytgapkkkalandhaa", sum := "a6b2513227e08de7bdfd533345af0a36da9b4fdd0c8a834f6905ed6647a4adfb", func := "loop.example/g01010/laws.FnShares", spec := "fnShares", unfollowed := true, recurses := true, apart := false }
def FnSharesSaid : Prop := fnSharesRow.holds Try.pinned (OpenSpec.ofChange fnSharesSpec)

/-- ITS FALSE NEIGHBOUR: 'it returns false'. Refute it at one input. -/
def fnSharesWrong : ChangeSpec := { name := "fnShares", fn := fun _ => fun
  | [d] => { results := [.lit (.bool false)], args := [d] }
  | _ => none }
def FnSharesWrongFalsely : Prop := fnSharesRow.holds Try.pinned (OpenSpec.ofChange fnSharesWrong)

/-- 'laws.FnProportions': WHATEVER THE INPUT: true; the input reads as it did. -/
def fnProportionsSpec : ChangeSpec := { name := "fnProportions", fn := fun _ => fun
  | [d] => { results := [.lit (.bool true)], args := [d] }
  | _ => none }
def fnProportionsRow : OpenClaim := { program := "ytgapkkkalandhaa", sum := "a6b2513227e08de7bdfd533345af0a36da9b4fdd0c8a834f6905ed6647a4adfb", func := "loop.example/g01010/laws.FnProportions", spec := "fnProportions", apart := false }
def FnProportionsSaid : Prop := fnProportionsRow.holds Try.pinned (OpenSpec.ofChange fnProportionsSpec)

/-- ITS FALSE NEIGHBOUR: 'it returns false'. Refute it at one input. -/
def fnProportionsWrong : ChangeSpec := { name := "fnProportions", fn := fun _ => fun
  | [d] => { results := [.lit (.bool false)], args := [d] }
  | _ => none }
def FnProportionsWrongFalsely : Prop := fnProportionsRow.holds Try.pinned (OpenSpec.ofChange fnProportionsWrong)

/-- 'laws.FnExactIsAmount': WHATEVER THE INPUT: true; the input reads as it did. -/
def fnExactIsAmountSpec : ChangeSpec := { name := "fnExactIsAmount", fn := fun _ => fun
  | [d] => { results := [.lit (.bool true)], args := [d] }
  | _ => none }
def fnExactIsAmountRow : OpenClaim := { program := "ytgapkkkalandhaa", sum := "a6b2513227e08de7bdfd533345af0a36da9b4fdd0c8a834f6905ed6647a4adfb", func := "loop.example/g01010/laws.FnExactIsAmount", spec := "fnExactIsAmount", apart := false }
def FnExactIsAmountSaid : Prop := fnExactIsAmountRow.holds Try.pinned (OpenSpec.ofChange fnExactIsAmountSpec)

/-- ITS FALSE NEIGHBOUR: 'it returns false'. Refute it at one input. -/
def fnExactIsAmountWrong : ChangeSpec := { name := "fnExactIsAmount", fn := fun _ => fun
  | [d] => { results := [.lit (.bool false)], args := [d] }
  | _ => none }
def FnExactIsAmountWrongFalsely : Prop := fnExactIsAmountRow.holds Try.pinned (OpenSpec.ofChange fnExactIsAmountWrong)

/-- 'laws.FnExactShareOut': WHATEVER THE INPUT: true; the input reads as it did. -/
def fnExactShareOutSpec : ChangeSpec := { name := "fnExactShareOut", fn := fun _ => fun
  | [d1, d2] => { results := [.lit (.bool true)], args := [d1, d2] }
  | _ => none }
def fnExactShareOutRow : OpenClaim := { program := "ytgapkkkalandhaa", sum := "a6b2513227e08de7bdfd533345af0a36da9b4fdd0c8a834f6905ed6647a4adfb", func := "loop.example/g01010/laws.FnExactShareOut", spec := "fnExactShareOut", unfollowed := true, recurses := true, apart := false }
def FnExactShareOutSaid : Prop := fnExactShareOutRow.holds Try.pinned (OpenSpec.ofChange fnExactShareOutSpec)

/-- ITS FALSE NEIGHBOUR: 'it returns false'. Refute it at one input. -/
def fnExactShareOutWrong : ChangeSpec := { name := "fnExactShareOut", fn := fun _ => fun
  | [d1, d2] => { results := [.lit (.bool false)], args := [d1, d2] }
  | _ => none }
def FnExactShareOutWrongFalsely : Prop := fnExactShareOutRow.holds Try.pinned (OpenSpec.ofChange fnExactShareOutWrong)

/-- 'laws.FnExactIsFairShare': WHATEVER THE INPUT: true; the input reads as it did. -/
def fnExactIsFairShareSpec : ChangeSpec := { name := "fnExactIsFairShare", fn := fun _ => fun
  | [d1, d2, d3] => { results := [.lit (.bool true)], args := [d1, d2, d3] }
  | _ => none }
def fnExactIsFairShareRow : OpenClaim := { program := "ytgapkkkalandhaa", sum := "a6b2513227e08de7bdfd533345af0a36da9b4fdd0c8a834f6905ed6647a4adfb", func := "loop.example/g01010/laws.FnExactIsFairShare", spec := "fnExactIsFairShare", apart := false }
def FnExactIsFairShareSaid : Prop := fnExactIsFairShareRow.holds Try.pinned (OpenSpec.ofChange fnExactIsFairShareSpec)

/-- ITS FALSE NEIGHBOUR: 'it returns false'. Refute it at one input. -/
def fnExactIsFairShareWrong : ChangeSpec := { name := "fnExactIsFairShare", fn := fun _ => fun
  | [d1, d2, d3] => { results := [.lit (.bool false)], args := [d1, d2, d3] }
  | _ => none }
def FnExactIsFairShareWrongFalsely : Prop := fnExactIsFairShareRow.holds Try.pinned (OpenSpec.ofChange fnExactIsFairShareWrong)

/-- 'laws.FnExactProportionOf': WHATEVER THE INPUT: true; the input reads as it did. -/
def fnExactProportionOfSpec : ChangeSpec := { name := "fnExactProportionOf", fn := fun _ => fun
  | [d1, d2, d3] => { results := [.lit (.bool true)], args := [d1, d2, d3] }
  | _ => none }
def fnExactProportionOfRow : OpenClaim := { program := "ytgapkkkalandhaa", sum := "a6b2513227e08de7bdfd533345af0a36da9b4fdd0c8a834f6905ed6647a4adfb", func := "loop.example/g01010/laws.FnExactProportionOf", spec := "fnExactProportionOf", apart := false }
def FnExactProportionOfSaid : Prop := fnExactProportionOfRow.holds Try.pinned (OpenSpec.ofChange fnExactProportionOfSpec)

/-- ITS FALSE NEIGHBOUR: 'it returns false'. Refute it at one input. -/
def fnExactProportionOfWrong : ChangeSpec := { name := "fnExactProportionOf", fn := fun _ => fun
  | [d1, d2, d3] => { results := [.lit (.bool false)], args := [d1, d2, d3] }
  | _ => none }
def FnExactProportionOfWrongFalsely : Prop := fnExactProportionOfRow.holds Try.pinned (OpenSpec.ofChange fnExactProportionOfWrong)

/-- 'laws.FnExactSumAmounts': WHATEVER THE INPUT: true; the input reads as it did. -/
def fnExactSumAmountsSpec : ChangeSpec := { name := "fnExactSumAmounts", fn := fun _ => fun
  | [d] => { results := [.lit (.bool true)], args := [d] }
  | _ => none }
def fnExactSumAmountsRow : OpenClaim := { program := "ytgapkkkalandhaa", sum := "a6b2513227e08de7bdfd533345af0a36da9b4fdd0c8a834f6905ed6647a4adfb", func := "loop.example/g01010/laws.FnExactSumAmounts", spec := "fnExactSumAmounts", apart := false }
def FnExactSumAmountsSaid : Prop := fnExactSumAmountsRow.holds Try.pinned (OpenSpec.ofChange fnExactSumAmountsSpec)

/-- ITS FALSE NEIGHBOUR: 'it returns false'. Refute it at one input. -/
def fnExactSumAmountsWrong : ChangeSpec := { name := "fnExactSumAmounts", fn := fun _ => fun
  | [d] => { results := [.lit (.bool false)], args := [d] }
  | _ => none }
def FnExactSumAmountsWrongFalsely : Prop := fnExactSumAmountsRow.holds Try.pinned (OpenSpec.ofChange fnExactSumAmountsWrong)

/-- 'laws.FnExactTakeDown': WHATEVER THE INPUT: true; the input reads as it did. -/
def fnExactTakeDownSpec : ChangeSpec := { name := "fnExactTakeDown", fn := fun _ => fun
  | [d1, d2] => { results := [.lit (.bool true)], args := [d1, d2] }
  | _ => none }
def fnExactTakeDownRow : OpenClaim := { program := "ytgapkkkalandhaa", sum := "a6b2513227e08de7bdfd533345af0a36da9b4fdd0c8a834f6905ed6647a4adfb", func := "loop.example/g01010/laws.FnExactTakeDown", spec := "fnExactTakeDown", apart := false }
def FnExactTakeDownSaid : Prop := fnExactTakeDownRow.holds Try.pinned (OpenSpec.ofChange fnExactTakeDownSpec)

/-- ITS FALSE NEIGHBOUR: 'it returns false'. Refute it at one input. -/
def fnExactTakeDownWrong : ChangeSpec := { name := "fnExactTakeDown", fn := fun _ => fun
  | [d1, d2] => { results := [.lit (.bool false)], args := [d1, d2] }
  | _ => none }
def FnExactTakeDownWrongFalsely : Prop := fnExactTakeDownRow.holds Try.pinned (OpenSpec.ofChange fnExactTakeDownWrong)

/- THE SECOND FORM. 'bulk': how many values and letters a reading holds, each counted each time it is reached (what is shared counts as often as it is met; a slice's spare places count too). A statement '..UptoSaid' is the law's where the arguments, and the package variables that the reading takes, are together of bulk at most 1048576: NARROWER than '..Said'. Prove '..Said' where nothing that the law and all that it calls make is longer than what came in: it says more and counts as full. Else prove '..UptoSaid'. A law counts once. -/
mutual
def uptoBulk {H : Type} : DataW H → Nat
  | .lit (.string bytes) => bytes.length + 1
  | .lit _ => 1
  | .nil => 1
  | .ptr d => uptoBulk d + 1
  | .slice elems spare => uptoBulkAll elems + uptoBulkAll spare + 1
  | .agg parts => uptoBulkAll parts + 1
  | .iface _ d => uptoBulk d + 1
  | .map entries => uptoBulkEntries entries + 1
  | .held _ => 1
def uptoBulkAll {H : Type} : List (DataW H) → Nat
  | [] => 0
  | d :: r => uptoBulk d + uptoBulkAll r
def uptoBulkEntries {H : Type} : List (Lit × DataW H) → Nat
  | [] => 0
  | x :: r => uptoBulkEntry x + uptoBulkEntries r
def uptoBulkEntry {H : Type} : Lit × DataW H → Nat
  | (.string bytes, d) => bytes.length + uptoBulk d + 1
  | (_, d) => uptoBulk d + 1
 end
def uptoSmall : (H : Type) → List (DataW H) → Bool := fun _ ds => decide (uptoBulkAll ds ≤ 1048576)
def OpenSpec.upto (s : _root_.Go.ChangeSpec) : _root_.Go.OpenSpec := { _root_.Go.OpenSpec.ofChange s with cond := some uptoSmall }

/-- 'laws.FnShares', WHERE WHAT IT READS IS OF BULK AT MOST 1048576: true; the input reads as it did. -/
def fnSharesUptoRow : OpenClaim := { program := "ytgapkkkalandhaa", sum := "a6b2513227e08de7bdfd533345af0a36da9b4fdd0c8a834f6905ed6647a4adfb", func := "loop.example/g01010/laws.FnShares", spec := "fnShares", unfollowed := true, recurses := true, apart := false, narrowed := true }
def FnSharesUptoSaid : Prop := fnSharesUptoRow.holds Try.pinned (OpenSpec.upto fnSharesSpec)

/-- 'laws.FnProportions', WHERE WHAT IT READS IS OF BULK AT MOST 1048576: true; the input reads as it did. -/
def fnProportionsUptoRow : OpenClaim := { program := "ytgapkkkalandhaa", sum := "a6b2513227e08de7bdfd533345af0a36da9b4fdd0c8a834f6905ed6647a4adfb", func := "loop.example/g01010/laws.FnProportions", spec := "fnProportions", apart := false, narrowed := true }
def FnProportionsUptoSaid : Prop := fnProportionsUptoRow.holds Try.pinned (OpenSpec.upto fnProportionsSpec)

/-- 'laws.FnExactIsAmount', WHERE WHAT IT READS IS OF BULK AT MOST 1048576: true; the input reads as it did. -/
def fnExactIsAmountUptoRow : OpenClaim := { program := "ytgapkkkalandhaa", sum := "a6b2513227e08de7bdfd533345af0a36da9b4fdd0c8a834f6905ed6647a4adfb", func := "loop.example/g01010/laws.FnExactIsAmount", spec := "fnExactIsAmount", apart := false, narrowed := true }
def FnExactIsAmountUptoSaid : Prop := fnExactIsAmountUptoRow.holds Try.pinned (OpenSpec.upto fnExactIsAmountSpec)

/-- 'laws.FnExactShareOut', WHERE WHAT IT READS IS OF BULK AT MOST 1048576: true; the input reads as it did. -/
def fnExactShareOutUptoRow : OpenClaim := { program := "ytgapkkkalandhaa", sum := "a6b2513227e08de7bdfd533345af0a36da9b4fdd0c8a834f6905ed6647a4adfb", func := "loop.example/g01010/laws.FnExactShareOut", spec := "fnExactShareOut", unfollowed := true, recurses := true, apart := false, narrowed := true }
def FnExactShareOutUptoSaid : Prop := fnExactShareOutUptoRow.holds Try.pinned (OpenSpec.upto fnExactShareOutSpec)

/-- 'laws.FnExactIsFairShare', WHERE WHAT IT READS IS OF BULK AT MOST 1048576: true; the input reads as it did. -/
def fnExactIsFairShareUptoRow : OpenClaim := { program := "ytgapkkkalandhaa", sum := "a6b2513227e08de7bdfd533345af0a36da9b4fdd0c8a834f6905ed6647a4adfb", func := "loop.example/g01010/laws.FnExactIsFairShare", spec := "fnExactIsFairShare", apart := false, narrowed := true }
def FnExactIsFairShareUptoSaid : Prop := fnExactIsFairShareUptoRow.holds Try.pinned (OpenSpec.upto fnExactIsFairShareSpec)

/-- 'laws.FnExactProportionOf', WHERE WHAT IT READS IS OF BULK AT MOST 1048576: true; the input reads as it did. -/
def fnExactProportionOfUptoRow : OpenClaim := { program := "ytgapkkkalandhaa", sum := "a6b2513227e08de7bdfd533345af0a36da9b4fdd0c8a834f6905ed6647a4adfb", func := "loop.example/g01010/laws.FnExactProportionOf", spec := "fnExactProportionOf", apart := false, narrowed := true }
def FnExactProportionOfUptoSaid : Prop := fnExactProportionOfUptoRow.holds Try.pinned (OpenSpec.upto fnExactProportionOfSpec)

/-- 'laws.FnExactSumAmounts', WHERE WHAT IT READS IS OF BULK AT MOST 1048576: true; the input reads as it did. -/
def fnExactSumAmountsUptoRow : OpenClaim := { program := "ytgapkkkalandhaa", sum := "a6b2513227e08de7bdfd533345af0a36da9b4fdd0c8a834f6905ed6647a4adfb", func := "loop.example/g01010/laws.FnExactSumAmounts", spec := "fnExactSumAmounts", apart := false, narrowed := true }
def FnExactSumAmountsUptoSaid : Prop := fnExactSumAmountsUptoRow.holds Try.pinned (OpenSpec.upto fnExactSumAmountsSpec)

/-- 'laws.FnExactTakeDown', WHERE WHAT IT READS IS OF BULK AT MOST 1048576: true; the input reads as it did. -/
def fnExactTakeDownUptoRow : OpenClaim := { program := "ytgapkkkalandhaa", sum := "a6b2513227e08de7bdfd533345af0a36da9b4fdd0c8a834f6905ed6647a4adfb", func := "loop.example/g01010/laws.FnExactTakeDown", spec := "fnExactTakeDown", apart := false, narrowed := true }
def FnExactTakeDownUptoSaid : Prop := fnExactTakeDownUptoRow.holds Try.pinned (OpenSpec.upto fnExactTakeDownSpec)

end Rows
end Go.Proofs.Ytgapkkkalandhaa
