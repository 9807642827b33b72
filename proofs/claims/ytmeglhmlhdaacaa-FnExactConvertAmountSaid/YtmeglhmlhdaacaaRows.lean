/-
  No cell of these rows narrows 'for every input' (looked for: loops, veiled, ifaces, maps, wideKeys, modest, calm, conditions, laid).
  DERIVED. THE GIVEN ROWS OF THIS SEAT. 12 by the template 'for every input the law returns true; each argument reads behind the call as it read before'; 0 by the template 'total and deterministic' (their statements: YtmeglhmlhdaacaaTotals.lean).
  GIVEN WITH THE SEED: the statements are not yours to turn. If you find one false, say at which input.
  Laid BY PROGRAM, IN A SANDBOX (cutbox-rows.mjs): the forced cells as the released guide's own fill.sh prints them over the translation a4e9c283fca2c3d7… (all of the seat's roots in one cut). By AI agents, Wed Nov 11 2026. No macro, syntax, notation, axiom, sorry.
-/
import Derived.Test.YtmeglhmlhdaacaaChecked
import GoSem.Claim
import GoSem.ClaimJoined
import GoSem.ClaimMapViews
import Derived.JoinedTies
import Derived.KernelRfl
namespace Go.Proofs.Ytmeglhmlhdaacaa
/- THE CELL 'sum', in the pinned program and in every row, IS THE sha256 OF THE DUMP (.gsa) THAT YtmeglhmlhdaacaaProg.lean LOADS. Nothing in Lean hashes anything: it is a label: what it is worth is what the hold of that sum in a sandbox is worth. -/
noncomputable def Try.pinned : Pinned := { name := "ytmeglhmlhdaacaa", sum := "a4e9c283fca2c3d7226a04351e768b55bea266a7916c7ac4843c0b846719e9c9", checked := Try.checked }
namespace Rows
def none {H : Type} : Left H := { results := [], args := [] }

/-- 'laws.FnProportions': WHATEVER THE INPUT: true; the input reads as it did. -/
def fnProportionsSpec : ChangeSpec := { name := "fnProportions", fn := fun _ => fun
  | [d] => { results := [.lit (.bool true)], args := [d] }
  | _ => none }
def fnProportionsRow : OpenClaim := { program := "ytmeglhmlhdaacaa", sum := "a4e9c283fca2c3d7226a04351e768b55bea266a7916c7ac4843c0b846719e9c9", func := "loop.example/g01010/laws.FnProportions", spec := "fnProportions", inPlace := ["math/bits.Add64"], named := ["math/bits.divideError", "math/bits.overflowError"], plainKeys := false, apart := false }
def FnProportionsSaid : Prop := fnProportionsRow.holds Try.pinned (OpenSpec.ofChange fnProportionsSpec)

/-- ITS FALSE NEIGHBOUR: 'it returns false'. Refute it at one input. -/
def fnProportionsWrong : ChangeSpec := { name := "fnProportions", fn := fun _ => fun
  | [d] => { results := [.lit (.bool false)], args := [d] }
  | _ => none }
def FnProportionsWrongFalsely : Prop := fnProportionsRow.holds Try.pinned (OpenSpec.ofChange fnProportionsWrong)

/-- 'laws.FnConverted': WHATEVER THE INPUT: true; the input reads as it did. -/
def fnConvertedSpec : ChangeSpec := { name := "fnConverted", fn := fun _ => fun
  | [d] => { results := [.lit (.bool true)], args := [d] }
  | _ => none }
def fnConvertedRow : OpenClaim := { program := "ytmeglhmlhdaacaa", sum := "a4e9c283fca2c3d7226a04351e768b55bea266a7916c7ac4843c0b846719e9c9", func := "loop.example/g01010/laws.FnConverted", spec := "fnConverted", inPlace := ["math/bits.Add64"], unfollowed := true, recurses := true, named := ["math/bits.divideError", "math/bits.overflowError"], plainKeys := false, apart := false }
def FnConvertedSaid : Prop := fnConvertedRow.holds Try.pinned (OpenSpec.ofChange fnConvertedSpec)

/-- ITS FALSE NEIGHBOUR: 'it returns false'. Refute it at one input. -/
def fnConvertedWrong : ChangeSpec := { name := "fnConverted", fn := fun _ => fun
  | [d] => { results := [.lit (.bool false)], args := [d] }
  | _ => none }
def FnConvertedWrongFalsely : Prop := fnConvertedRow.holds Try.pinned (OpenSpec.ofChange fnConvertedWrong)

/-- 'laws.FnTables': WHATEVER THE INPUT: true; the input reads as it did. -/
def fnTablesSpec : ChangeSpec := { name := "fnTables", fn := fun _ => fun
  | [d] => { results := [.lit (.bool true)], args := [d] }
  | _ => none }
def fnTablesRow : OpenClaim := { program := "ytmeglhmlhdaacaa", sum := "a4e9c283fca2c3d7226a04351e768b55bea266a7916c7ac4843c0b846719e9c9", func := "loop.example/g01010/laws.FnTables", spec := "fnTables", plainKeys := false, apart := false }
def FnTablesSaid : Prop := fnTablesRow.holds Try.pinned (OpenSpec.ofChange fnTablesSpec)

/-- ITS FALSE NEIGHBOUR: 'it returns false'. Refute it at one input. -/
def fnTablesWrong : ChangeSpec := { name := "fnTables", fn := fun _ => fun
  | [d] => { results := [.lit (.bool false)], args := [d] }
  | _ => none }
def FnTablesWrongFalsely : Prop := fnTablesRow.holds Try.pinned (OpenSpec.ofChange fnTablesWrong)

/-- 'laws.FnExactProportionOf': WHATEVER THE INPUT: true; the input reads as it did. -/
def fnExactProportionOfSpec : ChangeSpec := { name := "fnExactProportionOf", fn := fun _ => fun
  | [d1, d2, d3] => { results := [.lit (.bool true)], args := [d1, d2, d3] }
  | _ => none }
def fnExactProportionOfRow : OpenClaim := { program := "ytmeglhmlhdaacaa", sum := "a4e9c283fca2c3d7226a04351e768b55bea266a7916c7ac4843c0b846719e9c9", func := "loop.example/g01010/laws.FnExactProportionOf", spec := "fnExactProportionOf", inPlace := ["math/bits.Add64"], named := ["math/bits.divideError", "math/bits.overflowError"], plainKeys := false, apart := false }
def FnExactProportionOfSaid : Prop := fnExactProportionOfRow.holds Try.pinned (OpenSpec.ofChange fnExactProportionOfSpec)

/-- ITS FALSE NEIGHBOUR: 'it returns false'. Refute it at one input. -/
def fnExactProportionOfWrong : ChangeSpec := { name := "fnExactProportionOf", fn := fun _ => fun
  | [d1, d2, d3] => { results := [.lit (.bool false)], args := [d1, d2, d3] }
  | _ => none }
def FnExactProportionOfWrongFalsely : Prop := fnExactProportionOfRow.holds Try.pinned (OpenSpec.ofChange fnExactProportionOfWrong)

/-- 'laws.FnExactIsCode': WHATEVER THE INPUT: true; the input reads as it did. -/
def fnExactIsCodeSpec : ChangeSpec := { name := "fnExactIsCode", fn := fun _ => fun
  | [d] => { results := [.lit (.bool true)], args := [d] }
  | _ => none }
def fnExactIsCodeRow : OpenClaim := { program := "ytmeglhmlhdaacaa", sum := "a4e9c283fca2c3d7226a04351e768b55bea266a7916c7ac4843c0b846719e9c9", func := "loop.example/g01010/laws.FnExactIsCode", spec := "fnExactIsCode", plainKeys := false, apart := false }
def FnExactIsCodeSaid : Prop := fnExactIsCodeRow.holds Try.pinned (OpenSpec.ofChange fnExactIsCodeSpec)

/-- ITS FALSE NEIGHBOUR: 'it returns false'. Refute it at one input. -/
def fnExactIsCodeWrong : ChangeSpec := { name := "fnExactIsCode", fn := fun _ => fun
  | [d] => { results := [.lit (.bool false)], args := [d] }
  | _ => none }
def FnExactIsCodeWrongFalsely : Prop := fnExactIsCodeRow.holds Try.pinned (OpenSpec.ofChange fnExactIsCodeWrong)

/-- 'laws.FnExactIsTable': WHATEVER THE INPUT: true; the input reads as it did. -/
def fnExactIsTableSpec : ChangeSpec := { name := "fnExactIsTable", fn := fun _ => fun
  | [d] => { results := [.lit (.bool true)], args := [d] }
  | _ => none }
def fnExactIsTableRow : OpenClaim := { program := "ytmeglhmlhdaacaa", sum := "a4e9c283fca2c3d7226a04351e768b55bea266a7916c7ac4843c0b846719e9c9", func := "loop.example/g01010/laws.FnExactIsTable", spec := "fnExactIsTable", plainKeys := false, apart := false }
def FnExactIsTableSaid : Prop := fnExactIsTableRow.holds Try.pinned (OpenSpec.ofChange fnExactIsTableSpec)

/-- ITS FALSE NEIGHBOUR: 'it returns false'. Refute it at one input. -/
def fnExactIsTableWrong : ChangeSpec := { name := "fnExactIsTable", fn := fun _ => fun
  | [d] => { results := [.lit (.bool false)], args := [d] }
  | _ => none }
def FnExactIsTableWrongFalsely : Prop := fnExactIsTableRow.holds Try.pinned (OpenSpec.ofChange fnExactIsTableWrong)

/-- 'laws.FnExactRateOn': WHATEVER THE INPUT: true; the input reads as it did. -/
def fnExactRateOnSpec : ChangeSpec := { name := "fnExactRateOn", fn := fun _ => fun
  | [d1, d2, d3] => { results := [.lit (.bool true)], args := [d1, d2, d3] }
  | _ => none }
def fnExactRateOnRow : OpenClaim := { program := "ytmeglhmlhdaacaa", sum := "a4e9c283fca2c3d7226a04351e768b55bea266a7916c7ac4843c0b846719e9c9", func := "loop.example/g01010/laws.FnExactRateOn", spec := "fnExactRateOn", plainKeys := false, apart := false }
def FnExactRateOnSaid : Prop := fnExactRateOnRow.holds Try.pinned (OpenSpec.ofChange fnExactRateOnSpec)

/-- ITS FALSE NEIGHBOUR: 'it returns false'. Refute it at one input. -/
def fnExactRateOnWrong : ChangeSpec := { name := "fnExactRateOn", fn := fun _ => fun
  | [d1, d2, d3] => { results := [.lit (.bool false)], args := [d1, d2, d3] }
  | _ => none }
def FnExactRateOnWrongFalsely : Prop := fnExactRateOnRow.holds Try.pinned (OpenSpec.ofChange fnExactRateOnWrong)

/-- 'laws.FnExactConvertAmount': WHATEVER THE INPUT: true; the input reads as it did. -/
def fnExactConvertAmountSpec : ChangeSpec := { name := "fnExactConvertAmount", fn := fun _ => fun
  | [d1, d2, d3, d4, d5] => { results := [.lit (.bool true)], args := [d1, d2, d3, d4, d5] }
  | _ => none }
def fnExactConvertAmountRow : OpenClaim := { program := "ytmeglhmlhdaacaa", sum := "a4e9c283fca2c3d7226a04351e768b55bea266a7916c7ac4843c0b846719e9c9", func := "loop.example/g01010/laws.FnExactConvertAmount", spec := "fnExactConvertAmount", inPlace := ["math/bits.Add64"], named := ["math/bits.divideError", "math/bits.overflowError"], plainKeys := false, apart := false }
def FnExactConvertAmountSaid : Prop := fnExactConvertAmountRow.holds Try.pinned (OpenSpec.ofChange fnExactConvertAmountSpec)

/-- ITS FALSE NEIGHBOUR: 'it returns false'. Refute it at one input. -/
def fnExactConvertAmountWrong : ChangeSpec := { name := "fnExactConvertAmount", fn := fun _ => fun
  | [d1, d2, d3, d4, d5] => { results := [.lit (.bool false)], args := [d1, d2, d3, d4, d5] }
  | _ => none }
def FnExactConvertAmountWrongFalsely : Prop := fnExactConvertAmountRow.holds Try.pinned (OpenSpec.ofChange fnExactConvertAmountWrong)

/-- 'laws.FnExactAddRate': WHATEVER THE INPUT: true; the input reads as it did. -/
def fnExactAddRateSpec : ChangeSpec := { name := "fnExactAddRate", fn := fun _ => fun
  | [d1, d2] => { results := [.lit (.bool true)], args := [d1, d2] }
  | _ => none }
def fnExactAddRateRow : OpenClaim := { program := "ytmeglhmlhdaacaa", sum := "a4e9c283fca2c3d7226a04351e768b55bea266a7916c7ac4843c0b846719e9c9", func := "loop.example/g01010/laws.FnExactAddRate", spec := "fnExactAddRate", unfollowed := true, recurses := true, plainKeys := false, apart := false }
def FnExactAddRateSaid : Prop := fnExactAddRateRow.holds Try.pinned (OpenSpec.ofChange fnExactAddRateSpec)

/-- ITS FALSE NEIGHBOUR: 'it returns false'. Refute it at one input. -/
def fnExactAddRateWrong : ChangeSpec := { name := "fnExactAddRate", fn := fun _ => fun
  | [d1, d2] => { results := [.lit (.bool false)], args := [d1, d2] }
  | _ => none }
def FnExactAddRateWrongFalsely : Prop := fnExactAddRateRow.holds Try.pinned (OpenSpec.ofChange fnExactAddRateWrong)

/-- 'laws.FnExactCurrenciesOf': WHATEVER THE INPUT: true; the input reads as it did. -/
def fnExactCurrenciesOfSpec : ChangeSpec := { name := "fnExactCurrenciesOf", fn := fun _ => fun
  | [d] => { results := [.lit (.bool true)], args := [d] }
  | _ => none }
def fnExactCurrenciesOfRow : OpenClaim := { program := "ytmeglhmlhdaacaa", sum := "a4e9c283fca2c3d7226a04351e768b55bea266a7916c7ac4843c0b846719e9c9", func := "loop.example/g01010/laws.FnExactCurrenciesOf", spec := "fnExactCurrenciesOf", plainKeys := false, apart := false }
def FnExactCurrenciesOfSaid : Prop := fnExactCurrenciesOfRow.holds Try.pinned (OpenSpec.ofChange fnExactCurrenciesOfSpec)

/-- ITS FALSE NEIGHBOUR: 'it returns false'. Refute it at one input. -/
def fnExactCurrenciesOfWrong : ChangeSpec := { name := "fnExactCurrenciesOf", fn := fun _ => fun
  | [d] => { results := [.lit (.bool false)], args := [d] }
  | _ => none }
def FnExactCurrenciesOfWrongFalsely : Prop := fnExactCurrenciesOfRow.holds Try.pinned (OpenSpec.ofChange fnExactCurrenciesOfWrong)

/-- 'laws.FnExactCrossRate': WHATEVER THE INPUT: true; the input reads as it did. -/
def fnExactCrossRateSpec : ChangeSpec := { name := "fnExactCrossRate", fn := fun _ => fun
  | [d1, d2, d3, d4] => { results := [.lit (.bool true)], args := [d1, d2, d3, d4] }
  | _ => none }
def fnExactCrossRateRow : OpenClaim := { program := "ytmeglhmlhdaacaa", sum := "a4e9c283fca2c3d7226a04351e768b55bea266a7916c7ac4843c0b846719e9c9", func := "loop.example/g01010/laws.FnExactCrossRate", spec := "fnExactCrossRate", plainKeys := false, apart := false }
def FnExactCrossRateSaid : Prop := fnExactCrossRateRow.holds Try.pinned (OpenSpec.ofChange fnExactCrossRateSpec)

/-- ITS FALSE NEIGHBOUR: 'it returns false'. Refute it at one input. -/
def fnExactCrossRateWrong : ChangeSpec := { name := "fnExactCrossRate", fn := fun _ => fun
  | [d1, d2, d3, d4] => { results := [.lit (.bool false)], args := [d1, d2, d3, d4] }
  | _ => none }
def FnExactCrossRateWrongFalsely : Prop := fnExactCrossRateRow.holds Try.pinned (OpenSpec.ofChange fnExactCrossRateWrong)

/-- 'laws.FnExactDaysWithRate': WHATEVER THE INPUT: true; the input reads as it did. -/
def fnExactDaysWithRateSpec : ChangeSpec := { name := "fnExactDaysWithRate", fn := fun _ => fun
  | [d1, d2] => { results := [.lit (.bool true)], args := [d1, d2] }
  | _ => none }
def fnExactDaysWithRateRow : OpenClaim := { program := "ytmeglhmlhdaacaa", sum := "a4e9c283fca2c3d7226a04351e768b55bea266a7916c7ac4843c0b846719e9c9", func := "loop.example/g01010/laws.FnExactDaysWithRate", spec := "fnExactDaysWithRate", plainKeys := false, apart := false }
def FnExactDaysWithRateSaid : Prop := fnExactDaysWithRateRow.holds Try.pinned (OpenSpec.ofChange fnExactDaysWithRateSpec)

/-- ITS FALSE NEIGHBOUR: 'it returns false'. Refute it at one input. -/
def fnExactDaysWithRateWrong : ChangeSpec := { name := "fnExactDaysWithRate", fn := fun _ => fun
  | [d1, d2] => { results := [.lit (.bool false)], args := [d1, d2] }
  | _ => none }
def FnExactDaysWithRateWrongFalsely : Prop := fnExactDaysWithRateRow.holds Try.pinned (OpenSpec.ofChange fnExactDaysWithRateWrong)

/- THE SECOND FORM. 'bulk': how many values and letters a reading holds, each counted each time it is reached (what is shared counts as often as it is met; a slice's spare places count too). A statement '..UptoSaid' is the law's where the arguments, and the package variables that the reading takes, are together of bulk at most 1048576: NARROWER than '..Said'. Prove '..Said' where nothing that the law and all that it calls make is longer than what came in: it says more and counts as full. Else prove '..UptoSaid'. A law counts once. -/
mutual
def uptoBulk {H : Type} : DataW H → Nat
  | .lit (.string bytes) => bytes.length + 1
  | .lit _ => 1
  | .nil => 1
  | .ptr d => uptoBulk d + 1
  | .slice elems spare => uptoBulkAll elems + uptoBulkAll spare + 1
  | .agg parts => uptoBulkAll parts + 1
  | .iface _ d => uptoBulk d + 1
  | .map entries => uptoBulkEntries entries + 1
  | .held _ => 1
def uptoBulkAll {H : Type} : List (DataW H) → Nat
  | [] => 0
  | d :: r => uptoBulk d + uptoBulkAll r
def uptoBulkEntries {H : Type} : List (Lit × DataW H) → Nat
  | [] => 0
  | x :: r => uptoBulkEntry x + uptoBulkEntries r
def uptoBulkEntry {H : Type} : Lit × DataW H → Nat
  | (.string bytes, d) => bytes.length + uptoBulk d + 1
  | (_, d) => uptoBulk d + 1
 end
def uptoSmall : (H : Type) → List (DataW H) → Bool := fun _ ds => decide (uptoBulkAll ds ≤ 1048576)
def OpenSpec.upto (s : _root_.Go.ChangeSpec) : _root_.Go.OpenSpec := { _root_.Go.OpenSpec.ofChange s with cond := some uptoSmall }

/-- 'laws.FnProportions', WHERE WHAT IT READS IS OF BULK AT MOST 1048576: true; the input reads as it did. -/
def fnProportionsUptoRow : OpenClaim := { program := "ytmeglhmlhdaacaa", sum := "a4e9c283fca2c3d7226a04351e768b55bea266a7916c7ac4843c0b846719e9c9", func := "loop.example/g01010/laws.FnProportions", spec := "fnProportions", inPlace := ["math/bits.Add64"], named := ["math/bits.divideError", "math/bits.overflowError"], plainKeys := false, apart := false, narrowed := true }
def FnProportionsUptoSaid : Prop := fnProportionsUptoRow.holds Try.pinned (OpenSpec.upto fnProportionsSpec)

/-- 'laws.FnConverted', WHERE WHAT IT READS IS OF BULK AT MOST 1048576: true; the input reads as it did. -/
def fnConvertedUptoRow : OpenClaim := { program := "ytmeglhmlhdaacaa", sum := "a4e9c283fca2c3d7226a04351e768b55bea266a7916c7ac4843c0b846719e9c9", func := "loop.example/g01010/laws.FnConverted", spec := "fnConverted", inPlace := ["math/bits.Add64"], unfollowed := true, recurses := true, named := ["math/bits.divideError", "math/bits.overflowError"], plainKeys := false, apart := false, narrowed := true }
def FnConvertedUptoSaid : Prop := fnConvertedUptoRow.holds Try.pinned (OpenSpec.upto fnConvertedSpec)

/-- 'laws.FnTables', WHERE WHAT IT READS IS OF BULK AT MOST 1048576: true; the input reads as it did. -/
def fnTablesUptoRow : OpenClaim := { program := "ytmeglhmlhdaacaa", sum := "a4e9c283fca2c3d7226a04351e768b55bea266a7916c7ac4843c0b846719e9c9", func := "loop.example/g01010/laws.FnTables", spec := "fnTables", plainKeys := false, apart := false, narrowed := true }
def FnTablesUptoSaid : Prop := fnTablesUptoRow.holds Try.pinned (OpenSpec.upto fnTablesSpec)

/-- 'laws.FnExactProportionOf', WHERE WHAT IT READS IS OF BULK AT MOST 1048576: true; the input reads as it did. -/
def fnExactProportionOfUptoRow : OpenClaim := { program := "ytmeglhmlhdaacaa", sum := "a4e9c283fca2c3d7226a04351e768b55bea266a7916c7ac4843c0b846719e9c9", func := "loop.example/g01010/laws.FnExactProportionOf", spec := "fnExactProportionOf", inPlace := ["math/bits.Add64"], named := ["math/bits.divideError", "math/bits.overflowError"], plainKeys := false, apart := false, narrowed := true }
def FnExactProportionOfUptoSaid : Prop := fnExactProportionOfUptoRow.holds Try.pinned (OpenSpec.upto fnExactProportionOfSpec)

/-- 'laws.FnExactIsCode', WHERE WHAT IT READS IS OF BULK AT MOST 1048576: true; the input reads as it did. -/
def fnExactIsCodeUptoRow : OpenClaim := { program := "ytmeglhmlhdaacaa", sum := "a4e9c283fca2c3d7226a04351e768b55bea266a7916c7ac4843c0b846719e9c9", func := "loop.example/g01010/laws.FnExactIsCode", spec := "fnExactIsCode", plainKeys := false, apart := false, narrowed := true }
def FnExactIsCodeUptoSaid : Prop := fnExactIsCodeUptoRow.holds Try.pinned (OpenSpec.upto fnExactIsCodeSpec)

/-- 'laws.FnExactIsTable', WHERE WHAT IT READS IS OF BULK AT MOST 1048576: true; the input reads as it did. -/
def fnExactIsTableUptoRow : OpenClaim := { program := "ytmeglhmlhdaacaa", sum := "a4e9c283fca2c3d7226a04351e768b55bea266a7916c7ac4843c0b846719e9c9", func := "loop.example/g01010/laws.FnExactIsTable", spec := "fnExactIsTable", plainKeys := false, apart := false, narrowed := true }
def FnExactIsTableUptoSaid : Prop := fnExactIsTableUptoRow.holds Try.pinned (OpenSpec.upto fnExactIsTableSpec)

/-- 'laws.FnExactRateOn', WHERE WHAT IT READS IS OF BULK AT MOST 1048576: true; the input reads as it did. -/
def fnExactRateOnUptoRow : OpenClaim := { program := "ytmeglhmlhdaacaa", sum := "a4e9c283fca2c3d7226a04351e768b55bea266a7916c7ac4843c0b846719e9c9", func := "loop.example/g01010/laws.FnExactRateOn", spec := "fnExactRateOn", plainKeys := false, apart := false, narrowed := true }
def FnExactRateOnUptoSaid : Prop := fnExactRateOnUptoRow.holds Try.pinned (OpenSpec.upto fnExactRateOnSpec)

/-- 'laws.FnExactConvertAmount', WHERE WHAT IT READS IS OF BULK AT MOST 1048576: true; the input reads as it did. -/
def fnExactConvertAmountUptoRow : OpenClaim := { program := "ytmeglhmlhdaacaa", sum := "a4e9c283fca2c3d7226a04351e768b55bea266a7916c7ac4843c0b846719e9c9", func := "loop.example/g01010/laws.FnExactConvertAmount", spec := "fnExactConvertAmount", inPlace := ["math/bits.Add64"], named := ["math/bits.divideError", "math/bits.overflowError"], plainKeys := false, apart := false, narrowed := true }
def FnExactConvertAmountUptoSaid : Prop := fnExactConvertAmountUptoRow.holds Try.pinned (OpenSpec.upto fnExactConvertAmountSpec)

/-- 'laws.FnExactAddRate', WHERE WHAT IT READS IS OF BULK AT MOST 1048576: true; the input reads as it did. -/
def fnExactAddRateUptoRow : OpenClaim := { program := "ytmeglhmlhdaacaa", sum := "a4e9c283fca2c3d7226a04351e768b55bea266a7916c7ac4843c0b846719e9c9", func := "loop.example/g01010/laws.FnExactAddRate", spec := "fnExactAddRate", unfollowed := true, recurses := true, plainKeys := false, apart := false, narrowed := true }
def FnExactAddRateUptoSaid : Prop := fnExactAddRateUptoRow.holds Try.pinned (OpenSpec.upto fnExactAddRateSpec)

/-- 'laws.FnExactCurrenciesOf', WHERE WHAT IT READS IS OF BULK AT MOST 1048576: true; the input reads as it did. -/
def fnExactCurrenciesOfUptoRow : OpenClaim := { program := "ytmeglhmlhdaacaa", sum := "a4e9c283fca2c3d7226a04351e768b55bea266a7916c7ac4843c0b846719e9c9", func := "loop.example/g01010/laws.FnExactCurrenciesOf", spec := "fnExactCurrenciesOf", plainKeys := false, apart := false, narrowed := true }
def FnExactCurrenciesOfUptoSaid : Prop := fnExactCurrenciesOfUptoRow.holds Try.pinned (OpenSpec.upto fnExactCurrenciesOfSpec)

/-- 'laws.FnExactCrossRate', WHERE WHAT IT READS IS OF BULK AT MOST 1048576: true; the input reads as it did. -/
def fnExactCrossRateUptoRow : OpenClaim := { program := "ytmeglhmlhdaacaa", sum := "a4e9c283fca2c3d7226a04351e768b55bea266a7916c7ac4843c0b846719e9c9", func := "loop.example/g01010/laws.FnExactCrossRate", spec := "fnExactCrossRate", plainKeys := false, apart := false, narrowed := true }
def FnExactCrossRateUptoSaid : Prop := fnExactCrossRateUptoRow.holds Try.pinned (OpenSpec.upto fnExactCrossRateSpec)

/-- 'laws.FnExactDaysWithRate', WHERE WHAT IT READS IS OF BULK AT MOST 1048576: true; the input reads as it did. -/
def fnExactDaysWithRateUptoRow : OpenClaim := { program := "ytmeglhmlhdaacaa", sum := "a4e9c283fca2c3d7226a04351e768b55bea266a7916c7ac4843c0b846719e9c9", func := "loop.example/g01010/laws.FnExactDaysWithRate", spec := "fnExactDaysWithRate", plainKeys := false, apart := false, narrowed := true }
def FnExactDaysWithRateUptoSaid : Prop := fnExactDaysWithRateUptoRow.holds Try.pinned (OpenSpec.upto fnExactDaysWithRateSpec)

end Rows
end Go.Proofs.Ytmeglhmlhdaacaa
