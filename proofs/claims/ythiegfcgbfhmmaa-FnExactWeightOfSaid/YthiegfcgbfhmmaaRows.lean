/-
  No cell of these rows narrows 'for every input' (looked for: loops, veiled, ifaces, maps, wideKeys, modest, calm, conditions, laid).
  DERIVED. THE GIVEN ROWS OF THIS SEAT. 7 by the template 'for every input the law returns true; each argument reads behind the call as it read before'; 0 by the template 'total and deterministic' (their statements: YthiegfcgbfhmmaaTotals.lean).
  GIVEN WITH THE SEED: the statements are not yours to turn. If you find one false, say at which input.
  Laid BY PROGRAM, IN A SANDBOX (cutbox-rows.mjs): the forced cells as the released guide's own fill.sh prints them over the translation 65cd0880cbbccaf4… (all of the seat's roots in one cut). By AI agents, Wed Nov 11 2026. No macro, syntax, notation, axiom, sorry.
-/
import Derived.Test.YthiegfcgbfhmmaaChecked
import GoSem.Claim
import GoSem.ClaimJoined
import GoSem.ClaimMapViews
import Derived.JoinedTies
import Derived.KernelRfl
namespace Go.Proofs.Ythiegfcgbfhmmaa
/- THE CELL 'sum', in the pinned program and in every row, IS THE sha256 OF THE DUMP (.gsa) THAT YthiegfcgbfhmmaaProg.lean LOADS. Nothing in Lean hashes anything: it is a label: what it is worth is what the hold of that sum in a sandbox is worth. -/
noncomputable def Try.pinned : Pinned := { name := "ythiegfcgbfhmmaa", sum := "65cd0880cbbccaf42e77b042f385883a50d8023c7c26aed598b13dc2626467da", checked := Try.checked }
namespace Rows
def none {H : Type} : Left H := { results := [], args := [] }

/-- 'laws.FnInterest': WHATEVER THE INPUT: true; the input reads as it did. -/
def fnInterestSpec : ChangeSpec := { name := "fnInterest", fn := fun _ => fun
  | [d] => { results := [.lit (.bool true)], args := [d] }
  | _ => none }
def fnInterestRow : OpenClaim := { program := "ythiegfcgbfhmmaa", sum := "65cd0880cbbccaf42e77b042f385883a50d8023c7c26aed598b13dc2626467da", func := "loop.example/g01010/laws.FnInterest", spec := "fnInterest", inPlace := ["math/bits.Add64"], unfollowed := true, recurses := true, named := ["math/bits.divideError", "math/bits.overflowError"], apart := false }
def FnInterestSaid : Prop := fnInterestRow.holds Try.pinned (OpenSpec.ofChange fnInterestSpec)

/-- ITS FALSE NEIGHBOUR: 'it returns false'. Refute it at one input. -/
def fnInterestWrong : ChangeSpec := { name := "fnInterest", fn := fun _ => fun
  | [d] => { results := [.lit (.bool false)], args := [d] }
  | _ => none }
def FnInterestWrongFalsely : Prop := fnInterestRow.holds Try.pinned (OpenSpec.ofChange fnInterestWrong)

/-- 'laws.FnDue': WHATEVER THE INPUT: true; the input reads as it did. -/
def fnDueSpec : ChangeSpec := { name := "fnDue", fn := fun _ => fun
  | [d] => { results := [.lit (.bool true)], args := [d] }
  | _ => none }
def fnDueRow : OpenClaim := { program := "ythiegfcgbfhmmaa", sum := "65cd0880cbbccaf42e77b042f385883a50d8023c7c26aed598b13dc2626467da", func := "loop.example/g01010/laws.FnDue", spec := "fnDue", inPlace := ["math/bits.Add64"], unfollowed := true, recurses := true, named := ["math/bits.divideError", "math/bits.overflowError"], apart := false }
def FnDueSaid : Prop := fnDueRow.holds Try.pinned (OpenSpec.ofChange fnDueSpec)

/-- ITS FALSE NEIGHBOUR: 'it returns false'. Refute it at one input. -/
def fnDueWrong : ChangeSpec := { name := "fnDue", fn := fun _ => fun
  | [d] => { results := [.lit (.bool false)], args := [d] }
  | _ => none }
def FnDueWrongFalsely : Prop := fnDueRow.holds Try.pinned (OpenSpec.ofChange fnDueWrong)

/-- 'laws.FnExactPointsOn': WHATEVER THE INPUT: true; the input reads as it did. -/
def fnExactPointsOnSpec : ChangeSpec := { name := "fnExactPointsOn", fn := fun _ => fun
  | [d1, d2] => { results := [.lit (.bool true)], args := [d1, d2] }
  | _ => none }
def fnExactPointsOnRow : OpenClaim := { program := "ythiegfcgbfhmmaa", sum := "65cd0880cbbccaf42e77b042f385883a50d8023c7c26aed598b13dc2626467da", func := "loop.example/g01010/laws.FnExactPointsOn", spec := "fnExactPointsOn", unfollowed := true, recurses := true, apart := false }
def FnExactPointsOnSaid : Prop := fnExactPointsOnRow.holds Try.pinned (OpenSpec.ofChange fnExactPointsOnSpec)

/-- ITS FALSE NEIGHBOUR: 'it returns false'. Refute it at one input. -/
def fnExactPointsOnWrong : ChangeSpec := { name := "fnExactPointsOn", fn := fun _ => fun
  | [d1, d2] => { results := [.lit (.bool false)], args := [d1, d2] }
  | _ => none }
def FnExactPointsOnWrongFalsely : Prop := fnExactPointsOnRow.holds Try.pinned (OpenSpec.ofChange fnExactPointsOnWrong)

/-- 'laws.FnExactInterestBetween': WHATEVER THE INPUT: true; the input reads as it did. -/
def fnExactInterestBetweenSpec : ChangeSpec := { name := "fnExactInterestBetween", fn := fun _ => fun
  | [d1, d2, d3, d4] => { results := [.lit (.bool true)], args := [d1, d2, d3, d4] }
  | _ => none }
def fnExactInterestBetweenRow : OpenClaim := { program := "ythiegfcgbfhmmaa", sum := "65cd0880cbbccaf42e77b042f385883a50d8023c7c26aed598b13dc2626467da", func := "loop.example/g01010/laws.FnExactInterestBetween", spec := "fnExactInterestBetween", inPlace := ["math/bits.Add64"], unfollowed := true, recurses := true, named := ["math/bits.divideError", "math/bits.overflowError"], apart := false }
def FnExactInterestBetweenSaid : Prop := fnExactInterestBetweenRow.holds Try.pinned (OpenSpec.ofChange fnExactInterestBetweenSpec)

/-- ITS FALSE NEIGHBOUR: 'it returns false'. Refute it at one input. -/
def fnExactInterestBetweenWrong : ChangeSpec := { name := "fnExactInterestBetween", fn := fun _ => fun
  | [d1, d2, d3, d4] => { results := [.lit (.bool false)], args := [d1, d2, d3, d4] }
  | _ => none }
def FnExactInterestBetweenWrongFalsely : Prop := fnExactInterestBetweenRow.holds Try.pinned (OpenSpec.ofChange fnExactInterestBetweenWrong)

/-- 'laws.FnExactWeightOf': WHATEVER THE INPUT: true; the input reads as it did. -/
def fnExactWeightOfSpec : ChangeSpec := { name := "fnExactWeightOf", fn := fun _ => fun
  | [d1, d2, d3] => { results := [.lit (.bool true)], args := [d1, d2, d3] }
  | _ => none }
def fnExactWeightOfRow : OpenClaim := { program := "ythiegfcgbfhmmaa", sum := "65cd0880cbbccaf42e77b042f385883a50d8023c7c26aed598b13dc2626467da", func := "loop.example/g01010/laws.FnExactWeightOf", spec := "fnExactWeightOf", unfollowed := true, recurses := true, apart := false }
def FnExactWeightOfSaid : Prop := fnExactWeightOfRow.holds Try.pinned (OpenSpec.ofChange fnExactWeightOfSpec)

/-- ITS FALSE NEIGHBOUR: 'it returns false'. Refute it at one input. -/
def fnExactWeightOfWrong : ChangeSpec := { name := "fnExactWeightOf", fn := fun _ => fun
  | [d1, d2, d3] => { results := [.lit (.bool false)], args := [d1, d2, d3] }
  | _ => none }
def FnExactWeightOfWrongFalsely : Prop := fnExactWeightOfRow.holds Try.pinned (OpenSpec.ofChange fnExactWeightOfWrong)

/-- 'laws.FnExactDayWhenReached': WHATEVER THE INPUT: true; the input reads as it did. -/
def fnExactDayWhenReachedSpec : ChangeSpec := { name := "fnExactDayWhenReached", fn := fun _ => fun
  | [d1, d2, d3, d4] => { results := [.lit (.bool true)], args := [d1, d2, d3, d4] }
  | _ => none }
def fnExactDayWhenReachedRow : OpenClaim := { program := "ythiegfcgbfhmmaa", sum := "65cd0880cbbccaf42e77b042f385883a50d8023c7c26aed598b13dc2626467da", func := "loop.example/g01010/laws.FnExactDayWhenReached", spec := "fnExactDayWhenReached", inPlace := ["math/bits.Add64"], unfollowed := true, recurses := true, named := ["math/bits.divideError", "math/bits.overflowError"], apart := false }
def FnExactDayWhenReachedSaid : Prop := fnExactDayWhenReachedRow.holds Try.pinned (OpenSpec.ofChange fnExactDayWhenReachedSpec)

/-- ITS FALSE NEIGHBOUR: 'it returns false'. Refute it at one input. -/
def fnExactDayWhenReachedWrong : ChangeSpec := { name := "fnExactDayWhenReached", fn := fun _ => fun
  | [d1, d2, d3, d4] => { results := [.lit (.bool false)], args := [d1, d2, d3, d4] }
  | _ => none }
def FnExactDayWhenReachedWrongFalsely : Prop := fnExactDayWhenReachedRow.holds Try.pinned (OpenSpec.ofChange fnExactDayWhenReachedWrong)

/-- 'laws.FnExactTotalDue': WHATEVER THE INPUT: true; the input reads as it did. -/
def fnExactTotalDueSpec : ChangeSpec := { name := "fnExactTotalDue", fn := fun _ => fun
  | [d1, d2, d3, d4, d5] => { results := [.lit (.bool true)], args := [d1, d2, d3, d4, d5] }
  | _ => none }
def fnExactTotalDueRow : OpenClaim := { program := "ythiegfcgbfhmmaa", sum := "65cd0880cbbccaf42e77b042f385883a50d8023c7c26aed598b13dc2626467da", func := "loop.example/g01010/laws.FnExactTotalDue", spec := "fnExactTotalDue", inPlace := ["math/bits.Add64"], unfollowed := true, recurses := true, named := ["math/bits.divideError", "math/bits.overflowError"], apart := false }
def FnExactTotalDueSaid : Prop := fnExactTotalDueRow.holds Try.pinned (OpenSpec.ofChange fnExactTotalDueSpec)

/-- ITS FALSE NEIGHBOUR: 'it returns false'. Refute it at one input. -/
def fnExactTotalDueWrong : ChangeSpec := { name := "fnExactTotalDue", fn := fun _ => fun
  | [d1, d2, d3, d4, d5] => { results := [.lit (.bool false)], args := [d1, d2, d3, d4, d5] }
  | _ => none }
def FnExactTotalDueWrongFalsely : Prop := fnExactTotalDueRow.holds Try.pinned (OpenSpec.ofChange fnExactTotalDueWrong)

/- THE SECOND FORM. 'bulk': how many values and letters a reading holds, each counted each time it is reached (what is shared counts as often as it is met; a slice's spare places count too). A statement '..UptoSaid' is the law's where the arguments, and the package variables that the reading takes, are together of bulk at most 1048576: NARROWER than '..Said'. Prove '..Said' where nothing that the law and all that it calls make is longer than what came in: it says more and counts as full. Else prove '..UptoSaid'. A law counts once. -/
mutual
def uptoBulk {H : Type} : DataW H → Nat
  | .lit (.string bytes) => bytes.length + 1
  | .lit _ => 1
  | .nil => 1
  | .ptr d => uptoBulk d + 1
  | .slice elems spare => uptoBulkAll elems + uptoBulkAll spare + 1
  | .agg parts => uptoBulkAll parts + 1
  | .iface _ d => uptoBulk d + 1
  | .map entries => uptoBulkEntries entries + 1
  | .held _ => 1
def uptoBulkAll {H : Type} : List (DataW H) → Nat
  | [] => 0
  | d :: r => uptoBulk d + uptoBulkAll r
def uptoBulkEntries {H : Type} : List (Lit × DataW H) → Nat
  | [] => 0
  | x :: r => uptoBulkEntry x + uptoBulkEntries r
def uptoBulkEntry {H : Type} : Lit × DataW H → Nat
  | (.string bytes, d) => bytes.length + uptoBulk d + 1
  | (_, d) => uptoBulk d + 1
 end
def uptoSmall : (H : Type) → List (DataW H) → Bool := fun _ ds => decide (uptoBulkAll ds ≤ 1048576)
def OpenSpec.upto (s : _root_.Go.ChangeSpec) : _root_.Go.OpenSpec := { _root_.Go.OpenSpec.ofChange s with cond := some uptoSmall }

/-- 'laws.FnInterest', WHERE WHAT IT READS IS OF BULK AT MOST 1048576: true; the input reads as it did. -/
def fnInterestUptoRow : OpenClaim := { program := "ythiegfcgbfhmmaa", sum := "65cd0880cbbccaf42e77b042f385883a50d8023c7c26aed598b13dc2626467da", func := "loop.example/g01010/laws.FnInterest", spec := "fnInterest", inPlace := ["math/bits.Add64"], unfollowed := true, recurses := true, named := ["math/bits.divideError", "math/bits.overflowError"], apart := false, narrowed := true }
def FnInterestUptoSaid : Prop := fnInterestUptoRow.holds Try.pinned (OpenSpec.upto fnInterestSpec)

/-- 'laws.FnDue', WHERE WHAT IT READS IS OF BULK AT MOST 1048576: true; the input reads as it did. -/
def fnDueUptoRow : OpenClaim := { program := "ythiegfcgbfhmmaa", sum := "65cd0880cbbccaf42e77b042f385883a50d8023c7c26aed598b13dc2626467da", func := "loop.example/g01010/laws.FnDue", spec := "fnDue", inPlace := ["math/bits.Add64"], unfollowed := true, recurses := true, named := ["math/bits.divideError", "math/bits.overflowError"], apart := false, narrowed := true }
def FnDueUptoSaid : Prop := fnDueUptoRow.holds Try.pinned (OpenSpec.upto fnDueSpec)

/-- 'laws.FnExactPointsOn', WHERE WHAT IT READS IS OF BULK AT MOST 1048576: true; the input reads as it did. -/
def fnExactPointsOnUptoRow : OpenClaim := { program := "ythiegfcgbfhmmaa", sum := "65cd0880cbbccaf42e77b042f385883a50d8023c7c26aed598b13dc2626467da", func := "loop.example/g01010/laws.FnExactPointsOn", spec := "fnExactPointsOn", unfollowed := true, recurses := true, apart := false, narrowed := true }
def FnExactPointsOnUptoSaid : Prop := fnExactPointsOnUptoRow.holds Try.pinned (OpenSpec.upto fnExactPointsOnSpec)

/-- 'laws.FnExactInterestBetween', WHERE WHAT IT READS IS OF BULK AT MOST 1048576: true; the input reads as it did. -/
def fnExactInterestBetweenUptoRow : OpenClaim := { program := "ythiegfcgbfhmmaa", sum := "65cd0880cbbccaf42e77b042f385883a50d8023c7c26aed598b13dc2626467da", func := "loop.example/g01010/laws.FnExactInterestBetween", spec := "fnExactInterestBetween", inPlace := ["math/bits.Add64"], unfollowed := true, recurses := true, named := ["math/bits.divideError", "math/bits.overflowError"], apart := false, narrowed := true }
def FnExactInterestBetweenUptoSaid : Prop := fnExactInterestBetweenUptoRow.holds Try.pinned (OpenSpec.upto fnExactInterestBetweenSpec)

/-- 'laws.FnExactWeightOf', WHERE WHAT IT READS IS OF BULK AT MOST 1048576: true; the input reads as it did. -/
def fnExactWeightOfUptoRow : OpenClaim := { program := "ythiegfcgbfhmmaa", sum := "65cd0880cbbccaf42e77b042f385883a50d8023c7c26aed598b13dc2626467da", func := "loop.example/g01010/laws.FnExactWeightOf", spec := "fnExactWeightOf", unfollowed := true, recurses := true, apart := false, narrowed := true }
def FnExactWeightOfUptoSaid : Prop := fnExactWeightOfUptoRow.holds Try.pinned (OpenSpec.upto fnExactWeightOfSpec)

/-- 'laws.FnExactDayWhenReached', WHERE WHAT IT READS IS OF BULK AT MOST 1048576: true; the input reads as it did. -/
def fnExactDayWhenReachedUptoRow : OpenClaim := { program := "ythiegfcgbfhmmaa", sum := "65cd0880cbbccaf42e77b042f385883a50d8023c7c26aed598b13dc2626467da", func := "loop.example/g01010/laws.FnExactDayWhenReached", spec := "fnExactDayWhenReached", inPlace := ["math/bits.Add64"], unfollowed := true, recurses := true, named := ["math/bits.divideError", "math/bits.overflowError"], apart := false, narrowed := true }
def FnExactDayWhenReachedUptoSaid : Prop := fnExactDayWhenReachedUptoRow.holds Try.pinned (OpenSpec.upto fnExactDayWhenReachedSpec)

/-- 'laws.FnExactTotalDue', WHERE WHAT IT READS IS OF BULK AT MOST 1048576: true; the input reads as it did. -/
def fnExactTotalDueUptoRow : OpenClaim := { program := "ythiegfcgbfhmmaa", sum := "65cd0880cbbccaf42e77b042f385883a50d8023c7c26aed598b13dc2626467da", func := "loop.example/g01010/laws.FnExactTotalDue", spec := "fnExactTotalDue", inPlace := ["math/bits.Add64"], unfollowed := true, recurses := true, named := ["math/bits.divideError", "math/bits.overflowError"], apart := false, narrowed := true }
def FnExactTotalDueUptoSaid : Prop := fnExactTotalDueUptoRow.holds Try.pinned (OpenSpec.upto fnExactTotalDueSpec)

end Rows
end Go.Proofs.Ythiegfcgbfhmmaa
