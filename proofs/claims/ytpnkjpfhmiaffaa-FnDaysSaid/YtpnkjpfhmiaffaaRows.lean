/-
  No cell of these rows narrows 'for every input' (looked for: loops, veiled, ifaces, maps, wideKeys, modest, calm, conditions, laid).
  DERIVED. THE GIVEN ROWS OF THIS SEAT. 7 by the template 'for every input the law returns true; each argument reads behind the call as it read before'; 0 by the template 'total and deterministic' (their statements: YtpnkjpfhmiaffaaTotals.lean).
  GIVEN WITH THE SEED: the statements are not yours to turn. If you find one false, say at which input.
  Laid BY PROGRAM, IN A SANDBOX (cutbox-rows.mjs): the forced cells as the released guide's own fill.sh prints them over the translation 66bb1dd92d1cae3c… (all of the seat's roots in one cut). By AI agents, Wed Nov 11 2026. No macro, syntax, notation, axiom, sorry.
-/
import Derived.Test.YtpnkjpfhmiaffaaChecked
import GoSem.Claim
import GoSem.ClaimJoined
import GoSem.ClaimMapViews
import Derived.JoinedTies
import Derived.KernelRfl
namespace Go.Proofs.Ytpnkjpfhmiaffaa
/- THE CELL 'sum', in the pinned program and in every row, IS THE sha256 OF THE DUMP (.gsa) THAT YtpnkjpfhmiaffaaProg.lean LOADS. Nothing in Lean hashes anything: it is a label: what it is worth is what the hold of that sum in a sandbox is worth. -/
noncomputable def Try.pinned : Pinned := { name := "ytpnkjpfhmiaffaa", sum := "66bb1dd92d1cae3c1c5ebc5f5fb249dbf2c9b209443834dd72f38f3fae17192a", checked := Try.checked }
namespace Rows
def none {H : Type} : Left H := { results := [], args := [] }

/-- 'laws.FnDays': WHATEVER THE INPUT: true; the input reads as it did. -/
def fnDaysSpec : ChangeSpec := { name := "fnDays", fn := fun _ => fun
  | [d] => { results := [.lit (.bool true)], args := [d] }
  | _ => none }
def fnDaysRow : OpenClaim := { program := "ytpnkjpfhmiaffaa", sum := "66bb1dd92d1cae3c1c5ebc5f5fb249dbf2c9b209443834dd72f38f3fae17192a", func := "loop.example/g01010/laws.FnDays", spec := "fnDays", apart := false }
def FnDaysSaid : Prop := fnDaysRow.holds Try.pinned (OpenSpec.ofChange fnDaysSpec)

/-- ITS FALSE NEIGHBOUR: 'it returns false'. Refute it at one input. -/
def fnDaysWrong : ChangeSpec := { name := "fnDays", fn := fun _ => fun
  | [d] => { results := [.lit (.bool false)], args := [d] }
  | _ => none }
def FnDaysWrongFalsely : Prop := fnDaysRow.holds Try.pinned (OpenSpec.ofChange fnDaysWrong)

/-- 'laws.FnExactIsDate': WHATEVER THE INPUT: true; the input reads as it did. -/
def fnExactIsDateSpec : ChangeSpec := { name := "fnExactIsDate", fn := fun _ => fun
  | [d] => { results := [.lit (.bool true)], args := [d] }
  | _ => none }
def fnExactIsDateRow : OpenClaim := { program := "ytpnkjpfhmiaffaa", sum := "66bb1dd92d1cae3c1c5ebc5f5fb249dbf2c9b209443834dd72f38f3fae17192a", func := "loop.example/g01010/laws.FnExactIsDate", spec := "fnExactIsDate", apart := false }
def FnExactIsDateSaid : Prop := fnExactIsDateRow.holds Try.pinned (OpenSpec.ofChange fnExactIsDateSpec)

/-- ITS FALSE NEIGHBOUR: 'it returns false'. Refute it at one input. -/
def fnExactIsDateWrong : ChangeSpec := { name := "fnExactIsDate", fn := fun _ => fun
  | [d] => { results := [.lit (.bool false)], args := [d] }
  | _ => none }
def FnExactIsDateWrongFalsely : Prop := fnExactIsDateRow.holds Try.pinned (OpenSpec.ofChange fnExactIsDateWrong)

/-- 'laws.FnExactDayOf': WHATEVER THE INPUT: true; the input reads as it did. -/
def fnExactDayOfSpec : ChangeSpec := { name := "fnExactDayOf", fn := fun _ => fun
  | [d] => { results := [.lit (.bool true)], args := [d] }
  | _ => none }
def fnExactDayOfRow : OpenClaim := { program := "ytpnkjpfhmiaffaa", sum := "66bb1dd92d1cae3c1c5ebc5f5fb249dbf2c9b209443834dd72f38f3fae17192a", func := "loop.example/g01010/laws.FnExactDayOf", spec := "fnExactDayOf", apart := false }
def FnExactDayOfSaid : Prop := fnExactDayOfRow.holds Try.pinned (OpenSpec.ofChange fnExactDayOfSpec)

/-- ITS FALSE NEIGHBOUR: 'it returns false'. Refute it at one input. -/
def fnExactDayOfWrong : ChangeSpec := { name := "fnExactDayOf", fn := fun _ => fun
  | [d] => { results := [.lit (.bool false)], args := [d] }
  | _ => none }
def FnExactDayOfWrongFalsely : Prop := fnExactDayOfRow.holds Try.pinned (OpenSpec.ofChange fnExactDayOfWrong)

/-- 'laws.FnExactDateOf': WHATEVER THE INPUT: true; the input reads as it did. -/
def fnExactDateOfSpec : ChangeSpec := { name := "fnExactDateOf", fn := fun _ => fun
  | [d] => { results := [.lit (.bool true)], args := [d] }
  | _ => none }
def fnExactDateOfRow : OpenClaim := { program := "ytpnkjpfhmiaffaa", sum := "66bb1dd92d1cae3c1c5ebc5f5fb249dbf2c9b209443834dd72f38f3fae17192a", func := "loop.example/g01010/laws.FnExactDateOf", spec := "fnExactDateOf", apart := false }
def FnExactDateOfSaid : Prop := fnExactDateOfRow.holds Try.pinned (OpenSpec.ofChange fnExactDateOfSpec)

/-- ITS FALSE NEIGHBOUR: 'it returns false'. Refute it at one input. -/
def fnExactDateOfWrong : ChangeSpec := { name := "fnExactDateOf", fn := fun _ => fun
  | [d] => { results := [.lit (.bool false)], args := [d] }
  | _ => none }
def FnExactDateOfWrongFalsely : Prop := fnExactDateOfRow.holds Try.pinned (OpenSpec.ofChange fnExactDateOfWrong)

/-- 'laws.FnExactWeekdayOf': WHATEVER THE INPUT: true; the input reads as it did. -/
def fnExactWeekdayOfSpec : ChangeSpec := { name := "fnExactWeekdayOf", fn := fun _ => fun
  | [d] => { results := [.lit (.bool true)], args := [d] }
  | _ => none }
def fnExactWeekdayOfRow : OpenClaim := { program := "ytpnkjpfhmiaffaa", sum := "66bb1dd92d1cae3c1c5ebc5f5fb249dbf2c9b209443834dd72f38f3fae17192a", func := "loop.example/g01010/laws.FnExactWeekdayOf", spec := "fnExactWeekdayOf", apart := false }
def FnExactWeekdayOfSaid : Prop := fnExactWeekdayOfRow.holds Try.pinned (OpenSpec.ofChange fnExactWeekdayOfSpec)

/-- ITS FALSE NEIGHBOUR: 'it returns false'. Refute it at one input. -/
def fnExactWeekdayOfWrong : ChangeSpec := { name := "fnExactWeekdayOf", fn := fun _ => fun
  | [d] => { results := [.lit (.bool false)], args := [d] }
  | _ => none }
def FnExactWeekdayOfWrongFalsely : Prop := fnExactWeekdayOfRow.holds Try.pinned (OpenSpec.ofChange fnExactWeekdayOfWrong)

/-- 'laws.FnExactNextBusinessDay': WHATEVER THE INPUT: true; the input reads as it did. -/
def fnExactNextBusinessDaySpec : ChangeSpec := { name := "fnExactNextBusinessDay", fn := fun _ => fun
  | [d1, d2] => { results := [.lit (.bool true)], args := [d1, d2] }
  | _ => none }
def fnExactNextBusinessDayRow : OpenClaim := { program := "ytpnkjpfhmiaffaa", sum := "66bb1dd92d1cae3c1c5ebc5f5fb249dbf2c9b209443834dd72f38f3fae17192a", func := "loop.example/g01010/laws.FnExactNextBusinessDay", spec := "fnExactNextBusinessDay", apart := false }
def FnExactNextBusinessDaySaid : Prop := fnExactNextBusinessDayRow.holds Try.pinned (OpenSpec.ofChange fnExactNextBusinessDaySpec)

/-- ITS FALSE NEIGHBOUR: 'it returns false'. Refute it at one input. -/
def fnExactNextBusinessDayWrong : ChangeSpec := { name := "fnExactNextBusinessDay", fn := fun _ => fun
  | [d1, d2] => { results := [.lit (.bool false)], args := [d1, d2] }
  | _ => none }
def FnExactNextBusinessDayWrongFalsely : Prop := fnExactNextBusinessDayRow.holds Try.pinned (OpenSpec.ofChange fnExactNextBusinessDayWrong)

/-- 'laws.FnExactAddMonths': WHATEVER THE INPUT: true; the input reads as it did. -/
def fnExactAddMonthsSpec : ChangeSpec := { name := "fnExactAddMonths", fn := fun _ => fun
  | [d1, d2] => { results := [.lit (.bool true)], args := [d1, d2] }
  | _ => none }
def fnExactAddMonthsRow : OpenClaim := { program := "ytpnkjpfhmiaffaa", sum := "66bb1dd92d1cae3c1c5ebc5f5fb249dbf2c9b209443834dd72f38f3fae17192a", func := "loop.example/g01010/laws.FnExactAddMonths", spec := "fnExactAddMonths", apart := false }
def FnExactAddMonthsSaid : Prop := fnExactAddMonthsRow.holds Try.pinned (OpenSpec.ofChange fnExactAddMonthsSpec)

/-- ITS FALSE NEIGHBOUR: 'it returns false'. Refute it at one input. -/
def fnExactAddMonthsWrong : ChangeSpec := { name := "fnExactAddMonths", fn := fun _ => fun
  | [d1, d2] => { results := [.lit (.bool false)], args := [d1, d2] }
  | _ => none }
def FnExactAddMonthsWrongFalsely : Prop := fnExactAddMonthsRow.holds Try.pinned (OpenSpec.ofChange fnExactAddMonthsWrong)

/- THE SECOND FORM. 'bulk': how many values and letters a reading holds, each counted each time it is reached (what is shared counts as often as it is met; a slice's spare places count too). A statement '..UptoSaid' is the law's where the arguments, and the package variables that the reading takes, are together of bulk at most 1048576: NARROWER than '..Said'. Prove '..Said' where nothing that the law and all that it calls make is longer than what came in: it says more and counts as full. Else prove '..UptoSaid'. A law counts once. -/
mutual
def uptoBulk {H : Type} : DataW H → Nat
  | .lit (.string bytes) => bytes.length + 1
  | .lit _ => 1
  | .nil => 1
  | .ptr d => uptoBulk d + 1
  | .slice elems spare => uptoBulkAll elems + uptoBulkAll spare + 1
  | .agg parts => uptoBulkAll parts + 1
  | .iface _ d => uptoBulk d + 1
  | .map entries => uptoBulkEntries entries + 1
  | .held _ => 1
def uptoBulkAll {H : Type} : List (DataW H) → Nat
  | [] => 0
  | d :: r => uptoBulk d + uptoBulkAll r
def uptoBulkEntries {H : Type} : List (Lit × DataW H) → Nat
  | [] => 0
  | x :: r => uptoBulkEntry x + uptoBulkEntries r
def uptoBulkEntry {H : Type} : Lit × DataW H → Nat
  | (.string bytes, d) => bytes.length + uptoBulk d + 1
  | (_, d) => uptoBulk d + 1
 end
def uptoSmall : (H : Type) → List (DataW H) → Bool := fun _ ds => decide (uptoBulkAll ds ≤ 1048576)
def OpenSpec.upto (s : _root_.Go.ChangeSpec) : _root_.Go.OpenSpec := { _root_.Go.OpenSpec.ofChange s with cond := some uptoSmall }

/-- 'laws.FnDays', WHERE WHAT IT READS IS OF BULK AT MOST 1048576: true; the input reads as it did. -/
def fnDaysUptoRow : OpenClaim := { program := "ytpnkjpfhmiaffaa", sum := "66bb1dd92d1cae3c1c5ebc5f5fb249dbf2c9b209443834dd72f38f3fae17192a", func := "loop.example/g01010/laws.FnDays", spec := "fnDays", apart := false, narrowed := true }
def FnDaysUptoSaid : Prop := fnDaysUptoRow.holds Try.pinned (OpenSpec.upto fnDaysSpec)

/-- 'laws.FnExactIsDate', WHERE WHAT IT READS IS OF BULK AT MOST 1048576: true; the input reads as it did. -/
def fnExactIsDateUptoRow : OpenClaim := { program := "ytpnkjpfhmiaffaa", sum := "66bb1dd92d1cae3c1c5ebc5f5fb249dbf2c9b209443834dd72f38f3fae17192a", func := "loop.example/g01010/laws.FnExactIsDate", spec := "fnExactIsDate", apart := false, narrowed := true }
def FnExactIsDateUptoSaid : Prop := fnExactIsDateUptoRow.holds Try.pinned (OpenSpec.upto fnExactIsDateSpec)

/-- 'laws.FnExactDayOf', WHERE WHAT IT READS IS OF BULK AT MOST 1048576: true; the input reads as it did. -/
def fnExactDayOfUptoRow : OpenClaim := { program := "ytpnkjpfhmiaffaa", sum := "66bb1dd92d1cae3c1c5ebc5f5fb249dbf2c9b209443834dd72f38f3fae17192a", func := "loop.example/g01010/laws.FnExactDayOf", spec := "fnExactDayOf", apart := false, narrowed := true }
def FnExactDayOfUptoSaid : Prop := fnExactDayOfUptoRow.holds Try.pinned (OpenSpec.upto fnExactDayOfSpec)

/-- 'laws.FnExactDateOf', WHERE WHAT IT READS IS OF BULK AT MOST 1048576: true; the input reads as it did. -/
def fnExactDateOfUptoRow : OpenClaim := { program := "ytpnkjpfhmiaffaa", sum := "66bb1dd92d1cae3c1c5ebc5f5fb249dbf2c9b209443834dd72f38f3fae17192a", func := "loop.example/g01010/laws.FnExactDateOf", spec := "fnExactDateOf", apart := false, narrowed := true }
def FnExactDateOfUptoSaid : Prop := fnExactDateOfUptoRow.holds Try.pinned (OpenSpec.upto fnExactDateOfSpec)

/-- 'laws.FnExactWeekdayOf', WHERE WHAT IT READS IS OF BULK AT MOST 1048576: true; the input reads as it did. -/
def fnExactWeekdayOfUptoRow : OpenClaim := { program := "ytpnkjpfhmiaffaa", sum := "66bb1dd92d1cae3c1c5ebc5f5fb249dbf2c9b209443834dd72f38f3fae17192a", func := "loop.example/g01010/laws.FnExactWeekdayOf", spec := "fnExactWeekdayOf", apart := false, narrowed := true }
def FnExactWeekdayOfUptoSaid : Prop := fnExactWeekdayOfUptoRow.holds Try.pinned (OpenSpec.upto fnExactWeekdayOfSpec)

/-- 'laws.FnExactNextBusinessDay', WHERE WHAT IT READS IS OF BULK AT MOST 1048576: true; the input reads as it did. -/
def fnExactNextBusinessDayUptoRow : OpenClaim := { program := "ytpnkjpfhmiaffaa", sum := "66bb1dd92d1cae3c1c5ebc5f5fb249dbf2c9b209443834dd72f38f3fae17192a", func := "loop.example/g01010/laws.FnExactNextBusinessDay", spec := "fnExactNextBusinessDay", apart := false, narrowed := true }
def FnExactNextBusinessDayUptoSaid : Prop := fnExactNextBusinessDayUptoRow.holds Try.pinned (OpenSpec.upto fnExactNextBusinessDaySpec)

/-- 'laws.FnExactAddMonths', WHERE WHAT IT READS IS OF BULK AT MOST 1048576: true; the input reads as it did. -/
def fnExactAddMonthsUptoRow : OpenClaim := { program := "ytpnkjpfhmiaffaa", sum := "66bb1dd92d1cae3c1c5ebc5f5fb249dbf2c9b209443834dd72f38f3fae17192a", func := "loop.example/g01010/laws.FnExactAddMonths", spec := "fnExactAddMonths", apart := false, narrowed := true }
def FnExactAddMonthsUptoSaid : Prop := fnExactAddMonthsUptoRow.holds Try.pinned (OpenSpec.upto fnExactAddMonthsSpec)

end Rows
end Go.Proofs.Ytpnkjpfhmiaffaa
