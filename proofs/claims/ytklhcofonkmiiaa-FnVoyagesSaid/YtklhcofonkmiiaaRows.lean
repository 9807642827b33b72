/-
  No cell of these rows narrows 'for every input' (looked for: loops, veiled, ifaces, maps, wideKeys, modest, calm, conditions, laid).
  DERIVED. THE GIVEN ROWS OF THIS SEAT. 8 by the template 'for every input the law returns true; each argument reads behind the call as it read before'; 0 by the template 'total and deterministic' (their statements: YtklhcofonkmiiaaTotals.lean).
  GIVEN WITH THE SEED: the statements are not yours to turn. If you find one false, say at which input.
  Laid BY PROGRAM, IN A SANDBOX (cutbox-rows.mjs): the forced cells as the released guide's own fill.sh prints them over the translation da29e975c5e6ec84… (all of the seat's roots in one cut). By AI agents, Wed Nov 11 2026. No macro, syntax, notation, axiom, sorry.
-/
import Derived.Test.YtklhcofonkmiiaaChecked
import GoSem.Claim
import GoSem.ClaimJoined
import GoSem.ClaimMapViews
import Derived.JoinedTies
import Derived.KernelRfl
namespace Go.Proofs.Ytklhcofonkmiiaa
/- THE CELL 'sum', in the pinned program and in every row, IS THE sha256 OF THE DUMP (.gsa) THAT YtklhcofonkmiiaaProg.lean LOADS. Nothing in Lean hashes anything: it is a label: what it is worth is what the hold of that sum in a sandbox is worth. -/
noncomputable def Try.pinned : Pinned := { name := "ytklhcofonkmiiaa", sum := "da29e975c5e6ec846a4990ca7ed8fd8115a6f5f22cea0e50bcdc3296d37b778d", checked := Try.checked }
namespace Rows
def none {H : Type} : Left H := { results := [], args := [] }

/-- 'laws.FnVoyages': WHATEVER THE INPUT: true; the input reads as it did. -/
def fnVoyagesSpec : ChangeSpec := { name := "fnVoyages", fn := fun _ => fun
  | [d] => { results := [.lit (.bool true)], args := [d] }
  | _ => none }
def fnVoyagesRow : OpenClaim := { program := "ytklhcofonkmiiaa", sum := "da29e975c5e6ec846a4990ca7ed8fd8115a6f5f22cea0e50bcdc3296d37b778d", func := "loop.example/g01010/laws.FnVoyages", spec := "fnVoyages", unfollowed := true, recurses := true, apart := false }
def FnVoyagesSaid : Prop := fnVoyagesRow.holds Try.pinned (OpenSpec.ofChange fnVoyagesSpec)

/-- ITS FALSE NEIGHBOUR: 'it returns false'. Refute it at one input. -/
def fnVoyagesWrong : ChangeSpec := { name := "fnVoyages", fn := fun _ => fun
  | [d] => { results := [.lit (.bool false)], args := [d] }
  | _ => none }
def FnVoyagesWrongFalsely : Prop := fnVoyagesRow.holds Try.pinned (OpenSpec.ofChange fnVoyagesWrong)

/-- 'laws.FnExactIsVoyage': WHATEVER THE INPUT: true; the input reads as it did. -/
def fnExactIsVoyageSpec : ChangeSpec := { name := "fnExactIsVoyage", fn := fun _ => fun
  | [d] => { results := [.lit (.bool true)], args := [d] }
  | _ => none }
def fnExactIsVoyageRow : OpenClaim := { program := "ytklhcofonkmiiaa", sum := "da29e975c5e6ec846a4990ca7ed8fd8115a6f5f22cea0e50bcdc3296d37b778d", func := "loop.example/g01010/laws.FnExactIsVoyage", spec := "fnExactIsVoyage", apart := false }
def FnExactIsVoyageSaid : Prop := fnExactIsVoyageRow.holds Try.pinned (OpenSpec.ofChange fnExactIsVoyageSpec)

/-- ITS FALSE NEIGHBOUR: 'it returns false'. Refute it at one input. -/
def fnExactIsVoyageWrong : ChangeSpec := { name := "fnExactIsVoyage", fn := fun _ => fun
  | [d] => { results := [.lit (.bool false)], args := [d] }
  | _ => none }
def FnExactIsVoyageWrongFalsely : Prop := fnExactIsVoyageRow.holds Try.pinned (OpenSpec.ofChange fnExactIsVoyageWrong)

/-- 'laws.FnExactPortOn': WHATEVER THE INPUT: true; the input reads as it did. -/
def fnExactPortOnSpec : ChangeSpec := { name := "fnExactPortOn", fn := fun _ => fun
  | [d1, d2] => { results := [.lit (.bool true)], args := [d1, d2] }
  | _ => none }
def fnExactPortOnRow : OpenClaim := { program := "ytklhcofonkmiiaa", sum := "da29e975c5e6ec846a4990ca7ed8fd8115a6f5f22cea0e50bcdc3296d37b778d", func := "loop.example/g01010/laws.FnExactPortOn", spec := "fnExactPortOn", unfollowed := true, recurses := true, apart := false }
def FnExactPortOnSaid : Prop := fnExactPortOnRow.holds Try.pinned (OpenSpec.ofChange fnExactPortOnSpec)

/-- ITS FALSE NEIGHBOUR: 'it returns false'. Refute it at one input. -/
def fnExactPortOnWrong : ChangeSpec := { name := "fnExactPortOn", fn := fun _ => fun
  | [d1, d2] => { results := [.lit (.bool false)], args := [d1, d2] }
  | _ => none }
def FnExactPortOnWrongFalsely : Prop := fnExactPortOnRow.holds Try.pinned (OpenSpec.ofChange fnExactPortOnWrong)

/-- 'laws.FnExactLegOn': WHATEVER THE INPUT: true; the input reads as it did. -/
def fnExactLegOnSpec : ChangeSpec := { name := "fnExactLegOn", fn := fun _ => fun
  | [d1, d2] => { results := [.lit (.bool true)], args := [d1, d2] }
  | _ => none }
def fnExactLegOnRow : OpenClaim := { program := "ytklhcofonkmiiaa", sum := "da29e975c5e6ec846a4990ca7ed8fd8115a6f5f22cea0e50bcdc3296d37b778d", func := "loop.example/g01010/laws.FnExactLegOn", spec := "fnExactLegOn", unfollowed := true, recurses := true, apart := false }
def FnExactLegOnSaid : Prop := fnExactLegOnRow.holds Try.pinned (OpenSpec.ofChange fnExactLegOnSpec)

/-- ITS FALSE NEIGHBOUR: 'it returns false'. Refute it at one input. -/
def fnExactLegOnWrong : ChangeSpec := { name := "fnExactLegOn", fn := fun _ => fun
  | [d1, d2] => { results := [.lit (.bool false)], args := [d1, d2] }
  | _ => none }
def FnExactLegOnWrongFalsely : Prop := fnExactLegOnRow.holds Try.pinned (OpenSpec.ofChange fnExactLegOnWrong)

/-- 'laws.FnExactDaysAtSea': WHATEVER THE INPUT: true; the input reads as it did. -/
def fnExactDaysAtSeaSpec : ChangeSpec := { name := "fnExactDaysAtSea", fn := fun _ => fun
  | [d1, d2, d3] => { results := [.lit (.bool true)], args := [d1, d2, d3] }
  | _ => none }
def fnExactDaysAtSeaRow : OpenClaim := { program := "ytklhcofonkmiiaa", sum := "da29e975c5e6ec846a4990ca7ed8fd8115a6f5f22cea0e50bcdc3296d37b778d", func := "loop.example/g01010/laws.FnExactDaysAtSea", spec := "fnExactDaysAtSea", apart := false }
def FnExactDaysAtSeaSaid : Prop := fnExactDaysAtSeaRow.holds Try.pinned (OpenSpec.ofChange fnExactDaysAtSeaSpec)

/-- ITS FALSE NEIGHBOUR: 'it returns false'. Refute it at one input. -/
def fnExactDaysAtSeaWrong : ChangeSpec := { name := "fnExactDaysAtSea", fn := fun _ => fun
  | [d1, d2, d3] => { results := [.lit (.bool false)], args := [d1, d2, d3] }
  | _ => none }
def FnExactDaysAtSeaWrongFalsely : Prop := fnExactDaysAtSeaRow.holds Try.pinned (OpenSpec.ofChange fnExactDaysAtSeaWrong)

/-- 'laws.FnExactInsertRefuge': WHATEVER THE INPUT: true; the input reads as it did. -/
def fnExactInsertRefugeSpec : ChangeSpec := { name := "fnExactInsertRefuge", fn := fun _ => fun
  | [d1, d2] => { results := [.lit (.bool true)], args := [d1, d2] }
  | _ => none }
def fnExactInsertRefugeRow : OpenClaim := { program := "ytklhcofonkmiiaa", sum := "da29e975c5e6ec846a4990ca7ed8fd8115a6f5f22cea0e50bcdc3296d37b778d", func := "loop.example/g01010/laws.FnExactInsertRefuge", spec := "fnExactInsertRefuge", unfollowed := true, recurses := true, apart := false }
def FnExactInsertRefugeSaid : Prop := fnExactInsertRefugeRow.holds Try.pinned (OpenSpec.ofChange fnExactInsertRefugeSpec)

/-- ITS FALSE NEIGHBOUR: 'it returns false'. Refute it at one input. -/
def fnExactInsertRefugeWrong : ChangeSpec := { name := "fnExactInsertRefuge", fn := fun _ => fun
  | [d1, d2] => { results := [.lit (.bool false)], args := [d1, d2] }
  | _ => none }
def FnExactInsertRefugeWrongFalsely : Prop := fnExactInsertRefugeRow.holds Try.pinned (OpenSpec.ofChange fnExactInsertRefugeWrong)

/-- 'laws.FnExactDelayBy': WHATEVER THE INPUT: true; the input reads as it did. -/
def fnExactDelayBySpec : ChangeSpec := { name := "fnExactDelayBy", fn := fun _ => fun
  | [d1, d2, d3] => { results := [.lit (.bool true)], args := [d1, d2, d3] }
  | _ => none }
def fnExactDelayByRow : OpenClaim := { program := "ytklhcofonkmiiaa", sum := "da29e975c5e6ec846a4990ca7ed8fd8115a6f5f22cea0e50bcdc3296d37b778d", func := "loop.example/g01010/laws.FnExactDelayBy", spec := "fnExactDelayBy", apart := false }
def FnExactDelayBySaid : Prop := fnExactDelayByRow.holds Try.pinned (OpenSpec.ofChange fnExactDelayBySpec)

/-- ITS FALSE NEIGHBOUR: 'it returns false'. Refute it at one input. -/
def fnExactDelayByWrong : ChangeSpec := { name := "fnExactDelayBy", fn := fun _ => fun
  | [d1, d2, d3] => { results := [.lit (.bool false)], args := [d1, d2, d3] }
  | _ => none }
def FnExactDelayByWrongFalsely : Prop := fnExactDelayByRow.holds Try.pinned (OpenSpec.ofChange fnExactDelayByWrong)

/-- 'laws.FnExactLastDay': WHATEVER THE INPUT: true; the input reads as it did. -/
def fnExactLastDaySpec : ChangeSpec := { name := "fnExactLastDay", fn := fun _ => fun
  | [d] => { results := [.lit (.bool true)], args := [d] }
  | _ => none }
def fnExactLastDayRow : OpenClaim := { program := "ytklhcofonkmiiaa", sum := "da29e975c5e6ec846a4990ca7ed8fd8115a6f5f22cea0e50bcdc3296d37b778d", func := "loop.example/g01010/laws.FnExactLastDay", spec := "fnExactLastDay", apart := false }
def FnExactLastDaySaid : Prop := fnExactLastDayRow.holds Try.pinned (OpenSpec.ofChange fnExactLastDaySpec)

/-- ITS FALSE NEIGHBOUR: 'it returns false'. Refute it at one input. -/
def fnExactLastDayWrong : ChangeSpec := { name := "fnExactLastDay", fn := fun _ => fun
  | [d] => { results := [.lit (.bool false)], args := [d] }
  | _ => none }
def FnExactLastDayWrongFalsely : Prop := fnExactLastDayRow.holds Try.pinned (OpenSpec.ofChange fnExactLastDayWrong)

/- THE SECOND FORM. 'bulk': how many values and letters a reading holds, each counted each time it is reached (what is shared counts as often as it is met; a slice's spare places count too). A statement '..UptoSaid' is the law's where the arguments, and the package variables that the reading takes, are together of bulk at most 1048576: NARROWER than '..Said'. Prove '..Said' where nothing that the law and all that it calls make is longer than what came in: it says more and counts as full. Else prove '..UptoSaid'. A law counts once. -/
mutual
def uptoBulk {H : Type} : DataW H → Nat
  | .lit (.string bytes) => bytes.length + 1
  | .lit _ => 1
  | .nil => 1
  | .ptr d => uptoBulk d + 1
  | .slice elems spare => uptoBulkAll elems + uptoBulkAll spare + 1
  | .agg parts => uptoBulkAll parts + 1
  | .iface _ d => uptoBulk d + 1
  | .map entries => uptoBulkEntries entries + 1
  | .held _ => 1
def uptoBulkAll {H : Type} : List (DataW H) → Nat
  | [] => 0
  | d :: r => uptoBulk d + uptoBulkAll r
def uptoBulkEntries {H : Type} : List (Lit × DataW H) → Nat
  | [] => 0
  | x :: r => uptoBulkEntry x + uptoBulkEntries r
def uptoBulkEntry {H : Type} : Lit × DataW H → Nat
  | (.string bytes, d) => bytes.length + uptoBulk d + 1
  | (_, d) => uptoBulk d + 1
 end
def uptoSmall : (H : Type) → List (DataW H) → Bool := fun _ ds => decide (uptoBulkAll ds ≤ 1048576)
def OpenSpec.upto (s : _root_.Go.ChangeSpec) : _root_.Go.OpenSpec := { _root_.Go.OpenSpec.ofChange s with cond := some uptoSmall }

/-- 'laws.FnVoyages', WHERE WHAT IT READS IS OF BULK AT MOST 1048576: true; the input reads as it did. -/
def fnVoyagesUptoRow : OpenClaim := { program := "ytklhcofonkmiiaa", sum := "da29e975c5e6ec846a4990ca7ed8fd8115a6f5f22cea0e50bcdc3296d37b778d", func := "loop.example/g01010/laws.FnVoyages", spec := "fnVoyages", unfollowed := true, recurses := true, apart := false, narrowed := true }
def FnVoyagesUptoSaid : Prop := fnVoyagesUptoRow.holds Try.pinned (OpenSpec.upto fnVoyagesSpec)

/-- 'laws.FnExactIsVoyage', WHERE WHAT IT READS IS OF BULK AT MOST 1048576: true; the input reads as it did. -/
def fnExactIsVoyageUptoRow : OpenClaim := { program := "ytklhcofonkmiiaa", sum := "da29e975c5e6ec846a4990ca7ed8fd8115a6f5f22cea0e50bcdc3296d37b778d", func := "loop.example/g01010/laws.FnExactIsVoyage", spec := "fnExactIsVoyage", apart := false, narrowed := true }
def FnExactIsVoyageUptoSaid : Prop := fnExactIsVoyageUptoRow.holds Try.pinned (OpenSpec.upto fnExactIsVoyageSpec)

/-- 'laws.FnExactPortOn', WHERE WHAT IT READS IS OF BULK AT MOST 1048576: true; the input reads as it did. -/
def fnExactPortOnUptoRow : OpenClaim := { program := "ytklhcofonkmiiaa", sum := "da29e975c5e6ec846a4990ca7ed8fd8115a6f5f22cea0e50bcdc3296d37b778d", func := "loop.example/g01010/laws.FnExactPortOn", spec := "fnExactPortOn", unfollowed := true, recurses := true, apart := false, narrowed := true }
def FnExactPortOnUptoSaid : Prop := fnExactPortOnUptoRow.holds Try.pinned (OpenSpec.upto fnExactPortOnSpec)

/-- 'laws.FnExactLegOn', WHERE WHAT IT READS IS OF BULK AT MOST 1048576: true; the input reads as it did. -/
def fnExactLegOnUptoRow : OpenClaim := { program := "ytklhcofonkmiiaa", sum := "da29e975c5e6ec846a4990ca7ed8fd8115a6f5f22cea0e50bcdc3296d37b778d", func := "loop.example/g01010/laws.FnExactLegOn", spec := "fnExactLegOn", unfollowed := true, recurses := true, apart := false, narrowed := true }
def FnExactLegOnUptoSaid : Prop := fnExactLegOnUptoRow.holds Try.pinned (OpenSpec.upto fnExactLegOnSpec)

/-- 'laws.FnExactDaysAtSea', WHERE WHAT IT READS IS OF BULK AT MOST 1048576: true; the input reads as it did. -/
def fnExactDaysAtSeaUptoRow : OpenClaim := { program := "ytklhcofonkmiiaa", sum := "da29e975c5e6ec846a4990ca7ed8fd8115a6f5f22cea0e50bcdc3296d37b778d", func := "loop.example/g01010/laws.FnExactDaysAtSea", spec := "fnExactDaysAtSea", apart := false, narrowed := true }
def FnExactDaysAtSeaUptoSaid : Prop := fnExactDaysAtSeaUptoRow.holds Try.pinned (OpenSpec.upto fnExactDaysAtSeaSpec)

/-- 'laws.FnExactInsertRefuge', WHERE WHAT IT READS IS OF BULK AT MOST 1048576: true; the input reads as it did. -/
def fnExactInsertRefugeUptoRow : OpenClaim := { program := "ytklhcofonkmiiaa", sum := "da29e975c5e6ec846a4990ca7ed8fd8115a6f5f22cea0e50bcdc3296d37b778d", func := "loop.example/g01010/laws.FnExactInsertRefuge", spec := "fnExactInsertRefuge", unfollowed := true, recurses := true, apart := false, narrowed := true }
def FnExactInsertRefugeUptoSaid : Prop := fnExactInsertRefugeUptoRow.holds Try.pinned (OpenSpec.upto fnExactInsertRefugeSpec)

/-- 'laws.FnExactDelayBy', WHERE WHAT IT READS IS OF BULK AT MOST 1048576: true; the input reads as it did. -/
def fnExactDelayByUptoRow : OpenClaim := { program := "ytklhcofonkmiiaa", sum := "da29e975c5e6ec846a4990ca7ed8fd8115a6f5f22cea0e50bcdc3296d37b778d", func := "loop.example/g01010/laws.FnExactDelayBy", spec := "fnExactDelayBy", apart := false, narrowed := true }
def FnExactDelayByUptoSaid : Prop := fnExactDelayByUptoRow.holds Try.pinned (OpenSpec.upto fnExactDelayBySpec)

/-- 'laws.FnExactLastDay', WHERE WHAT IT READS IS OF BULK AT MOST 1048576: true; the input reads as it did. -/
def fnExactLastDayUptoRow : OpenClaim := { program := "ytklhcofonkmiiaa", sum := "da29e975c5e6ec846a4990ca7ed8fd8115a6f5f22cea0e50bcdc3296d37b778d", func := "loop.example/g01010/laws.FnExactLastDay", spec := "fnExactLastDay", apart := false, narrowed := true }
def FnExactLastDayUptoSaid : Prop := fnExactLastDayUptoRow.holds Try.pinned (OpenSpec.upto fnExactLastDaySpec)

end Rows
end Go.Proofs.Ytklhcofonkmiiaa
