/-
  No cell of these rows narrows 'for every input' (looked for: loops, veiled, ifaces, maps, wideKeys, modest, calm, conditions, laid).
  DERIVED. THE GIVEN ROWS OF THIS SEAT. 8 by the template 'for every input the law returns true; each argument reads behind the call as it read before'; 0 by the template 'total and deterministic' (their statements: YthainomgmgaikaaTotals.lean).
  GIVEN WITH THE SEED: the statements are not yours to turn. If you find one false, say at which input.
  Laid BY PROGRAM, IN A SANDBOX (cutbox-rows.mjs): the forced cells as the released guide's own fill.sh prints them over the translation 88c3712816ffd6f0… (all of the seat's roots in one cut). By AI agents, Wed Nov 11 2026. No macro, syntax, notation, axiom, sorry.
-/
import Derived.Test.YthainomgmgaikaaChecked
import GoSem.Claim
import GoSem.ClaimJoined
import GoSem.ClaimMapViews
import Derived.JoinedTies
import Derived.KernelRfl
namespace Go.Proofs.Ythainomgmgaikaa
/- THE CELL 'sum', in the pinned program and in every row, IS THE sha256 OF THE DUMP (.gsa) THAT YthainomgmgaikaaProg.lean LOADS. Nothing in Lean hashes anything: it is a label: what it is worth is what the hold of that sum in a sandbox is worth. -/
noncomputable def Try.pinned : Pinned := { name := "ythainomgmgaikaa", sum := "88c3712816ffd6f093946410a5867d76e827477dc316ccd30029cd211896ce42", checked := Try.checked }
namespace Rows
def none {H : Type} : Left H := { results := [], args := [] }

/-- 'laws.FnManifests': WHATEVER THE INPUT: true; the input reads as it did. -/
def fnManifestsSpec : ChangeSpec := { name := "fnManifests", fn := fun _ => fun
  | [d] => { results := [.lit (.bool true)], args := [d] }
  | _ => none }
def fnManifestsRow : OpenClaim := { program := "ythainomgmgaikaa", sum := "88c3712816ffd6f093946410a5867d76e827477dc316ccd30029cd211896ce42", func := "loop.example/g01010/laws.FnManifests", spec := "fnManifests", inPlace := ["slices.overlaps[loop.example/g01010/impl.Interest]"], unfollowed := true, recurses := true, apart := false }
def FnManifestsSaid : Prop := fnManifestsRow.holds Try.pinned (OpenSpec.ofChange fnManifestsSpec)

/-- ITS FALSE NEIGHBOUR: 'it returns false'. Refute it at one input. -/
def fnManifestsWrong : ChangeSpec := { name := "fnManifests", fn := fun _ => fun
  | [d] => { results := [.lit (.bool false)], args := [d] }
  | _ => none }
def FnManifestsWrongFalsely : Prop := fnManifestsRow.holds Try.pinned (OpenSpec.ofChange fnManifestsWrong)

/-- 'laws.FnExactIsInterest': WHATEVER THE INPUT: true; the input reads as it did. -/
def fnExactIsInterestSpec : ChangeSpec := { name := "fnExactIsInterest", fn := fun _ => fun
  | [d] => { results := [.lit (.bool true)], args := [d] }
  | _ => none }
def fnExactIsInterestRow : OpenClaim := { program := "ythainomgmgaikaa", sum := "88c3712816ffd6f093946410a5867d76e827477dc316ccd30029cd211896ce42", func := "loop.example/g01010/laws.FnExactIsInterest", spec := "fnExactIsInterest", apart := false }
def FnExactIsInterestSaid : Prop := fnExactIsInterestRow.holds Try.pinned (OpenSpec.ofChange fnExactIsInterestSpec)

/-- ITS FALSE NEIGHBOUR: 'it returns false'. Refute it at one input. -/
def fnExactIsInterestWrong : ChangeSpec := { name := "fnExactIsInterest", fn := fun _ => fun
  | [d] => { results := [.lit (.bool false)], args := [d] }
  | _ => none }
def FnExactIsInterestWrongFalsely : Prop := fnExactIsInterestRow.holds Try.pinned (OpenSpec.ofChange fnExactIsInterestWrong)

/-- 'laws.FnExactIsManifest': WHATEVER THE INPUT: true; the input reads as it did. -/
def fnExactIsManifestSpec : ChangeSpec := { name := "fnExactIsManifest", fn := fun _ => fun
  | [d] => { results := [.lit (.bool true)], args := [d] }
  | _ => none }
def fnExactIsManifestRow : OpenClaim := { program := "ythainomgmgaikaa", sum := "88c3712816ffd6f093946410a5867d76e827477dc316ccd30029cd211896ce42", func := "loop.example/g01010/laws.FnExactIsManifest", spec := "fnExactIsManifest", apart := false }
def FnExactIsManifestSaid : Prop := fnExactIsManifestRow.holds Try.pinned (OpenSpec.ofChange fnExactIsManifestSpec)

/-- ITS FALSE NEIGHBOUR: 'it returns false'. Refute it at one input. -/
def fnExactIsManifestWrong : ChangeSpec := { name := "fnExactIsManifest", fn := fun _ => fun
  | [d] => { results := [.lit (.bool false)], args := [d] }
  | _ => none }
def FnExactIsManifestWrongFalsely : Prop := fnExactIsManifestRow.holds Try.pinned (OpenSpec.ofChange fnExactIsManifestWrong)

/-- 'laws.FnExactFindInterest': WHATEVER THE INPUT: true; the input reads as it did. -/
def fnExactFindInterestSpec : ChangeSpec := { name := "fnExactFindInterest", fn := fun _ => fun
  | [d1, d2] => { results := [.lit (.bool true)], args := [d1, d2] }
  | _ => none }
def fnExactFindInterestRow : OpenClaim := { program := "ythainomgmgaikaa", sum := "88c3712816ffd6f093946410a5867d76e827477dc316ccd30029cd211896ce42", func := "loop.example/g01010/laws.FnExactFindInterest", spec := "fnExactFindInterest", unfollowed := true, recurses := true, apart := false }
def FnExactFindInterestSaid : Prop := fnExactFindInterestRow.holds Try.pinned (OpenSpec.ofChange fnExactFindInterestSpec)

/-- ITS FALSE NEIGHBOUR: 'it returns false'. Refute it at one input. -/
def fnExactFindInterestWrong : ChangeSpec := { name := "fnExactFindInterest", fn := fun _ => fun
  | [d1, d2] => { results := [.lit (.bool false)], args := [d1, d2] }
  | _ => none }
def FnExactFindInterestWrongFalsely : Prop := fnExactFindInterestRow.holds Try.pinned (OpenSpec.ofChange fnExactFindInterestWrong)

/-- 'laws.FnExactTotalValue': WHATEVER THE INPUT: true; the input reads as it did. -/
def fnExactTotalValueSpec : ChangeSpec := { name := "fnExactTotalValue", fn := fun _ => fun
  | [d] => { results := [.lit (.bool true)], args := [d] }
  | _ => none }
def fnExactTotalValueRow : OpenClaim := { program := "ythainomgmgaikaa", sum := "88c3712816ffd6f093946410a5867d76e827477dc316ccd30029cd211896ce42", func := "loop.example/g01010/laws.FnExactTotalValue", spec := "fnExactTotalValue", apart := false }
def FnExactTotalValueSaid : Prop := fnExactTotalValueRow.holds Try.pinned (OpenSpec.ofChange fnExactTotalValueSpec)

/-- ITS FALSE NEIGHBOUR: 'it returns false'. Refute it at one input. -/
def fnExactTotalValueWrong : ChangeSpec := { name := "fnExactTotalValue", fn := fun _ => fun
  | [d] => { results := [.lit (.bool false)], args := [d] }
  | _ => none }
def FnExactTotalValueWrongFalsely : Prop := fnExactTotalValueRow.holds Try.pinned (OpenSpec.ofChange fnExactTotalValueWrong)

/-- 'laws.FnExactOwnersOf': WHATEVER THE INPUT: true; the input reads as it did. -/
def fnExactOwnersOfSpec : ChangeSpec := { name := "fnExactOwnersOf", fn := fun _ => fun
  | [d] => { results := [.lit (.bool true)], args := [d] }
  | _ => none }
def fnExactOwnersOfRow : OpenClaim := { program := "ythainomgmgaikaa", sum := "88c3712816ffd6f093946410a5867d76e827477dc316ccd30029cd211896ce42", func := "loop.example/g01010/laws.FnExactOwnersOf", spec := "fnExactOwnersOf", recurses := true, apart := false }
def FnExactOwnersOfSaid : Prop := fnExactOwnersOfRow.holds Try.pinned (OpenSpec.ofChange fnExactOwnersOfSpec)

/-- ITS FALSE NEIGHBOUR: 'it returns false'. Refute it at one input. -/
def fnExactOwnersOfWrong : ChangeSpec := { name := "fnExactOwnersOf", fn := fun _ => fun
  | [d] => { results := [.lit (.bool false)], args := [d] }
  | _ => none }
def FnExactOwnersOfWrongFalsely : Prop := fnExactOwnersOfRow.holds Try.pinned (OpenSpec.ofChange fnExactOwnersOfWrong)

/-- 'laws.FnExactCodesOf': WHATEVER THE INPUT: true; the input reads as it did. -/
def fnExactCodesOfSpec : ChangeSpec := { name := "fnExactCodesOf", fn := fun _ => fun
  | [d1, d2] => { results := [.lit (.bool true)], args := [d1, d2] }
  | _ => none }
def fnExactCodesOfRow : OpenClaim := { program := "ythainomgmgaikaa", sum := "88c3712816ffd6f093946410a5867d76e827477dc316ccd30029cd211896ce42", func := "loop.example/g01010/laws.FnExactCodesOf", spec := "fnExactCodesOf", apart := false }
def FnExactCodesOfSaid : Prop := fnExactCodesOfRow.holds Try.pinned (OpenSpec.ofChange fnExactCodesOfSpec)

/-- ITS FALSE NEIGHBOUR: 'it returns false'. Refute it at one input. -/
def fnExactCodesOfWrong : ChangeSpec := { name := "fnExactCodesOf", fn := fun _ => fun
  | [d1, d2] => { results := [.lit (.bool false)], args := [d1, d2] }
  | _ => none }
def FnExactCodesOfWrongFalsely : Prop := fnExactCodesOfRow.holds Try.pinned (OpenSpec.ofChange fnExactCodesOfWrong)

/-- 'laws.FnExactSplitParcel': WHATEVER THE INPUT: true; the input reads as it did. -/
def fnExactSplitParcelSpec : ChangeSpec := { name := "fnExactSplitParcel", fn := fun _ => fun
  | [d1, d2, d3, d4] => { results := [.lit (.bool true)], args := [d1, d2, d3, d4] }
  | _ => none }
def fnExactSplitParcelRow : OpenClaim := { program := "ythainomgmgaikaa", sum := "88c3712816ffd6f093946410a5867d76e827477dc316ccd30029cd211896ce42", func := "loop.example/g01010/laws.FnExactSplitParcel", spec := "fnExactSplitParcel", inPlace := ["slices.overlaps[loop.example/g01010/impl.Interest]"], unfollowed := true, recurses := true, apart := false }
def FnExactSplitParcelSaid : Prop := fnExactSplitParcelRow.holds Try.pinned (OpenSpec.ofChange fnExactSplitParcelSpec)

/-- ITS FALSE NEIGHBOUR: 'it returns false'. Refute it at one input. -/
def fnExactSplitParcelWrong : ChangeSpec := { name := "fnExactSplitParcel", fn := fun _ => fun
  | [d1, d2, d3, d4] => { results := [.lit (.bool false)], args := [d1, d2, d3, d4] }
  | _ => none }
def FnExactSplitParcelWrongFalsely : Prop := fnExactSplitParcelRow.holds Try.pinned (OpenSpec.ofChange fnExactSplitParcelWrong)

/- THE SECOND FORM. 'bulk': how many values and letters a reading holds, each counted each time it is reached (what is shared counts as often as it is met; a slice's spare places count too). A statement '..UptoSaid' is the law's where the arguments, and the package variables that the reading takes, are together of bulk at most 1048576: NARROWER than '..Said'. Prove '..Said' where nothing that the law and all that it calls make is longer than what came in: it says more and counts as full. Else prove '..UptoSaid'. A law counts once. -/
mutual
def uptoBulk {H : Type} : DataW H → Nat
  | .lit (.string bytes) => bytes.length + 1
  | .lit _ => 1
  | .nil => 1
  | .ptr d => uptoBulk d + 1
  | .slice elems spare => uptoBulkAll elems + uptoBulkAll spare + 1
  | .agg parts => uptoBulkAll parts + 1
  | .iface _ d => uptoBulk d + 1
  | .map entries => uptoBulkEntries entries + 1
  | .held _ => 1
def uptoBulkAll {H : Type} : List (DataW H) → Nat
  | [] => 0
  | d :: r => uptoBulk d + uptoBulkAll r
def uptoBulkEntries {H : Type} : List (Lit × DataW H) → Nat
  | [] => 0
  | x :: r => uptoBulkEntry x + uptoBulkEntries r
def uptoBulkEntry {H : Type} : Lit × DataW H → Nat
  | (.string bytes, d) => bytes.length + uptoBulk d + 1
  | (_, d) => uptoBulk d + 1
 end
def uptoSmall : (H : Type) → List (DataW H) → Bool := fun _ ds => decide (uptoBulkAll ds ≤ 1048576)
def OpenSpec.upto (s : _root_.Go.ChangeSpec) : _root_.Go.OpenSpec := { _root_.Go.OpenSpec.ofChange s with cond := some uptoSmall }

/-- 'laws.FnManifests', WHERE WHAT IT READS IS OF BULK AT MOST 1048576: true; the input reads as it did. -/
def fnManifestsUptoRow : OpenClaim := { program := "ythainomgmgaikaa", sum := "88c3712816ffd6f093946410a5867d76e827477dc316ccd30029cd211896ce42", func := "loop.example/g01010/laws.FnManifests", spec := "fnManifests", inPlace := ["slices.overlaps[loop.example/g01010/impl.Interest]"], unfollowed := true, recurses := true, apart := false, narrowed := true }
def FnManifestsUptoSaid : Prop := fnManifestsUptoRow.holds Try.pinned (OpenSpec.upto fnManifestsSpec)

/-- 'laws.FnExactIsInterest', WHERE WHAT IT READS IS OF BULK AT MOST 1048576: true; the input reads as it did. -/
def fnExactIsInterestUptoRow : OpenClaim := { program := "ythainomgmgaikaa", sum := "88c3712816ffd6f093946410a5867d76e827477dc316ccd30029cd211896ce42", func := "loop.example/g01010/laws.FnExactIsInterest", spec := "fnExactIsInterest", apart := false, narrowed := true }
def FnExactIsInterestUptoSaid : Prop := fnExactIsInterestUptoRow.holds Try.pinned (OpenSpec.upto fnExactIsInterestSpec)

/-- 'laws.FnExactIsManifest', WHERE WHAT IT READS IS OF BULK AT MOST 1048576: true; the input reads as it did. -/
def fnExactIsManifestUptoRow : OpenClaim := { program := "ythainomgmgaikaa", sum := "88c3712816ffd6f093946410a5867d76e827477dc316ccd30029cd211896ce42", func := "loop.example/g01010/laws.FnExactIsManifest", spec := "fnExactIsManifest", apart := false, narrowed := true }
def FnExactIsManifestUptoSaid : Prop := fnExactIsManifestUptoRow.holds Try.pinned (OpenSpec.upto fnExactIsManifestSpec)

/-- 'laws.FnExactFindInterest', WHERE WHAT IT READS IS OF BULK AT MOST 1048576: true; the input reads as it did. -/
def fnExactFindInterestUptoRow : OpenClaim := { program := "ythainomgmgaikaa", sum := "88c3712816ffd6f093946410a5867d76e827477dc316ccd30029cd211896ce42", func := "loop.example/g01010/laws.FnExactFindInterest", spec := "fnExactFindInterest", unfollowed := true, recurses := true, apart := false, narrowed := true }
def FnExactFindInterestUptoSaid : Prop := fnExactFindInterestUptoRow.holds Try.pinned (OpenSpec.upto fnExactFindInterestSpec)

/-- 'laws.FnExactTotalValue', WHERE WHAT IT READS IS OF BULK AT MOST 1048576: true; the input reads as it did. -/
def fnExactTotalValueUptoRow : OpenClaim := { program := "ythainomgmgaikaa", sum := "88c3712816ffd6f093946410a5867d76e827477dc316ccd30029cd211896ce42", func := "loop.example/g01010/laws.FnExactTotalValue", spec := "fnExactTotalValue", apart := false, narrowed := true }
def FnExactTotalValueUptoSaid : Prop := fnExactTotalValueUptoRow.holds Try.pinned (OpenSpec.upto fnExactTotalValueSpec)

/-- 'laws.FnExactOwnersOf', WHERE WHAT IT READS IS OF BULK AT MOST 1048576: true; the input reads as it did. -/
def fnExactOwnersOfUptoRow : OpenClaim := { program := "ythainomgmgaikaa", sum := "88c3712816ffd6f093946410a5867d76e827477dc316ccd30029cd211896ce42", func := "loop.example/g01010/laws.FnExactOwnersOf", spec := "fnExactOwnersOf", recurses := true, apart := false, narrowed := true }
def FnExactOwnersOfUptoSaid : Prop := fnExactOwnersOfUptoRow.holds Try.pinned (OpenSpec.upto fnExactOwnersOfSpec)

/-- 'laws.FnExactCodesOf', WHERE WHAT IT READS IS OF BULK AT MOST 1048576: true; the input reads as it did. -/
def fnExactCodesOfUptoRow : OpenClaim := { program := "ythainomgmgaikaa", sum := "88c3712816ffd6f093946410a5867d76e827477dc316ccd30029cd211896ce42", func := "loop.example/g01010/laws.FnExactCodesOf", spec := "fnExactCodesOf", apart := false, narrowed := true }
def FnExactCodesOfUptoSaid : Prop := fnExactCodesOfUptoRow.holds Try.pinned (OpenSpec.upto fnExactCodesOfSpec)

/-- 'laws.FnExactSplitParcel', WHERE WHAT IT READS IS OF BULK AT MOST 1048576: true; the input reads as it did. -/
def fnExactSplitParcelUptoRow : OpenClaim := { program := "ythainomgmgaikaa", sum := "88c3712816ffd6f093946410a5867d76e827477dc316ccd30029cd211896ce42", func := "loop.example/g01010/laws.FnExactSplitParcel", spec := "fnExactSplitParcel", inPlace := ["slices.overlaps[loop.example/g01010/impl.Interest]"], unfollowed := true, recurses := true, apart := false, narrowed := true }
def FnExactSplitParcelUptoSaid : Prop := fnExactSplitParcelUptoRow.holds Try.pinned (OpenSpec.upto fnExactSplitParcelSpec)

end Rows
end Go.Proofs.Ythainomgmgaikaa
