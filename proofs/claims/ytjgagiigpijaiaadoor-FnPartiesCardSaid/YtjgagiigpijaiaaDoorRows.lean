/-
  NARROWER THAN 'FOR EVERY INPUT', by the rows' own cells (each row's printed sentence says how): FnExactFindParty: laid · FnExactAddParty: laid · FnExactActsFor: laid · FnExactClientsOf: laid · FnExactPartyText: laid · FnExactReadParty: laid · FnPartyTexts: laid · FnParties: laid.
  DERIVED. THE GIVEN ROWS OF THIS SEAT. 8 by the template 'for every input the law returns true; each argument reads behind the call as it read before'; 0 by the template 'total and deterministic' (their statements: YtjgagiigpijaiaaDoorTotals.lean).
  GIVEN WITH THE SEED: the statements are not yours to turn. If you find one false, say at which input.
  Laid BY PROGRAM, IN A SANDBOX (cutbox-rows.mjs): the forced cells as the released guide's own fill.sh prints them over the translation b88b22e10ffb2842… (all of the seat's roots in one cut). By AI agents, Wed Nov 11 2026. No macro, syntax, notation, axiom, sorry.
-/
import Derived.Test.YtjgagiigpijaiaaDoorChecked
import GoSem.Claim
import GoSem.ClaimJoined
import GoSem.ClaimMapViews
import Derived.JoinedTies
import Derived.KernelRfl
namespace Go.Proofs.YtjgagiigpijaiaaDoor
/- THE CELL 'sum', in the pinned program and in every row, IS THE sha256 OF THE DUMP (.gsa) THAT YtjgagiigpijaiaaDoorProg.lean LOADS. Nothing in Lean hashes anything: it is a label: what it is worth is what the hold of that sum in a sandbox is worth. -/
noncomputable def Tryd.pinned : Pinned := { name := "ytjgagiigpijaiaadoor", sum := "b88b22e10ffb28425005feaffac536c72a1c52f77d2360dfd2882d8a4b8e9e0e", checked := Tryd.checked }
namespace Rows
def none {H : Type} : Left H := { results := [], args := [] }

/- WHAT THE LISTED PACKAGE-LEVEL VARIABLES READ AS WHEN THE CALL BEGINS. Each datum BY PROGRAM (the guide's laid-datum.mjs) off the statement by which the dump's own 'gosem.cut.vars' lays the variable. In a bare row this is a premise. The card (YtjgagiigpijaiaaDoorCards.lean) ties it to the program's text. -/
def laid_errors_errorType {H : Type} : DataW H := .iface "internal/reflectlite.rtype" (.agg [.ptr (.lit (.string [101, 114, 114, 111, 114]))])
def laid_math_bits_deBruijn32tab {H : Type} : DataW H := .agg [.lit (.int .u8 0), .lit (.int .u8 1), .lit (.int .u8 28), .lit (.int .u8 2), .lit (.int .u8 29), .lit (.int .u8 14), .lit (.int .u8 24), .lit (.int .u8 3), .lit (.int .u8 30), .lit (.int .u8 22), .lit (.int .u8 20), .lit (.int .u8 15), .lit (.int .u8 25), .lit (.int .u8 17), .lit (.int .u8 4), .lit (.int .u8 8), .lit (.int .u8 31), .lit (.int .u8 27), .lit (.int .u8 13), .lit (.int .u8 23), .lit (.int .u8 21), .lit (.int .u8 19), .lit (.int .u8 16), .lit (.int .u8 7), .lit (.int .u8 26), .lit (.int .u8 12), .lit (.int .u8 18), .lit (.int .u8 6), .lit (.int .u8 11), .lit (.int .u8 5), .lit (.int .u8 10), .lit (.int .u8 9)]
def laid_math_bits_deBruijn64tab {H : Type} : DataW H := .agg [.lit (.int .u8 0), .lit (.int .u8 1), .lit (.int .u8 56), .lit (.int .u8 2), .lit (.int .u8 57), .lit (.int .u8 49), .lit (.int .u8 28), .lit (.int .u8 3), .lit (.int .u8 61), .lit (.int .u8 58), .lit (.int .u8 42), .lit (.int .u8 50), .lit (.int .u8 38), .lit (.int .u8 29), .lit (.int .u8 17), .lit (.int .u8 4), .lit (.int .u8 62), .lit (.int .u8 47), .lit (.int .u8 59), .lit (.int .u8 36), .lit (.int .u8 45), .lit (.int .u8 43), .lit (.int .u8 51), .lit (.int .u8 22), .lit (.int .u8 53), .lit (.int .u8 39), .lit (.int .u8 33), .lit (.int .u8 30), .lit (.int .u8 24), .lit (.int .u8 18), .lit (.int .u8 12), .lit (.int .u8 5), .lit (.int .u8 63), .lit (.int .u8 55), .lit (.int .u8 48), .lit (.int .u8 27), .lit (.int .u8 60), .lit (.int .u8 41), .lit (.int .u8 37), .lit (.int .u8 16), .lit (.int .u8 46), .lit (.int .u8 35), .lit (.int .u8 44), .lit (.int .u8 21), .lit (.int .u8 52), .lit (.int .u8 32), .lit (.int .u8 23), .lit (.int .u8 11), .lit (.int .u8 54), .lit (.int .u8 26), .lit (.int .u8 40), .lit (.int .u8 15), .lit (.int .u8 34), .lit (.int .u8 20), .lit (.int .u8 31), .lit (.int .u8 10), .lit (.int .u8 25), .lit (.int .u8 14), .lit (.int .u8 19), .lit (.int .u8 9), .lit (.int .u8 13), .lit (.int .u8 8), .lit (.int .u8 7), .lit (.int .u8 6)]
def laid_internal_strconv_uint64pow10 {H : Type} : DataW H := .agg [.lit (.int .u64 1), .lit (.int .u64 10), .lit (.int .u64 100), .lit (.int .u64 1000), .lit (.int .u64 10000), .lit (.int .u64 100000), .lit (.int .u64 1000000), .lit (.int .u64 10000000), .lit (.int .u64 100000000), .lit (.int .u64 1000000000), .lit (.int .u64 10000000000), .lit (.int .u64 100000000000), .lit (.int .u64 1000000000000), .lit (.int .u64 10000000000000), .lit (.int .u64 100000000000000), .lit (.int .u64 1000000000000000), .lit (.int .u64 10000000000000000), .lit (.int .u64 100000000000000000), .lit (.int .u64 1000000000000000000), .lit (.int .u64 10000000000000000000)]
def laid_strconv_ErrRange {H : Type} : DataW H := .iface "*errors.errorString" (.ptr (.agg [.lit (.string [118, 97, 108, 117, 101, 32, 111, 117, 116, 32, 111, 102, 32, 114, 97, 110, 103, 101])]))
def laid_strconv_ErrSyntax {H : Type} : DataW H := .iface "*errors.errorString" (.ptr (.agg [.lit (.string [105, 110, 118, 97, 108, 105, 100, 32, 115, 121, 110, 116, 97, 120])]))

/-- 'laws.FnExactFindParty': WHATEVER THE INPUT: true; the input reads as it did. -/
def fnExactFindPartySpec : ChangeSpec := { name := "fnExactFindParty", fn := fun _ => fun
  | [d1, d2] => { results := [.lit (.bool true)], args := [d1, d2] }
  | _ => none }
def fnExactFindPartyRow : OpenClaim := { program := "ytjgagiigpijaiaadoor", sum := "b88b22e10ffb28425005feaffac536c72a1c52f77d2360dfd2882d8a4b8e9e0e", func := "loop.example/g01010/laws.FnExactFindParty", spec := "fnExactFindParty", inPlace := ["internal/reflectlite.ValueOf", "(internal/reflectlite.Value).Type", "(internal/reflectlite.Value).IsNil", "internal/reflectlite.TypeOf", "(internal/reflectlite.Value).Elem", "(internal/reflectlite.Value).Set"], unfollowed := true, recurses := true, named := ["errors.errorType"], apart := false, laid := [("errors.errorType", laid_errors_errorType)] }
def FnExactFindPartySaid : Prop := fnExactFindPartyRow.holds Tryd.pinned (OpenSpec.ofChange fnExactFindPartySpec)

/-- ITS FALSE NEIGHBOUR: 'it returns false'. Refute it at one input. -/
def fnExactFindPartyWrong : ChangeSpec := { name := "fnExactFindParty", fn := fun _ => fun
  | [d1, d2] => { results := [.lit (.bool false)], args := [d1, d2] }
  | _ => none }
def FnExactFindPartyWrongFalsely : Prop := fnExactFindPartyRow.holds Tryd.pinned (OpenSpec.ofChange fnExactFindPartyWrong)

/-- 'laws.FnExactAddParty': WHATEVER THE INPUT: true; the input reads as it did. -/
def fnExactAddPartySpec : ChangeSpec := { name := "fnExactAddParty", fn := fun _ => fun
  | [d1, d2] => { results := [.lit (.bool true)], args := [d1, d2] }
  | _ => none }
def fnExactAddPartyRow : OpenClaim := { program := "ytjgagiigpijaiaadoor", sum := "b88b22e10ffb28425005feaffac536c72a1c52f77d2360dfd2882d8a4b8e9e0e", func := "loop.example/g01010/laws.FnExactAddParty", spec := "fnExactAddParty", inPlace := ["internal/reflectlite.ValueOf", "(internal/reflectlite.Value).Type", "(internal/reflectlite.Value).IsNil", "internal/reflectlite.TypeOf", "(internal/reflectlite.Value).Elem", "(internal/reflectlite.Value).Set"], unfollowed := true, recurses := true, named := ["errors.errorType"], apart := false, laid := [("errors.errorType", laid_errors_errorType)] }
def FnExactAddPartySaid : Prop := fnExactAddPartyRow.holds Tryd.pinned (OpenSpec.ofChange fnExactAddPartySpec)

/-- ITS FALSE NEIGHBOUR: 'it returns false'. Refute it at one input. -/
def fnExactAddPartyWrong : ChangeSpec := { name := "fnExactAddParty", fn := fun _ => fun
  | [d1, d2] => { results := [.lit (.bool false)], args := [d1, d2] }
  | _ => none }
def FnExactAddPartyWrongFalsely : Prop := fnExactAddPartyRow.holds Tryd.pinned (OpenSpec.ofChange fnExactAddPartyWrong)

/-- 'laws.FnExactActsFor': WHATEVER THE INPUT: true; the input reads as it did. -/
def fnExactActsForSpec : ChangeSpec := { name := "fnExactActsFor", fn := fun _ => fun
  | [d1, d2] => { results := [.lit (.bool true)], args := [d1, d2] }
  | _ => none }
def fnExactActsForRow : OpenClaim := { program := "ytjgagiigpijaiaadoor", sum := "b88b22e10ffb28425005feaffac536c72a1c52f77d2360dfd2882d8a4b8e9e0e", func := "loop.example/g01010/laws.FnExactActsFor", spec := "fnExactActsFor", inPlace := ["internal/reflectlite.ValueOf", "(internal/reflectlite.Value).Type", "(internal/reflectlite.Value).IsNil", "internal/reflectlite.TypeOf", "(internal/reflectlite.Value).Elem", "(internal/reflectlite.Value).Set"], unfollowed := true, recurses := true, named := ["errors.errorType"], apart := false, laid := [("errors.errorType", laid_errors_errorType)] }
def FnExactActsForSaid : Prop := fnExactActsForRow.holds Tryd.pinned (OpenSpec.ofChange fnExactActsForSpec)

/-- ITS FALSE NEIGHBOUR: 'it returns false'. Refute it at one input. -/
def fnExactActsForWrong : ChangeSpec := { name := "fnExactActsFor", fn := fun _ => fun
  | [d1, d2] => { results := [.lit (.bool false)], args := [d1, d2] }
  | _ => none }
def FnExactActsForWrongFalsely : Prop := fnExactActsForRow.holds Tryd.pinned (OpenSpec.ofChange fnExactActsForWrong)

/-- 'laws.FnExactClientsOf': WHATEVER THE INPUT: true; the input reads as it did. -/
def fnExactClientsOfSpec : ChangeSpec := { name := "fnExactClientsOf", fn := fun _ => fun
  | [d1, d2] => { results := [.lit (.bool true)], args := [d1, d2] }
  | _ => none }
def fnExactClientsOfRow : OpenClaim := { program := "ytjgagiigpijaiaadoor", sum := "b88b22e10ffb28425005feaffac536c72a1c52f77d2360dfd2882d8a4b8e9e0e", func := "loop.example/g01010/laws.FnExactClientsOf", spec := "fnExactClientsOf", inPlace := ["internal/reflectlite.ValueOf", "(internal/reflectlite.Value).Type", "(internal/reflectlite.Value).IsNil", "internal/reflectlite.TypeOf", "(internal/reflectlite.Value).Elem", "(internal/reflectlite.Value).Set"], unfollowed := true, recurses := true, named := ["errors.errorType"], apart := false, laid := [("errors.errorType", laid_errors_errorType)] }
def FnExactClientsOfSaid : Prop := fnExactClientsOfRow.holds Tryd.pinned (OpenSpec.ofChange fnExactClientsOfSpec)

/-- ITS FALSE NEIGHBOUR: 'it returns false'. Refute it at one input. -/
def fnExactClientsOfWrong : ChangeSpec := { name := "fnExactClientsOf", fn := fun _ => fun
  | [d1, d2] => { results := [.lit (.bool false)], args := [d1, d2] }
  | _ => none }
def FnExactClientsOfWrongFalsely : Prop := fnExactClientsOfRow.holds Tryd.pinned (OpenSpec.ofChange fnExactClientsOfWrong)

/-- 'laws.FnExactPartyText': WHATEVER THE INPUT: true; the input reads as it did. -/
def fnExactPartyTextSpec : ChangeSpec := { name := "fnExactPartyText", fn := fun _ => fun
  | [d] => { results := [.lit (.bool true)], args := [d] }
  | _ => none }
def fnExactPartyTextRow : OpenClaim := { program := "ytjgagiigpijaiaadoor", sum := "b88b22e10ffb28425005feaffac536c72a1c52f77d2360dfd2882d8a4b8e9e0e", func := "loop.example/g01010/laws.FnExactPartyText", spec := "fnExactPartyText", recurses := true, named := ["internal/strconv.uint64pow10", "math/bits.deBruijn32tab", "math/bits.deBruijn64tab"], apart := false, laid := [("math/bits.deBruijn32tab", laid_math_bits_deBruijn32tab), ("math/bits.deBruijn64tab", laid_math_bits_deBruijn64tab), ("internal/strconv.uint64pow10", laid_internal_strconv_uint64pow10)] }
def FnExactPartyTextSaid : Prop := fnExactPartyTextRow.holds Tryd.pinned (OpenSpec.ofChange fnExactPartyTextSpec)

/-- ITS FALSE NEIGHBOUR: 'it returns false'. Refute it at one input. -/
def fnExactPartyTextWrong : ChangeSpec := { name := "fnExactPartyText", fn := fun _ => fun
  | [d] => { results := [.lit (.bool false)], args := [d] }
  | _ => none }
def FnExactPartyTextWrongFalsely : Prop := fnExactPartyTextRow.holds Tryd.pinned (OpenSpec.ofChange fnExactPartyTextWrong)

/-- 'laws.FnExactReadParty': WHATEVER THE INPUT: true; the input reads as it did. -/
def fnExactReadPartySpec : ChangeSpec := { name := "fnExactReadParty", fn := fun _ => fun
  | [d] => { results := [.lit (.bool true)], args := [d] }
  | _ => none }
def fnExactReadPartyRow : OpenClaim := { program := "ytjgagiigpijaiaadoor", sum := "b88b22e10ffb28425005feaffac536c72a1c52f77d2360dfd2882d8a4b8e9e0e", func := "loop.example/g01010/laws.FnExactReadParty", spec := "fnExactReadParty", inPlace := ["internal/bytealg.IndexByteString", "internal/bytealg.IndexString"], recurses := true, named := ["internal/bytealg.MaxLen", "strconv.ErrSyntax", "strconv.ErrRange", "internal/strconv.uint64pow10", "math/bits.deBruijn32tab", "math/bits.deBruijn64tab"], apart := false, laid := [("math/bits.deBruijn32tab", laid_math_bits_deBruijn32tab), ("math/bits.deBruijn64tab", laid_math_bits_deBruijn64tab), ("internal/strconv.uint64pow10", laid_internal_strconv_uint64pow10), ("strconv.ErrRange", laid_strconv_ErrRange), ("strconv.ErrSyntax", laid_strconv_ErrSyntax)] }
def FnExactReadPartySaid : Prop := fnExactReadPartyRow.holds Tryd.pinned (OpenSpec.ofChange fnExactReadPartySpec)

/-- ITS FALSE NEIGHBOUR: 'it returns false'. Refute it at one input. -/
def fnExactReadPartyWrong : ChangeSpec := { name := "fnExactReadParty", fn := fun _ => fun
  | [d] => { results := [.lit (.bool false)], args := [d] }
  | _ => none }
def FnExactReadPartyWrongFalsely : Prop := fnExactReadPartyRow.holds Tryd.pinned (OpenSpec.ofChange fnExactReadPartyWrong)

/-- 'laws.FnPartyTexts': WHATEVER THE INPUT: true; the input reads as it did. -/
def fnPartyTextsSpec : ChangeSpec := { name := "fnPartyTexts", fn := fun _ => fun
  | [d] => { results := [.lit (.bool true)], args := [d] }
  | _ => none }
def fnPartyTextsRow : OpenClaim := { program := "ytjgagiigpijaiaadoor", sum := "b88b22e10ffb28425005feaffac536c72a1c52f77d2360dfd2882d8a4b8e9e0e", func := "loop.example/g01010/laws.FnPartyTexts", spec := "fnPartyTexts", inPlace := ["internal/bytealg.IndexByteString", "internal/bytealg.IndexString"], recurses := true, named := ["internal/strconv.uint64pow10", "math/bits.deBruijn32tab", "math/bits.deBruijn64tab", "internal/bytealg.MaxLen", "strconv.ErrSyntax", "strconv.ErrRange"], apart := false, laid := [("math/bits.deBruijn32tab", laid_math_bits_deBruijn32tab), ("math/bits.deBruijn64tab", laid_math_bits_deBruijn64tab), ("internal/strconv.uint64pow10", laid_internal_strconv_uint64pow10), ("strconv.ErrRange", laid_strconv_ErrRange), ("strconv.ErrSyntax", laid_strconv_ErrSyntax)] }
def FnPartyTextsSaid : Prop := fnPartyTextsRow.holds Tryd.pinned (OpenSpec.ofChange fnPartyTextsSpec)

/-- ITS FALSE NEIGHBOUR: 'it returns false'. Refute it at one input. -/
def fnPartyTextsWrong : ChangeSpec := { name := "fnPartyTexts", fn := fun _ => fun
  | [d] => { results := [.lit (.bool false)], args := [d] }
  | _ => none }
def FnPartyTextsWrongFalsely : Prop := fnPartyTextsRow.holds Tryd.pinned (OpenSpec.ofChange fnPartyTextsWrong)

/-- 'laws.FnParties': WHATEVER THE INPUT: true; the input reads as it did. -/
def fnPartiesSpec : ChangeSpec := { name := "fnParties", fn := fun _ => fun
  | [d] => { results := [.lit (.bool true)], args := [d] }
  | _ => none }
def fnPartiesRow : OpenClaim := { program := "ytjgagiigpijaiaadoor", sum := "b88b22e10ffb28425005feaffac536c72a1c52f77d2360dfd2882d8a4b8e9e0e", func := "loop.example/g01010/laws.FnParties", spec := "fnParties", inPlace := ["internal/reflectlite.ValueOf", "(internal/reflectlite.Value).Type", "(internal/reflectlite.Value).IsNil", "internal/reflectlite.TypeOf", "(internal/reflectlite.Value).Elem", "(internal/reflectlite.Value).Set"], unfollowed := true, recurses := true, named := ["errors.errorType"], apart := false, laid := [("errors.errorType", laid_errors_errorType)] }
def FnPartiesSaid : Prop := fnPartiesRow.holds Tryd.pinned (OpenSpec.ofChange fnPartiesSpec)

/-- ITS FALSE NEIGHBOUR: 'it returns false'. Refute it at one input. -/
def fnPartiesWrong : ChangeSpec := { name := "fnParties", fn := fun _ => fun
  | [d] => { results := [.lit (.bool false)], args := [d] }
  | _ => none }
def FnPartiesWrongFalsely : Prop := fnPartiesRow.holds Tryd.pinned (OpenSpec.ofChange fnPartiesWrong)

/- THE SECOND FORM. 'bulk': how many values and letters a reading holds, each counted each time it is reached (what is shared counts as often as it is met; a slice's spare places count too). A statement '..UptoSaid' is the law's where the arguments, and the package variables that the reading takes, are together of bulk at most 1048576: NARROWER than '..Said'. Prove '..Said' where nothing that the law and all that it calls make is longer than what came in: it says more and counts as full. Else prove '..UptoSaid'. A law counts once. -/
mutual
def uptoBulk {H : Type} : DataW H → Nat
  | .lit (.string bytes) => bytes.length + 1
  | .lit _ => 1
  | .nil => 1
  | .ptr d => uptoBulk d + 1
  | .slice elems spare => uptoBulkAll elems + uptoBulkAll spare + 1
  | .agg parts => uptoBulkAll parts + 1
  | .iface _ d => uptoBulk d + 1
  | .map entries => uptoBulkEntries entries + 1
  | .held _ => 1
def uptoBulkAll {H : Type} : List (DataW H) → Nat
  | [] => 0
  | d :: r => uptoBulk d + uptoBulkAll r
def uptoBulkEntries {H : Type} : List (Lit × DataW H) → Nat
  | [] => 0
  | x :: r => uptoBulkEntry x + uptoBulkEntries r
def uptoBulkEntry {H : Type} : Lit × DataW H → Nat
  | (.string bytes, d) => bytes.length + uptoBulk d + 1
  | (_, d) => uptoBulk d + 1
 end
def uptoSmall : (H : Type) → List (DataW H) → Bool := fun _ ds => decide (uptoBulkAll ds ≤ 1048576)
def OpenSpec.upto (s : _root_.Go.ChangeSpec) : _root_.Go.OpenSpec := { _root_.Go.OpenSpec.ofChange s with cond := some uptoSmall }

/-- 'laws.FnExactFindParty', WHERE WHAT IT READS IS OF BULK AT MOST 1048576: true; the input reads as it did. -/
def fnExactFindPartyUptoRow : OpenClaim := { program := "ytjgagiigpijaiaadoor", sum := "b88b22e10ffb28425005feaffac536c72a1c52f77d2360dfd2882d8a4b8e9e0e", func := "loop.example/g01010/laws.FnExactFindParty", spec := "fnExactFindParty", inPlace := ["internal/reflectlite.ValueOf", "(internal/reflectlite.Value).Type", "(internal/reflectlite.Value).IsNil", "internal/reflectlite.TypeOf", "(internal/reflectlite.Value).Elem", "(internal/reflectlite.Value).Set"], unfollowed := true, recurses := true, named := ["errors.errorType"], apart := false, laid := [("errors.errorType", laid_errors_errorType)], narrowed := true }
def FnExactFindPartyUptoSaid : Prop := fnExactFindPartyUptoRow.holds Tryd.pinned (OpenSpec.upto fnExactFindPartySpec)

/-- 'laws.FnExactAddParty', WHERE WHAT IT READS IS OF BULK AT MOST 1048576: true; the input reads as it did. -/
def fnExactAddPartyUptoRow : OpenClaim := { program := "ytjgagiigpijaiaadoor", sum := "b88b22e10ffb28425005feaffac536c72a1c52f77d2360dfd2882d8a4b8e9e0e", func := "loop.example/g01010/laws.FnExactAddParty", spec := "fnExactAddParty", inPlace := ["internal/reflectlite.ValueOf", "(internal/reflectlite.Value).Type", "(internal/reflectlite.Value).IsNil", "internal/reflectlite.TypeOf", "(internal/reflectlite.Value).Elem", "(internal/reflectlite.Value).Set"], unfollowed := true, recurses := true, named := ["errors.errorType"], apart := false, laid := [("errors.errorType", laid_errors_errorType)], narrowed := true }
def FnExactAddPartyUptoSaid : Prop := fnExactAddPartyUptoRow.holds Tryd.pinned (OpenSpec.upto fnExactAddPartySpec)

/-- 'laws.FnExactActsFor', WHERE WHAT IT READS IS OF BULK AT MOST 1048576: true; the input reads as it did. -/
def fnExactActsForUptoRow : OpenClaim := { program := "ytjgagiigpijaiaadoor", sum := "b88b22e10ffb28425005feaffac536c72a1c52f77d2360dfd2882d8a4b8e9e0e", func := "loop.example/g01010/laws.FnExactActsFor", spec := "fnExactActsFor", inPlace := ["internal/reflectlite.ValueOf", "(internal/reflectlite.Value).Type", "(internal/reflectlite.Value).IsNil", "internal/reflectlite.TypeOf", "(internal/reflectlite.Value).Elem", "(internal/reflectlite.Value).Set"], unfollowed := true, recurses := true, named := ["errors.errorType"], apart := false, laid := [("errors.errorType", laid_errors_errorType)], narrowed := true }
def FnExactActsForUptoSaid : Prop := fnExactActsForUptoRow.holds Tryd.pinned (OpenSpec.upto fnExactActsForSpec)

/-- 'laws.FnExactClientsOf', WHERE WHAT IT READS IS OF BULK AT MOST 1048576: true; the input reads as it did. -/
def fnExactClientsOfUptoRow : OpenClaim := { program := "ytjgagiigpijaiaadoor", sum := "b88b22e10ffb28425005feaffac536c72a1c52f77d2360dfd2882d8a4b8e9e0e", func := "loop.example/g01010/laws.FnExactClientsOf", spec := "fnExactClientsOf", inPlace := ["internal/reflectlite.ValueOf", "(internal/reflectlite.Value).Type", "(internal/reflectlite.Value).IsNil", "internal/reflectlite.TypeOf", "(internal/reflectlite.Value).Elem", "(internal/reflectlite.Value).Set"], unfollowed := true, recurses := true, named := ["errors.errorType"], apart := false, laid := [("errors.errorType", laid_errors_errorType)], narrowed := true }
def FnExactClientsOfUptoSaid : Prop := fnExactClientsOfUptoRow.holds Tryd.pinned (OpenSpec.upto fnExactClientsOfSpec)

/-- 'laws.FnExactPartyText', WHERE WHAT IT READS IS OF BULK AT MOST 1048576: true; the input reads as it did. -/
def fnExactPartyTextUptoRow : OpenClaim := { program := "ytjgagiigpijaiaadoor", sum := "b88b22e10ffb28425005feaffac536c72a1c52f77d2360dfd2882d8a4b8e9e0e", func := "loop.example/g01010/laws.FnExactPartyText", spec := "fnExactPartyText", recurses := true, named := ["internal/strconv.uint64pow10", "math/bits.deBruijn32tab", "math/bits.deBruijn64tab"], apart := false, laid := [("math/bits.deBruijn32tab", laid_math_bits_deBruijn32tab), ("math/bits.deBruijn64tab", laid_math_bits_deBruijn64tab), ("internal/strconv.uint64pow10", laid_internal_strconv_uint64pow10)], narrowed := true }
def FnExactPartyTextUptoSaid : Prop := fnExactPartyTextUptoRow.holds Tryd.pinned (OpenSpec.upto fnExactPartyTextSpec)

/-- 'laws.FnExactReadParty', WHERE WHAT IT READS IS OF BULK AT MOST 1048576: true; the input reads as it did. -/
def fnExactReadPartyUptoRow : OpenClaim := { program := "ytjgagiigpijaiaadoor", sum := "b88b22e10ffb28425005feaffac536c72a1c52f77d2360dfd2882d8a4b8e9e0e", func := "loop.example/g01010/laws.FnExactReadParty", spec := "fnExactReadParty", inPlace := ["internal/bytealg.IndexByteString", "internal/bytealg.IndexString"], recurses := true, named := ["internal/bytealg.MaxLen", "strconv.ErrSyntax", "strconv.ErrRange", "internal/strconv.uint64pow10", "math/bits.deBruijn32tab", "math/bits.deBruijn64tab"], apart := false, laid := [("math/bits.deBruijn32tab", laid_math_bits_deBruijn32tab), ("math/bits.deBruijn64tab", laid_math_bits_deBruijn64tab), ("internal/strconv.uint64pow10", laid_internal_strconv_uint64pow10), ("strconv.ErrRange", laid_strconv_ErrRange), ("strconv.ErrSyntax", laid_strconv_ErrSyntax)], narrowed := true }
def FnExactReadPartyUptoSaid : Prop := fnExactReadPartyUptoRow.holds Tryd.pinned (OpenSpec.upto fnExactReadPartySpec)

/-- 'laws.FnPartyTexts', WHERE WHAT IT READS IS OF BULK AT MOST 1048576: true; the input reads as it did. -/
def fnPartyTextsUptoRow : OpenClaim := { program := "ytjgagiigpijaiaadoor", sum := "b88b22e10ffb28425005feaffac536c72a1c52f77d2360dfd2882d8a4b8e9e0e", func := "loop.example/g01010/laws.FnPartyTexts", spec := "fnPartyTexts", inPlace := ["internal/bytealg.IndexByteString", "internal/bytealg.IndexString"], recurses := true, named := ["internal/strconv.uint64pow10", "math/bits.deBruijn32tab", "math/bits.deBruijn64tab", "internal/bytealg.MaxLen", "strconv.ErrSyntax", "strconv.ErrRange"], apart := false, laid := [("math/bits.deBruijn32tab", laid_math_bits_deBruijn32tab), ("math/bits.deBruijn64tab", laid_math_bits_deBruijn64tab), ("internal/strconv.uint64pow10", laid_internal_strconv_uint64pow10), ("strconv.ErrRange", laid_strconv_ErrRange), ("strconv.ErrSyntax", laid_strconv_ErrSyntax)], narrowed := true }
def FnPartyTextsUptoSaid : Prop := fnPartyTextsUptoRow.holds Tryd.pinned (OpenSpec.upto fnPartyTextsSpec)

/-- 'laws.FnParties', WHERE WHAT IT READS IS OF BULK AT MOST 1048576: true; the input reads as it did. -/
def fnPartiesUptoRow : OpenClaim := { program := "ytjgagiigpijaiaadoor", sum := "b88b22e10ffb28425005feaffac536c72a1c52f77d2360dfd2882d8a4b8e9e0e", func := "loop.example/g01010/laws.FnParties", spec := "fnParties", inPlace := ["internal/reflectlite.ValueOf", "(internal/reflectlite.Value).Type", "(internal/reflectlite.Value).IsNil", "internal/reflectlite.TypeOf", "(internal/reflectlite.Value).Elem", "(internal/reflectlite.Value).Set"], unfollowed := true, recurses := true, named := ["errors.errorType"], apart := false, laid := [("errors.errorType", laid_errors_errorType)], narrowed := true }
def FnPartiesUptoSaid : Prop := fnPartiesUptoRow.holds Tryd.pinned (OpenSpec.upto fnPartiesSpec)

end Rows
end Go.Proofs.YtjgagiigpijaiaaDoor
