/- FnExactLongestChain holds at every input: the law answers true and leaves its arguments as they were. -/
import Derived.Test.YtjcklmhgjdmjoabRows
import Derived.Test.YtjcklmhgjdmjoabLgl11
import Derived.WalkKit
import Derived.ProofKit
import Derived.OpenShut
import Derived.ShutString
import Derived.ChangeOld
import Derived.Below
import Derived.ChangeSame
import Derived.Lib.SmallJoins
namespace Go.Proofs.Ytjcklmhgjdmjoab.fnExactLongestChain
open Go.ChangeShapes Go.WideShapes Go.ChangeAt Go.RowKit Go.Joins
open Go.ChangeMaps (open_string shut_string)
set_option linter.unusedVariables false

theorem own : ownKnob Try.prog.godebug = none := by kernel_rfl
theorem laidOut : laidOutB Try.prog = true := by kernel_rfl
theorem cells37 : Try.prog.cellsOf 37 = 7 := by kernel_rfl
theorem cells40 : Try.prog.cellsOf 40 = 7 := by kernel_rfl

/-! ### STEP 1: THE WALK -/
theorem walk (a0 : Option Addr) (c0 : Nat) (rs0 : List Cls) (a1 : Option Addr) (c1 : Nat) (rs1 : List Evt) (w : World) (hR0 : ClsR w a0 rs0) (hm0 : rs0.length ≤ maxLen) (hw0 : ∀ r ∈ rs0, r.wf) (hR1 : EvtR w a1 rs1) (hm1 : rs1.length ≤ maxLen) (hw1 : ∀ r ∈ rs1, r.wf) :
    Calls Try.prog 3 #[.slice a0 rs0.length c0, .slice a1 rs1.length c1] w fun e w' => e = .returned (.bool true) ∧ Below w.heap.size w w' := by
  exact law_FnExactLongestChain a0 c0 rs0 a1 c1 rs1 w hR0 hm0 hw0 hR1 hm1 hw1

set_option maxRecDepth 100000 in
theorem lifted (os : Os) (started : os.Started) (H : Type) (enc : TypeId × Value → H) :
    ReturnsInHanded {} Try.checked os 3 .any (Rows.fnExactLongestChainSpec.pre6 enc Try.prog Try.f3 Rows.fnExactLongestChainRow.domain false) (Rows.fnExactLongestChainSpec.post enc Try.prog Try.f3 false true false false) := by
  refine returnsInHanded_of_change (C := Try.checked) own started (by kernel_rfl) Try.func3
    (ChangeSpec.witness6 (enc := enc) (C := Try.checked) false ⟨#[], #[.slice none 0 0, .slice none 0 0], []⟩ 8 (by kernel_rfl) (by kernel_rfl) (by kernel_rfl) (by kernel_rfl)) ?_
  intro W base args ds gs before hval0 hW hcnd _
  have hval : ∀ (j : Nat) t v, Try.f3.params[j]? = some t → args[j]? = some v → Value.okWide Try.prog W .any base t v := hval0
  have hW' := hW
  obtain ⟨p, q, hA0, hV, rfl, hfz, hnd⟩ := hW
  have hA : DataW.TrodAll enc Try.prog W 0 (fun _ => true) true Try.f3.params.toList args.toList ds p := hA0
  rw [Try.params3] at hA hval
  obtain ⟨v0, vs0, d0, ds0, p0, q0, hargs, rfl, rfl, h0, rx0⟩ := trodAll_cons hA
  obtain ⟨v1, vs1, d1, ds1, p1, q1, rfl, rfl, rfl, h1, rx1⟩ := trodAll_cons rx0
  obtain ⟨rfl, rfl, rfl⟩ := trodAll_nil rx1
  obtain rfl : args = #[v0, v1] := by cases args; simp_all
  obtain ⟨rfl, rfl⟩ := trodVars_none hV
  have k0 := h0
  have lt0 : ∀ x ∈ p0, x.block < W.heap.size := by obtain ⟨m, hm⟩ := k0; exact DataW.trod_lt m _ _ _ hm
  obtain ⟨a0, len0, c0, rfl⟩ := okWide_slice Try.underlying22 (hval 0 22 v0 rfl rfl)
  obtain ⟨rs0, hl0, hR0, hm0, hw0⟩ : ∃ rs : List Cls, rs.length = len0 ∧ ClsR W a0 rs ∧ rs.length ≤ maxLen ∧ ∀ r ∈ rs, r.wf := by
    obtain ⟨fuel, hf⟩ := h0
    exact clsR_of Try.underlying22 Try.underlying37 cells37 (by kernel_rfl) Try.underlying9 Try.underlying2 Try.underlying2 Try.underlying2 Try.underlying2 Try.underlying2 Try.underlying9 hf
  subst hl0
  have k1 := h1
  have lt1 : ∀ x ∈ p1, x.block < W.heap.size := by obtain ⟨m, hm⟩ := k1; exact DataW.trod_lt m _ _ _ hm
  obtain ⟨a1, len1, c1, rfl⟩ := okWide_slice Try.underlying23 (hval 1 23 v1 rfl rfl)
  obtain ⟨rs1, hl1, hR1, hm1, hw1⟩ : ∃ rs : List Evt, rs.length = len1 ∧ EvtR W a1 rs ∧ rs.length ≤ maxLen ∧ ∀ r ∈ rs, r.wf := by
    obtain ⟨fuel, hf⟩ := h1
    exact evtR_of Try.underlying23 Try.underlying40 cells40 (by kernel_rfl) Try.underlying2 Try.underlying2 Try.underlying9 Try.underlying2 Try.underlying4 Try.underlying4 Try.underlying4 hf
  subst hl1
  clear hA0 hval0
  refine (walk a0 c0 rs0 a1 c1 rs1 W hR0 hm0 hw0 hR1 hm1 hw1).mono fun e W' ⟨he, bel⟩ => ?_
  subst he
  exact ⟨_, rfl, _, _, _, [], _, [], hW', trodAll_mk1 (shut_bool Try.underlying4 _), (trodAll_cons_mk (Below.trod laidOut (by kernel_rfl) (of_decide_eq_true (by kernel_rfl)) k0 bel lt0) (trodAll_cons_mk (Below.trod laidOut (by kernel_rfl) (of_decide_eq_true (by kernel_rfl)) k1 bel lt1) trodAll_mk0)), rfl, bel.frame _, fun h => by cases h⟩

theorem over : Rows.fnExactLongestChainRow.holds Try.pinned (OpenSpec.ofChange Rows.fnExactLongestChainSpec) :=
  OpenClaim.holds_of_wide 3 Try.f3 rfl rfl rfl rfl rfl rfl rfl ⟨rfl, rfl, rfl, rfl, rfl⟩ rfl rfl rfl rfl rfl (by kernel_rfl) Try.func3 (by kernel_rfl)
    (of_decide_eq_true (by kernel_rfl)) (by unfold Func.isWrapper; first | (rw [if_pos (by decide +kernel)]; kernel_rfl) | (rw [if_neg (by decide +kernel)]; exact ⟨rfl, rfl⟩))
    (fun os started H enc _ => lifted os started H enc)

/-- ████ THE STATEMENT -/
theorem proved : Rows.FnExactLongestChainSaid := over
#print axioms proved
end Go.Proofs.Ytjcklmhgjdmjoab.fnExactLongestChain
