/- FnExactAddEdition holds at every input: the law answers true and leaves its arguments as they were. -/
import Derived.Test.YtpdkgjmppknbpaaRows
import Derived.Test.YtpdkgjmppknbpaaAdl10
import Derived.WalkKit
import Derived.ProofKit
import Derived.OpenShut
import Derived.ShutString
import Derived.ChangeOld
import Derived.Below
import Derived.ChangeSame
import Derived.Lib.SmallJoins
namespace Go.Proofs.Ytpdkgjmppknbpaa.fnExactAddEdition
open Go.ChangeShapes Go.WideShapes Go.ChangeAt Go.RowKit Go.Joins
open Go.ChangeMaps (open_string shut_string)
set_option linter.unusedVariables false

theorem own : ownKnob Try.prog.godebug = none := by kernel_rfl
theorem laidOut : laidOutB Try.prog = true := by kernel_rfl
theorem cells34 : Try.prog.cellsOf 34 = 2 := by kernel_rfl
theorem cells47 : Try.prog.cellsOf 47 = 7 := by kernel_rfl

/-! ### STEP 1: THE WALK -/
theorem walk (a0 : Option Addr) (c0 : Nat) (rs0 : List Edn) (y1 : Int) (a1 : Option Addr) (c1 : Nat) (rs1 : List Cls) (w : World) (hR0 : EdnR w a0 rs0) (hm0 : rs0.length ≤ maxLen) (hw0 : ∀ r ∈ rs0, r.wf) (w1 : (Lit.int .i64 y1).wf = true) (hR1 : ClsR w a1 rs1) (hm1 : rs1.length ≤ maxLen) (hw1 : ∀ r ∈ rs1, r.wf) :
    Calls Try.prog 5 #[.slice a0 rs0.length c0, .agg #[.int .i64 y1, .slice a1 rs1.length c1]] w fun e w' => e = .returned (.bool true) ∧ Below w.heap.size w w' := by
  exact law_FnExactAddEdition a0 c0 rs0 y1 a1 c1 rs1 w hR0 hm0 hw0 w1 hR1 hm1 hw1

set_option maxRecDepth 100000 in
theorem lifted (os : Os) (started : os.Started) (H : Type) (enc : TypeId × Value → H) :
    ReturnsInHanded {} Try.checked os 5 .any (Rows.fnExactAddEditionSpec.pre6 enc Try.prog Try.f5 Rows.fnExactAddEditionRow.domain false) (Rows.fnExactAddEditionSpec.post enc Try.prog Try.f5 false true false false) := by
  refine returnsInHanded_of_change (C := Try.checked) own started (by kernel_rfl) Try.func5
    (ChangeSpec.witness6 (enc := enc) (C := Try.checked) false ⟨#[], #[.slice none 0 0, .agg #[.int .i64 0, .slice none 0 0]], []⟩ 8 (by kernel_rfl) (by kernel_rfl) (by kernel_rfl) (by kernel_rfl)) ?_
  intro W base args ds gs before hval0 hW hcnd _
  have hval : ∀ (j : Nat) t v, Try.f5.params[j]? = some t → args[j]? = some v → Value.okWide Try.prog W .any base t v := hval0
  have hW' := hW
  obtain ⟨p, q, hA0, hV, rfl, hfz, hnd⟩ := hW
  have hA : DataW.TrodAll enc Try.prog W 0 (fun _ => true) true Try.f5.params.toList args.toList ds p := hA0
  rw [Try.params5] at hA hval
  obtain ⟨v0, vs0, d0, ds0, p0, q0, hargs, rfl, rfl, h0, rx0⟩ := trodAll_cons hA
  obtain ⟨v1, vs1, d1, ds1, p1, q1, rfl, rfl, rfl, h1, rx1⟩ := trodAll_cons rx0
  obtain ⟨rfl, rfl, rfl⟩ := trodAll_nil rx1
  obtain rfl : args = #[v0, v1] := by cases args; simp_all
  obtain ⟨rfl, rfl⟩ := trodVars_none hV
  have k0 := h0
  have lt0 : ∀ x ∈ p0, x.block < W.heap.size := by obtain ⟨m, hm⟩ := k0; exact DataW.trod_lt m _ _ _ hm
  obtain ⟨a0, len0, c0, rfl⟩ := okWide_slice Try.underlying22 (hval 0 22 v0 rfl rfl)
  obtain ⟨rs0, hl0, hR0, hm0, hw0⟩ : ∃ rs : List Edn, rs.length = len0 ∧ EdnR W a0 rs ∧ rs.length ≤ maxLen ∧ ∀ r ∈ rs, r.wf := by
    obtain ⟨fuel, hf⟩ := h0
    exact ednR_of (u := 22) Try.underlying22 Try.underlying34 cells34 (by kernel_rfl) Try.underlying2 Try.underlying32 Try.underlying47 cells47 (by kernel_rfl) Try.underlying9 Try.underlying2 Try.underlying2 Try.underlying2 Try.underlying2 Try.underlying2 Try.underlying9 hf
  subst hl0
  have k1 := h1
  have lt1 : ∀ x ∈ p1, x.block < W.heap.size := by obtain ⟨m, hm⟩ := k1; exact DataW.trod_lt m _ _ _ hm
  obtain ⟨y1, a1, c1, rs1, rfl, w1, hR1, hm1, hw1⟩ : ∃ (y : Int) (a : Option Addr) (c : Nat) (rs : List Cls), v1 = .agg #[.int .i64 y, .slice a rs.length c] ∧ (Lit.int .i64 y).wf = true ∧ ClsR W a rs ∧ rs.length ≤ maxLen ∧ ∀ r ∈ rs, r.wf := by
    obtain ⟨x0, x1, y0, y1, m, rfl, _, _, z0, z1⟩ := open_agg2 Try.underlying34 (by kernel_rfl) cells34 (hval 1 34 v1 rfl rfl) h1
    obtain ⟨n, q0, _, u0⟩ := DataW.trod_int Try.underlying2 z0
    obtain ⟨A1, l1, cp1, rfl⟩ : ∃ A1 l1 cp1, x1 = Value.slice A1 l1 cp1 := by
      rcases Go.Deep.open_slice Try.underlying32 z1 with ⟨hq, _⟩ | ⟨a', l', c', _, _, _, _, hq, _⟩
      · simp only [List.cons.injEq, and_true] at hq; exact ⟨_, _, _, hq⟩
      · simp only [List.cons.injEq, and_true] at hq; exact ⟨_, _, _, hq⟩
    obtain ⟨rs, r1, r2, r3, r4⟩ := clsR_of Try.underlying32 Try.underlying47 cells47 (by kernel_rfl) Try.underlying9 Try.underlying2 Try.underlying2 Try.underlying2 Try.underlying2 Try.underlying2 Try.underlying9 z1
    simp at q0
    subst q0 r1
    exact ⟨n, A1, cp1, rs, rfl, u0, r2, r3, r4⟩
  clear hA0 hval0
  refine (walk a0 c0 rs0 y1 a1 c1 rs1 W hR0 hm0 hw0 w1 hR1 hm1 hw1).mono fun e W' ⟨he, bel⟩ => ?_
  subst he
  exact ⟨_, rfl, _, _, _, [], _, [], hW', trodAll_mk1 (shut_bool Try.underlying4 _), (trodAll_cons_mk (Below.trod laidOut (by kernel_rfl) (of_decide_eq_true (by kernel_rfl)) k0 bel lt0) (trodAll_cons_mk (Below.trod laidOut (by kernel_rfl) (of_decide_eq_true (by kernel_rfl)) k1 bel lt1) trodAll_mk0)), rfl, bel.frame _, fun h => by cases h⟩

theorem over : Rows.fnExactAddEditionRow.holds Try.pinned (OpenSpec.ofChange Rows.fnExactAddEditionSpec) :=
  OpenClaim.holds_of_wide 5 Try.f5 rfl rfl rfl rfl rfl rfl rfl ⟨rfl, rfl, rfl, rfl, rfl⟩ rfl rfl rfl rfl rfl (by kernel_rfl) Try.func5 (by kernel_rfl)
    (of_decide_eq_true (by kernel_rfl)) (by unfold Func.isWrapper; first | (rw [if_pos (by decide +kernel)]; kernel_rfl) | (rw [if_neg (by decide +kernel)]; exact ⟨rfl, rfl⟩))
    (fun os started H enc _ => lifted os started H enc)

/-- ████ THE STATEMENT -/
theorem proved : Rows.FnExactAddEditionSaid := over
#print axioms proved
end Go.Proofs.Ytpdkgjmppknbpaa.fnExactAddEdition
