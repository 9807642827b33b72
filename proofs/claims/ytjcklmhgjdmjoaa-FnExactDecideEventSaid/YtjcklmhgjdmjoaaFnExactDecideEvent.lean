/- FnExactDecideEvent holds at every input: the law answers true and leaves its arguments as they were. -/
import Derived.Test.YtjcklmhgjdmjoaaRows
import Derived.Test.YtjcklmhgjdmjoaaDel11
import Derived.WalkKit
import Derived.ProofKit
import Derived.OpenShut
import Derived.ShutString
import Derived.ChangeOld
import Derived.Below
import Derived.ChangeSame
import Derived.Lib.SmallJoins
namespace Go.Proofs.Ytjcklmhgjdmjoaa.fnExactDecideEvent
open Go.ChangeShapes Go.WideShapes Go.ChangeAt Go.RowKit Go.Joins
open Go.ChangeMaps (open_string shut_string)
set_option linter.unusedVariables false

theorem own : ownKnob Try.prog.godebug = none := by kernel_rfl
theorem laidOut : laidOutB Try.prog = true := by kernel_rfl
theorem cells103 : Try.prog.cellsOf 103 = 7 := by kernel_rfl
theorem cells72 : Try.prog.cellsOf 72 = 7 := by kernel_rfl

/-! ### STEP 1: THE WALK -/
theorem walk (a0 : Option Addr) (c0 : Nat) (rs0 : List Cls) (r1 : Evt) (w : World) (hR0 : ClsR w a0 rs0) (hm0 : rs0.length ≤ maxLen) (hw0 : ∀ r ∈ rs0, r.wf) (w1 : r1.wf) :
    Calls Try.prog 8 #[.slice a0 rs0.length c0, .agg #[.int .i64 r1.d, .int .i64 r1.k, .string ⟨r1.c.toArray⟩, .int .i64 r1.a, .bool r1.p, .bool r1.v, .bool r1.r]] w fun e w' => e = .returned (.bool true) ∧ Below w.heap.size w w' := by
  exact law_FnExactDecideEvent a0 c0 rs0 r1 w hR0 hm0 hw0 w1

set_option maxRecDepth 100000 in
theorem lifted (os : Os) (started : os.Started) (H : Type) (enc : TypeId × Value → H) :
    ReturnsInHanded {} Try.checked os 8 .any (Rows.fnExactDecideEventSpec.pre6 enc Try.prog Try.f8 Rows.fnExactDecideEventRow.domain false) (Rows.fnExactDecideEventSpec.post enc Try.prog Try.f8 false true false false) := by
  refine returnsInHanded_of_change (C := Try.checked) own started (by kernel_rfl) Try.func8
    (ChangeSpec.witness6 (enc := enc) (C := Try.checked) false ⟨#[], #[.slice none 0 0, .agg #[.int .i64 0, .int .i64 0, .string ByteArray.empty, .int .i64 0, .bool false, .bool false, .bool false]], []⟩ 8 (by kernel_rfl) (by kernel_rfl) (by kernel_rfl) (by kernel_rfl)) ?_
  intro W base args ds gs before hval0 hW hcnd _
  have hval : ∀ (j : Nat) t v, Try.f8.params[j]? = some t → args[j]? = some v → Value.okWide Try.prog W .any base t v := hval0
  have hW' := hW
  obtain ⟨p, q, hA0, hV, rfl, hfz, hnd⟩ := hW
  have hA : DataW.TrodAll enc Try.prog W 0 (fun _ => true) true Try.f8.params.toList args.toList ds p := hA0
  rw [Try.params8] at hA hval
  obtain ⟨v0, vs0, d0, ds0, p0, q0, hargs, rfl, rfl, h0, rx0⟩ := trodAll_cons hA
  obtain ⟨v1, vs1, d1, ds1, p1, q1, rfl, rfl, rfl, h1, rx1⟩ := trodAll_cons rx0
  obtain ⟨rfl, rfl, rfl⟩ := trodAll_nil rx1
  obtain rfl : args = #[v0, v1] := by cases args; simp_all
  obtain ⟨rfl, rfl⟩ := trodVars_none hV
  have k0 := h0
  have lt0 : ∀ x ∈ p0, x.block < W.heap.size := by obtain ⟨m, hm⟩ := k0; exact DataW.trod_lt m _ _ _ hm
  obtain ⟨a0, len0, c0, rfl⟩ := okWide_slice Try.underlying55 (hval 0 55 v0 rfl rfl)
  obtain ⟨rs0, hl0, hR0, hm0, hw0⟩ : ∃ rs : List Cls, rs.length = len0 ∧ ClsR W a0 rs ∧ rs.length ≤ maxLen ∧ ∀ r ∈ rs, r.wf := by
    obtain ⟨fuel, hf⟩ := h0
    exact clsR_of Try.underlying55 Try.underlying103 cells103 (by kernel_rfl) Try.underlying9 Try.underlying2 Try.underlying2 Try.underlying2 Try.underlying2 Try.underlying2 Try.underlying9 hf
  subst hl0
  have k1 := h1
  have lt1 : ∀ x ∈ p1, x.block < W.heap.size := by obtain ⟨m, hm⟩ := k1; exact DataW.trod_lt m _ _ _ hm
  obtain ⟨r1, rfl, w1⟩ : ∃ r : Evt, v1 = .agg #[.int .i64 r.d, .int .i64 r.k, .string ⟨r.c.toArray⟩, .int .i64 r.a, .bool r.p, .bool r.v, .bool r.r] ∧ r.wf := by
    obtain ⟨x0, x1, x2, x3, x4, x5, x6, y0, y1, y2, y3, y4, y5, y6, m, rfl, _, _, z0, z1, z2, z3, z4, z5, z6⟩ := open_agg7 Try.underlying72 (by kernel_rfl) cells72 (hval 1 72 v1 rfl rfl) h1
    obtain ⟨s0, q0, _, u0⟩ := DataW.trod_int Try.underlying2 z0
    obtain ⟨s1, q1, _, u1⟩ := DataW.trod_int Try.underlying2 z1
    obtain ⟨s2, q2, _, u2⟩ := DataW.trod_string Try.underlying9 z2
    obtain ⟨s3, q3, _, u3⟩ := DataW.trod_int Try.underlying2 z3
    obtain ⟨s4, q4, _⟩ := DataW.trod_bool Try.underlying4 z4
    obtain ⟨s5, q5, _⟩ := DataW.trod_bool Try.underlying4 z5
    obtain ⟨s6, q6, _⟩ := DataW.trod_bool Try.underlying4 z6
    simp at q0 q1 q2 q3 q4 q5 q6
    subst q0 q1 q2 q3 q4 q5 q6
    exact ⟨⟨s0, s1, s2.data.toList, s3, s4, s5, s6⟩, rfl, u0, u1, by simpa using u2, u3⟩
  clear hA0 hval0
  refine (walk a0 c0 rs0 r1 W hR0 hm0 hw0 w1).mono fun e W' ⟨he, bel⟩ => ?_
  subst he
  exact ⟨_, rfl, _, _, _, [], _, [], hW', trodAll_mk1 (shut_bool Try.underlying4 _), (trodAll_cons_mk (Below.trod laidOut (by kernel_rfl) (of_decide_eq_true (by kernel_rfl)) k0 bel lt0) (trodAll_cons_mk (Below.trod laidOut (by kernel_rfl) (of_decide_eq_true (by kernel_rfl)) k1 bel lt1) trodAll_mk0)), rfl, bel.frame _, fun h => by cases h⟩

theorem over : Rows.fnExactDecideEventRow.holds Try.pinned (OpenSpec.ofChange Rows.fnExactDecideEventSpec) :=
  OpenClaim.holds_of_wide 8 Try.f8 rfl rfl rfl rfl rfl rfl rfl ⟨rfl, rfl, rfl, rfl, rfl⟩ rfl rfl rfl rfl rfl (by kernel_rfl) Try.func8 (by kernel_rfl)
    (of_decide_eq_true (by kernel_rfl)) (by unfold Func.isWrapper; first | (rw [if_pos (by decide +kernel)]; kernel_rfl) | (rw [if_neg (by decide +kernel)]; exact ⟨rfl, rfl⟩))
    (fun os started H enc _ => lifted os started H enc)

/-- ████ THE STATEMENT -/
theorem proved : Rows.FnExactDecideEventSaid := over
#print axioms proved
end Go.Proofs.Ytjcklmhgjdmjoaa.fnExactDecideEvent
