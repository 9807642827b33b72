/- FnExactDoesMatch holds at every input: the law answers true and leaves its arguments as they were. -/
import Derived.Test.YtmhlkbocejnpoaaRows
import Derived.Test.YtmhlkbocejnpoaaCdl9
import Derived.WalkKit
import Derived.ProofKit
import Derived.OpenShut
import Derived.ShutString
import Derived.ChangeOld
import Derived.Below
import Derived.ChangeSame
import Derived.Lib.SmallJoins
namespace Go.Proofs.Ytmhlkbocejnpoaa.fnExactDoesMatch
open Go.ChangeShapes Go.WideShapes Go.ChangeAt Go.RowKit Go.Joins
open Go.ChangeMaps (open_string shut_string)
set_option linter.unusedVariables false

theorem own : ownKnob Try.prog.godebug = none := by kernel_rfl
theorem laidOut : laidOutB Try.prog = true := by kernel_rfl
theorem cells23 : Try.prog.cellsOf 23 = 7 := by kernel_rfl
theorem cells37 : Try.prog.cellsOf 37 = 7 := by kernel_rfl

/-! ### STEP 1: THE WALK -/
theorem walk (r0 : Cls) (r1 : Evt) (w : World) (w0 : r0.wf) (w1 : r1.wf) :
    Calls Try.prog 5 #[.agg #[.string ⟨r0.c.toArray⟩, .int .i64 r0.k, .int .i64 r0.p, .int .i64 r0.v, .int .i64 r0.r, .int .i64 r0.e, .string ⟨r0.t.toArray⟩], .agg #[.int .i64 r1.d, .int .i64 r1.k, .string ⟨r1.c.toArray⟩, .int .i64 r1.a, .bool r1.p, .bool r1.v, .bool r1.r]] w fun e w' => e = .returned (.bool true) ∧ Below w.heap.size w w' := by
  exact law_FnExactDoesMatch r0 r1 w w0 w1

set_option maxRecDepth 100000 in
theorem lifted (os : Os) (started : os.Started) (H : Type) (enc : TypeId × Value → H) :
    ReturnsInHanded {} Try.checked os 5 .any (Rows.fnExactDoesMatchSpec.pre6 enc Try.prog Try.f5 Rows.fnExactDoesMatchRow.domain false) (Rows.fnExactDoesMatchSpec.post enc Try.prog Try.f5 false true false false) := by
  refine returnsInHanded_of_change (C := Try.checked) own started (by kernel_rfl) Try.func5
    (ChangeSpec.witness6 (enc := enc) (C := Try.checked) false ⟨#[], #[.agg #[.string ByteArray.empty, .int .i64 0, .int .i64 0, .int .i64 0, .int .i64 0, .int .i64 0, .string ByteArray.empty], .agg #[.int .i64 0, .int .i64 0, .string ByteArray.empty, .int .i64 0, .bool false, .bool false, .bool false]], []⟩ 8 (by kernel_rfl) (by kernel_rfl) (by kernel_rfl) (by kernel_rfl)) ?_
  intro W base args ds gs before hval0 hW hcnd _
  have hval : ∀ (j : Nat) t v, Try.f5.params[j]? = some t → args[j]? = some v → Value.okWide Try.prog W .any base t v := hval0
  have hW' := hW
  obtain ⟨p, q, hA0, hV, rfl, hfz, hnd⟩ := hW
  have hA : DataW.TrodAll enc Try.prog W 0 (fun _ => true) true Try.f5.params.toList args.toList ds p := hA0
  rw [Try.params5] at hA hval
  obtain ⟨v0, vs0, d0, ds0, p0, q0, hargs, rfl, rfl, h0, rx0⟩ := trodAll_cons hA
  obtain ⟨v1, vs1, d1, ds1, p1, q1, rfl, rfl, rfl, h1, rx1⟩ := trodAll_cons rx0
  obtain ⟨rfl, rfl, rfl⟩ := trodAll_nil rx1
  obtain rfl : args = #[v0, v1] := by cases args; simp_all
  obtain ⟨rfl, rfl⟩ := trodVars_none hV
  have k0 := h0
  have lt0 : ∀ x ∈ p0, x.block < W.heap.size := by obtain ⟨m, hm⟩ := k0; exact DataW.trod_lt m _ _ _ hm
  obtain ⟨r0, rfl, w0⟩ : ∃ r : Cls, v0 = .agg #[.string ⟨r.c.toArray⟩, .int .i64 r.k, .int .i64 r.p, .int .i64 r.v, .int .i64 r.r, .int .i64 r.e, .string ⟨r.t.toArray⟩] ∧ r.wf := by
    obtain ⟨x0, x1, x2, x3, x4, x5, x6, y0, y1, y2, y3, y4, y5, y6, m, rfl, _, _, z0, z1, z2, z3, z4, z5, z6⟩ := open_agg7 Try.underlying23 (by kernel_rfl) cells23 (hval 0 23 v0 rfl rfl) h0
    obtain ⟨s0, q0, _, u0⟩ := DataW.trod_string Try.underlying9 z0
    obtain ⟨s1, q1, _, u1⟩ := DataW.trod_int Try.underlying2 z1
    obtain ⟨s2, q2, _, u2⟩ := DataW.trod_int Try.underlying2 z2
    obtain ⟨s3, q3, _, u3⟩ := DataW.trod_int Try.underlying2 z3
    obtain ⟨s4, q4, _, u4⟩ := DataW.trod_int Try.underlying2 z4
    obtain ⟨s5, q5, _, u5⟩ := DataW.trod_int Try.underlying2 z5
    obtain ⟨s6, q6, _, u6⟩ := DataW.trod_string Try.underlying9 z6
    simp at q0 q1 q2 q3 q4 q5 q6
    subst q0 q1 q2 q3 q4 q5 q6
    exact ⟨⟨s0.data.toList, s1, s2, s3, s4, s5, s6.data.toList⟩, rfl, by simpa using u0, u1, u2, u3, u4, u5, by simpa using u6⟩
  have k1 := h1
  have lt1 : ∀ x ∈ p1, x.block < W.heap.size := by obtain ⟨m, hm⟩ := k1; exact DataW.trod_lt m _ _ _ hm
  obtain ⟨r1, rfl, w1⟩ : ∃ r : Evt, v1 = .agg #[.int .i64 r.d, .int .i64 r.k, .string ⟨r.c.toArray⟩, .int .i64 r.a, .bool r.p, .bool r.v, .bool r.r] ∧ r.wf := by
    obtain ⟨x0, x1, x2, x3, x4, x5, x6, y0, y1, y2, y3, y4, y5, y6, m, rfl, _, _, z0, z1, z2, z3, z4, z5, z6⟩ := open_agg7 Try.underlying37 (by kernel_rfl) cells37 (hval 1 37 v1 rfl rfl) h1
    obtain ⟨s0, q0, _, u0⟩ := DataW.trod_int Try.underlying2 z0
    obtain ⟨s1, q1, _, u1⟩ := DataW.trod_int Try.underlying2 z1
    obtain ⟨s2, q2, _, u2⟩ := DataW.trod_string Try.underlying9 z2
    obtain ⟨s3, q3, _, u3⟩ := DataW.trod_int Try.underlying2 z3
    obtain ⟨s4, q4, _⟩ := DataW.trod_bool Try.underlying4 z4
    obtain ⟨s5, q5, _⟩ := DataW.trod_bool Try.underlying4 z5
    obtain ⟨s6, q6, _⟩ := DataW.trod_bool Try.underlying4 z6
    simp at q0 q1 q2 q3 q4 q5 q6
    subst q0 q1 q2 q3 q4 q5 q6
    exact ⟨⟨s0, s1, s2.data.toList, s3, s4, s5, s6⟩, rfl, u0, u1, by simpa using u2, u3⟩
  clear hA0 hval0
  refine (walk r0 r1 W w0 w1).mono fun e W' ⟨he, bel⟩ => ?_
  subst he
  exact ⟨_, rfl, _, _, _, [], _, [], hW', trodAll_mk1 (shut_bool Try.underlying4 _), (trodAll_cons_mk (Below.trod laidOut (by kernel_rfl) (of_decide_eq_true (by kernel_rfl)) k0 bel lt0) (trodAll_cons_mk (Below.trod laidOut (by kernel_rfl) (of_decide_eq_true (by kernel_rfl)) k1 bel lt1) trodAll_mk0)), rfl, bel.frame _, fun h => by cases h⟩

theorem over : Rows.fnExactDoesMatchRow.holds Try.pinned (OpenSpec.ofChange Rows.fnExactDoesMatchSpec) :=
  OpenClaim.holds_of_wide 5 Try.f5 rfl rfl rfl rfl rfl rfl rfl ⟨rfl, rfl, rfl, rfl, rfl⟩ rfl rfl rfl rfl rfl (by kernel_rfl) Try.func5 (by kernel_rfl)
    (of_decide_eq_true (by kernel_rfl)) (by unfold Func.isWrapper; first | (rw [if_pos (by decide +kernel)]; kernel_rfl) | (rw [if_neg (by decide +kernel)]; exact ⟨rfl, rfl⟩))
    (fun os started H enc _ => lifted os started H enc)

/-- ████ THE STATEMENT -/
theorem proved : Rows.FnExactDoesMatchSaid := over
#print axioms proved
end Go.Proofs.Ytmhlkbocejnpoaa.fnExactDoesMatch
