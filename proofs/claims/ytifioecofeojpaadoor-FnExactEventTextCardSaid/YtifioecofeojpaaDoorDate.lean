/- Dates: copies, comparison, what is valid. -/
import Derived.Test.YtifioecofeojpaaDoorDay
import Derived.RegionTactic
import Derived.Deep.RegionWith
namespace Go.Proofs.YtifioecofeojpaaDoor
open Go.ChangeShapes Go.WideShapes Go.ChangeAt Go.RowKit
set_option linter.unusedVariables false

/-- What a function that gives a date leaves. -/
def GiveD (w : World) (y m d : Int) (e : Ending) (w' : World) : Prop := e = .returned (.agg #[.int .i64 y, .int .i64 m, .int .i64 d]) ∧ Below w.heap.size w w'
def GiveB (w : World) (b : Bool) (e : Ending) (w' : World) : Prop := e = .returned (.bool b) ∧ Below w.heap.size w w'
theorem below2 (w : World) (o p : Obj) : Below w.heap.size w ((w.alloc o).alloc p) := (below_alloc w o).trans ((below_alloc _ p).mono (by simp))
theorem below3 (w : World) (o p q : Obj) : Below w.heap.size w (((w.alloc o).alloc p).alloc q) := (below2 w o p).trans ((below_alloc _ q).mono (by simp; omega))

set_option maxHeartbeats 2000000 in
theorem made_i (y m d : Int) (w : World) : Calls Tryd.prog 57 #[.agg #[.int .i64 y, .int .i64 m, .int .i64 d]] w
    (GiveD w (clamp y 1970 2069) (clamp m 1 12) (clamp d 1 (dlen (clamp y 1970 2069) (clamp m 1 12)))) := by
  obtain ⟨y0, y1⟩ := clamp_in (n := y) (lo := 1970) (hi := 2069) (by omega)
  have HM := Lib.hid (fun (w : World) => mlen_i (clamp y 1970 2069) (clamp m 1 12) d w (by omega) (by omega))
  go_enter Tryd.func57, Tryd.ntmps57
  go_wp2_with (go_at_call 60; refine (moved_i _ _ _ _).mono ?_; rintro e w' ⟨rfl, rfl⟩)
  go_region_with (first | (go_at_call 48; refine (HM.out _).mono ?_; rintro e w' ⟨rfl, rfl⟩) | (go_at_call 60; refine (moved_i _ _ _ _).mono ?_; rintro e w' ⟨rfl, rfl⟩))
  all_goals
    go_wp2_with fail
    clear HM y0 y1
    generalize clamp d 1 (dlen (clamp y 1970 2069) (clamp m 1 12)) = D
    generalize dlen (clamp y 1970 2069) (clamp m 1 12) = L
    generalize clamp y 1970 2069 = Y
    generalize clamp m 1 12 = M
    refine bodyPost_ret (v := .agg #[.int .i64 Y, .int .i64 M, .int .i64 D]) (by simp [results, Tryd.results57, go_sem]) rfl ⟨rfl, ?_⟩
    first | exact below3 _ _ _ _ | exact (below3 _ _ _ _).drew


theorem eql_date (W : World) (a b c a' b' c' : Int) : (binOp .eql 43 (.agg #[.int .i64 a, .int .i64 b, .int .i64 c]) (.agg #[.int .i64 a', .int .i64 b', .int .i64 c'])).run Tryd.prog W = .ok (.bool (a == a' && (b == b' && c == c'))) W := by
  have h : (Op.equalIn (9999 + 1) 43 (.agg #[.int .i64 a, .int .i64 b, .int .i64 c]) (.agg #[.int .i64 a', .int .i64 b', .int .i64 c'])).run Tryd.prog W = .ok (a == a' && (b == b' && c == c')) W := by
    rw [run_equalIn_agg W 9999 43 _ _ (by kernel_rfl) (by kernel_rfl)]
    obtain ⟨k, hk⟩ : ∃ k, 9999 = k + 1 := ⟨9998, rfl⟩
    rw [hk]
    simp only [Program.fieldsOf, Tryd.underlying43]
    have H := fun (x y : Int) => run_equalIn_int (P := Tryd.prog) W k 2 .i64 .i64 x y Tryd.underlying2
    clear hk
    simp [Op.eqFields, go_sem, part, H]
    by_cases h1 : a = a' <;> by_cases h2 : b = b' <;> by_cases h3 : c = c' <;> simp [h1, h2, h3]
  rw [run_eql_struct]
  exact (congrArg (fun r => Result.andThen r _) h).trans rfl
end Go.Proofs.YtifioecofeojpaaDoor
