/- Numbers of years, days, weekdays. -/
import Derived.Test.YtmhlkbocejnpoaaDayw
namespace Go.Proofs.Ytmhlkbocejnpoaa
open Go.ChangeShapes Go.WideShapes Go.ChangeAt Go.RowKit
set_option linter.unusedVariables false

theorem start_i (y : Int) (w : World) (h0 : 1970 ≤ y) (h1 : y ≤ 1000000000000) : Calls Try.prog 65 #[.int .i64 y] w fun e w' => e = .returned (.int .i64 (start y)) ∧ w = w' := by
  have E : Hid ((y - 1970) * 365 + (y - 1970 + 1) / 4 = start y) := Lib.hid (by unfold start; omega)
  go_enter Try.func65, Try.ntmps65
  go_wp2
  go_ret
  exact ⟨by rw [E.out] <;> rfl, rfl⟩
theorem isDay_i (n : Int) (w : World) : Calls Try.prog 58 #[.int .i64 n] w fun e w' => e = .returned (.bool (inr n 0 36524)) ∧ w = w' := by
  go_enter Try.func58, Try.ntmps58
  go_wp2_with (first | (go_at_call 65; refine (start_i _ _ (by omega) (by omega)).mono ?_; rintro e w' ⟨rfl, rfl⟩; rw [start_end]) | (go_at_call 32; refine (within_i _ _ _ _).mono ?_; rintro e w' ⟨rfl, rfl⟩))
  go_ret
  exact ⟨rfl, rfl⟩
theorem is_s (n : Int) (w : World) : Calls Try.prog 55 #[.int .i64 n] w fun e w' => e = .returned (.bool (inr n 0 36524)) ∧ w = w' := by
  go_enter Try.func55, Try.ntmps55
  go_wp2_with (go_at_call 29; refine (inr_s _ _ _ _).mono ?_; rintro e w' ⟨rfl, rfl⟩)
  go_ret
  exact ⟨rfl, rfl⟩
theorem isDay_q {n : Int} {b : Bool} (h : inr n 0 36524 = b) (w : World) : Calls Try.prog 58 #[.int .i64 n] w fun e w' => e = .returned (.bool b) ∧ w = w' :=
  (isDay_i n w).mono fun e w' k => ⟨by rw [← h]; exact k.1, k.2⟩
theorem is_q {n : Int} {b : Bool} (h : inr n 0 36524 = b) (w : World) : Calls Try.prog 55 #[.int .i64 n] w fun e w' => e = .returned (.bool b) ∧ w = w' :=
  (is_s n w).mono fun e w' k => ⟨by rw [← h]; exact k.1, k.2⟩
end Go.Proofs.Ytmhlkbocejnpoaa
