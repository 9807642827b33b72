/- spec.IsDate. -/
import Derived.Test.YtpnkjpfhmiaffaaDoorDateb
namespace Go.Proofs.YtpnkjpfhmiaffaaDoor
open Go.ChangeShapes Go.WideShapes Go.ChangeAt Go.RowKit
set_option linter.unusedVariables false

theorem in_q {n lo hi : Int} {b : Bool} (h : inr n lo hi = b) (w : World) : Calls Tryd.prog 43 #[.int .i64 n, .int .i64 lo, .int .i64 hi] w fun e w' => e = .returned (.bool b) ∧ w' = w :=
  (in_s n lo hi w).mono fun e w' k => ⟨by rw [← h]; exact k.1, k.2.symm⟩
set_option maxHeartbeats 1000000 in
theorem isDate_s1 (y m d : Int) (ha : inr y 1970 2069 = true) (hb : inr m 1 12 = false) (w : World) : Calls Tryd.prog 42 #[.agg #[.int .i64 y, .int .i64 m, .int .i64 d]] w (GiveB w (okD y m d)) := by
  have E := Lib.hid (okD_m (y := y) (d := d) hb)
  go_enter Tryd.func42, Tryd.ntmps42
  go_wp2_with fail
  go_quiet (first | (go_at_call 43; refine Calls.quiet_of_same (in_q (by assumption) _)))
  go_wp2_with fail
  go_ret
  first | exact ⟨by rw [E.out] <;> rfl, below_alloc _ _⟩ | exact ⟨by rw [E.out] <;> rfl, (below_alloc _ _).trans ((below_drewN _ _).mono (by simp))⟩
set_option maxHeartbeats 1000000 in
theorem isDate_s2 (y m d : Int) (ha : inr y 1970 2069 = false) (w : World) : Calls Tryd.prog 42 #[.agg #[.int .i64 y, .int .i64 m, .int .i64 d]] w (GiveB w (okD y m d)) := by
  have E := Lib.hid (okD_y (m := m) (d := d) ha)
  go_enter Tryd.func42, Tryd.ntmps42
  go_wp2_with fail
  go_quiet (first | (go_at_call 43; refine Calls.quiet_of_same ((in_s _ _ _ _).mono fun e w' h => ⟨h.1, h.2.symm⟩)))
  go_wp2_with fail
  go_ret
  first | exact ⟨by rw [E.out] <;> rfl, below_alloc _ _⟩ | exact ⟨by rw [E.out] <;> rfl, (below_alloc _ _).trans ((below_drewN _ _).mono (by simp))⟩

end Go.Proofs.YtpnkjpfhmiaffaaDoor
