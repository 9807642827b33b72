/- laws.eqDate compares dates. -/
import Derived.Test.YtpnkjpfhmiaffabDoorDate
namespace Go.Proofs.YtpnkjpfhmiaffabDoor
open Go.ChangeShapes Go.WideShapes Go.ChangeAt Go.RowKit
set_option linter.unusedVariables false

theorem eqDate (y m d y' m' d' : Int) (w : World) : Calls Tryd.prog 6 #[.agg #[.int .i64 y, .int .i64 m, .int .i64 d], .agg #[.int .i64 y', .int .i64 m', .int .i64 d']] w
    (GiveB w (y == y' && (m == m' && d == d'))) := by
  rcases Bool.eq_false_or_eq_true (y != y') with h1 | h1
  · have E : Hid ((y == y' && (m == m' && d == d')) = false) := Lib.hid (by have : (y == y') = false := by simpa using h1
                                                                            simp [this])
    go_enter Tryd.func6, Tryd.ntmps6
    go_wp2_with fail
    go_ret
    exact ⟨by rw [E.out] <;> rfl, below2 _ _ _⟩
  · rcases Bool.eq_false_or_eq_true (m != m') with h2 | h2
    · have E : Hid ((y == y' && (m == m' && d == d')) = false) := Lib.hid (by have : (m == m') = false := by simpa using h2
                                                                              simp [this])
      go_enter Tryd.func6, Tryd.ntmps6
      go_wp2_with fail
      go_ret
      exact ⟨by rw [E.out] <;> rfl, below2 _ _ _⟩
    · rcases Bool.eq_false_or_eq_true (d != d') with h3 | h3
      · have E : Hid ((y == y' && (m == m' && d == d')) = false) := Lib.hid (by have : (d == d') = false := by simpa using h3
                                                                                simp [this])
        go_enter Tryd.func6, Tryd.ntmps6
        go_wp2_with fail
        go_ret
        exact ⟨by rw [E.out] <;> rfl, below2 _ _ _⟩
      · have E : Hid ((y == y' && (m == m' && d == d')) = true) := Lib.hid (by simp at h1 h2 h3; simp [h1, h2, h3])
        go_enter Tryd.func6, Tryd.ntmps6
        go_wp2_with fail
        go_ret
        exact ⟨by rw [E.out] <;> rfl, below2 _ _ _⟩

end Go.Proofs.YtpnkjpfhmiaffabDoor
