/- spec.l02Date: the date with a number. -/
import Derived.Test.YtifioecofeojpaaBox
namespace Go.Proofs.Ytifioecofeojpaa
open Go.ChangeShapes Go.WideShapes Go.ChangeAt Go.RowKit
set_option linter.unusedVariables false

def GiveN (w : World) (n : Int) (e : Ending) (w' : World) : Prop :=
  ∃ y m d : Int, e = .returned (.agg #[.int .i64 y, .int .i64 m, .int .i64 d]) ∧ okd y m d ∧ numd y m d = n ∧ Below w.heap.size w w'

theorem okd_of {y m r n : Int} (y0 : 1970 ≤ y) (y1 : y ≤ 2069) (m0 : 1 ≤ m) (m1 : m ≤ 12) (hr : n = start y + cum y m + r) (r0 : 0 ≤ r) (r1 : r < dlen y m) : okd y m (r + 1) ∧ numd y m (r + 1) = n :=
  ⟨⟨y0, y1, m0, m1, by omega, by omega⟩, by unfold numd; omega⟩
theorem month_in {y m n : Int} (y0 : 1970 ≤ y) (m1 : m ≤ 12) (h : start y + cum y m + dlen y m ≤ n) (hn : n < start (y + 1)) : m < 12 := by
  by_cases h12 : m = 12
  · subst h12
    have := cum_end y y0
    have : dlen y 12 = 31 := by simp [dlen]
    omega
  · omega
theorem year_in {y n : Int} (h : start (y + 1) ≤ n) (hn : n ≤ 36524) : y < 2069 := by
  by_cases hy : 2069 ≤ y
  · have := start_mono (show 2070 ≤ y + 1 by omega)
    rw [start_end] at this; omega
  · omega

end Go.Proofs.Ytifioecofeojpaa
