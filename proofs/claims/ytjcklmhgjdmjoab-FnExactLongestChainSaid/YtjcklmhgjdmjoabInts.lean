/- laws.eqInt64S, spec.l01Amounts, impl.areAmounts .. over slices that read as lists. -/
import Derived.Test.YtjcklmhgjdmjoabBase
namespace Go.Proofs.Ytjcklmhgjdmjoab
open Go.ChangeShapes Go.WideShapes Go.ChangeAt Go.RowKit
set_option linter.unusedVariables false

theorem eq_snoc {xs ys : List Int} {k : Nat} {x : Int} (h : xs.take k = ys.take k) (hx : xs[k]? = some x) (hy : ys[k]? = some x) : xs.take (k + 1) = ys.take (k + 1) := by
  rw [snoc_of hx, snoc_of hy, h]
theorem eq_not {xs ys : List Int} {k : Nat} {x y : Int} (hx : xs[k]? = some x) (hy : ys[k]? = some y) (h : x ≠ y) : xs ≠ ys := by
  rintro rfl; exact h (Option.some.inj (hx.symm.trans hy))

theorem isAmount_i (n : Int) (w : World) : Calls Try.prog 50 #[.int .i64 n] w fun e w' => e = .returned (.bool (amt n)) ∧ w = w' := by
  rcases (by omega : (0 ≤ n ∧ n ≤ 1000000000) ∨ n < 0 ∨ (0 ≤ n ∧ 1000000000 < n)) with ⟨a, b⟩ | a | ⟨a, b⟩
  · have E : Hid (amt n = true) := Lib.hid (amt_iff.2 ⟨a, b⟩)
    go_enter Try.func50, Try.ntmps50
    go_wp2
    go_ret
    exact ⟨by rw [E.out] <;> rfl, rfl⟩
  · have E : Hid (amt n = false) := Lib.hid (amt_no.2 (.inl a))
    go_enter Try.func50, Try.ntmps50
    go_wp2
    go_ret
    exact ⟨by rw [E.out] <;> rfl, rfl⟩
  · have E : Hid (amt n = false) := Lib.hid (amt_no.2 (.inr b))
    have d : decide (n ≤ 1000000000) = false := by simp; omega
    go_enter Try.func50, Try.ntmps50
    go_wp2
    go_ret
    exact ⟨by rw [E.out] <;> rfl, rfl⟩
theorem isAmount_s (n : Int) (w : World) : Calls Try.prog 33 #[.int .i64 n] w fun e w' => e = .returned (.bool (amt n)) ∧ w = w' := by
  rcases (by omega : (0 ≤ n ∧ n ≤ 1000000000) ∨ n < 0 ∨ (0 ≤ n ∧ 1000000000 < n)) with ⟨a, b⟩ | a | ⟨a, b⟩
  · have E : Hid (amt n = true) := Lib.hid (amt_iff.2 ⟨a, b⟩)
    go_enter Try.func33, Try.ntmps33
    go_wp2
    go_ret
    exact ⟨by rw [E.out] <;> rfl, rfl⟩
  · have E : Hid (amt n = false) := Lib.hid (amt_no.2 (.inl a))
    go_enter Try.func33, Try.ntmps33
    go_wp2
    go_ret
    exact ⟨by rw [E.out] <;> rfl, rfl⟩
  · have E : Hid (amt n = false) := Lib.hid (amt_no.2 (.inr b))
    have d : decide (n ≤ 1000000000) = false := by simp; omega
    go_enter Try.func33, Try.ntmps33
    go_wp2
    go_ret
    exact ⟨by rw [E.out] <;> rfl, rfl⟩

end Go.Proofs.Ytjcklmhgjdmjoab
