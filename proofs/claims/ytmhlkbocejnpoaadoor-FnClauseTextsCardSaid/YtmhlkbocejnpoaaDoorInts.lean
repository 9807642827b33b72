/- laws.eqInt64S, spec.l01Amounts, impl.areAmounts .. over slices that read as lists. -/
import Derived.Test.YtmhlkbocejnpoaaDoorBase
namespace Go.Proofs.YtmhlkbocejnpoaaDoor
open Go.ChangeShapes Go.WideShapes Go.ChangeAt Go.RowKit
set_option linter.unusedVariables false

theorem eq_snoc {xs ys : List Int} {k : Nat} {x : Int} (h : xs.take k = ys.take k) (hx : xs[k]? = some x) (hy : ys[k]? = some x) : xs.take (k + 1) = ys.take (k + 1) := by
  rw [snoc_of hx, snoc_of hy, h]
theorem eq_not {xs ys : List Int} {k : Nat} {x y : Int} (hx : xs[k]? = some x) (hy : ys[k]? = some y) (h : x ≠ y) : xs ≠ ys := by
  rintro rfl; exact h (Option.some.inj (hx.symm.trans hy))

end Go.Proofs.YtmhlkbocejnpoaaDoor
