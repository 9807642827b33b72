/- impl.SumAmounts and spec.SumAmounts. -/
import Derived.Test.YtjcklmhgjdmjoaaCopy
namespace Go.Proofs.Ytjcklmhgjdmjoaa
open Go.ChangeShapes Go.WideShapes Go.ChangeAt Go.RowKit
set_option linter.unusedVariables false

/-- What SumAmounts answers. -/
def sumR (xs : List Int) : Int × Int := if amts xs = true then if amt (isum xs) = true then (isum xs, 0) else (0, 3) else (0, 2)
theorem sumR_bad {xs : List Int} (h : amts xs = false) : sumR xs = (0, 2) := by simp [sumR, h]
theorem sumR_big {xs : List Int} (h : amts xs = true) (hn : amt (isum xs) = false) : sumR xs = (0, 3) := by simp [sumR, h, hn]
theorem sumR_ok {xs : List Int} (h : amts xs = true) (hn : amt (isum xs) = true) : sumR xs = (isum xs, 0) := by simp [sumR, h, hn]
theorem isum_take_le {xs : List Int} (h : amts xs = true) (k : Nat) : isum (xs.take k) ≤ isum xs := by
  have h1 : isum (xs.take k ++ xs.drop k) = isum (xs.take k) + isum (xs.drop k) := isum_app _ _
  rw [List.take_append_drop] at h1
  have h2 : amts (xs.drop k) = true := by
    unfold amts at h ⊢; rw [List.all_eq_true] at h ⊢; exact fun x hx => h x (List.mem_of_mem_drop hx)
  have := (isum_bd h2).1
  omega

end Go.Proofs.Ytjcklmhgjdmjoaa
