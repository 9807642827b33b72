/- spec.IsDate. -/
import Derived.Test.YtifioecofeojpaaDoorDateb
namespace Go.Proofs.YtifioecofeojpaaDoor
open Go.ChangeShapes Go.WideShapes Go.ChangeAt Go.RowKit
set_option linter.unusedVariables false

theorem in_q {n lo hi : Int} {b : Bool} (h : inr n lo hi = b) (w : World) : Calls Tryd.prog 14 #[.int .i64 n, .int .i64 lo, .int .i64 hi] w fun e w' => e = .returned (.bool b) ∧ w' = w :=
  (inr_s n lo hi w).mono fun e w' k => ⟨by rw [← h]; exact k.1, k.2.symm⟩
end Go.Proofs.YtifioecofeojpaaDoor
