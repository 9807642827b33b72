/- laws.toDate copies a date. -/
import Derived.Test.YtpnkjpfhmiaffaaDoorDate
namespace Go.Proofs.YtpnkjpfhmiaffaaDoor
open Go.ChangeShapes Go.WideShapes Go.ChangeAt Go.RowKit
set_option linter.unusedVariables false

theorem toDate (y m d : Int) (w : World) : Calls Tryd.prog 25 #[.agg #[.int .i64 y, .int .i64 m, .int .i64 d]] w (GiveD w y m d) := by
  go_enter Tryd.func25, Tryd.ntmps25
  go_wp2_with fail
  exact bodyPost_ret (v := .agg #[.int .i64 y, .int .i64 m, .int .i64 d]) (by simp [results, Tryd.results25, go_sem]) rfl ⟨rfl, below3 _ _ _ _⟩

end Go.Proofs.YtpnkjpfhmiaffaaDoor
