/- spec.IsDate. -/
import Derived.Test.YtpnkjpfhmiaffaaDoorDated
import Derived.Test.YtpnkjpfhmiaffaaDoorDatee
namespace Go.Proofs.YtpnkjpfhmiaffaaDoor
open Go.ChangeShapes Go.WideShapes Go.ChangeAt Go.RowKit
set_option linter.unusedVariables false

theorem isDate_s (y m d : Int) (w : World) : Calls Tryd.prog 42 #[.agg #[.int .i64 y, .int .i64 m, .int .i64 d]] w (GiveB w (okD y m d)) := by
  rcases Bool.eq_false_or_eq_true (inr y 1970 2069) with ha | ha
  · rcases Bool.eq_false_or_eq_true (inr m 1 12) with hb | hb
    · exact isDate_s0 y m d ha hb w
    · exact isDate_s1 y m d ha hb w
  · exact isDate_s2 y m d ha w

end Go.Proofs.YtpnkjpfhmiaffaaDoor
