/- Numbers of years, days, weekdays. -/
import Derived.Test.YthainomgmgaikaaDayw
namespace Go.Proofs.Ythainomgmgaikaa
open Go.ChangeShapes Go.WideShapes Go.ChangeAt Go.RowKit
set_option linter.unusedVariables false

end Go.Proofs.Ythainomgmgaikaa
