/- Numbers of years, days, weekdays. -/
import Derived.Test.YthainomgmgaikaaDoorDayw
namespace Go.Proofs.YthainomgmgaikaaDoor
open Go.ChangeShapes Go.WideShapes Go.ChangeAt Go.RowKit
set_option linter.unusedVariables false

end Go.Proofs.YthainomgmgaikaaDoor
