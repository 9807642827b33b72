/- Numbers of years, days, weekdays. -/
import Derived.Test.YtjgagiigpijaiaaDoorDayw
namespace Go.Proofs.YtjgagiigpijaiaaDoor
open Go.ChangeShapes Go.WideShapes Go.ChangeAt Go.RowKit
set_option linter.unusedVariables false

end Go.Proofs.YtjgagiigpijaiaaDoor
