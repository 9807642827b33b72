/- Numbers of years, days, weekdays. -/
import Derived.Test.YtmhlkbocejnpoaaDoorDayw
namespace Go.Proofs.YtmhlkbocejnpoaaDoor
open Go.ChangeShapes Go.WideShapes Go.ChangeAt Go.RowKit
set_option linter.unusedVariables false

end Go.Proofs.YtmhlkbocejnpoaaDoor
