/- laws.eqDate compares dates. -/
import Derived.Test.YtifioecofeojpaaDoorDate
namespace Go.Proofs.YtifioecofeojpaaDoor
open Go.ChangeShapes Go.WideShapes Go.ChangeAt Go.RowKit
set_option linter.unusedVariables false

end Go.Proofs.YtifioecofeojpaaDoor
