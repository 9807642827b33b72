/- spec.IsDate. -/
import Derived.Test.YtifioecofeojpaaDoorDated
import Derived.Test.YtifioecofeojpaaDoorDatee
namespace Go.Proofs.YtifioecofeojpaaDoor
open Go.ChangeShapes Go.WideShapes Go.ChangeAt Go.RowKit
set_option linter.unusedVariables false

end Go.Proofs.YtifioecofeojpaaDoor
