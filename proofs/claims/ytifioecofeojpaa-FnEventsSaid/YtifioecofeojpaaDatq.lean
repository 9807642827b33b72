/- laws.eqDate compares dates. -/
import Derived.Test.YtifioecofeojpaaDate
namespace Go.Proofs.Ytifioecofeojpaa
open Go.ChangeShapes Go.WideShapes Go.ChangeAt Go.RowKit
set_option linter.unusedVariables false

end Go.Proofs.Ytifioecofeojpaa
