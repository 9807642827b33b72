/- laws.eqDate compares dates. -/
import Derived.Test.YtifioecofeojpaaGreatDoorMDate
namespace Go.Proofs.YtifioecofeojpaaGreatDoor
open Go.ChangeShapes Go.WideShapes Go.ChangeAt Go.RowKit
set_option linter.unusedVariables false

end Go.Proofs.YtifioecofeojpaaGreatDoor
