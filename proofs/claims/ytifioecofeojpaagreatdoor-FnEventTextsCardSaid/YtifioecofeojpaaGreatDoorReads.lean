/- What ReadAmount rests on. -/
import Derived.Test.YtifioecofeojpaaGreatDoorRead
import Derived.Test.YtifioecofeojpaaGreatDoorMParse
namespace Go.Proofs.YtifioecofeojpaaGreatDoor
open Go.ChangeShapes Go.WideShapes Go.ChangeAt Go.RowKit
set_option linter.unusedVariables false

end Go.Proofs.YtifioecofeojpaaGreatDoor
