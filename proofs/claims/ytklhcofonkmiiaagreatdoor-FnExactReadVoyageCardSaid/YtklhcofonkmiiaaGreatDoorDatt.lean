/- laws.toDate copies a date. -/
import Derived.Test.YtklhcofonkmiiaaGreatDoorDate
namespace Go.Proofs.YtklhcofonkmiiaaGreatDoor
open Go.ChangeShapes Go.WideShapes Go.ChangeAt Go.RowKit
set_option linter.unusedVariables false

end Go.Proofs.YtklhcofonkmiiaaGreatDoor
