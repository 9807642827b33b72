/- laws.eqDate compares dates. -/
import Derived.Test.YtklhcofonkmiiaaGreatDoorMDate
namespace Go.Proofs.YtklhcofonkmiiaaGreatDoor
open Go.ChangeShapes Go.WideShapes Go.ChangeAt Go.RowKit
set_option linter.unusedVariables false

end Go.Proofs.YtklhcofonkmiiaaGreatDoor
