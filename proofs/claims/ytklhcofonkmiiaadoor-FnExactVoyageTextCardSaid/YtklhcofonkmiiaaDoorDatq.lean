/- laws.eqDate compares dates. -/
import Derived.Test.YtklhcofonkmiiaaDoorDate
namespace Go.Proofs.YtklhcofonkmiiaaDoor
open Go.ChangeShapes Go.WideShapes Go.ChangeAt Go.RowKit
set_option linter.unusedVariables false

end Go.Proofs.YtklhcofonkmiiaaDoor
