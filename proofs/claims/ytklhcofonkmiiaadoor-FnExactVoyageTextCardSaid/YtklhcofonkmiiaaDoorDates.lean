/- spec.IsDate. -/
import Derived.Test.YtklhcofonkmiiaaDoorDated
import Derived.Test.YtklhcofonkmiiaaDoorDatee
namespace Go.Proofs.YtklhcofonkmiiaaDoor
open Go.ChangeShapes Go.WideShapes Go.ChangeAt Go.RowKit
set_option linter.unusedVariables false

end Go.Proofs.YtklhcofonkmiiaaDoor
