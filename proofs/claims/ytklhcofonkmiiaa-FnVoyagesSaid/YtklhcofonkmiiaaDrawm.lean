/- Drawn amounts. -/
import Derived.Test.YtklhcofonkmiiaaDraw
namespace Go.Proofs.Ytklhcofonkmiiaa
open Go.ChangeShapes Go.WideShapes Go.ChangeAt Go.RowKit
set_option linter.unusedVariables false

end Go.Proofs.Ytklhcofonkmiiaa
