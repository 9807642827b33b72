/- What ReadAmount rests on. -/
import Derived.Test.YthainomgmgaikaaDoorRead
import Derived.Test.YthainomgmgaikaaDoorVal
namespace Go.Proofs.YthainomgmgaikaaDoor
open Go.ChangeShapes Go.WideShapes Go.ChangeAt Go.RowKit
set_option linter.unusedVariables false

end Go.Proofs.YthainomgmgaikaaDoor
