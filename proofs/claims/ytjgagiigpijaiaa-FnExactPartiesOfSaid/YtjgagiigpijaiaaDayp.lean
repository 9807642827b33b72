/- Numbers of years, days, weekdays. -/
import Derived.Test.YtjgagiigpijaiaaDayw
namespace Go.Proofs.Ytjgagiigpijaiaa
open Go.ChangeShapes Go.WideShapes Go.ChangeAt Go.RowKit
set_option linter.unusedVariables false

end Go.Proofs.Ytjgagiigpijaiaa
