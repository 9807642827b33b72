/- Numbers of years, days, weekdays. -/
import Derived.Test.YtpdkgjmppknbpaaDayw
namespace Go.Proofs.Ytpdkgjmppknbpaa
open Go.ChangeShapes Go.WideShapes Go.ChangeAt Go.RowKit
set_option linter.unusedVariables false

end Go.Proofs.Ytpdkgjmppknbpaa
