/- impl.IsEvent, impl.IsLog. (by gen_ev.py) -/
import Derived.Test.YtpdkgjmppknbpaaEvl
namespace Go.Proofs.Ytpdkgjmppknbpaa
open Go.ChangeShapes Go.WideShapes Go.ChangeAt Go.RowKit
set_option linter.unusedVariables false

end Go.Proofs.Ytpdkgjmppknbpaa
