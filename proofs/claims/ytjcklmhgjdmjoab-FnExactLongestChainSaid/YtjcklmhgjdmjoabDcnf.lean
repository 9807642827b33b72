/- laws.eqDecision, eqDecisionS. (by gen_dcn.py) -/
import Derived.Test.YtjcklmhgjdmjoabDcn
namespace Go.Proofs.Ytjcklmhgjdmjoab
open Go.ChangeShapes Go.WideShapes Go.ChangeAt Go.RowKit
set_option linter.unusedVariables false

/-! ### equal ones -/
end Go.Proofs.Ytjcklmhgjdmjoab
