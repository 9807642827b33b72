/- spec.IsReachable. -/
import Derived.Test.YtjcklmhgjdmjoabClo
namespace Go.Proofs.Ytjcklmhgjdmjoab
open Go.ChangeShapes Go.WideShapes Go.ChangeAt Go.RowKit
set_option linter.unusedVariables false

theorem chainL_len (ps : List Cls) (e : Evt) : (chainL ps e).length ≤ 13 := chain_len ps e 13 0
end Go.Proofs.Ytjcklmhgjdmjoab
