/- spec.DoesMatch, FindClause, FirstMatch, IsReachable. -/
import Derived.Test.YtjcklmhgjdmjoaaCln
namespace Go.Proofs.Ytjcklmhgjdmjoaa
open Go.ChangeShapes Go.WideShapes Go.ChangeAt Go.RowKit
set_option linter.unusedVariables false

theorem KeepE.at1 {w W : World} {o : Obj} {q : Evt} (k : KeepE (w.alloc o) q W) : EvtC W (w.heap.size + 1) 0 q := by
  have h := k.cells
  rwa [World.size_alloc] at h
end Go.Proofs.Ytjcklmhgjdmjoaa
