/- Dates: copies, comparison, what is valid. -/
import Derived.Test.YtifioecofeojpaaDay
import Derived.RegionTactic
import Derived.Deep.RegionWith
namespace Go.Proofs.Ytifioecofeojpaa
open Go.ChangeShapes Go.WideShapes Go.ChangeAt Go.RowKit
set_option linter.unusedVariables false

/-- What a function that gives a date leaves. -/
def GiveD (w : World) (y m d : Int) (e : Ending) (w' : World) : Prop := e = .returned (.agg #[.int .i64 y, .int .i64 m, .int .i64 d]) ∧ Below w.heap.size w w'
def GiveB (w : World) (b : Bool) (e : Ending) (w' : World) : Prop := e = .returned (.bool b) ∧ Below w.heap.size w w'
theorem below2 (w : World) (o p : Obj) : Below w.heap.size w ((w.alloc o).alloc p) := (below_alloc w o).trans ((below_alloc _ p).mono (by simp))
theorem below3 (w : World) (o p q : Obj) : Below w.heap.size w (((w.alloc o).alloc p).alloc q) := (below2 w o p).trans ((below_alloc _ q).mono (by simp; omega))

end Go.Proofs.Ytifioecofeojpaa
