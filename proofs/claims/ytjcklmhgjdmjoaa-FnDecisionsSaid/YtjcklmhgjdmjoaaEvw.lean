/- impl.eventsWhere over its closures; EventsBetween, EventsOf of both sides. (by gen_ew.py) -/
import Derived.Test.YtjcklmhgjdmjoaaEvi
import Derived.Test.YtjcklmhgjdmjoaaEvs
import Derived.Test.YtjcklmhgjdmjoaaEvm
import Derived.Test.YtjcklmhgjdmjoaaArd
import Derived.Test.YtjcklmhgjdmjoaaCopy
namespace Go.Proofs.Ytjcklmhgjdmjoaa
open Go.ChangeShapes Go.WideShapes Go.ChangeAt Go.RowKit
set_option linter.unusedVariables false

theorem made0e (w : World) (base : Nat) (e : TypeId) (size : Nat) (hb : base ≤ w.heap.size) : (w.alloc (Obj.cells #[] e)).ownsRow base e size (.slice (some ⟨w.heap.size, 0, none⟩) 0 0) 0 [] :=
  World.ownsRow_made w #[] 0 hb (by decide) (by simp)
theorem own_monoE {w : World} {base base' : Nat} {e : TypeId} {size n : Nat} {v : Value} {xs : List Value} (h : w.ownsRow base e size v n xs) (hb : base' ≤ base) : w.ownsRow base' e size v n xs := by
  refine ⟨h.1, h.2.imp id ?_⟩
  rintro ⟨g, cap, cur, h1, h2, h3⟩
  exact ⟨g, cap, cur, h1, by omega, h3⟩

end Go.Proofs.Ytjcklmhgjdmjoaa
