/- The law of IsTable. -/
import Derived.Test.YtaehkkcaoniphaaTabs
namespace Go.Proofs.Ytaehkkcaoniphaa
open Go.ChangeShapes Go.WideShapes Go.ChangeAt Go.RowKit
set_option linter.unusedVariables false

/-- What the size says of rates that came in. -/
theorem szT_ok {rs : List Rt} (h : ¬ szT rs 1048576 < 0) : rs.length ≤ 1048576 ∧ ∀ r ∈ rs, r.c.length ≤ 1048576 := by
  obtain ⟨_, h1, h2⟩ := szT_bd (by omega : 0 ≤ szT rs 1048576)
  exact ⟨by omega, fun r hr => by have := h2 r hr; omega⟩
theorem rok_of {rs : List Rt} (h : ∀ r ∈ rs, r.wf) : Rok rs := fun r hr => (h r hr).1
end Go.Proofs.Ytaehkkcaoniphaa
