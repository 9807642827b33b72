/- impl.ReadAmount and spec.ReadAmount read a string alike. -/
import Derived.Test.YtifioecofeojpaaGreatDoorReadp
import Derived.Test.YtifioecofeojpaaGreatDoorReadn
namespace Go.Proofs.YtifioecofeojpaaGreatDoor
open Go.ChangeShapes Go.WideShapes Go.ChangeAt Go.RowKit
set_option linter.unusedVariables false

theorem readm_s (s : List UInt8) (hl : s.length ≤ 1048576) (w : World) : Calls Tryz.prog 31 #[.string ⟨s.toArray⟩] w (Money2 s w) := by
  by_cases h : ∃ r, s = 45 :: r
  · obtain ⟨r, h⟩ := h
    exact readm_neg s r hl h w
  · exact readm_pos s hl (fun r e => h ⟨r, e⟩) w

end Go.Proofs.YtifioecofeojpaaGreatDoor
