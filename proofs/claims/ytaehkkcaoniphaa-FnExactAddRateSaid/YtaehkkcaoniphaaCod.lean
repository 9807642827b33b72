/- spec.l03Code -/
import Derived.Test.YtaehkkcaoniphaaDwr
import Derived.Test.YtaehkkcaoniphaaTabs
namespace Go.Proofs.Ytaehkkcaoniphaa
open Go.ChangeShapes Go.WideShapes Go.ChangeAt Go.RowKit
set_option linter.unusedVariables false

/-! ### the spec's side -/
def cdB (bt bf bc bd ba : Bool) : Int := if (bt && bf && bc) = true then (if (bd && ba) = true then 0 else 2) else 1
theorem ways5 (bt bf bc bd ba : Bool) : (bt = false ∧ cdB bt bf bc bd ba = 1) ∨ (bt = true ∧ bf = false ∧ cdB bt bf bc bd ba = 1) ∨ (bt = true ∧ bf = true ∧ bc = false ∧ cdB bt bf bc bd ba = 1) ∨
    (bt = true ∧ bf = true ∧ bc = true ∧ bd = false ∧ cdB bt bf bc bd ba = 2) ∨ (bt = true ∧ bf = true ∧ bc = true ∧ bd = true ∧ ba = false ∧ cdB bt bf bc bd ba = 2) ∨ (bt = true ∧ bf = true ∧ bc = true ∧ bd = true ∧ ba = true ∧ cdB bt bf bc bd ba = 0) := by
  revert bt bf bc bd ba; decide
set_option maxRecDepth 100000 in
set_option maxHeartbeats 4000000 in
theorem l03Code_q {A : Option Addr} {d : Nat} {rs : List Rt} {f t : List UInt8} {day amount : Int} {w : World} {bt bf bc bd ba : Bool} (h : Tbl w A rs) (hf : f.length ≤ 9223372036854775807) (ht : t.length ≤ 9223372036854775807)
    (h1 : tabB rs = bt) (h2 : codeB f = bf) (h3 : codeB t = bc) (h4 : inr day 0 36524 = bd) (h5 : amt amount = ba) :
    Calls Try.prog 46 #[.slice A rs.length d, .string ⟨f.toArray⟩, .string ⟨t.toArray⟩, .int .i64 day, .int .i64 amount] w (Gives w (.int .i64 (cdB bt bf bc bd ba))) := by
  have HT := Lib.hid (tabS_q (c := d) h h1)
  have HD := Lib.hid (fun w => is_q h4 w)
  have HA := Lib.hid (fun w => isAmount_s amount w)
  rw [h5] at HA
  clear h1 h4 h5 h
  rcases ways5 bt bf bc bd ba with ⟨rfl, E⟩ | ⟨rfl, rfl, E⟩ | ⟨rfl, rfl, rfl, E⟩ | ⟨rfl, rfl, rfl, rfl, E⟩ | ⟨rfl, rfl, rfl, rfl, rfl, E⟩ | ⟨rfl, rfl, rfl, rfl, rfl, E⟩
  all_goals rw [E]
  all_goals have E := Lib.hid E
  all_goals
    go_enter Try.func46, Try.ntmps46
    go_wp2_with (first
      | (go_at_call 54; refine HT.out.mono ?_; rintro e w1 ⟨rfl, b1⟩)
      | (go_at_call 31; refine (codeS_q (by assumption) (by assumption) _).mono ?_; rintro e w' ⟨rfl, rfl⟩)
      | (go_at_call 71; refine (HD.out _).mono ?_; rintro e w' ⟨rfl, rfl⟩)
      | (go_at_call 49; refine (HA.out _).mono ?_; rintro e w' ⟨rfl, rfl⟩))
    go_ret
    exact ⟨rfl, b1⟩
end Go.Proofs.Ytaehkkcaoniphaa
