/- The law of IsTable. -/
import Derived.Test.YtmeglhmlhdaacaaTabs
namespace Go.Proofs.Ytmeglhmlhdaacaa
open Go.ChangeShapes Go.WideShapes Go.ChangeAt Go.RowKit
set_option linter.unusedVariables false

/-- What the size says of rates that came in. -/
theorem szT_ok {rs : List Rt} (h : ¬ szT rs 1048576 < 0) : rs.length ≤ 1048576 ∧ ∀ r ∈ rs, r.c.length ≤ 1048576 := by
  obtain ⟨_, h1, h2⟩ := szT_bd (by omega : 0 ≤ szT rs 1048576)
  exact ⟨by omega, fun r hr => by have := h2 r hr; omega⟩
theorem rok_of {rs : List Rt} (h : ∀ r ∈ rs, r.wf) : Rok rs := fun r hr => (h r hr).1
theorem law_FnExactIsTable (A : Option Addr) (c : Nat) (rs : List Rt) (w : World) (hR : Rr w A rs) (hm : rs.length ≤ maxLen) (hw : ∀ r ∈ rs, r.wf) :
    Calls Try.prog 8 #[.slice A rs.length c] w fun e w' => e = .returned (.bool true) ∧ Below w.heap.size w w' := by
  have HZ := Lib.hid (szRateS_l A c rs 1048576 w hR (rok_of hw) hm (by omega) (by omega))
  have HO := Lib.hid (@szT_ok rs)
  generalize szT rs 1048576 = m at *
  go_enter Try.func8, Try.ntmps8
  go_wp2_with fail
  refine HZ.out.mono ?_
  rintro e w1 ⟨rfl, b1⟩
  by_cases hneg : m < 0
  · go_wp2_with fail
    go_ret
    exact ⟨rfl, b1⟩
  · obtain ⟨hn, hs⟩ := HO.out (by omega)
    clear HO HZ hm hw
    go_wp2_with fail
    refine (toRateS_l A c rs _ (hR.below b1) hn).mono ?_
    rintro e w2 ⟨A2, c2, rfl, o2, b2⟩
    go_wp2_with fail
    refine (isTable_s A2 c2 rs _ o2.rr hs hn).mono ?_
    rintro e w3 ⟨rfl, b3⟩
    have B3 := belowGo (belowGo b1 b2) b3
    go_wp2_with fail
    refine (toRateS_l A c rs _ (hR.below B3) hn).mono ?_
    rintro e w4 ⟨A4, c4, rfl, o4, b4⟩
    go_wp2_with fail
    refine (isTable_i A4 c4 rs _ o4.rr hs).mono ?_
    rintro e w5 ⟨rfl, b5⟩
    have B5 := belowGo (belowGo B3 b4) b5
    go_wp2_with fail
    refine (toRateS_l A c rs _ (hR.below B5) hn).mono ?_
    rintro e w6 ⟨A6, c6, rfl, o6, b6⟩
    go_wp2_with fail
    refine (eqRateS_l A4 A6 c4 c6 rs _ ((o4.below b5).rr.below b6) o6.rr (by omega)).mono ?_
    rintro e w7 ⟨rfl, b7⟩
    go_wp2_with fail
    go_ret
    exact ⟨rfl, belowGo (belowGo B5 b6) b7⟩
end Go.Proofs.Ytmeglhmlhdaacaa
