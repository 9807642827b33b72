/- The law of DayWhenReached. -/
import Derived.Test.YthiegfcgbfhmmaaDwo
namespace Go.Proofs.Ythiegfcgbfhmmaa
open Go.ChangeShapes Go.WideShapes Go.ChangeAt Go.RowKit
set_option linter.unusedVariables false

set_option maxHeartbeats 1000000 in
theorem law_FnExactDayWhenReached (A : Option Addr) (c : Nat) (rs : List St) (a : Int) (f : Int) (i : Int) (w : World) (hR : Rs w A rs) (hm : rs.length ≤ maxLen) (hw : ∀ r ∈ rs, r.wf) (_ : (Lit.int .i64 a).wf = true) (_ : (Lit.int .i64 f).wf = true) (_ : (Lit.int .i64 i).wf = true) :
    Calls Try.prog 8 #[.slice A rs.length c, .int .i64 a, .int .i64 f, .int .i64 i] w fun e w' => e = .returned (.bool true) ∧ Below w.heap.size w w' := by
  have HZ := Lib.hid (szStepS_l A c rs 1048576 w hm (by omega) (by omega))
  by_cases hneg : (1048576 : Int) - rs.length < 0
  · rw [if_pos hneg] at HZ
    clear hm
    go_enter Try.func8, Try.ntmps8
    go_wp2_with fail
    refine HZ.out.mono ?_
    rintro e w0 ⟨rfl, b0⟩
    go_wp2_with fail
    go_ret
    exact ⟨rfl, b0⟩
  rw [if_neg hneg] at HZ
  have hn : rs.length ≤ 1048576 := by omega
  have HI := Lib.hid (fun A d base w (o : Ost w base A rs.length d rs) => reach_i A d rs a f i w o.rs o.room)
  have HS := Lib.hid (fun A d w h => reach_s A d rs a f i w h hn)
  generalize dwrR rs a f i = r at HI HS
  clear hm hw
  go_enter Try.func8, Try.ntmps8
  go_wp2_with fail
  refine HZ.out.mono ?_
  rintro e w0 ⟨rfl, b0⟩
  clear HZ
  go_wp2_with fail
  refine (toStepS_l A c rs _ (hR.below b0) hn).mono ?_
  rintro e w1 ⟨B1, c1, rfl, o1, b1⟩
  have t1 := belowGo b0 b1
  go_wp2_with fail
  refine (HS.out B1 c1 w1 o1.rs).mono ?_
  rintro e w2 ⟨rfl, b2⟩
  have t2 := belowGo t1 b2
  go_wp2_with fail
  refine (toStepS_l A c rs _ (hR.below t2) hn).mono ?_
  rintro e w3 ⟨X3, c3, rfl, o3, b3⟩
  have t3 := belowGo t2 b3
  go_wp2_with fail
  refine (HI.out X3 c3 _ w3 o3).mono ?_
  rintro e w4 ⟨rfl, b4⟩
  have t4 := belowGo t3 b4
  have x4 := o3.below b4
  go_wp2_with fail
  refine (toStepS_l A c rs _ (hR.below t4) hn).mono ?_
  rintro e w5 ⟨X5, c5, rfl, o5, b5⟩
  have t5 := belowGo t4 b5
  go_wp2_with fail
  refine (eqStepS_l X3 X5 c3 c5 rs w5 (x4.below b5).rs o5.rs (by omega)).mono ?_
  rintro e w6 ⟨rfl, b6⟩
  have t6 := belowGo t5 b6
  go_wp2_with fail
  go_ret
  exact ⟨rfl, t6⟩
end Go.Proofs.Ythiegfcgbfhmmaa
