/- The law FnExactDateText. -/
import Derived.Test.YtpnkjpfhmiaffaaDoorDtexs
import Derived.Test.YtpnkjpfhmiaffaaDoorDatt
namespace Go.Proofs.YtpnkjpfhmiaffaaDoor
open Go.ChangeShapes Go.WideShapes Go.ChangeAt Go.RowKit
set_option linter.unusedVariables false

theorem law_FnExactDateText (y m d : Int) (w : World) (_ : (Lit.int .i64 y).wf = true) (_ : (Lit.int .i64 m).wf = true) (_ : (Lit.int .i64 d).wf = true) (ht : Tab w) :
    Calls Tryd.prog 7 #[.agg #[.int .i64 y, .int .i64 m, .int .i64 d]] w fun e w' => e = .returned (.bool true) ∧ Below w.heap.size w w' := by
  have h0 := heap_alloc_new w (.cells #[.int .i64 y, .int .i64 m, .int .i64 d] 41)
  have HB := Lib.hid (below_alloc w (.cells #[.int .i64 y, .int .i64 m, .int .i64 d] 41))
  have HT := Lib.hid (ht.below HB.out)
  have HS := Lib.hid (fun w => datetext_s y m d w)
  have HI := Lib.hid (fun w h => datetext_i y m d w h)
  generalize dtR y m d = r at *
  clear ht
  go_enter Tryd.func7, Tryd.ntmps7
  go_wp2_with fail
  refine (toDate _ _ _ _).mono ?_
  rintro e w1 ⟨rfl, b1⟩
  go_wp2_with fail
  refine (HS.out _).mono ?_
  rintro e w2 ⟨rfl, b2⟩
  have t2 := belowGo b1 b2
  obtain ⟨c0, c1, c2⟩ := keep3 t2 h0
  go_wp2_with fail
  refine (toDate _ _ _ _).mono ?_
  rintro e w3 ⟨rfl, b3⟩
  have t3 := belowGo t2 b3
  go_wp2_with fail
  refine (HI.out _ (HT.out.below t3)).mono ?_
  rintro e w4 ⟨rfl, b4⟩
  go_wp2_with fail
  go_ret
  exact ⟨rfl, belowGo HB.out (belowGo t3 b4)⟩
end Go.Proofs.YtpnkjpfhmiaffaaDoor
