/- spec.DateText. -/
import Derived.Test.YtpnkjpfhmiaffaaDoorDtexi
namespace Go.Proofs.YtpnkjpfhmiaffaaDoor
open Go.ChangeShapes Go.WideShapes Go.ChangeAt Go.RowKit
set_option linter.unusedVariables false

theorem datetext_s (y m d : Int) (w : World) : Calls Tryd.prog 20 #[.agg #[.int .i64 y, .int .i64 m, .int .i64 d]] w (Text2 w (dtR y m d)) := by
  have HD := Lib.hid (fun w => isDate_s y m d w)
  have p0 := heap_alloc_new w (.cells #[.int .i64 y, .int .i64 m, .int .i64 d] 31)
  have T0 := Lib.hid (below_alloc w (.cells #[.int .i64 y, .int .i64 m, .int .i64 d] 31))
  rcases Bool.eq_false_or_eq_true (okD y m d) with h | h
  · rw [h] at HD
    obtain ⟨Y, M, D, rfl, rfl, rfl, hy, hy2, hm, hd⟩ := nats_of h
    have E := Lib.hid (dtR_ok h)
    have HL := Lib.hid (fun w => ltext_s Y M D (by omega) hm hd w)
    go_enter Tryd.func20, Tryd.ntmps20
    go_wp2_with fail
    refine (HD.out _).mono ?_
    rintro e w1 ⟨rfl, b1⟩
    obtain ⟨p1, c0, c1, c2, _⟩ := keep6 b1 p0
    go_wp2_with fail
    refine (HL.out _).mono ?_
    rintro e w2 ⟨rfl, b2⟩
    go_wp2_with fail
    go_ret2
    exact ⟨by rw [E.out] <;> rfl, belowGo (belowGo T0.out b1) b2⟩
  · rw [h] at HD
    have E := Lib.hid (dtR_no h)
    go_enter Tryd.func20, Tryd.ntmps20
    go_wp2_with fail
    refine (HD.out _).mono ?_
    rintro e w1 ⟨rfl, b1⟩
    go_wp2_with fail
    go_ret2
    exact ⟨by rw [E.out] <;> rfl, belowGo T0.out b1⟩

end Go.Proofs.YtpnkjpfhmiaffaaDoor
