/- spec.IsDate. -/
import Derived.Test.YtpnkjpfhmiaffaaDoorDateb
namespace Go.Proofs.YtpnkjpfhmiaffaaDoor
open Go.ChangeShapes Go.WideShapes Go.ChangeAt Go.RowKit
set_option linter.unusedVariables false

set_option maxHeartbeats 4000000 in
theorem isDate_s0 (y m d : Int) (ha : inr y 1970 2069 = true) (hb : inr m 1 12 = true) (w : World) : Calls Tryd.prog 42 #[.agg #[.int .i64 y, .int .i64 m, .int .i64 d]] w (GiveB w (okD y m d)) := by
  have E := Lib.hid (okD_eq (d := d) ha hb)
  obtain ⟨a0, a1⟩ := inr_iff.1 ha
  obtain ⟨b0, b1⟩ := inr_iff.1 hb
  have HL := Lib.hid (fun w => len_s y m w (by omega) (by omega) b0 b1)
  generalize dlen y m = L at *
  generalize okD y m d = ok at *
  go_enter Tryd.func42, Tryd.ntmps42
  go_wp2_with fail
  go_region_with (first | (go_at_call 43; refine (in_s _ _ _ _).mono ?_; rintro e w' ⟨rfl, rfl⟩) | (go_at_call 44; refine (HL.out _).mono ?_; rintro e w2 ⟨rfl, b1⟩; obtain ⟨c0, c1, c2⟩ := keep3 b1 (heap_alloc_new w (.cells #[.int .i64 y, .int .i64 m, .int .i64 d] 31))))
  all_goals
    go_wp2_with fail
    go_ret
    first | exact ⟨by rw [← E.out] <;> rfl, belowGo (below_alloc _ _) b1⟩ | exact ⟨by rw [← E.out] <;> rfl, (belowGo (below_alloc _ _).drew b1)⟩
end Go.Proofs.YtpnkjpfhmiaffaaDoor
