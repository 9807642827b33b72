import Derived.Test.YtifioecofeojpaaGreatDoorMDate
/- spec.IsDate. -/
namespace Go.Proofs.YtifioecofeojpaaGreatDoor
open Go.ChangeShapes Go.WideShapes Go.ChangeAt Go.RowKit
set_option linter.unusedVariables false

set_option maxHeartbeats 4000000 in
theorem isDate_s0 (y m d : Int) (ha : inr y 1970 2069 = true) (hb : inr m 1 12 = true) (w : World) : Calls Tryz.prog 61 #[.agg #[.int .i64 y, .int .i64 m, .int .i64 d]] w (GiveB w (okD y m d)) := by
  have E := Lib.hid (okD_eq (d := d) ha hb)
  obtain ⟨a0, a1⟩ := inr_iff.1 ha
  obtain ⟨b0, b1⟩ := inr_iff.1 hb
  have HL := Lib.hid (fun w => len_s y m w (by omega) (by omega) b0 b1)
  generalize dlen y m = L at *
  generalize okD y m d = ok at *
  go_enter Tryz.func61, Tryz.ntmps61
  go_wp2_with fail
  go_region_with (first | (go_at_call 47; refine (inr_s _ _ _ _).mono ?_; rintro e w' ⟨rfl, rfl⟩) | (go_at_call 63; refine (HL.out _).mono ?_; rintro e w2 ⟨rfl, b1⟩; obtain ⟨c0, c1, c2⟩ := keep3 b1 (heap_alloc_new w (.cells #[.int .i64 y, .int .i64 m, .int .i64 d] 60))))
  all_goals
    go_wp2_with fail
    go_ret
    first | exact ⟨by rw [← E.out] <;> rfl, belowGo (below_alloc _ _) b1⟩ | exact ⟨by rw [← E.out] <;> rfl, (belowGo (below_alloc _ _).drew b1)⟩
end Go.Proofs.YtifioecofeojpaaGreatDoor

/- spec.IsDate. -/
namespace Go.Proofs.YtifioecofeojpaaGreatDoor
open Go.ChangeShapes Go.WideShapes Go.ChangeAt Go.RowKit
set_option linter.unusedVariables false

theorem in_q {n lo hi : Int} {b : Bool} (h : inr n lo hi = b) (w : World) : Calls Tryz.prog 47 #[.int .i64 n, .int .i64 lo, .int .i64 hi] w fun e w' => e = .returned (.bool b) ∧ w' = w :=
  (inr_s n lo hi w).mono fun e w' k => ⟨by rw [← h]; exact k.1, k.2.symm⟩
set_option maxHeartbeats 1000000 in
theorem isDate_s1 (y m d : Int) (ha : inr y 1970 2069 = true) (hb : inr m 1 12 = false) (w : World) : Calls Tryz.prog 61 #[.agg #[.int .i64 y, .int .i64 m, .int .i64 d]] w (GiveB w (okD y m d)) := by
  have E := Lib.hid (okD_m (y := y) (d := d) hb)
  go_enter Tryz.func61, Tryz.ntmps61
  go_wp2_with fail
  go_quiet (first | (go_at_call 47; refine Calls.quiet_of_same (in_q (by assumption) _)))
  go_wp2_with fail
  go_ret
  first | exact ⟨by rw [E.out] <;> rfl, below_alloc _ _⟩ | exact ⟨by rw [E.out] <;> rfl, (below_alloc _ _).trans ((below_drewN _ _).mono (by simp))⟩
set_option maxHeartbeats 1000000 in
theorem isDate_s2 (y m d : Int) (ha : inr y 1970 2069 = false) (w : World) : Calls Tryz.prog 61 #[.agg #[.int .i64 y, .int .i64 m, .int .i64 d]] w (GiveB w (okD y m d)) := by
  have E := Lib.hid (okD_y (m := m) (d := d) ha)
  go_enter Tryz.func61, Tryz.ntmps61
  go_wp2_with fail
  go_quiet (first | (go_at_call 47; refine Calls.quiet_of_same ((inr_s _ _ _ _).mono fun e w' h => ⟨h.1, h.2.symm⟩)))
  go_wp2_with fail
  go_ret
  first | exact ⟨by rw [E.out] <;> rfl, below_alloc _ _⟩ | exact ⟨by rw [E.out] <;> rfl, (below_alloc _ _).trans ((below_drewN _ _).mono (by simp))⟩

end Go.Proofs.YtifioecofeojpaaGreatDoor

/- spec.IsDate. -/
namespace Go.Proofs.YtifioecofeojpaaGreatDoor
open Go.ChangeShapes Go.WideShapes Go.ChangeAt Go.RowKit
set_option linter.unusedVariables false

theorem isDate_s (y m d : Int) (w : World) : Calls Tryz.prog 61 #[.agg #[.int .i64 y, .int .i64 m, .int .i64 d]] w (GiveB w (okD y m d)) := by
  rcases Bool.eq_false_or_eq_true (inr y 1970 2069) with ha | ha
  · rcases Bool.eq_false_or_eq_true (inr m 1 12) with hb | hb
    · exact isDate_s0 y m d ha hb w
    · exact isDate_s1 y m d ha hb w
  · exact isDate_s2 y m d ha w

end Go.Proofs.YtifioecofeojpaaGreatDoor

/- laws.toDate copies a date. -/
namespace Go.Proofs.YtifioecofeojpaaGreatDoor
open Go.ChangeShapes Go.WideShapes Go.ChangeAt Go.RowKit
set_option linter.unusedVariables false

end Go.Proofs.YtifioecofeojpaaGreatDoor

