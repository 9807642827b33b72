/- spec.l02Day, DayOf, IsDate. -/
import Derived.Test.YtifioecofeojpaaGreatDoorDatec
import Derived.Test.YtifioecofeojpaaGreatDoorMDated
namespace Go.Proofs.YtifioecofeojpaaGreatDoor
open Go.ChangeShapes Go.WideShapes Go.ChangeAt Go.RowKit
set_option linter.unusedVariables false

set_option maxHeartbeats 1000000 in
theorem day_s (y m d : Int) (h : okd y m d) (w : World) : Calls Tryz.prog 32 #[.agg #[.int .i64 y, .int .i64 m, .int .i64 d]] w (GiveI w (numd y m d)) := by
  obtain ⟨y0, y1, m0, m1, d0, d1⟩ := h
  have hd := dlen_in y m
  have hd1 : d ≤ 31 := by omega
  clear hd d1
  have HS0 := Lib.hid start_0
  have HS := Lib.hid (fun k (h0 : 1970 ≤ k) => start_step h0)
  have HT := Lib.hid (fun k (h0 : 1970 ≤ k) (h1 : k ≤ 2070) => start_in h0 h1)
  have HC := Lib.hid (fun k (h0 : 1 ≤ k) (h1 : k ≤ 12) => cum_step (y := y) h0 h1)
  have HI := Lib.hid (fun k (h0 : 1 ≤ k) (h1 : k ≤ 12) => cum_in (y := y) h0 h1)
  have HD := Lib.hid (fun y k => dlen_in y k)
  have E : Hid (start y + cum y m + d - 1 = numd y m d) := Lib.hid (by unfold numd; omega)
  have HL := Lib.hid (fun y k w (y0 : 0 ≤ y) (y1 : y ≤ 1000000000000) (k0 : 1 ≤ k) (k1 : k ≤ 12) => len_s y k w y0 y1 k0 k1)
  have E0 := Lib.hid (cum_1 y)
  have HB := Lib.hid (below_alloc w (.cells #[.int .i64 y, .int .i64 m, .int .i64 d] 60))
  generalize numd y m d = N at *
  generalize cum y = C at *
  generalize start = S at *
  generalize dlen = L at *
  go_enter Tryz.func32, Tryz.ntmps32
  go_wp2_with fail
  go_loopw [3, 4] (fun n v wr => ∃ k : Int, v = .int .i64 k ∧ 1970 ≤ k ∧ k ≤ y ∧ n = .int .i64 (S k) ∧ Below (w.alloc (.cells #[.int .i64 y, .int .i64 m, .int .i64 d] 60)).heap.size (w.alloc (.cells #[.int .i64 y, .int .i64 m, .int .i64 d] 60)) wr) (fun _ v _ => (y - intOf v).toNat)
  case atStart => exact ⟨1970, rfl, by omega, y0, by rw [HS0.out], Below.refl _ _⟩
  case round =>
    obtain ⟨k, rfl, k0, k1, rfl, hb⟩ := hrel
    obtain ⟨c0, c1, c2⟩ := keep3 hb (heap_alloc_new w (.cells #[.int .i64 y, .int .i64 m, .int .i64 d] 60))
    obtain ⟨s0, s1⟩ := HT.out k k0 (by omega)
    by_cases hk : k < y
    · have hs := Lib.hid (HS.out k k0)
      obtain ⟨l0, l1⟩ := HD.out k 2
      go_wp2_with (go_at_call 63; refine (HL.out _ _ _ (by omega) (by omega) (by omega) (by omega)).mono ?_; rintro e w' ⟨rfl, b2⟩)
      go_roundw
      case rel => exact ⟨k + 1, rfl, by omega, by omega, by rw [hs.out], hb.trans (b2.mono hb.size)⟩
      case measure => simp [intOf]; omega
    · obtain rfl : k = y := by omega
      go_wp2_with fail
      go_loopw [3, 5] (fun n v wr => ∃ j : Int, v = .int .i64 j ∧ 1 ≤ j ∧ j ≤ m ∧ n = .int .i64 (S k + C j) ∧ Below (w.alloc (.cells #[.int .i64 k, .int .i64 m, .int .i64 d] 60)).heap.size (w.alloc (.cells #[.int .i64 k, .int .i64 m, .int .i64 d] 60)) wr) (fun _ v _ => (m - intOf v).toNat)
      case atStart => exact ⟨1, rfl, by omega, m0, by rw [E0.out]; simp, hb⟩
      case round =>
        clear c0 c1 c2 hb
        obtain ⟨j, rfl, j0, j1, rfl, hb⟩ := hrel
        obtain ⟨c0, c1, c2⟩ := keep3 hb (heap_alloc_new w (.cells #[.int .i64 k, .int .i64 m, .int .i64 d] 60))
        obtain ⟨i0, i1⟩ := HI.out j j0 (by omega)
        by_cases hj : j < m
        · have hs := Lib.hid (HC.out j j0 (by omega))
          obtain ⟨l0, l1⟩ := HD.out k j
          go_wp2_with (go_at_call 63; refine (HL.out _ _ _ (by omega) (by omega) (by omega) (by omega)).mono ?_; rintro e w' ⟨rfl, b2⟩)
          go_roundw
          case rel => exact ⟨j + 1, rfl, by omega, by omega, by rw [hs.out]; congr 1; omega, hb.trans (b2.mono hb.size)⟩
          case measure => simp [intOf]; omega
        · obtain rfl : j = m := by omega
          go_wp2_with fail
          go_ret
          exact ⟨by rw [← E.out] <;> rfl, belowGo HB.out hb⟩

/-- What DayOf answers. -/
def dayR (y m d : Int) : Int × Int := if okD y m d = true then (numd y m d, 0) else (0, 1)
theorem dayR_ok {y m d : Int} (h : okD y m d = true) : dayR y m d = (numd y m d, 0) := by simp [dayR, h]
theorem dayR_no {y m d : Int} (h : okD y m d = false) : dayR y m d = (0, 1) := by simp [dayR, h]
def GiveR (w : World) (r : Int × Int) (e : Ending) (w' : World) : Prop := e = .returned (.tuple #[.int .i64 r.1, .int .i64 r.2]) ∧ Below w.heap.size w w'
theorem dayOf_i (y m d : Int) (w : World) : Calls Tryz.prog 58 #[.agg #[.int .i64 y, .int .i64 m, .int .i64 d]] w (GiveR w (dayR y m d)) := by
  have HD := Lib.hid (fun w => isDate_i y m d w)
  rcases Bool.eq_false_or_eq_true (okD y m d) with h | h
  · have HN := Lib.hid (fun w => number_i y m d (okD_iff.1 h) w)
    have E := Lib.hid (dayR_ok h)
    rw [h] at HD
    generalize numd y m d = N at *
    go_enter Tryz.func58, Tryz.ntmps58
    go_wp2_with (first | (go_at_call 84; refine (HD.out _).mono ?_; rintro e w1 ⟨rfl, b1⟩; obtain ⟨c0, c1, c2⟩ := keep3 b1 (heap_alloc_new w (.cells #[.int .i64 y, .int .i64 m, .int .i64 d] 60))) | (go_at_call 85; refine (HN.out _).mono ?_; rintro e w2 ⟨rfl, b2⟩))
    go_ret2
    exact ⟨by rw [E.out] <;> rfl, belowGo (belowGo (below_alloc _ _) b1) b2⟩
  · have E := Lib.hid (dayR_no h)
    rw [h] at HD
    go_enter Tryz.func58, Tryz.ntmps58
    go_wp2_with (first | (go_at_call 84; refine (HD.out _).mono ?_; rintro e w1 ⟨rfl, b1⟩; obtain ⟨c0, c1, c2⟩ := keep3 b1 (heap_alloc_new w (.cells #[.int .i64 y, .int .i64 m, .int .i64 d] 60))))
    go_ret2
    exact ⟨by rw [E.out] <;> rfl, belowGo (below_alloc _ _) b1⟩
end Go.Proofs.YtifioecofeojpaaGreatDoor
