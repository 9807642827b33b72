/- impl.Date.number. -/
import Derived.Test.YtifioecofeojpaaGreatDoorMDate
import Derived.Test.YtifioecofeojpaaGreatDoorMCal
namespace Go.Proofs.YtifioecofeojpaaGreatDoor
open Go.ChangeShapes Go.WideShapes Go.ChangeAt Go.RowKit
set_option linter.unusedVariables false

set_option maxHeartbeats 1000000 in
theorem number_i (y m d : Int) (h : okd y m d) (w : World) : Calls Tryz.prog 85 #[.agg #[.int .i64 y, .int .i64 m, .int .i64 d]] w (GiveI w (numd y m d)) := by
  obtain ⟨y0, y1, m0, m1, d0, d1⟩ := h
  have hd := dlen_in y m
  have hd1 : d ≤ 31 := by omega
  clear hd d1
  obtain ⟨s0, s1⟩ := start_in y0 (by omega)
  have HS := fun w => start_i y w y0 (by omega)
  have HC := Lib.hid (fun k (h0 : 1 ≤ k) (h1 : k ≤ 12) => cum_step (y := y) h0 h1)
  have HI := Lib.hid (fun k (h0 : 1 ≤ k) (h1 : k ≤ 12) => cum_in (y := y) h0 h1)
  have HD := Lib.hid (fun k => dlen_in y k)
  have E : Hid (start y + d - 1 + cum y m = numd y m d) := Lib.hid (by unfold numd; omega)
  have HM := Lib.hid (fun k w => mlen_i y k 0 w (by omega) (by omega))
  have E0 := Lib.hid (cum_1 y)
  generalize start y = S at *
  generalize numd y m d = N at *
  generalize cum y = C at *
  generalize dlen y = L at *
  go_enter Tryz.func85, Tryz.ntmps85
  go_wp2_with fail
  go_region_with (go_at_call 64; refine (HS _).mono ?_; rintro e w' ⟨rfl, rfl⟩)
  all_goals
    go_wp2_with fail
    go_loopw [3, 4] (fun n mo wr => ∃ k : Int, mo = .int .i64 k ∧ 1 ≤ k ∧ k ≤ m ∧ n = .int .i64 (S + d - 1 + C k) ∧ Below (w.alloc (.cells #[.int .i64 y, .int .i64 m, .int .i64 d] 60)).heap.size (w.alloc (.cells #[.int .i64 y, .int .i64 m, .int .i64 d] 60)) wr) (fun _ mo _ => (m - intOf mo).toNat)
    case atStart => exact ⟨1, rfl, by omega, m0, by rw [E0.out]; simp, by first | exact Below.refl _ _ | exact (Below.refl _ _).drew⟩
    case round =>
      obtain ⟨k, rfl, k0, k1, rfl, hb⟩ := hrel
      obtain ⟨c0, c1, c2⟩ := keep3 hb (heap_alloc_new w (.cells #[.int .i64 y, .int .i64 m, .int .i64 d] 60))
      have hi := HI.out k k0 (by omega)
      by_cases hk : k < m
      · have hs := Lib.hid (HC.out k k0 (by omega))
        have hd := HD.out k
        obtain ⟨i0, i1⟩ := hi
        obtain ⟨l0, l1⟩ := hd
        go_wp2_with (go_at_call 92; refine (HM.out _ _).mono ?_; rintro e w' ⟨rfl, rfl⟩)
        go_roundw
        case rel => exact ⟨k + 1, rfl, by omega, by omega, by rw [hs.out]; congr 1; omega, hb.alloc hb.size _⟩
        case measure => simp [intOf]; omega
      · obtain rfl : m = k := by omega
        go_wp2_with fail
        go_ret
        exact ⟨by rw [← E.out] <;> rfl, belowGo (below_alloc _ _) hb⟩
end Go.Proofs.YtifioecofeojpaaGreatDoor
