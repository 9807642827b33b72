/- spec.AddMonths, inside the years. -/
import Derived.Test.YtpnkjpfhmiaffaaDoorAddm
namespace Go.Proofs.YtpnkjpfhmiaffaaDoor
open Go.ChangeShapes Go.WideShapes Go.ChangeAt Go.RowKit
set_option linter.unusedVariables false

set_option maxHeartbeats 4000000 in
theorem am_s2 (y m d k Y M L : Int) (w : World) (h : okD y m d = true) (h' : inr k 0 600 = true) (y0 : 1970 ≤ y) (y1 : y ≤ 2069) (m0 : 1 ≤ m) (m1 : m ≤ 12) (d0 : 1 ≤ d) (hd1 : d ≤ 31) (k0 : 0 ≤ k) (k1 : k ≤ 600)
    (Y0 : 1970 ≤ Y) (g : Y ≤ 2069) (M0 : 1 ≤ M) (M1 : M ≤ 12) (eY : (y * 12 + m - 1 + k) / 12 = Y) (eM : (y * 12 + m - 1 + k) % 12 + 1 = M) (hl : 28 ≤ L ∧ L ≤ 31)
    (HM : Hid (∀ w, Calls Tryd.prog 44 #[.int .i64 Y, .int .i64 M] w (GiveI w L))) (E : Hid (amR y m d k = (Y, M, min d L, 0))) (hL : ¬ d ≤ L) :
    Calls Tryd.prog 17 #[.agg #[.int .i64 y, .int .i64 m, .int .i64 d], .int .i64 k] w (GiveM w (amR y m d k)) := by
  have HD := Lib.hid (fun w => isDate_s y m d w)
  obtain ⟨o1, o2⟩ := two_box w (.cells #[.int .i64 y, .int .i64 m, .int .i64 d] 31) (.cells #[.int .i64 0, .int .i64 0, .int .i64 0] 31)
  have HB := Lib.hid (below2 w (.cells #[.int .i64 y, .int .i64 m, .int .i64 d] 31) (.cells #[.int .i64 0, .int .i64 0, .int .i64 0] 31))
  rw [h] at HD
  have hD : min d L = L := by omega
  rw [hD] at E
  go_enter Tryd.func17, Tryd.ntmps17
  go_wp2_with fail
  refine (HD.out _).mono ?_
  rintro e w1 ⟨rfl, b1⟩
  obtain ⟨p1, c0, c1, c2, f0, f1, f2⟩ := keep6 b1 o1
  obtain ⟨p2, r0, r1, r2, s0, s1, s2⟩ := keep6 b1 o2
  have lt1 := lt_of_some p1
  have lt2 := lt_of_some p2
  have p3 := heap_alloc_new w1 (.cells #[.int .i64 Y, .int .i64 M, .int .i64 0] 31)
  have p1' := (Below.heap_alloc w1 (.cells #[.int .i64 Y, .int .i64 M, .int .i64 0] 31) _ lt1).trans p1
  have p2' := (Below.heap_alloc w1 (.cells #[.int .i64 Y, .int .i64 M, .int .i64 0] 31) _ lt2).trans p2
  go_wp2_with (go_at_call 43; refine (inn_q (by assumption) _).mono ?_; rintro e w' ⟨rfl, rfl⟩)
  clear c0 c1 c2 f0 f1 f2 r0 r1 r2 s0 s1 s2
  obtain ⟨p3', m0', m1', m2', n0, n1, n2⟩ := keep6 (Below.refl _ _) p3
  obtain ⟨_, c0, c1, c2, f0, f1, f2⟩ := keep6 (Below.refl _ _) p1'
  go_region_with (go_at_call 44; refine (HM.out _).mono ?_; rintro e w2 ⟨rfl, b2⟩; obtain ⟨z3, g0, g1, g2, h0, h1, h2⟩ := keep6 b2 p3; obtain ⟨z1, g3, g4, g5, h3, h4, h5⟩ := keep6 b2 p1'; obtain ⟨z2, g6, g7, g8, h6, h7, h8⟩ := keep6 b2 p2')
  all_goals
    go_wp2_with fail
    have z4 : (w2.setCell ⟨w1.heap.size, 2, none⟩ (.int .i64 L)).heap[w.heap.size + 1]? = _ := (Below.heap_setCell _ _ _ _ (by show w.heap.size + 1 ≠ w1.heap.size; omega)).trans z2
    have b3 : Below w1.heap.size w1 w2 := by first | exact belowGo (below_alloc _ _) b2 | exact belowGo (below_alloc _ _).drew b2
    obtain ⟨W, hW, e0, e1, e2, bW⟩ := done3 z4 (.int .i64 Y) (.int .i64 M) (.int .i64 L)
    rw [hW]
    have b4 := bW w.heap.size w (by omega) (belowGo (belowGo HB.out b1) (b3.setCell (by simp) _))
    clear hW HD HB HM o1 o2 p1 p2 p3 p1' p2' z1 z2 z3 z4 g0 g1 g2 g3 g4 g5 g6 g7 g8 h0 h1 h2 h3 h4 h5 h6 h7 h8 bW b1 b2 b3
    exact bodyPost_ret (v := .tuple #[.agg #[.int .i64 Y, .int .i64 M, .int .i64 L], .int .i64 0]) (by simp [results, Tryd.results17, go_sem, e0, e1, e2]) rfl ⟨by rw [E.out], b4⟩
end Go.Proofs.YtpnkjpfhmiaffaaDoor
