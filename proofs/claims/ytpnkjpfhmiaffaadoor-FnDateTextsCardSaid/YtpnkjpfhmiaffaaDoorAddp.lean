/- spec.AddMonths. -/
import Derived.Test.YtpnkjpfhmiaffaaDoorAddn
import Derived.Test.YtpnkjpfhmiaffaaDoorAddo
namespace Go.Proofs.YtpnkjpfhmiaffaaDoor
open Go.ChangeShapes Go.WideShapes Go.ChangeAt Go.RowKit
set_option linter.unusedVariables false

theorem am_eqs (y m k : Int) : (y * 12 + m - 1 + k) / 12 = amY y m k ∧ (y * 12 + m - 1 + k) % 12 + 1 = amM m k := by
  unfold amY amM; omega
set_option maxHeartbeats 1000000 in
theorem am_s (y m d k : Int) (w : World) : Calls Tryd.prog 17 #[.agg #[.int .i64 y, .int .i64 m, .int .i64 d], .int .i64 k] w (GiveM w (amR y m d k)) := by
  have HD := Lib.hid (fun w => isDate_s y m d w)
  obtain ⟨o1, o2⟩ := two_box w (.cells #[.int .i64 y, .int .i64 m, .int .i64 d] 31) (.cells #[.int .i64 0, .int .i64 0, .int .i64 0] 31)
  have HB := Lib.hid (below2 w (.cells #[.int .i64 y, .int .i64 m, .int .i64 d] 31) (.cells #[.int .i64 0, .int .i64 0, .int .i64 0] 31))
  rcases Bool.eq_false_or_eq_true (okD y m d) with h | h
  · rw [h] at HD
    rcases Bool.eq_false_or_eq_true (inr k 0 600) with h' | h'
    · obtain ⟨y0, y1, m0, m1, d0, d1⟩ := okD_iff.1 h
      have hd := dlen_in y m
      have hd1 : d ≤ 31 := by omega
      obtain ⟨k0, k1⟩ := inr_iff.1 h'
      obtain ⟨Y0, Y1, M0, M1⟩ := am_facts y0 y1 m0 m1 k0 k1
      obtain ⟨eY, eM⟩ := am_eqs y m k
      clear d1 hd
      by_cases g : amY y m k ≤ 2069
      · have E := Lib.hid (amR_ok h h' g)
        have HM := Lib.hid (fun w => len_s (amY y m k) (amM m k) w (by omega) (by omega) M0 M1)
        by_cases hL : d ≤ dlen (amY y m k) (amM m k)
        · exact am_s1 y m d k _ _ _ w h h' y0 y1 m0 m1 d0 hd1 k0 k1 Y0 g M0 M1 eY eM (dlen_in _ _) HM E hL
        · exact am_s2 y m d k _ _ _ w h h' y0 y1 m0 m1 d0 hd1 k0 k1 Y0 g M0 M1 eY eM (dlen_in _ _) HM E hL
      · have E := Lib.hid (amR_big h h' g)
        generalize amY y m k = Y at *
        generalize amM m k = M at *
        go_enter Tryd.func17, Tryd.ntmps17
        go_wp2_with fail
        refine (HD.out _).mono ?_
        rintro e w1 ⟨rfl, b1⟩
        obtain ⟨p1, c0, c1, c2, f0, f1, f2⟩ := keep6 b1 o1
        obtain ⟨p2, r0, r1, r2, s0, s1, s2⟩ := keep6 b1 o2
        obtain ⟨p3, t0, t1, t2, u0, u1, u2⟩ := keep6 (below_alloc w1 (.cells #[.int .i64 Y, .int .i64 M, .int .i64 0] 31)) p2
        go_wp2_with (go_at_call 43; refine (inn_q (by assumption) _).mono ?_; rintro e w' ⟨rfl, rfl⟩)
        obtain ⟨W, hW, e0, e1, e2, bW⟩ := done3 p3 (.int .i64 0) (.int .i64 0) (.int .i64 0)
        rw [hW]
        have b2 := bW w.heap.size w (by omega) (belowGo (belowGo HB.out b1) (below_alloc w1 _))
        clear hW HD HB o1 o2 p1 p2 p3 c0 c1 c2 f0 f1 f2 r0 r1 r2 s0 s1 s2 t0 t1 t2 u0 u1 u2 bW b1
        exact bodyPost_ret (v := .tuple #[.agg #[.int .i64 0, .int .i64 0, .int .i64 0], .int .i64 3]) (by simp [results, Tryd.results17, go_sem, e0, e1, e2]) rfl ⟨by rw [E.out], b2⟩
    · have E := Lib.hid (amR_k h h')
      go_enter Tryd.func17, Tryd.ntmps17
      go_wp2_with fail
      refine (HD.out _).mono ?_
      rintro e w1 ⟨rfl, b1⟩
      obtain ⟨p1, c0, c1, c2, f0, f1, f2⟩ := keep6 b1 o1
      obtain ⟨p2, r0, r1, r2, s0, s1, s2⟩ := keep6 b1 o2
      go_wp2_with (go_at_call 43; refine (inn_q (by assumption) _).mono ?_; rintro e w' ⟨rfl, rfl⟩)
      obtain ⟨W, hW, e0, e1, e2, bW⟩ := done3 p2 (.int .i64 0) (.int .i64 0) (.int .i64 0)
      rw [hW]
      have b2 := bW w.heap.size w (by omega) (belowGo HB.out b1)
      clear hW HD HB o1 o2 p1 p2 c0 c1 c2 f0 f1 f2 r0 r1 r2 s0 s1 s2 bW b1
      exact bodyPost_ret (v := .tuple #[.agg #[.int .i64 0, .int .i64 0, .int .i64 0], .int .i64 2]) (by simp [results, Tryd.results17, go_sem, e0, e1, e2]) rfl ⟨by rw [E.out], b2⟩
  · have E := Lib.hid (amR_no (k := k) h)
    rw [h] at HD
    go_enter Tryd.func17, Tryd.ntmps17
    go_wp2_with fail
    refine (HD.out _).mono ?_
    rintro e w1 ⟨rfl, b1⟩
    obtain ⟨p1, c0, c1, c2, f0, f1, f2⟩ := keep6 b1 o1
    obtain ⟨p2, r0, r1, r2, s0, s1, s2⟩ := keep6 b1 o2
    go_wp2_with fail
    obtain ⟨W, hW, e0, e1, e2, bW⟩ := done3 p2 (.int .i64 0) (.int .i64 0) (.int .i64 0)
    rw [hW]
    have b2 := bW w.heap.size w (by omega) (belowGo HB.out b1)
    clear hW HD HB o1 o2 p1 p2 c0 c1 c2 f0 f1 f2 r0 r1 r2 s0 s1 s2 bW b1
    exact bodyPost_ret (v := .tuple #[.agg #[.int .i64 0, .int .i64 0, .int .i64 0], .int .i64 1]) (by simp [results, Tryd.results17, go_sem, e0, e1, e2]) rfl ⟨by rw [E.out], b2⟩

end Go.Proofs.YtpnkjpfhmiaffaaDoor
