/- AddMonths. -/
import Derived.Test.YtpnkjpfhmiaffaaDoorDates
import Derived.Test.YtpnkjpfhmiaffaaDoorDayw
import Derived.Test.YtpnkjpfhmiaffaaDoorDofs
namespace Go.Proofs.YtpnkjpfhmiaffaaDoor
open Go.ChangeShapes Go.WideShapes Go.ChangeAt Go.RowKit
set_option linter.unusedVariables false

/-- Months behind: the year and the month. -/
def amY (y m k : Int) : Int := y + (m - 1 + k) / 12
def amM (m k : Int) : Int := (m - 1 + k) % 12 + 1
def amR (y m d k : Int) : Int × Int × Int × Int :=
  if okD y m d = true then if inr k 0 600 = true then if amY y m k ≤ 2069 then (amY y m k, amM m k, min d (dlen (amY y m k) (amM m k)), 0) else (0, 0, 0, 3) else (0, 0, 0, 2) else (0, 0, 0, 1)
theorem amR_no {y m d k : Int} (h : okD y m d = false) : amR y m d k = (0, 0, 0, 1) := by simp [amR, h]
theorem amR_k {y m d k : Int} (h : okD y m d = true) (h' : inr k 0 600 = false) : amR y m d k = (0, 0, 0, 2) := by simp [amR, h, h']
theorem amR_big {y m d k : Int} (h : okD y m d = true) (h' : inr k 0 600 = true) (g : ¬ amY y m k ≤ 2069) : amR y m d k = (0, 0, 0, 3) := by
  unfold amR; rw [if_pos h, if_pos h', if_neg g]
theorem amR_ok {y m d k : Int} (h : okD y m d = true) (h' : inr k 0 600 = true) (g : amY y m k ≤ 2069) : amR y m d k = (amY y m k, amM m k, min d (dlen (amY y m k) (amM m k)), 0) := by
  unfold amR; rw [if_pos h, if_pos h', if_pos g]
def GiveM (w : World) (r : Int × Int × Int × Int) (e : Ending) (w' : World) : Prop :=
  e = .returned (.tuple #[.agg #[.int .i64 r.1, .int .i64 r.2.1, .int .i64 r.2.2.1], .int .i64 r.2.2.2]) ∧ Below w.heap.size w w'

/-- The call has laid its date and its result. -/
theorem two_box (w : World) (o : Obj) (p : Obj) : ((w.alloc o).alloc p).heap[w.heap.size]? = some o ∧ ((w.alloc o).alloc p).heap[w.heap.size + 1]? = some p := by
  refine ⟨?_, ?_⟩
  · rw [Below.heap_alloc _ _ _ (by simp)]; exact heap_alloc_new _ _
  · have := heap_alloc_new (w.alloc o) p
    rw [World.size_alloc] at this; exact this

theorem am_facts {y m k : Int} (y0 : 1970 ≤ y) (y1 : y ≤ 2069) (m0 : 1 ≤ m) (m1 : m ≤ 12) (k0 : 0 ≤ k) (k1 : k ≤ 600) : 1970 ≤ amY y m k ∧ amY y m k ≤ 3000 ∧ 1 ≤ amM m k ∧ amM m k ≤ 12 := by
  unfold amY amM; omega
theorem am_clamp {Y M d : Int} (y0 : 1970 ≤ Y) (y1 : Y ≤ 2069) (m0 : 1 ≤ M) (m1 : M ≤ 12) (d0 : 1 ≤ d) :
    clamp Y 1970 2069 = Y ∧ clamp M 1 12 = M ∧ clamp d 1 (dlen (clamp Y 1970 2069) (clamp M 1 12)) = min d (dlen Y M) := by
  rw [clamp_id y0 y1, clamp_id m0 m1]
  have := dlen_in Y M
  refine ⟨rfl, rfl, ?_⟩
  unfold clamp; omega

set_option maxHeartbeats 1000000 in
theorem am_i (y m d k : Int) (w : World) : Calls Tryd.prog 16 #[.agg #[.int .i64 y, .int .i64 m, .int .i64 d], .int .i64 k] w (GiveM w (amR y m d k)) := by
  have HD := Lib.hid (fun w => isDate_i y m d w)
  obtain ⟨o1, o2⟩ := two_box w (.cells #[.int .i64 y, .int .i64 m, .int .i64 d] 31) (.cells #[.int .i64 0, .int .i64 0, .int .i64 0] 31)
  have HB := Lib.hid (below2 w (.cells #[.int .i64 y, .int .i64 m, .int .i64 d] 31) (.cells #[.int .i64 0, .int .i64 0, .int .i64 0] 31))
  rcases Bool.eq_false_or_eq_true (okD y m d) with h | h
  · rw [h] at HD
    rcases Bool.eq_false_or_eq_true (inr k 0 600) with h' | h'
    · obtain ⟨y0, y1, m0, m1, d0, d1⟩ := okD_iff.1 h
      obtain ⟨k0, k1⟩ := inr_iff.1 h'
      obtain ⟨Y0, Y1, M0, M1⟩ := am_facts y0 y1 m0 m1 k0 k1
      by_cases g : amY y m k ≤ 2069
      · have E := Lib.hid (amR_ok h h' g)
        obtain ⟨q1, q2, q3⟩ := am_clamp (d := d) Y0 g M0 M1 d0
        have HM := Lib.hid (fun w => made_i (amY y m k) (amM m k) d w)
        rw [q1, q2, show clamp d 1 (dlen (amY y m k) (amM m k)) = min d (dlen (amY y m k) (amM m k)) by rw [← q3, q1, q2]] at HM
        have eY : y + (m - 1 + k) / 12 = amY y m k := rfl
        have eM : (m - 1 + k) % 12 + 1 = amM m k := rfl
        generalize min d (dlen (amY y m k) (amM m k)) = D at *
        generalize amY y m k = Y at *
        generalize amM m k = M at *
        clear q1 q2 q3 d1
        go_enter Tryd.func16, Tryd.ntmps16
        go_wp2_with fail
        refine (HD.out _).mono ?_
        rintro e w1 ⟨rfl, b1⟩
        obtain ⟨p1, c0, c1, c2, f0, f1, f2⟩ := keep6 b1 o1
        obtain ⟨p2, r0, r1, r2, s0, s1, s2⟩ := keep6 b1 o2
        go_wp2_with (go_at_call 40; refine (within_q (by assumption) _).mono ?_; rintro e w' ⟨rfl, rfl⟩)
        refine (HM.out _).mono ?_
        rintro e w2 ⟨rfl, b2⟩
        have b3 := belowGo (below_alloc w1 _) b2
        clear c0 c1 c2 f0 f1 f2 r0 r1 r2 s0 s1 s2
        obtain ⟨p3, r0, r1, r2, s0, s1, s2⟩ := keep6 b3 p2
        go_wp2_with fail
        obtain ⟨W, hW, e0, e1, e2, bW⟩ := done3 p3 (.int .i64 Y) (.int .i64 M) (.int .i64 D)
        rw [hW]
        have b2 := bW w.heap.size w (by omega) (belowGo (belowGo HB.out b1) b3)
        clear hW HD HB HM o1 o2 p1 p2 p3 r0 r1 r2 s0 s1 s2 bW b1 b3
        exact bodyPost_ret (v := .tuple #[.agg #[.int .i64 Y, .int .i64 M, .int .i64 D], .int .i64 0]) (by simp [results, Tryd.results16, go_sem, e0, e1, e2]) rfl ⟨by rw [E.out], b2⟩
      · have E := Lib.hid (amR_big h h' g)
        have eY : y + (m - 1 + k) / 12 = amY y m k := rfl
        have eM : (m - 1 + k) % 12 + 1 = amM m k := rfl
        generalize amY y m k = Y at *
        generalize amM m k = M at *
        clear d1
        go_enter Tryd.func16, Tryd.ntmps16
        go_wp2_with fail
        refine (HD.out _).mono ?_
        rintro e w1 ⟨rfl, b1⟩
        obtain ⟨p1, c0, c1, c2, f0, f1, f2⟩ := keep6 b1 o1
        obtain ⟨p2, r0, r1, r2, s0, s1, s2⟩ := keep6 b1 o2
        obtain ⟨p3, t0, t1, t2, u0, u1, u2⟩ := keep6 (below_alloc w1 (.cells #[.int .i64 Y, .int .i64 M, .int .i64 d] 31)) p2
        go_wp2_with (go_at_call 40; refine (within_q (by assumption) _).mono ?_; rintro e w' ⟨rfl, rfl⟩)
        obtain ⟨W, hW, e0, e1, e2, bW⟩ := done3 p3 (.int .i64 0) (.int .i64 0) (.int .i64 0)
        rw [hW]
        have b2 := bW w.heap.size w (by omega) (belowGo (belowGo HB.out b1) (below_alloc w1 _))
        clear hW HD HB o1 o2 p1 p2 p3 c0 c1 c2 f0 f1 f2 r0 r1 r2 s0 s1 s2 t0 t1 t2 u0 u1 u2 bW b1
        exact bodyPost_ret (v := .tuple #[.agg #[.int .i64 0, .int .i64 0, .int .i64 0], .int .i64 3]) (by simp [results, Tryd.results16, go_sem, e0, e1, e2]) rfl ⟨by rw [E.out], b2⟩
    · have E := Lib.hid (amR_k h h')
      go_enter Tryd.func16, Tryd.ntmps16
      go_wp2_with fail
      refine (HD.out _).mono ?_
      rintro e w1 ⟨rfl, b1⟩
      obtain ⟨p1, c0, c1, c2, f0, f1, f2⟩ := keep6 b1 o1
      obtain ⟨p2, r0, r1, r2, s0, s1, s2⟩ := keep6 b1 o2
      go_wp2_with (go_at_call 40; refine (within_q (by assumption) _).mono ?_; rintro e w' ⟨rfl, rfl⟩)
      obtain ⟨W, hW, e0, e1, e2, bW⟩ := done3 p2 (.int .i64 0) (.int .i64 0) (.int .i64 0)
      rw [hW]
      have b2 := bW w.heap.size w (by omega) (belowGo HB.out b1)
      clear hW HD HB o1 o2 p1 p2 c0 c1 c2 f0 f1 f2 r0 r1 r2 s0 s1 s2 bW b1
      exact bodyPost_ret (v := .tuple #[.agg #[.int .i64 0, .int .i64 0, .int .i64 0], .int .i64 2]) (by simp [results, Tryd.results16, go_sem, e0, e1, e2]) rfl ⟨by rw [E.out], b2⟩
  · have E := Lib.hid (amR_no (k := k) h)
    rw [h] at HD
    go_enter Tryd.func16, Tryd.ntmps16
    go_wp2_with fail
    refine (HD.out _).mono ?_
    rintro e w1 ⟨rfl, b1⟩
    obtain ⟨p1, c0, c1, c2, f0, f1, f2⟩ := keep6 b1 o1
    obtain ⟨p2, r0, r1, r2, s0, s1, s2⟩ := keep6 b1 o2
    go_wp2_with fail
    obtain ⟨W, hW, e0, e1, e2, bW⟩ := done3 p2 (.int .i64 0) (.int .i64 0) (.int .i64 0)
    rw [hW]
    have b2 := bW w.heap.size w (by omega) (belowGo HB.out b1)
    clear hW HD HB o1 o2 p1 p2 c0 c1 c2 f0 f1 f2 r0 r1 r2 s0 s1 s2 bW b1
    exact bodyPost_ret (v := .tuple #[.agg #[.int .i64 0, .int .i64 0, .int .i64 0], .int .i64 1]) (by simp [results, Tryd.results16, go_sem, e0, e1, e2]) rfl ⟨by rw [E.out], b2⟩

end Go.Proofs.YtpnkjpfhmiaffaaDoor
