/- spec.SameDecisions, FirstDifference. -/
import Derived.Test.YtjcklmhgjdmjoaaDifs
import Derived.Test.YtjcklmhgjdmjoaaClk
namespace Go.Proofs.Ytjcklmhgjdmjoaa
open Go.ChangeShapes Go.WideShapes Go.ChangeAt Go.RowKit
set_option linter.unusedVariables false

def sdR (ps qs : List Cls) : Bool × Int := if rbB ps = true ∧ rbB qs = true then (!(difE ps qs).2, 0) else (false, 1)
theorem sdR_no {ps qs : List Cls} (h : rbB ps = false ∨ rbB qs = false) : sdR ps qs = (false, 1) := by
  unfold sdR; rw [if_neg]; rintro ⟨h1, h2⟩; rcases h with h | h <;> simp_all
theorem sdR_ok {ps qs : List Cls} (h : rbB ps = true) (h1 : rbB qs = true) : sdR ps qs = (!(difE ps qs).2, 0) := by unfold sdR; rw [if_pos ⟨h, h1⟩]
def fdR (ps qs : List Cls) : Evt × Int := if rbB ps = true ∧ rbB qs = true then (if (difE ps qs).2 = true then ((difE ps qs).1, 0) else (evtZ, 4)) else (evtZ, 1)
theorem fdR_no {ps qs : List Cls} (h : rbB ps = false ∨ rbB qs = false) : fdR ps qs = (evtZ, 1) := by
  unfold fdR; rw [if_neg]; rintro ⟨h1, h2⟩; rcases h with h | h <;> simp_all
theorem fdR_none {ps qs : List Cls} (h : rbB ps = true) (h1 : rbB qs = true) (h2 : (difE ps qs).2 = false) : fdR ps qs = (evtZ, 4) := by unfold fdR; rw [if_pos ⟨h, h1⟩, if_neg (by rw [h2]; decide)]
theorem fdR_ok {ps qs : List Cls} (h : rbB ps = true) (h1 : rbB qs = true) (h2 : (difE ps qs).2 = true) : fdR ps qs = ((difE ps qs).1, 0) := by unfold fdR; rw [if_pos ⟨h, h1⟩, if_pos h2]
set_option maxHeartbeats 2000000 in
theorem sd_s (A B : Option Addr) (c d : Nat) (ps qs : List Cls) (w : World) (ha : CTbl w A ps) (hb : CTbl w B qs) :
    Calls Try.prog 45 #[.slice A ps.length c, .slice B qs.length d] w (Gives w (.tuple #[.bool (sdR ps qs).1, .int .i64 (sdR ps qs).2])) := by
  rcases Bool.eq_false_or_eq_true (rbB ps) with h | h
  · have HA := Lib.hid (rbS_q (c := c) ha h)
    rcases Bool.eq_false_or_eq_true (rbB qs) with h1 | h1
    · have HB := Lib.hid (fun W (b : Below w.heap.size w W) => rbS_q (c := d) (hb.below b) h1)
      have HD := Lib.hid (fun W (b : Below w.heap.size w W) => dif_s A B c d ps qs W (ha.below b) (hb.below b) (rb_of h) (rb_of h1))
      have E := Lib.hid (sdR_ok h h1)
      generalize difE ps qs = D at *
      clear ha hb h h1
      go_enter Try.func45, Try.ntmps45
      go_wp2_with (first
        | (go_at_call 71; refine (HB.out _ b1).mono ?_; rintro e w2 ⟨rfl, b2⟩; have t2 := belowGo b1 b2)
        | (go_at_call 71; refine HA.out.mono ?_; rintro e w1 ⟨rfl, b1⟩)
        | (go_at_call 102; refine (HD.out _ t2).mono ?_; rintro e w3 ⟨rfl, b3⟩; have t3 := Lib.hid (belowGo (belowGo t2 b3) (below_alloc _ (.cells #[.int .i64 D.1.d, .int .i64 D.1.k, .string ⟨D.1.c.toArray⟩, .int .i64 D.1.a, .bool D.1.p, .bool D.1.v, .bool D.1.r] 26)))))
      go_ret2
      exact ⟨by rw [E.out] <;> rfl, t3.out⟩
    · have HB := Lib.hid (fun W (b : Below w.heap.size w W) => rbS_q (c := d) (hb.below b) h1)
      have E := Lib.hid (@sdR_no ps qs (.inr h1))
      clear ha hb h h1
      go_enter Try.func45, Try.ntmps45
      go_wp2_with (first
        | (go_at_call 71; refine (HB.out _ b1).mono ?_; rintro e w2 ⟨rfl, b2⟩; have t2 := belowGo b1 b2)
        | (go_at_call 71; refine HA.out.mono ?_; rintro e w1 ⟨rfl, b1⟩))
      go_ret2
      exact ⟨by rw [E.out] <;> rfl, t2⟩
  · have HA := Lib.hid (rbS_q (c := c) ha h)
    have E := Lib.hid (@sdR_no ps qs (.inl h))
    clear ha hb h
    go_enter Try.func45, Try.ntmps45
    go_wp2_with (go_at_call 71; refine HA.out.mono ?_; rintro e w1 ⟨rfl, b1⟩)
    go_ret2
    exact ⟨by rw [E.out] <;> rfl, b1⟩
/-- The events' cells of an answer, stored. -/
theorem KZ.done {w W : World} (k : KZ w W) (q : Evt) : ∃ W', (((((((W.setCell ⟨w.heap.size, 0, none⟩ (.int .i64 q.d)).setCell ⟨w.heap.size, 1, none⟩ (.int .i64 q.k)).setCell ⟨w.heap.size, 2, none⟩ (.string ⟨q.c.toArray⟩)).setCell ⟨w.heap.size, 3, none⟩ (.int .i64 q.a)).setCell ⟨w.heap.size, 4, none⟩ (.bool q.p)).setCell ⟨w.heap.size, 5, none⟩ (.bool q.v)).setCell ⟨w.heap.size, 6, none⟩ (.bool q.r)) = W' ∧
    EvtC W' w.heap.size 0 q ∧ Below w.heap.size w W' := by
  obtain ⟨W', hW, hh, hbel⟩ := seven_done k.z (.int .i64 q.d) (.int .i64 q.k) (.string ⟨q.c.toArray⟩) (.int .i64 q.a) (.bool q.p) (.bool q.v) (.bool q.r)
  exact ⟨W', hW, ⟨by rw [cell_of_row _ _ _ _ _ _ hh]; rfl, by rw [cell_of_row _ _ _ _ _ _ hh]; rfl, by rw [cell_of_row _ _ _ _ _ _ hh]; rfl, by rw [cell_of_row _ _ _ _ _ _ hh]; rfl, by rw [cell_of_row _ _ _ _ _ _ hh]; rfl, by rw [cell_of_row _ _ _ _ _ _ hh]; rfl, by rw [cell_of_row _ _ _ _ _ _ hh]; rfl⟩, hbel _ _ (Nat.le_refl _) k.bel⟩
/-- What stands at the answer's place before. -/
structure Z7 (w W : World) : Prop where
  c0 : W.cell? ⟨w.heap.size, 0, none⟩ = some (.int .i64 0)
  c1 : W.cell? ⟨w.heap.size, 1, none⟩ = some (.int .i64 0)
  c2 : W.cell? ⟨w.heap.size, 2, none⟩ = some (.string ⟨#[]⟩)
  c3 : W.cell? ⟨w.heap.size, 3, none⟩ = some (.int .i64 0)
  c4 : W.cell? ⟨w.heap.size, 4, none⟩ = some (.bool false)
  c5 : W.cell? ⟨w.heap.size, 5, none⟩ = some (.bool false)
  c6 : W.cell? ⟨w.heap.size, 6, none⟩ = some (.bool false)
  f0 : W.frozen? ⟨w.heap.size, 0, none⟩ = false
  f1 : W.frozen? ⟨w.heap.size, 1, none⟩ = false
  f2 : W.frozen? ⟨w.heap.size, 2, none⟩ = false
  f3 : W.frozen? ⟨w.heap.size, 3, none⟩ = false
  f4 : W.frozen? ⟨w.heap.size, 4, none⟩ = false
  f5 : W.frozen? ⟨w.heap.size, 5, none⟩ = false
  f6 : W.frozen? ⟨w.heap.size, 6, none⟩ = false
theorem KZ.at {w W : World} (k : KZ w W) : Z7 w W :=
  ⟨by rw [cell_of_row _ _ _ _ _ _ k.z]; rfl, by rw [cell_of_row _ _ _ _ _ _ k.z]; rfl, by rw [cell_of_row _ _ _ _ _ _ k.z]; rfl, by rw [cell_of_row _ _ _ _ _ _ k.z]; rfl, by rw [cell_of_row _ _ _ _ _ _ k.z]; rfl, by rw [cell_of_row _ _ _ _ _ _ k.z]; rfl, by rw [cell_of_row _ _ _ _ _ _ k.z]; rfl,
    frozen_of_row W _ 0 _ _ k.z, frozen_of_row W _ 1 _ _ k.z, frozen_of_row W _ 2 _ _ k.z, frozen_of_row W _ 3 _ _ k.z, frozen_of_row W _ 4 _ _ k.z, frozen_of_row W _ 5 _ _ k.z, frozen_of_row W _ 6 _ _ k.z⟩
set_option maxHeartbeats 4000000 in
theorem fd_s (A B : Option Addr) (c d : Nat) (ps qs : List Cls) (w : World) (ha : CTbl w A ps) (hb : CTbl w B qs) :
    Calls Try.prog 47 #[.slice A ps.length c, .slice B qs.length d] w (Gives w (.tuple #[.agg #[.int .i64 (fdR ps qs).1.d, .int .i64 (fdR ps qs).1.k, .string ⟨(fdR ps qs).1.c.toArray⟩, .int .i64 (fdR ps qs).1.a, .bool (fdR ps qs).1.p, .bool (fdR ps qs).1.v, .bool (fdR ps qs).1.r], .int .i64 (fdR ps qs).2])) := by
  have kz := KZ.new w
  rcases Bool.eq_false_or_eq_true (rbB ps) with h | h
  · have HA := Lib.hid (rbS_q (c := c) (ha.below kz.bel) h)
    rcases Bool.eq_false_or_eq_true (rbB qs) with h1 | h1
    · have HB := Lib.hid (fun W (b : Below w.heap.size w W) => rbS_q (c := d) (hb.below b) h1)
      have HD := Lib.hid (fun W (b : Below w.heap.size w W) => dif_s A B c d ps qs W (ha.below b) (hb.below b) (rb_of h) (rb_of h1))
      have E1 := Lib.hid (@fdR_none ps qs h h1)
      have E2 := Lib.hid (@fdR_ok ps qs h h1)
      generalize difE ps qs = D at *
      clear ha hb h h1
      rcases Bool.eq_false_or_eq_true D.2 with hd | hd
      · have E := Lib.hid (E2.out hd)
        rw [hd] at HD
        clear E1 E2 hd
        go_enter Try.func47, Try.ntmps47
        go_wp2_with (first
          | (go_at_call 71; refine (HB.out _ k1.bel).mono ?_; rintro e w2 ⟨rfl, b2⟩; have k2 := k1.step b2; obtain ⟨d0, d1, d2, d3, d4, d5, d6, h0, h1, h2, h3, h4, h5, h6⟩ := k2.at)
          | (go_at_call 71; refine HA.out.mono ?_; rintro e w1 ⟨rfl, b1⟩; have k1 := kz.step b1; obtain ⟨c0, c1, c2, c3, c4, c5, c6, f0, f1, f2, f3, f4, f5, f6⟩ := k1.at)
          | (go_at_call 102; refine (HD.out _ k2.bel).mono ?_; rintro e w3 ⟨rfl, b3⟩; have k3 := k2.step b3; have k4 := k3.step (below_alloc _ (.cells #[.int .i64 (D.1).d, .int .i64 (D.1).k, .string ⟨(D.1).c.toArray⟩, .int .i64 (D.1).a, .bool (D.1).p, .bool (D.1).v, .bool (D.1).r] 26)); obtain ⟨e0, e1, e2, e3, e4, e5, e6, i0, i1, i2, i3, i4, i5, i6⟩ := k4.at))
        obtain ⟨W', hW, ec, bw⟩ := k4.done D.1
        rw [hW]
        have g0 := ec.c0; have g1 := ec.c1; have g2 := ec.c2; have g3 := ec.c3; have g4 := ec.c4; have g5 := ec.c5; have g6 := ec.c6
        rw [E.out]
        refine bodyPost_ret (v := .tuple #[.agg #[.int .i64 (D.1).d, .int .i64 (D.1).k, .string ⟨(D.1).c.toArray⟩, .int .i64 (D.1).a, .bool (D.1).p, .bool (D.1).v, .bool (D.1).r], .int .i64 0]) ?_ rfl ⟨rfl, bw⟩
        simp [results, Try.results47, go_sem, g0, g1, g2, g3, g4, g5, g6, evtZ]
      · have E := Lib.hid (E1.out hd)
        rw [hd] at HD
        clear E1 E2 hd
        go_enter Try.func47, Try.ntmps47
        go_wp2_with (first
          | (go_at_call 71; refine (HB.out _ k1.bel).mono ?_; rintro e w2 ⟨rfl, b2⟩; have k2 := k1.step b2; obtain ⟨d0, d1, d2, d3, d4, d5, d6, h0, h1, h2, h3, h4, h5, h6⟩ := k2.at)
          | (go_at_call 71; refine HA.out.mono ?_; rintro e w1 ⟨rfl, b1⟩; have k1 := kz.step b1; obtain ⟨c0, c1, c2, c3, c4, c5, c6, f0, f1, f2, f3, f4, f5, f6⟩ := k1.at)
          | (go_at_call 102; refine (HD.out _ k2.bel).mono ?_; rintro e w3 ⟨rfl, b3⟩; have k3 := k2.step b3; have k4 := k3.step (below_alloc _ (.cells #[.int .i64 (D.1).d, .int .i64 (D.1).k, .string ⟨(D.1).c.toArray⟩, .int .i64 (D.1).a, .bool (D.1).p, .bool (D.1).v, .bool (D.1).r] 26)); obtain ⟨e0, e1, e2, e3, e4, e5, e6, i0, i1, i2, i3, i4, i5, i6⟩ := k4.at))
        obtain ⟨W', hW, ec, bw⟩ := k4.done evtZ
        simp only [evtZ] at hW; erw [hW]
        have g0 := ec.c0; have g1 := ec.c1; have g2 := ec.c2; have g3 := ec.c3; have g4 := ec.c4; have g5 := ec.c5; have g6 := ec.c6
        rw [E.out]
        refine bodyPost_ret (v := .tuple #[.agg #[.int .i64 0, .int .i64 0, .string ⟨#[]⟩, .int .i64 0, .bool false, .bool false, .bool false], .int .i64 4]) ?_ rfl ⟨rfl, bw⟩
        simp [results, Try.results47, go_sem, g0, g1, g2, g3, g4, g5, g6, evtZ]
    · have HB := Lib.hid (fun W (b : Below w.heap.size w W) => rbS_q (c := d) (hb.below b) h1)
      have E := Lib.hid (@fdR_no ps qs (.inr h1))
      clear ha hb h h1
      go_enter Try.func47, Try.ntmps47
      go_wp2_with (first
        | (go_at_call 71; refine (HB.out _ k1.bel).mono ?_; rintro e w2 ⟨rfl, b2⟩; have k2 := k1.step b2; obtain ⟨d0, d1, d2, d3, d4, d5, d6, h0, h1, h2, h3, h4, h5, h6⟩ := k2.at)
        | (go_at_call 71; refine HA.out.mono ?_; rintro e w1 ⟨rfl, b1⟩; have k1 := kz.step b1; obtain ⟨c0, c1, c2, c3, c4, c5, c6, f0, f1, f2, f3, f4, f5, f6⟩ := k1.at))
      obtain ⟨W', hW, ec, bw⟩ := k2.done evtZ
      simp only [evtZ] at hW; erw [hW]
      have g0 := ec.c0; have g1 := ec.c1; have g2 := ec.c2; have g3 := ec.c3; have g4 := ec.c4; have g5 := ec.c5; have g6 := ec.c6
      rw [E.out]
      refine bodyPost_ret (v := .tuple #[.agg #[.int .i64 0, .int .i64 0, .string ⟨#[]⟩, .int .i64 0, .bool false, .bool false, .bool false], .int .i64 1]) ?_ rfl ⟨rfl, bw⟩
      simp [results, Try.results47, go_sem, g0, g1, g2, g3, g4, g5, g6, evtZ]
  · have HA := Lib.hid (rbS_q (c := c) (ha.below kz.bel) h)
    have E := Lib.hid (@fdR_no ps qs (.inl h))
    clear ha hb h
    go_enter Try.func47, Try.ntmps47
    go_wp2_with (go_at_call 71; refine HA.out.mono ?_; rintro e w1 ⟨rfl, b1⟩; have k1 := kz.step b1; obtain ⟨c0, c1, c2, c3, c4, c5, c6, f0, f1, f2, f3, f4, f5, f6⟩ := k1.at)
    obtain ⟨W', hW, ec, bw⟩ := k1.done evtZ
    simp only [evtZ] at hW; erw [hW]
    have g0 := ec.c0; have g1 := ec.c1; have g2 := ec.c2; have g3 := ec.c3; have g4 := ec.c4; have g5 := ec.c5; have g6 := ec.c6
    rw [E.out]
    refine bodyPost_ret (v := .tuple #[.agg #[.int .i64 0, .int .i64 0, .string ⟨#[]⟩, .int .i64 0, .bool false, .bool false, .bool false], .int .i64 1]) ?_ rfl ⟨rfl, bw⟩
    simp [results, Try.results47, go_sem, g0, g1, g2, g3, g4, g5, g6, evtZ]
end Go.Proofs.Ytjcklmhgjdmjoaa
