/- impl.FirstDifference, SameDecisions. (by gen_fdd.py) -/
import Derived.Test.YtjcklmhgjdmjoaaFdd
import Derived.Test.YtjcklmhgjdmjoaaClb
namespace Go.Proofs.Ytjcklmhgjdmjoaa
open Go.ChangeShapes Go.WideShapes Go.ChangeAt Go.RowKit
set_option linter.unusedVariables false

theorem own_capE {w : World} {base n q size : Nat} {e : TypeId} {O : Option Addr} {xs : List Value} (h : w.ownsRow base e size (.slice O n q) n xs) : n ≤ q := by
  rcases h.2 with ⟨h1, h2⟩ | ⟨g, cap, cur, h1, _, _, h4, _⟩
  · omega
  · injection h1 with _ _ h3; omega
/-- The two lists' boxes, the answer's zeros behind them. -/
structure KF (w : World) (A B : Option Addr) (n c m d : Nat) (w2 W : World) : Prop where
  z : KZ w2 W
  a : W.cell? ⟨w.heap.size, 0, none⟩ = some (.slice A n c)
  b : W.cell? ⟨w.heap.size + 1, 0, none⟩ = some (.slice B m d)
  bel : Below w.heap.size w W
  la : w.heap.size + 2 < W.heap.size
theorem KF.step {w w2 W W' : World} {A B : Option Addr} {n c m d : Nat} (k : KF w A B n c m d w2 W) (b : Below W.heap.size W W') : KF w A B n c m d w2 W' :=
  ⟨k.z.step b, (b.cell (p := ⟨w.heap.size, 0, none⟩) (by have := k.la; simp only; omega)).trans k.a, (b.cell (p := ⟨w.heap.size + 1, 0, none⟩) (by have := k.la; simp only; omega)).trans k.b, belowGo k.bel b, Nat.lt_of_lt_of_le k.la b.size⟩
theorem KF.new (w : World) (A B : Option Addr) (n c m d : Nat) : KF w A B n c m d ((w.alloc (.cells #[.slice A n c] 24)).alloc (.cells #[.slice B m d] 24)) (((w.alloc (.cells #[.slice A n c] 24)).alloc (.cells #[.slice B m d] 24)).alloc (.cells #[.int .i64 0, .int .i64 0, .string ⟨#[]⟩, .int .i64 0, .bool false, .bool false, .bool false] 26)) := by
  have h1 := heap_alloc_new w (.cells #[.slice A n c] 24)
  have h2 := heap_alloc_new (w.alloc (.cells #[.slice A n c] 24)) (.cells #[.slice B m d] 24)
  have b2 := below_alloc (w.alloc (.cells #[.slice A n c] 24)) (.cells #[.slice B m d] 24)
  have b3 := below_alloc ((w.alloc (.cells #[.slice A n c] 24)).alloc (.cells #[.slice B m d] 24)) (.cells #[.int .i64 0, .int .i64 0, .string ⟨#[]⟩, .int .i64 0, .bool false, .bool false, .bool false] 26)
  have e1 := (b2.block _ (lt_some h1)).trans h1
  have e2 := (b3.block _ (lt_some e1)).trans e1
  have e3 := (b3.block _ (lt_some h2)).trans h2
  have hs : (w.alloc (.cells #[.slice A n c] 24)).heap.size = w.heap.size + 1 := by simp
  rw [hs] at e3
  refine ⟨KZ.new _, by rw [cell_of_row _ _ _ _ _ _ e2]; rfl, by rw [cell_of_row _ _ _ _ _ _ e3]; rfl, belowGo (belowGo (below_alloc _ _) b2) b3, by simp⟩
theorem KF.far {w w2 W W' : World} {A B : Option Addr} {n c m d : Nat} (k : KF w A B n c m d w2 W) (h : Below w.heap.size w w2) (bw : Below w2.heap.size w2 W') : Below w.heap.size w W' := h.trans (bw.mono h.size)
set_option maxRecDepth 100000 in
set_option maxHeartbeats 8000000 in
theorem fd_i (A B : Option Addr) (c d : Nat) (ps qs : List Cls) (w : World) (ha : CTblC w A c ps) (hb : CTblC w B d qs) :
    Calls Try.prog 48 #[.slice A ps.length c, .slice B qs.length d] w (Gives w (.tuple #[.agg #[.int .i64 (fdR ps qs).1.d, .int .i64 (fdR ps qs).1.k, .string ⟨(fdR ps qs).1.c.toArray⟩, .int .i64 (fdR ps qs).1.a, .bool (fdR ps qs).1.p, .bool (fdR ps qs).1.v, .bool (fdR ps qs).1.r], .int .i64 (fdR ps qs).2])) := by
  have kf := KF.new w A B ps.length c qs.length d
  obtain ⟨w2, hw2⟩ : ∃ x, x = (w.alloc (.cells #[.slice A ps.length c] 24)).alloc (.cells #[.slice B qs.length d] 24) := ⟨_, rfl⟩
  have hz2 : w2.heap.size = w.heap.size + 2 := by rw [hw2]; simp
  have hb2 : Below w.heap.size w w2 := by rw [hw2]; exact belowGo (below_alloc _ _) (below_alloc _ _)
  rw [← hw2] at kf
  obtain ⟨w3, hw3⟩ : ∃ x, x = w2.alloc (.cells #[.int .i64 0, .int .i64 0, .string ⟨#[]⟩, .int .i64 0, .bool false, .bool false, .bool false] 26) := ⟨_, rfl⟩
  rw [← hw3] at kf
  have HA := Lib.hid (fun W (b : Below w.heap.size w W) => isRb_i A c ps W (ha.tbl.below b))
  have HB := Lib.hid (fun W (b : Below w.heap.size w W) => isRb_i B d qs W (hb.tbl.below b))
  have HW : Hid ((((w.alloc (.cells #[.slice A ps.length c] 24)).alloc (.cells #[.slice B qs.length d] 24)).alloc (.cells #[.int .i64 0, .int .i64 0, .string ⟨#[]⟩, .int .i64 0, .bool false, .bool false, .bool false] 26)) = w3) := Lib.hid (by rw [hw3, hw2])
  have HW2 := Lib.hid hz2
  have hw0 := HW.out
  clear hw2 hw3
  have k0a := kf.a; have k0b := kf.b
  rcases Bool.eq_false_or_eq_true (rbB ps) with h | h
  · rw [h] at HA
    rcases Bool.eq_false_or_eq_true (rbB qs) with h1 | h1
    · rw [h1] at HB
      have E := Lib.hid (fdR_srch h h1)
      have HSR := Lib.hid (fun ga gb gs l A' c' W h1' h2 h3 h4 h5 h6 => srch_i A B c d ps qs ga gb gs (rb_of h) (rb_of h1) ha.cap hb.cap l A' c' W h1' h2 h3 h4 h5 h6)
      have HT := Lib.hid (fun W (b : Below w.heap.size w W) => (⟨ha.tbl.below b, hb.tbl.below b⟩ : CTbl W A ps ∧ CTbl W B qs))
      have hsl := shp_len 56
      clear h h1 ha hb
      go_enter Try.func48, Try.ntmps48
      go_wp2_with fail
      refine (HA.out _ kf.bel).mono ?_
      rintro e w4 ⟨rfl, b4⟩
      have k4 := kf.step b4
      clear k0a k0b
      have k0a := k4.a; have k0b := k4.b
      go_wp2_with fail
      refine (HB.out _ k4.bel).mono ?_
      rintro e w5 ⟨rfl, b5⟩
      have k5 := k4.step b5
      clear k0a k0b hw0 HA HB
      have s5 := k5.la
      obtain ⟨w6, hw6⟩ : ∃ x, (w5.alloc (.cells #[.nilFunc] 119)).setCell ⟨w5.heap.size, 0, none⟩ (.func (.func 103) #[] #[.pointer (some ⟨w.heap.size, 0, none⟩), .pointer (some ⟨w.heap.size + 1, 0, none⟩), .pointer (some ⟨w5.heap.size, 0, none⟩)]) = x := ⟨_, rfl⟩
      have hc6 : (w5.alloc (.cells #[.nilFunc] 119)).cell? ⟨w5.heap.size, 0, none⟩ = some .nilFunc := by rw [cell_of_row _ _ _ _ _ _ (heap_alloc_new w5 _)]; rfl
      have hz6 : (w5.alloc (.cells #[.nilFunc] 119)).frozen? ⟨w5.heap.size, 0, none⟩ = false := frozen_of_row _ _ 0 _ _ (heap_alloc_new w5 _)
      have hst : (store ⟨w5.heap.size, 0, none⟩ (.func (.func 103) #[] #[.pointer (some ⟨w.heap.size, 0, none⟩), .pointer (some ⟨w.heap.size + 1, 0, none⟩), .pointer (some ⟨w5.heap.size, 0, none⟩)])).run Try.prog (w5.alloc (.cells #[.nilFunc] 119)) = .ok () w6 := by
        rw [run_store _ _ _ _ _ rfl, hc6]
        simp only [hz6]
        rw [← hw6]
        rfl
      have b6 : Below w5.heap.size w5 w6 := by rw [← hw6]; exact (below_alloc _ _).setCell (Nat.le_refl _) _
      have k6 : KF w A B ps.length c qs.length d w2 w6 := k5.step b6
      have f6 : w6.cell? ⟨w5.heap.size, 0, none⟩ = some (.func (.func 103) #[] #[.pointer (some ⟨w.heap.size, 0, none⟩), .pointer (some ⟨w.heap.size + 1, 0, none⟩), .pointer (some ⟨w5.heap.size, 0, none⟩)]) := by rw [← hw6]; exact World.cell?_setCell_same' _ _ _ (by rw [hc6]; rfl)
      have l6 : w5.heap.size < w6.heap.size := by rw [← hw6]; simp
      clear hw6 hc6 hz6
      have ks6 : KS A B ps.length c qs.length d w.heap.size (w.heap.size + 1) w5.heap.size w6 := ⟨k6.a, k6.b, f6, by omega, by omega, l6⟩
      have k7 := k6.step (Below.refl w6.heap.size w6).drew
      have ks7 := ks6.below (Below.refl w6.heap.size w6).drew
      have f7 := ks7.s
      have FS := Lib.hid (fun W (b : Below w6.drew.heap.size w6.drew W) => (ks7.below b).s)
      generalize hD : srchD ps qs (shp 56) = D at *
      have HD := Lib.hid hD
      clear hD ks6 k6 b4 b5 k4
      go_wp2_with fail
      go_region_with (first
        | (go_at_call 94; refine (shapes_i _).mono ?_; rintro e w8 ⟨B8, c8, rfl, o8, b8⟩; have k8 := k7.step b8; have t8 := HT.out _ k8.bel; have c8l := own_capE o8; have f8 := FS.out _ b8)
        | (go_at_call 103; refine (HSR.out w.heap.size (w.heap.size + 1) w5.heap.size (shp 56) B8 c8 _ o8.row c8l (by rw [hsl]; omega) t8.1 t8.2 (ks7.below b8)).mono ?_; rintro e w9 ⟨rfl, b9⟩; rw [HD.out]; have k9 := k8.step b9; obtain ⟨d0, d1, d2, d3, d4, d5, d6, f0, f1, f2, f3, f4, f5, f6⟩ := k9.z.at; rw [HW2.out] at d0 d1 d2 d3 d4 d5 d6 f0 f1 f2 f3 f4 f5 f6))
      all_goals
        go_wp2_with fail
        obtain ⟨W', hW, ec, bw⟩ := k9.z.done D.1
        rw [HW2.out] at hW
        rw [hW]
        have g0 := ec.c0; have g1 := ec.c1; have g2 := ec.c2; have g3 := ec.c3; have g4 := ec.c4; have g5 := ec.c5; have g6 := ec.c6
        rw [HW2.out] at g0 g1 g2 g3 g4 g5 g6
        rw [E.out]
        refine bodyPost_ret (v := .tuple #[.agg #[.int .i64 (D.1).d, .int .i64 (D.1).k, .string ⟨(D.1).c.toArray⟩, .int .i64 (D.1).a, .bool (D.1).p, .bool (D.1).v, .bool (D.1).r], .int .i64 D.2]) ?_ rfl ⟨rfl, k9.far hb2 bw⟩
        simp [results, Try.results48, go_sem, g0, g1, g2, g3, g4, g5, g6, evtZ]
    · rw [h1] at HB
      have E := Lib.hid (@fdR_no ps qs (.inr h1))
      clear h h1 ha hb
      go_enter Try.func48, Try.ntmps48
      go_wp2_with fail
      refine (HA.out _ kf.bel).mono ?_
      rintro e w4 ⟨rfl, b4⟩
      have k4 := kf.step b4
      clear k0a k0b
      have k0a := k4.a; have k0b := k4.b
      go_wp2_with fail
      refine (HB.out _ k4.bel).mono ?_
      rintro e w5 ⟨rfl, b5⟩
      have k5 := k4.step b5
      obtain ⟨d0, d1, d2, d3, d4, d5, d6, f0, f1, f2, f3, f4, f5, f6⟩ := k5.z.at
      rw [HW2.out] at d0 d1 d2 d3 d4 d5 d6 f0 f1 f2 f3 f4 f5 f6
      clear k0a k0b hw0 HA HB
      go_wp2_with fail
      obtain ⟨W', hW, ec, bw⟩ := k5.z.done evtZ
      rw [HW2.out] at hW
      simp only [evtZ] at hW; erw [hW]
      have g0 := ec.c0; have g1 := ec.c1; have g2 := ec.c2; have g3 := ec.c3; have g4 := ec.c4; have g5 := ec.c5; have g6 := ec.c6
      rw [HW2.out] at g0 g1 g2 g3 g4 g5 g6
      rw [E.out]
      refine bodyPost_ret (v := .tuple #[.agg #[.int .i64 0, .int .i64 0, .string ⟨#[]⟩, .int .i64 0, .bool false, .bool false, .bool false], .int .i64 1]) ?_ rfl ⟨rfl, k5.far hb2 bw⟩
      simp [results, Try.results48, go_sem, g0, g1, g2, g3, g4, g5, g6, evtZ]
  · rw [h] at HA
    have E := Lib.hid (@fdR_no ps qs (.inl h))
    clear h ha hb
    go_enter Try.func48, Try.ntmps48
    go_wp2_with fail
    refine (HA.out _ kf.bel).mono ?_
    rintro e w4 ⟨rfl, b4⟩
    have k5 := kf.step b4
    obtain ⟨d0, d1, d2, d3, d4, d5, d6, f0, f1, f2, f3, f4, f5, f6⟩ := k5.z.at
    rw [HW2.out] at d0 d1 d2 d3 d4 d5 d6 f0 f1 f2 f3 f4 f5 f6
    clear k0a k0b hw0 HA HB
    go_wp2_with fail
    obtain ⟨W', hW, ec, bw⟩ := k5.z.done evtZ
    rw [HW2.out] at hW
    simp only [evtZ] at hW; erw [hW]
    have g0 := ec.c0; have g1 := ec.c1; have g2 := ec.c2; have g3 := ec.c3; have g4 := ec.c4; have g5 := ec.c5; have g6 := ec.c6
    rw [HW2.out] at g0 g1 g2 g3 g4 g5 g6
    rw [E.out]
    refine bodyPost_ret (v := .tuple #[.agg #[.int .i64 0, .int .i64 0, .string ⟨#[]⟩, .int .i64 0, .bool false, .bool false, .bool false], .int .i64 1]) ?_ rfl ⟨rfl, k5.far hb2 bw⟩
    simp [results, Try.results48, go_sem, g0, g1, g2, g3, g4, g5, g6, evtZ]
set_option maxRecDepth 100000 in
set_option maxHeartbeats 4000000 in
theorem sd_i (A B : Option Addr) (c d : Nat) (ps qs : List Cls) (w : World) (ha : CTblC w A c ps) (hb : CTblC w B d qs) :
    Calls Try.prog 46 #[.slice A ps.length c, .slice B qs.length d] w (Gives w (.tuple #[.bool (sdR ps qs).1, .int .i64 (sdR ps qs).2])) := by
  have HF := Lib.hid (fd_i A B c d ps qs w ha hb)
  clear ha hb
  by_cases hr : rbB ps = true ∧ rbB qs = true
  · have E0 := sdR_fd hr.1 hr.2
    have hne : ((fdR ps qs).2 == 1) = false := beq_eq_false_iff_ne.2 E0.1
    have E := Lib.hid E0.2
    clear E0 hr
    generalize fdR ps qs = D at *
    go_enter Try.func46, Try.ntmps46
    go_wp2_with fail
    refine HF.out.mono ?_
    rintro e w1 ⟨rfl, b1⟩
    have b2 := Lib.hid (belowGo b1 (below_alloc w1 (.cells #[.int .i64 D.1.d, .int .i64 D.1.k, .string ⟨D.1.c.toArray⟩, .int .i64 D.1.a, .bool D.1.p, .bool D.1.v, .bool D.1.r] 26)))
    go_wp2_with fail
    go_ret2
    exact ⟨by rw [E.out] <;> rfl, b2.out⟩
  · have hno : rbB ps = false ∨ rbB qs = false := by
      rcases Bool.eq_false_or_eq_true (rbB ps) with h | h
      · rcases Bool.eq_false_or_eq_true (rbB qs) with h1 | h1
        · exact absurd ⟨h, h1⟩ hr
        · exact .inr h1
      · exact .inl h
    have E := Lib.hid (sdR_no hno)
    rw [fdR_no hno] at HF
    have b9 := Lib.hid (fun w1 (b1 : Below w.heap.size w w1) => belowGo b1 (below_alloc w1 (.cells #[.int .i64 evtZ.d, .int .i64 evtZ.k, .string ⟨evtZ.c.toArray⟩, .int .i64 evtZ.a, .bool evtZ.p, .bool evtZ.v, .bool evtZ.r] 26)))
    clear hno hr
    go_enter Try.func46, Try.ntmps46
    go_wp2_with fail
    refine HF.out.mono ?_
    rintro e w1 ⟨rfl, b1⟩
    have b2 := Lib.hid (b9.out _ b1)
    go_wp2_with fail
    go_ret2
    exact ⟨by rw [E.out] <;> rfl, b2.out⟩
end Go.Proofs.Ytjcklmhgjdmjoaa
