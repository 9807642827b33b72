/- The law of FirstDifference. (by laws10.py) -/
import Derived.Test.YtjcklmhgjdmjoaaFdt
import Derived.Test.YtjcklmhgjdmjoaaEdw2
import Derived.Test.YtjcklmhgjdmjoaaMEvt
namespace Go.Proofs.Ytjcklmhgjdmjoaa
open Go.ChangeShapes Go.WideShapes Go.ChangeAt Go.RowKit
set_option linter.unusedVariables false

/-- An event's box of the law's own. -/
structure BoxEv (g : Nat) (p : Evt) (W : World) : Prop where
  a : W.heap[g]? = some (.cells #[.int .i64 p.d, .int .i64 p.k, .string ⟨p.c.toArray⟩, .int .i64 p.a, .bool p.p, .bool p.v, .bool p.r] 26 (0, 0))
theorem BoxEv.below {g : Nat} {p : Evt} {W W' : World} (h : BoxEv g p W) (b : Below W.heap.size W W') : BoxEv g p W' := ⟨(b.block _ (lt_some h.a)).trans h.a⟩
theorem BoxEv.cells {g : Nat} {p : Evt} {W : World} (h : BoxEv g p W) : EvtC W g 0 p :=
  ⟨by rw [cell_of_row _ _ _ _ _ _ h.a]; rfl, by rw [cell_of_row _ _ _ _ _ _ h.a]; rfl, by rw [cell_of_row _ _ _ _ _ _ h.a]; rfl, by rw [cell_of_row _ _ _ _ _ _ h.a]; rfl, by rw [cell_of_row _ _ _ _ _ _ h.a]; rfl, by rw [cell_of_row _ _ _ _ _ _ h.a]; rfl, by rw [cell_of_row _ _ _ _ _ _ h.a]; rfl⟩
set_option maxRecDepth 100000 in
set_option maxHeartbeats 4000000 in
theorem law_FnExactFirstDifference (A : Option Addr) (c : Nat) (ps : List Cls) (B : Option Addr) (d : Nat) (qs : List Cls) (w : World) (hR : ClsR w A ps) (hm : ps.length ≤ maxLen) (hw : ∀ r ∈ ps, r.wf) (hR2 : ClsR w B qs) (hm2 : qs.length ≤ maxLen) (hw2 : ∀ r ∈ qs, r.wf) :
    Calls Try.prog 7 #[.slice A ps.length c, .slice B qs.length d] w fun e w' => e = .returned (.bool true) ∧ Below w.heap.size w w' := by
  have HZ := Lib.hid (szClauseS_l A c ps 1048576 w hR hw hm (by omega) (by omega))
  obtain ⟨m, hmm⟩ : ∃ m, Cls.szT ps 1048576 = m := ⟨_, rfl⟩
  have HO := Lib.hid (fun h => Cls.szT_law hmm h (by omega))
  rw [hmm] at HZ
  go_enter Try.func7, Try.ntmps7
  go_wp2_with fail
  refine HZ.out.mono ?_
  rintro e wa ⟨rfl, b0⟩
  by_cases hneg : m < 0
  · go_wp2_with fail
    go_ret
    exact ⟨rfl, b0⟩
  obtain ⟨hn, htx, hmu⟩ := HO.out (by omega)
  have hm0 : 0 ≤ m := by omega
  clear HO HZ hm hw hneg hmm
  have HZ := Lib.hid (szClauseS_l B d qs m wa (hR2.below b0) hw2 hm2 hm0 (by omega))
  obtain ⟨m2, hmm⟩ : ∃ m2, Cls.szT qs m = m2 := ⟨_, rfl⟩
  have HO := Lib.hid (fun h => Cls.szT_law hmm h hmu)
  rw [hmm] at HZ
  go_wp2_with fail
  refine HZ.out.mono ?_
  rintro e w0 ⟨rfl, b00⟩
  have t0 := belowGo b0 b00
  by_cases hneg : m2 < 0
  · go_wp2_with fail
    go_ret
    exact ⟨rfl, t0⟩
  obtain ⟨hn2, htx2, hmu2⟩ := HO.out (by omega)
  have hm02 : 0 ≤ m2 := by omega
  clear HO HZ hm2 hw2 hneg hmm b0 b00
  have HI := Lib.hid (fun A c B d W (h : CTblC W A c ps) (h2 : CTblC W B d qs) => fd_i A B c d ps qs W h h2)
  have HS := Lib.hid (fun A c B d W (h : CTbl W A ps) (h2 : CTbl W B qs) => fd_s A B c d ps qs W h h2)
  generalize fdR ps qs = r at *
  go_wp2_with fail
  refine (toClauseS_l A c ps _ (hR.below t0) hn).mono ?_
  rintro e w1 ⟨B1, c1, rfl, o1, b1⟩
  have t1 := belowGo t0 b1
  have s1 := b1.size
  clear b1
  replace o1 := Own2.of (lo := w0.heap.size) (e := 54) (size := 7) (xs := ps.flatMap Cls.cells) o1
  go_wp2_with fail
  refine (toClauseS_l B d qs _ (hR2.below t1) hn2).mono ?_
  rintro e w2 ⟨B2, c2, rfl, o2, b2⟩
  have t2 := belowGo t1 b2
  have s2 := b2.size
  replace o1 := o1.below b2
  clear b2
  replace o2 := Own2.of (lo := w1.heap.size) (e := 54) (size := 7) (xs := qs.flatMap Cls.cells) o2
  go_wp2_with fail
  refine (HS.out B1 c1 B2 c2 _ (ctbl_of (show ClsO _ _ _ _ _ ps from o1.1) htx hn) (ctbl_of (show ClsO _ _ _ _ _ qs from o2.1) htx2 hn2)).mono ?_
  rintro e w3 ⟨rfl, b3⟩
  have t3 := belowGo t2 b3
  have s3 := b3.size
  replace o1 := o1.below b3
  replace o2 := o2.below b3
  clear b3
  obtain ⟨w4, hw4⟩ : ∃ x, w3.alloc (.cells #[.int .i64 r.1.d, .int .i64 r.1.k, .string ⟨r.1.c.toArray⟩, .int .i64 r.1.a, .bool r.1.p, .bool r.1.v, .bool r.1.r] 26) = x := ⟨_, rfl⟩
  have b4 : Below w3.heap.size w3 w4 := by rw [← hw4]; exact below_alloc _ _
  have x4 : BoxEv w3.heap.size r.1 w4 := ⟨by rw [← hw4]; exact heap_alloc_new _ _⟩
  have t4 := belowGo t3 b4
  have s4 := b4.size
  replace o1 := o1.below b4
  replace o2 := o2.below b4
  clear b4
  clear o1 o2
  go_wp2_with fail
  refine (toClauseS_l A c ps _ (hR.below t4) hn).mono ?_
  rintro e w5 ⟨B5, c5, rfl, o5, b5⟩
  have t5 := belowGo t4 b5
  have s5 := b5.size
  replace x4 := x4.below b5
  clear b5
  replace o5 := Own2.of (lo := w4.heap.size) (e := 54) (size := 7) (xs := ps.flatMap Cls.cells) o5
  go_wp2_with fail
  refine (toClauseS_l B d qs _ (hR2.below t5) hn2).mono ?_
  rintro e w6 ⟨B6, c6, rfl, o6, b6⟩
  have t6 := belowGo t5 b6
  have s6 := b6.size
  replace x4 := x4.below b6
  replace o5 := o5.below b6
  clear b6
  replace o6 := Own2.of (lo := w5.heap.size) (e := 54) (size := 7) (xs := qs.flatMap Cls.cells) o6
  go_wp2_with fail
  refine (HI.out B5 c5 B6 c6 _ (ctblC_of (show ClsO _ _ _ _ _ ps from o5.1) htx hn) (ctblC_of (show ClsO _ _ _ _ _ qs from o6.1) htx2 hn2)).mono ?_
  rintro e w7 ⟨rfl, b7⟩
  have t7 := belowGo t6 b7
  have s7 := b7.size
  replace x4 := x4.below b7
  replace o5 := o5.below b7
  replace o6 := o6.below b7
  clear b7
  obtain ⟨w8, hw8⟩ : ∃ x, w7.alloc (.cells #[.int .i64 r.1.d, .int .i64 r.1.k, .string ⟨r.1.c.toArray⟩, .int .i64 r.1.a, .bool r.1.p, .bool r.1.v, .bool r.1.r] 26) = x := ⟨_, rfl⟩
  have b8 : Below w7.heap.size w7 w8 := by rw [← hw8]; exact below_alloc _ _
  have x8 : BoxEv w7.heap.size r.1 w8 := ⟨by rw [← hw8]; exact heap_alloc_new _ _⟩
  have t8 := belowGo t7 b8
  have s8 := b8.size
  replace x4 := x4.below b8
  replace o5 := o5.below b8
  replace o6 := o6.below b8
  clear b8
  have y0 := x4.cells.c0; have z0 := x8.cells.c0; have y1 := x4.cells.c1; have z1 := x8.cells.c1; have y2 := x4.cells.c2; have z2 := x8.cells.c2; have y3 := x4.cells.c3; have z3 := x8.cells.c3; have y4 := x4.cells.c4; have z4 := x8.cells.c4; have y5 := x4.cells.c5; have z5 := x8.cells.c5; have y6 := x4.cells.c6; have z6 := x8.cells.c6
  go_wp2_with fail
  refine (eqEvent_same r.1 _).mono ?_
  rintro e w9 ⟨rfl, b9⟩
  have t9 := belowGo t8 b9
  have s9 := b9.size
  replace x4 := x4.below b9
  replace o5 := o5.below b9
  replace o6 := o6.below b9
  replace x8 := x8.below b9
  clear b9
  have e1 : (r.2 != r.2) = false := by simp
  go_wp2_with fail
  refine (toClauseS_l A c ps _ (hR.below t9) hn).mono ?_
  rintro e w10 ⟨B10, c10, rfl, o10, b10⟩
  have t10 := belowGo t9 b10
  have s10 := b10.size
  replace x4 := x4.below b10
  replace o5 := o5.below b10
  replace o6 := o6.below b10
  replace x8 := x8.below b10
  clear b10
  replace o10 := Own2.of (lo := w9.heap.size) (e := 54) (size := 7) (xs := ps.flatMap Cls.cells) o10
  go_wp2_with fail
  refine (eqClauseS_l B5 B10 _ _ c5 c10 ps _ o5.cl o10.cl rfl rfl (by omega)).mono ?_
  rintro e w11 ⟨rfl, b11⟩
  have t11 := belowGo t10 b11
  have s11 := b11.size
  replace x4 := x4.below b11
  replace o5 := o5.below b11
  replace o6 := o6.below b11
  replace x8 := x8.below b11
  replace o10 := o10.below b11
  clear b11
  clear o10
  go_wp2_with fail
  refine (toClauseS_l B d qs _ (hR2.below t11) hn2).mono ?_
  rintro e w12 ⟨B12, c12, rfl, o12, b12⟩
  have t12 := belowGo t11 b12
  have s12 := b12.size
  replace x4 := x4.below b12
  replace o5 := o5.below b12
  replace o6 := o6.below b12
  replace x8 := x8.below b12
  clear b12
  replace o12 := Own2.of (lo := w11.heap.size) (e := 54) (size := 7) (xs := qs.flatMap Cls.cells) o12
  go_wp2_with fail
  refine (eqClauseS_l B6 B12 _ _ c6 c12 qs _ o6.cl o12.cl rfl rfl (by omega)).mono ?_
  rintro e w13 ⟨rfl, b13⟩
  have t13 := belowGo t12 b13
  have s13 := b13.size
  replace x4 := x4.below b13
  replace o5 := o5.below b13
  replace o6 := o6.below b13
  replace x8 := x8.below b13
  replace o12 := o12.below b13
  clear b13
  clear o12
  go_wp2_with fail
  go_ret
  exact ⟨rfl, t13⟩
end Go.Proofs.Ytjcklmhgjdmjoaa
