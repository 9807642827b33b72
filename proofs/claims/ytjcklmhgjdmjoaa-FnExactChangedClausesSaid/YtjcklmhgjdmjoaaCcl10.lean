/- The law of ChangedClauses. (by laws10.py) -/
import Derived.Test.YtjcklmhgjdmjoaaChi
import Derived.Test.YtjcklmhgjdmjoaaEdw2
import Derived.Test.YtjcklmhgjdmjoaaCld
namespace Go.Proofs.Ytjcklmhgjdmjoaa
open Go.ChangeShapes Go.WideShapes Go.ChangeAt Go.RowKit
set_option linter.unusedVariables false

theorem ccR_len (ps qs : List Cls) (h : ps.length ≤ 1048576) (h1 : qs.length ≤ 1048576) : (ccR ps qs).1.length ≤ 1048576 := by
  rcases Bool.eq_false_or_eq_true (rbB ps) with a | a
  · rcases Bool.eq_false_or_eq_true (rbB qs) with b | b
    · rw [ccR_ok a b]
      have l1 := (rb_of a).hi
      have l2 := (rb_of b).hi
      have := ownU_len (chgL ps qs)
      have h3 := fil_len (chgB qs) ps
      have h4 := fil_len (newB ps) qs
      unfold chgL at this
      rw [List.length_append] at this
      show (ownU (chgL ps qs)).length ≤ _
      unfold chgL; omega
    · rw [ccR_no (.inr b)]; simp
  · rw [ccR_no (.inl a)]; simp
theorem cc_il (A B : Option Addr) (c d : Nat) (ps qs : List Cls) (w : World) (ha : CTblC w A c ps) (hb : CTblC w B d qs) :
    Calls Try.prog 40 #[.slice A ps.length c, .slice B qs.length d] w (NewStrsC w (ccR ps qs)) := cc_i A B c d ps qs w ha.tbl hb.tbl
set_option maxRecDepth 100000 in
set_option maxHeartbeats 4000000 in
theorem law_FnExactChangedClauses (A : Option Addr) (c : Nat) (ps : List Cls) (B : Option Addr) (d : Nat) (qs : List Cls) (w : World) (hR : ClsR w A ps) (hm : ps.length ≤ maxLen) (hw : ∀ r ∈ ps, r.wf) (hR2 : ClsR w B qs) (hm2 : qs.length ≤ maxLen) (hw2 : ∀ r ∈ qs, r.wf) :
    Calls Try.prog 5 #[.slice A ps.length c, .slice B qs.length d] w fun e w' => e = .returned (.bool true) ∧ Below w.heap.size w w' := by
  have HZ := Lib.hid (szClauseS_l A c ps 1048576 w hR hw hm (by omega) (by omega))
  obtain ⟨m, hmm⟩ : ∃ m, Cls.szT ps 1048576 = m := ⟨_, rfl⟩
  have HO := Lib.hid (fun h => Cls.szT_law hmm h (by omega))
  rw [hmm] at HZ
  go_enter Try.func5, Try.ntmps5
  go_wp2_with fail
  refine HZ.out.mono ?_
  rintro e wa ⟨rfl, b0⟩
  by_cases hneg : m < 0
  · go_wp2_with fail
    go_ret
    exact ⟨rfl, b0⟩
  obtain ⟨hn, htx, hmu⟩ := HO.out (by omega)
  have hm0 : 0 ≤ m := by omega
  clear HO HZ hm hw hneg hmm
  have HZ := Lib.hid (szClauseS_l B d qs m wa (hR2.below b0) hw2 hm2 hm0 (by omega))
  obtain ⟨m2, hmm⟩ : ∃ m2, Cls.szT qs m = m2 := ⟨_, rfl⟩
  have HO := Lib.hid (fun h => Cls.szT_law hmm h hmu)
  rw [hmm] at HZ
  go_wp2_with fail
  refine HZ.out.mono ?_
  rintro e w0 ⟨rfl, b00⟩
  have t0 := belowGo b0 b00
  by_cases hneg : m2 < 0
  · go_wp2_with fail
    go_ret
    exact ⟨rfl, t0⟩
  obtain ⟨hn2, htx2, hmu2⟩ := HO.out (by omega)
  have hm02 : 0 ≤ m2 := by omega
  clear HO HZ hm2 hw2 hneg hmm b0 b00
  have HI := Lib.hid (fun A c B d W (h : CTblC W A c ps) (h2 : CTblC W B d qs) => cc_il A B c d ps qs W h h2)
  have HS := Lib.hid (fun A c B d W (h : CTbl W A ps) (h2 : CTbl W B qs) => cc_s A B c d ps qs W h h2)
  have hrl : (ccR ps qs).1.length ≤ 1048576 := ccR_len ps qs (by omega) (by omega)
  generalize ccR ps qs = r at *
  go_wp2_with fail
  refine (toClauseS_l A c ps _ (hR.below t0) hn).mono ?_
  rintro e w1 ⟨B1, c1, rfl, o1, b1⟩
  have t1 := belowGo t0 b1
  have s1 := b1.size
  clear b1
  replace o1 := Own2.of (lo := w0.heap.size) (e := 54) (size := 7) (xs := ps.flatMap Cls.cells) o1
  go_wp2_with fail
  refine (toClauseS_l B d qs _ (hR2.below t1) hn2).mono ?_
  rintro e w2 ⟨B2, c2, rfl, o2, b2⟩
  have t2 := belowGo t1 b2
  have s2 := b2.size
  replace o1 := o1.below b2
  clear b2
  replace o2 := Own2.of (lo := w1.heap.size) (e := 54) (size := 7) (xs := qs.flatMap Cls.cells) o2
  go_wp2_with fail
  refine (HS.out B1 c1 B2 c2 _ (ctbl_of (show ClsO _ _ _ _ _ ps from o1.1) htx hn) (ctbl_of (show ClsO _ _ _ _ _ qs from o2.1) htx2 hn2)).mono ?_
  rintro e w3 ⟨C3, d3, rfl, q3, b3⟩
  have t3 := belowGo t2 b3
  have s3 := b3.size
  replace o1 := o1.below b3
  replace o2 := o2.below b3
  clear b3
  replace q3 := Own2.of (lo := w2.heap.size) (e := 9) (size := 1) (xs := r.1.map encStr) q3
  clear o1 o2
  go_wp2_with fail
  refine (toClauseS_l A c ps _ (hR.below t3) hn).mono ?_
  rintro e w4 ⟨B4, c4, rfl, o4, b4⟩
  have t4 := belowGo t3 b4
  have s4 := b4.size
  replace q3 := q3.below b4
  clear b4
  replace o4 := Own2.of (lo := w3.heap.size) (e := 54) (size := 7) (xs := ps.flatMap Cls.cells) o4
  go_wp2_with fail
  refine (toClauseS_l B d qs _ (hR2.below t4) hn2).mono ?_
  rintro e w5 ⟨B5, c5, rfl, o5, b5⟩
  have t5 := belowGo t4 b5
  have s5 := b5.size
  replace q3 := q3.below b5
  replace o4 := o4.below b5
  clear b5
  replace o5 := Own2.of (lo := w4.heap.size) (e := 54) (size := 7) (xs := qs.flatMap Cls.cells) o5
  go_wp2_with fail
  refine (HI.out B4 c4 B5 c5 _ (ctblC_of (show ClsO _ _ _ _ _ ps from o4.1) htx hn) (ctblC_of (show ClsO _ _ _ _ _ qs from o5.1) htx2 hn2)).mono ?_
  rintro e w6 ⟨C6, d6, rfl, q6, b6⟩
  have t6 := belowGo t5 b6
  have s6 := b6.size
  replace q3 := q3.below b6
  replace o4 := o4.below b6
  replace o5 := o5.below b6
  clear b6
  replace q6 := Own2.of (lo := w5.heap.size) (e := 9) (size := 1) (xs := r.1.map encStr) q6
  go_wp2_with fail
  refine (eqStringS_l C6 C3 _ _ d6 d3 r.1 _ q6.sr q3.sr rfl rfl (by omega)).mono ?_
  rintro e w7 ⟨rfl, b7⟩
  have t7 := belowGo t6 b7
  have s7 := b7.size
  replace q3 := q3.below b7
  replace o4 := o4.below b7
  replace o5 := o5.below b7
  replace q6 := q6.below b7
  clear b7
  go_wp2_with fail
  refine (toClauseS_l A c ps _ (hR.below t7) hn).mono ?_
  rintro e w8 ⟨B8, c8, rfl, o8, b8⟩
  have t8 := belowGo t7 b8
  have s8 := b8.size
  replace q3 := q3.below b8
  replace o4 := o4.below b8
  replace o5 := o5.below b8
  replace q6 := q6.below b8
  clear b8
  replace o8 := Own2.of (lo := w7.heap.size) (e := 54) (size := 7) (xs := ps.flatMap Cls.cells) o8
  go_wp2_with fail
  refine (eqClauseS_l B4 B8 _ _ c4 c8 ps _ o4.cl o8.cl rfl rfl (by omega)).mono ?_
  rintro e w9 ⟨rfl, b9⟩
  have t9 := belowGo t8 b9
  have s9 := b9.size
  replace q3 := q3.below b9
  replace o4 := o4.below b9
  replace o5 := o5.below b9
  replace q6 := q6.below b9
  replace o8 := o8.below b9
  clear b9
  clear o8
  go_wp2_with fail
  refine (toClauseS_l B d qs _ (hR2.below t9) hn2).mono ?_
  rintro e w10 ⟨B10, c10, rfl, o10, b10⟩
  have t10 := belowGo t9 b10
  have s10 := b10.size
  replace q3 := q3.below b10
  replace o4 := o4.below b10
  replace o5 := o5.below b10
  replace q6 := q6.below b10
  clear b10
  replace o10 := Own2.of (lo := w9.heap.size) (e := 54) (size := 7) (xs := qs.flatMap Cls.cells) o10
  go_wp2_with fail
  refine (eqClauseS_l B5 B10 _ _ c5 c10 qs _ o5.cl o10.cl rfl rfl (by omega)).mono ?_
  rintro e w11 ⟨rfl, b11⟩
  have t11 := belowGo t10 b11
  have s11 := b11.size
  replace q3 := q3.below b11
  replace o4 := o4.below b11
  replace o5 := o5.below b11
  replace q6 := q6.below b11
  replace o10 := o10.below b11
  clear b11
  clear o10
  go_wp2_with fail
  refine (markClauseS_l B4 _ c4 1 ps _ _ o4.1 (by omega) (by omega) (by omega)).mono ?_
  rintro e w12 ⟨rfl, n12, g12⟩
  have T12 := o4.wrote g12
  replace q3 := q3.tou T12 (by omega)
  replace o5 := o5.tou T12 (by omega)
  replace q6 := q6.tou T12 (by omega)
  have t12 : Below w.heap.size w w12 := Tou.far t11 T12 (by have := t0.size; omega) t11.size
  have s12 := T12.size
  clear o4 n12
  go_wp2_with fail
  refine (markClauseS_l B5 _ c5 (1 + 7 * ps.length) qs _ _ o5.1 (by omega) (by omega) (by omega)).mono ?_
  rintro e w13 ⟨rfl, n13, g13⟩
  have T13 := o5.wrote g13
  replace q3 := q3.tou T13 (by omega)
  replace q6 := q6.tou T13 (by omega)
  have t13 : Below w.heap.size w w13 := Tou.far t12 T13 (by have := t0.size; omega) t12.size
  have s13 := T13.size
  clear o5 n13
  have hk : decide (((1 + 7 * ps.length + 7 * qs.length : Nat) : Int) < 0) = false := by simp; omega
  go_wp2_with fail
  refine (eqStringS_l C6 C3 _ _ d6 d3 r.1 _ q6.sr q3.sr rfl rfl (by omega)).mono ?_
  rintro e w14 ⟨rfl, b14⟩
  have t14 := belowGo t13 b14
  have s14 := b14.size
  replace q3 := q3.below b14
  replace q6 := q6.below b14
  clear b14
  go_wp2_with fail
  refine (markStringS_l C6 _ d6 1 r.1 _ _ q6.1 (by omega) (by omega) (by omega)).mono ?_
  rintro e w15 ⟨rfl, n15, g15⟩
  have T15 := q6.wrote g15
  replace q3 := q3.tou T15 (by omega)
  have t15 : Below w.heap.size w w15 := Tou.far t14 T15 (by have := t0.size; omega) t14.size
  have s15 := T15.size
  have m15 : Own2 w15 w5.heap.size w6.heap.size 9 1 C6 r.1.length d6 ((marksS 1 r.1.length).map encStr) := ⟨n15, q6.2⟩
  clear q6 n15
  have hk2 : decide (((1 + r.1.length : Nat) : Int) < 0) = false := by simp; omega
  have hk3 : (((1 + r.1.length : Nat) : Int) != ((1 + r.1.length : Nat) : Int)) = false := by simp
  go_wp2_with fail
  refine (heldStringS_l C6 _ d6 1 _ m15.sr (by omega) (by omega) (by omega)).mono ?_
  rintro e w16 ⟨rfl, b16⟩
  have t16 := belowGo t15 b16
  have s16 := b16.size
  replace q3 := q3.below b16
  replace m15 := m15.below b16
  clear b16
  go_wp2_with fail
  refine (toClauseS_l A c ps _ (hR.below t16) hn).mono ?_
  rintro e w17 ⟨B17, c17, rfl, o17, b17⟩
  have t17 := belowGo t16 b17
  have s17 := b17.size
  replace q3 := q3.below b17
  replace m15 := m15.below b17
  clear b17
  replace o17 := Own2.of (lo := w16.heap.size) (e := 54) (size := 7) (xs := ps.flatMap Cls.cells) o17
  go_wp2_with fail
  refine (toClauseS_l B d qs _ (hR2.below t17) hn2).mono ?_
  rintro e w18 ⟨B18, c18, rfl, o18, b18⟩
  have t18 := belowGo t17 b18
  have s18 := b18.size
  replace q3 := q3.below b18
  replace m15 := m15.below b18
  replace o17 := o17.below b18
  clear b18
  replace o18 := Own2.of (lo := w17.heap.size) (e := 54) (size := 7) (xs := qs.flatMap Cls.cells) o18
  go_wp2_with fail
  refine (HI.out B17 c17 B18 c18 _ (ctblC_of (show ClsO _ _ _ _ _ ps from o17.1) htx hn) (ctblC_of (show ClsO _ _ _ _ _ qs from o18.1) htx2 hn2)).mono ?_
  rintro e w19 ⟨C19, d19, rfl, q19, b19⟩
  have t19 := belowGo t18 b19
  have s19 := b19.size
  replace q3 := q3.below b19
  replace m15 := m15.below b19
  replace o17 := o17.below b19
  replace o18 := o18.below b19
  clear b19
  replace q19 := Own2.of (lo := w18.heap.size) (e := 9) (size := 1) (xs := r.1.map encStr) q19
  go_wp2_with fail
  refine (eqStringS_l C19 C3 _ _ d19 d3 r.1 _ q19.sr q3.sr rfl rfl (by omega)).mono ?_
  rintro e w20 ⟨rfl, b20⟩
  have t20 := belowGo t19 b20
  have s20 := b20.size
  replace q3 := q3.below b20
  replace m15 := m15.below b20
  replace o17 := o17.below b20
  replace o18 := o18.below b20
  replace q19 := q19.below b20
  clear b20
  go_wp2_with fail
  refine (heldStringS_l C6 _ d6 1 _ m15.sr (by omega) (by omega) (by omega)).mono ?_
  rintro e w21 ⟨rfl, b21⟩
  have t21 := belowGo t20 b21
  have s21 := b21.size
  replace q3 := q3.below b21
  replace m15 := m15.below b21
  replace o17 := o17.below b21
  replace o18 := o18.below b21
  replace q19 := q19.below b21
  clear b21
  go_wp2_with fail
  go_ret
  exact ⟨rfl, t21⟩
end Go.Proofs.Ytjcklmhgjdmjoaa
