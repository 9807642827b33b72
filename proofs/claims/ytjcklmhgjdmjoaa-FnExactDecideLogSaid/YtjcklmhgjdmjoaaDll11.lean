/- The law of DecideLog. (by laws10.py) -/
import Derived.Test.YtjcklmhgjdmjoaaDlg
import Derived.Test.YtjcklmhgjdmjoaaEdw2
import Derived.Test.YtjcklmhgjdmjoaaMEvt
import Derived.Test.YtjcklmhgjdmjoaaMCls
import Derived.Test.YtjcklmhgjdmjoaaCld
namespace Go.Proofs.Ytjcklmhgjdmjoaa
open Go.ChangeShapes Go.WideShapes Go.ChangeAt Go.RowKit
set_option linter.unusedVariables false

theorem Own2.ev {w : World} {lo hi n c : Nat} {A : Option Addr} {rs : List Evt} (h : Own2 w lo hi 26 7 A n c (rs.flatMap Evt.cells)) : EvtR w A rs := Rw.ownS h.1
theorem Evt.szT_law {rs : List Evt} {n m : Int} (hm : Evt.szT rs n = m) (h : 0 ≤ m) (hn : n ≤ 1048576) : rs.length ≤ 1048576 ∧ (∀ p ∈ rs, p.sz ≤ 1048576) ∧ m ≤ 1048576 := by
  subst hm
  obtain ⟨h0, h1, h2⟩ := Evt.szT_bd h
  exact ⟨by omega, fun r hr => by have := h2 r hr; omega, by omega⟩
theorem dcn_tot {r : List Dcn} (h : ∀ x ∈ r, x.cs.length ≤ 13) : Dcn.tot r ≤ 13 * r.length := by
  induction r with
  | nil => simp [Dcn.tot]
  | cons x r ih =>
    have h1 := ih fun d hd => h d (List.mem_cons_of_mem _ hd)
    have h2 := h x (List.mem_cons_self ..)
    simp only [Dcn.tot, List.length_cons]; omega
set_option maxRecDepth 100000 in
set_option maxHeartbeats 4000000 in
theorem law_FnExactDecideLog (A : Option Addr) (c : Nat) (ps : List Cls) (B : Option Addr) (d : Nat) (es : List Evt) (w : World) (hR : ClsR w A ps) (hm : ps.length ≤ maxLen) (hw : ∀ r ∈ ps, r.wf) (hR2 : EvtR w B es) (hm2 : es.length ≤ maxLen) (hw2 : ∀ r ∈ es, r.wf) :
    Calls Try.prog 9 #[.slice A ps.length c, .slice B es.length d] w fun e w' => e = .returned (.bool true) ∧ Below w.heap.size w w' := by
  have HZ := Lib.hid (szClauseS_l A c ps 1048576 w hR hw hm (by omega) (by omega))
  obtain ⟨m, hmm⟩ : ∃ m, Cls.szT ps 1048576 = m := ⟨_, rfl⟩
  have HO := Lib.hid (fun h => Cls.szT_law hmm h (by omega))
  rw [hmm] at HZ
  go_enter Try.func9, Try.ntmps9
  go_wp2_with fail
  refine HZ.out.mono ?_
  rintro e wa ⟨rfl, b0⟩
  by_cases hneg : m < 0
  · go_wp2_with fail
    go_ret
    exact ⟨rfl, b0⟩
  obtain ⟨hn, htx, hmu⟩ := HO.out (by omega)
  have hm0 : 0 ≤ m := by omega
  clear HO HZ hm hw hneg hmm
  have HZ := Lib.hid (szEventS_l B d es m wa (hR2.below b0) hw2 hm2 hm0 (by omega))
  obtain ⟨m2, hmm⟩ : ∃ m2, Evt.szT es m = m2 := ⟨_, rfl⟩
  have HO := Lib.hid (fun h => Evt.szT_law hmm h hmu)
  rw [hmm] at HZ
  go_wp2_with fail
  refine HZ.out.mono ?_
  rintro e w0 ⟨rfl, b00⟩
  have t0 := belowGo b0 b00
  by_cases hneg : m2 < 0
  · go_wp2_with fail
    go_ret
    exact ⟨rfl, t0⟩
  obtain ⟨hn2, htx2, hmu2⟩ := HO.out (by omega)
  have hm02 : 0 ≤ m2 := by omega
  clear HO HZ hm2 hw2 hneg hmm b0 b00
  have HI := Lib.hid (fun A c B d W (h : CTblC W A c ps) (h2 : ETbl W B es) => dl_i A c ps B d es W h h2)
  have HS := Lib.hid (fun A c B d W (h : CTbl W A ps) (h2 : ETbl W B es) => dl_s A c ps B d es W h h2)
  obtain ⟨hrl0, hr13⟩ := dlR_len ps es
  have hrl : (dlR ps es).1.length ≤ 1048576 := by omega
  have hrf : Dcn.fin 1 (dlR ps es).1 ≤ 100000000 := by have := dcn_tot hr13; unfold Dcn.fin; omega
  clear hrl0
  generalize dlR ps es = r at *
  go_wp2_with fail
  refine (toClauseS_l A c ps _ (hR.below t0) hn).mono ?_
  rintro e w1 ⟨B1, c1, rfl, o1, b1⟩
  have t1 := belowGo t0 b1
  have s1 := b1.size
  clear b1
  replace o1 := Own2.of (lo := w0.heap.size) (e := 54) (size := 7) (xs := ps.flatMap Cls.cells) o1
  go_wp2_with fail
  refine (toEventS_l B d es _ (hR2.below t1) hn2).mono ?_
  rintro e w2 ⟨B2, c2, rfl, o2, b2⟩
  have t2 := belowGo t1 b2
  have s2 := b2.size
  replace o1 := o1.below b2
  clear b2
  replace o2 := Own2.of (lo := w1.heap.size) (e := 26) (size := 7) (xs := es.flatMap Evt.cells) o2
  go_wp2_with fail
  refine (HS.out B1 c1 B2 c2 _ (ctbl_of (show ClsO _ _ _ _ _ ps from o1.1) htx hn) (etbl_of (show EvtO _ _ _ _ _ es from o2.1) htx2 hn2).tbl).mono ?_
  rintro e w3 ⟨C3, d3, rfl, q3, b3⟩
  have t3 := belowGo t2 b3
  have s3 := b3.size
  replace o1 := o1.below b3
  replace o2 := o2.below b3
  clear b3
  clear o1 o2
  go_wp2_with fail
  refine (toClauseS_l A c ps _ (hR.below t3) hn).mono ?_
  rintro e w4 ⟨B4, c4, rfl, o4, b4⟩
  have t4 := belowGo t3 b4
  have s4 := b4.size
  replace q3 := q3.below b4
  clear b4
  replace o4 := Own2.of (lo := w3.heap.size) (e := 54) (size := 7) (xs := ps.flatMap Cls.cells) o4
  go_wp2_with fail
  refine (toEventS_l B d es _ (hR2.below t4) hn2).mono ?_
  rintro e w5 ⟨B5, c5, rfl, o5, b5⟩
  have t5 := belowGo t4 b5
  have s5 := b5.size
  replace q3 := q3.below b5
  replace o4 := o4.below b5
  clear b5
  replace o5 := Own2.of (lo := w4.heap.size) (e := 26) (size := 7) (xs := es.flatMap Evt.cells) o5
  go_wp2_with fail
  refine (HI.out B4 c4 B5 c5 _ (ctblC_of (show ClsO _ _ _ _ _ ps from o4.1) htx hn) (etbl_of (show EvtO _ _ _ _ _ es from o5.1) htx2 hn2).tbl).mono ?_
  rintro e w6 ⟨C6, d6, rfl, q6, b6⟩
  have t6 := belowGo t5 b6
  have s6 := b6.size
  replace q3 := q3.below b6
  replace o4 := o4.below b6
  replace o5 := o5.below b6
  clear b6
  go_wp2_with fail
  refine (eqDecisionS_l C6 C3 _ _ d6 d3 r.1 _ q6.reads q3.reads rfl rfl (by omega) (fun e he => by have := hr13 e he; omega)).mono ?_
  rintro e w7 ⟨rfl, b7⟩
  have t7 := belowGo t6 b7
  have s7 := b7.size
  replace q3 := q3.below b7
  replace o4 := o4.below b7
  replace o5 := o5.below b7
  replace q6 := q6.below b7
  clear b7
  go_wp2_with fail
  refine (toClauseS_l A c ps _ (hR.below t7) hn).mono ?_
  rintro e w8 ⟨B8, c8, rfl, o8, b8⟩
  have t8 := belowGo t7 b8
  have s8 := b8.size
  replace q3 := q3.below b8
  replace o4 := o4.below b8
  replace o5 := o5.below b8
  replace q6 := q6.below b8
  clear b8
  replace o8 := Own2.of (lo := w7.heap.size) (e := 54) (size := 7) (xs := ps.flatMap Cls.cells) o8
  go_wp2_with fail
  refine (eqClauseS_l B4 B8 _ _ c4 c8 ps _ o4.cl o8.cl rfl rfl (by omega)).mono ?_
  rintro e w9 ⟨rfl, b9⟩
  have t9 := belowGo t8 b9
  have s9 := b9.size
  replace q3 := q3.below b9
  replace o4 := o4.below b9
  replace o5 := o5.below b9
  replace q6 := q6.below b9
  replace o8 := o8.below b9
  clear b9
  clear o8
  go_wp2_with fail
  refine (toEventS_l B d es _ (hR2.below t9) hn2).mono ?_
  rintro e w10 ⟨B10, c10, rfl, o10, b10⟩
  have t10 := belowGo t9 b10
  have s10 := b10.size
  replace q3 := q3.below b10
  replace o4 := o4.below b10
  replace o5 := o5.below b10
  replace q6 := q6.below b10
  clear b10
  replace o10 := Own2.of (lo := w9.heap.size) (e := 26) (size := 7) (xs := es.flatMap Evt.cells) o10
  go_wp2_with fail
  refine (eqEventS_l B5 B10 _ _ c5 c10 es _ o5.ev o10.ev rfl rfl (by omega)).mono ?_
  rintro e w11 ⟨rfl, b11⟩
  have t11 := belowGo t10 b11
  have s11 := b11.size
  replace q3 := q3.below b11
  replace o4 := o4.below b11
  replace o5 := o5.below b11
  replace q6 := q6.below b11
  replace o10 := o10.below b11
  clear b11
  clear o10
  go_wp2_with fail
  refine (markClauseS_l B4 _ c4 1 ps _ _ o4.1 (by omega) (by omega) (by omega)).mono ?_
  rintro e w12 ⟨rfl, n12, g12⟩
  have T12 := o4.wrote g12
  replace q3 := q3.tou T12 (by omega)
  replace o5 := o5.tou T12 (by omega)
  replace q6 := q6.tou T12 (by omega)
  have t12 : Below w.heap.size w w12 := Tou.far t11 T12 (by have := t0.size; omega) t11.size
  have s12 := T12.size
  clear o4 n12
  go_wp2_with fail
  refine (markEventS_l B5 _ c5 (1 + 7 * ps.length) es _ _ o5.1 (by omega) (by omega) (by omega)).mono ?_
  rintro e w13 ⟨rfl, n13, g13⟩
  have T13 := o5.wrote g13
  replace q3 := q3.tou T13 (by omega)
  replace q6 := q6.tou T13 (by omega)
  have t13 : Below w.heap.size w w13 := Tou.far t12 T13 (by have := t0.size; omega) t12.size
  have s13 := T13.size
  clear o5 n13
  have hk : decide (((1 + 7 * ps.length + 7 * es.length : Nat) : Int) < 0) = false := by simp; omega
  go_wp2_with fail
  refine (eqDecisionS_l C6 C3 _ _ d6 d3 r.1 _ q6.reads q3.reads rfl rfl (by omega) (fun e he => by have := hr13 e he; omega)).mono ?_
  rintro e w14 ⟨rfl, b14⟩
  have t14 := belowGo t13 b14
  have s14 := b14.size
  replace q3 := q3.below b14
  replace q6 := q6.below b14
  clear b14
  clear hk
  have hfin : Dcn.fin 1 r.1 ≤ 1000000000 := by have := hrf; omega
  obtain ⟨K, hK⟩ : ∃ K, Dcn.fin 1 r.1 = K := ⟨_, rfl⟩
  have HMK := Lib.hid (markDecisionS_l C6 _ d6 1 r.1 _ _ _ q6 (by omega) (fun e he => by have := hr13 e he; omega) (by omega) hfin)
  unfold MarkedDcn at HMK
  rw [hK] at HMK hfin
  go_wp2_with fail
  refine HMK.out.mono ?_
  rintro e w15 ⟨rfl, n15, T15⟩
  replace q3 := q3.tou T15 (by omega)
  have t15 : Below w.heap.size w w15 := Tou.far t14 T15 (by have := t0.size; omega) t14.size
  have s15 := T15.size
  clear q6
  have hk2 : decide (((K : Nat) : Int) < 0) = false := decide_eq_false (by omega)
  have hk3 : (((K : Nat) : Int) != ((K : Nat) : Int)) = false := by simp
  have HHD := Lib.hid (fun W (h : DcnR W C6 (Dcn.mks 1 r.1)) => heldDecisionS_l C6 r.1.length d6 1 r.1 W h rfl (by omega) (fun e he => by have := hr13 e he; omega) (by omega) (by omega))
  rw [hK] at HHD
  clear hK HMK hrf
  go_wp2_with fail
  refine (HHD.out _ n15.reads).mono ?_
  rintro e w16 ⟨rfl, b16⟩
  have t16 := belowGo t15 b16
  have s16 := b16.size
  replace q3 := q3.below b16
  replace n15 := n15.below b16
  clear b16
  go_wp2_with fail
  refine (toClauseS_l A c ps _ (hR.below t16) hn).mono ?_
  rintro e w17 ⟨B17, c17, rfl, o17, b17⟩
  have t17 := belowGo t16 b17
  have s17 := b17.size
  replace q3 := q3.below b17
  replace n15 := n15.below b17
  clear b17
  replace o17 := Own2.of (lo := w16.heap.size) (e := 54) (size := 7) (xs := ps.flatMap Cls.cells) o17
  go_wp2_with fail
  refine (toEventS_l B d es _ (hR2.below t17) hn2).mono ?_
  rintro e w18 ⟨B18, c18, rfl, o18, b18⟩
  have t18 := belowGo t17 b18
  have s18 := b18.size
  replace q3 := q3.below b18
  replace n15 := n15.below b18
  replace o17 := o17.below b18
  clear b18
  replace o18 := Own2.of (lo := w17.heap.size) (e := 26) (size := 7) (xs := es.flatMap Evt.cells) o18
  go_wp2_with fail
  refine (HI.out B17 c17 B18 c18 _ (ctblC_of (show ClsO _ _ _ _ _ ps from o17.1) htx hn) (etbl_of (show EvtO _ _ _ _ _ es from o18.1) htx2 hn2).tbl).mono ?_
  rintro e w19 ⟨C19, d19, rfl, q19, b19⟩
  have t19 := belowGo t18 b19
  have s19 := b19.size
  replace q3 := q3.below b19
  replace n15 := n15.below b19
  replace o17 := o17.below b19
  replace o18 := o18.below b19
  clear b19
  go_wp2_with fail
  refine (eqDecisionS_l C19 C3 _ _ d19 d3 r.1 _ q19.reads q3.reads rfl rfl (by omega) (fun e he => by have := hr13 e he; omega)).mono ?_
  rintro e w20 ⟨rfl, b20⟩
  have t20 := belowGo t19 b20
  have s20 := b20.size
  replace q3 := q3.below b20
  replace n15 := n15.below b20
  replace o17 := o17.below b20
  replace o18 := o18.below b20
  replace q19 := q19.below b20
  clear b20
  go_wp2_with fail
  refine (HHD.out _ n15.reads).mono ?_
  rintro e w21 ⟨rfl, b21⟩
  have t21 := belowGo t20 b21
  have s21 := b21.size
  replace q3 := q3.below b21
  replace n15 := n15.below b21
  replace o17 := o17.below b21
  replace o18 := o18.below b21
  replace q19 := q19.below b21
  clear b21
  go_wp2_with fail
  go_ret
  exact ⟨rfl, t21⟩
end Go.Proofs.Ytjcklmhgjdmjoaa
