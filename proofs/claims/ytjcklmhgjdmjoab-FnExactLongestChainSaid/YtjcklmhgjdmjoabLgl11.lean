/- The law of LongestChain. (by laws10.py) -/
import Derived.Test.YtjcklmhgjdmjoabLgc
import Derived.Test.YtjcklmhgjdmjoabEdw2
import Derived.Test.YtjcklmhgjdmjoabMEvt
import Derived.Test.YtjcklmhgjdmjoabClsf
import Derived.Test.YtjcklmhgjdmjoabCld
namespace Go.Proofs.Ytjcklmhgjdmjoab
open Go.ChangeShapes Go.WideShapes Go.ChangeAt Go.RowKit
set_option linter.unusedVariables false

theorem Own2.ev {w : World} {lo hi n c : Nat} {A : Option Addr} {rs : List Evt} (h : Own2 w lo hi 45 7 A n c (rs.flatMap Evt.cells)) : EvtR w A rs := Rw.ownS h.1
theorem Evt.szT_law {rs : List Evt} {n m : Int} (hm : Evt.szT rs n = m) (h : 0 ≤ m) (hn : n ≤ 1048576) : rs.length ≤ 1048576 ∧ (∀ p ∈ rs, p.sz ≤ 1048576) ∧ m ≤ 1048576 := by
  subst hm
  obtain ⟨h0, h1, h2⟩ := Evt.szT_bd h
  exact ⟨by omega, fun r hr => by have := h2 r hr; omega, by omega⟩
set_option maxRecDepth 100000 in
set_option maxHeartbeats 4000000 in
theorem law_FnExactLongestChain (A : Option Addr) (c : Nat) (ps : List Cls) (B : Option Addr) (d : Nat) (es : List Evt) (w : World) (hR : ClsR w A ps) (hm : ps.length ≤ maxLen) (hw : ∀ r ∈ ps, r.wf) (hR2 : EvtR w B es) (hm2 : es.length ≤ maxLen) (hw2 : ∀ r ∈ es, r.wf) :
    Calls Try.prog 3 #[.slice A ps.length c, .slice B es.length d] w fun e w' => e = .returned (.bool true) ∧ Below w.heap.size w w' := by
  have HZ := Lib.hid (szClauseS_l A c ps 1048576 w hR hw hm (by omega) (by omega))
  obtain ⟨m, hmm⟩ : ∃ m, Cls.szT ps 1048576 = m := ⟨_, rfl⟩
  have HO := Lib.hid (fun h => Cls.szT_law hmm h (by omega))
  rw [hmm] at HZ
  go_enter Try.func3, Try.ntmps3
  go_wp2_with fail
  refine HZ.out.mono ?_
  rintro e wa ⟨rfl, b0⟩
  by_cases hneg : m < 0
  · go_wp2_with fail
    go_ret
    exact ⟨rfl, b0⟩
  obtain ⟨hn, htx, hmu⟩ := HO.out (by omega)
  have hm0 : 0 ≤ m := by omega
  clear HO HZ hm hw hneg hmm
  have HZ := Lib.hid (szEventS_l B d es m wa (hR2.below b0) hw2 hm2 hm0 (by omega))
  obtain ⟨m2, hmm⟩ : ∃ m2, Evt.szT es m = m2 := ⟨_, rfl⟩
  have HO := Lib.hid (fun h => Evt.szT_law hmm h hmu)
  rw [hmm] at HZ
  go_wp2_with fail
  refine HZ.out.mono ?_
  rintro e w0 ⟨rfl, b00⟩
  have t0 := belowGo b0 b00
  by_cases hneg : m2 < 0
  · go_wp2_with fail
    go_ret
    exact ⟨rfl, t0⟩
  obtain ⟨hn2, htx2, hmu2⟩ := HO.out (by omega)
  have hm02 : 0 ≤ m2 := by omega
  clear HO HZ hm2 hw2 hneg hmm b0 b00
  have HI := Lib.hid (fun A c B d W (h : CTblC W A c ps) (h2 : ETbl W B es) => lg_i A c ps B d es W h h2)
  have HS := Lib.hid (fun A c B d W (h : CTbl W A ps) (h2 : ETbl W B es) => lg_s A c ps B d es W h h2)
  generalize lgR ps es = r at *
  go_wp2_with fail
  refine (toClauseS_l A c ps _ (hR.below t0) hn).mono ?_
  rintro e w1 ⟨B1, c1, rfl, o1, b1⟩
  have t1 := belowGo t0 b1
  have s1 := b1.size
  clear b1
  replace o1 := Own2.of (lo := w0.heap.size) (e := 46) (size := 7) (xs := ps.flatMap Cls.cells) o1
  go_wp2_with fail
  refine (toEventS_l B d es _ (hR2.below t1) hn2).mono ?_
  rintro e w2 ⟨B2, c2, rfl, o2, b2⟩
  have t2 := belowGo t1 b2
  have s2 := b2.size
  replace o1 := o1.below b2
  clear b2
  replace o2 := Own2.of (lo := w1.heap.size) (e := 45) (size := 7) (xs := es.flatMap Evt.cells) o2
  go_wp2_with fail
  refine (HS.out B1 c1 B2 c2 _ (ctbl_of (show ClsO _ _ _ _ _ ps from o1.1) htx hn) (etbl_of (show EvtO _ _ _ _ _ es from o2.1) htx2 hn2).tbl).mono ?_
  rintro e w3 ⟨rfl, b3⟩
  have t3 := belowGo t2 b3
  have s3 := b3.size
  replace o1 := o1.below b3
  replace o2 := o2.below b3
  clear b3
  clear o1 o2
  go_wp2_with fail
  refine (toClauseS_l A c ps _ (hR.below t3) hn).mono ?_
  rintro e w4 ⟨B4, c4, rfl, o4, b4⟩
  have t4 := belowGo t3 b4
  have s4 := b4.size
  clear b4
  replace o4 := Own2.of (lo := w3.heap.size) (e := 46) (size := 7) (xs := ps.flatMap Cls.cells) o4
  go_wp2_with fail
  refine (toEventS_l B d es _ (hR2.below t4) hn2).mono ?_
  rintro e w5 ⟨B5, c5, rfl, o5, b5⟩
  have t5 := belowGo t4 b5
  have s5 := b5.size
  replace o4 := o4.below b5
  clear b5
  replace o5 := Own2.of (lo := w4.heap.size) (e := 45) (size := 7) (xs := es.flatMap Evt.cells) o5
  go_wp2_with fail
  refine (HI.out B4 c4 B5 c5 _ (ctblC_of (show ClsO _ _ _ _ _ ps from o4.1) htx hn) (etbl_of (show EvtO _ _ _ _ _ es from o5.1) htx2 hn2).tbl).mono ?_
  rintro e w6 ⟨rfl, b6⟩
  have t6 := belowGo t5 b6
  have s6 := b6.size
  replace o4 := o4.below b6
  replace o5 := o5.below b6
  clear b6
  have e0 : (r.1 != r.1) = false := by simp
  have e1 : (r.2 != r.2) = false := by simp
  go_wp2_with fail
  refine (toClauseS_l A c ps _ (hR.below t6) hn).mono ?_
  rintro e w7 ⟨B7, c7, rfl, o7, b7⟩
  have t7 := belowGo t6 b7
  have s7 := b7.size
  replace o4 := o4.below b7
  replace o5 := o5.below b7
  clear b7
  replace o7 := Own2.of (lo := w6.heap.size) (e := 46) (size := 7) (xs := ps.flatMap Cls.cells) o7
  go_wp2_with fail
  refine (eqClauseS_l B4 B7 _ _ c4 c7 ps _ o4.cl o7.cl rfl rfl (by omega)).mono ?_
  rintro e w8 ⟨rfl, b8⟩
  have t8 := belowGo t7 b8
  have s8 := b8.size
  replace o4 := o4.below b8
  replace o5 := o5.below b8
  replace o7 := o7.below b8
  clear b8
  clear o7
  go_wp2_with fail
  refine (toEventS_l B d es _ (hR2.below t8) hn2).mono ?_
  rintro e w9 ⟨B9, c9, rfl, o9, b9⟩
  have t9 := belowGo t8 b9
  have s9 := b9.size
  replace o4 := o4.below b9
  replace o5 := o5.below b9
  clear b9
  replace o9 := Own2.of (lo := w8.heap.size) (e := 45) (size := 7) (xs := es.flatMap Evt.cells) o9
  go_wp2_with fail
  refine (eqEventS_l B5 B9 _ _ c5 c9 es _ o5.ev o9.ev rfl rfl (by omega)).mono ?_
  rintro e w10 ⟨rfl, b10⟩
  have t10 := belowGo t9 b10
  have s10 := b10.size
  replace o4 := o4.below b10
  replace o5 := o5.below b10
  replace o9 := o9.below b10
  clear b10
  clear o9
  go_wp2_with fail
  go_ret
  exact ⟨rfl, t10⟩
end Go.Proofs.Ytjcklmhgjdmjoab
