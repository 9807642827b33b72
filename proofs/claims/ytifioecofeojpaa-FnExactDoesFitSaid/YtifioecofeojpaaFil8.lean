/- The law of DoesFit. (by laws8.py) -/
import Derived.Test.YtifioecofeojpaaFit
import Derived.Deep.CutRange
namespace Go.Proofs.Ytifioecofeojpaa
open Go.ChangeShapes Go.WideShapes Go.ChangeAt Go.RowKit
set_option linter.unusedVariables false

set_option maxRecDepth 100000 in
set_option maxHeartbeats 2000000 in
theorem law_FnExactDoesFit (A : Option Addr) (c : Nat) (ps : List Evt) (B : Option Addr) (d : Nat) (ms : List Ist) (w : World) (hR : EvtR w A ps) (hm : ps.length ≤ maxLen) (hw : ∀ r ∈ ps, r.wf) (hQ : IstR w B ms) (hm2 : ms.length ≤ maxLen) (hw2 : ∀ r ∈ ms, r.wf) :
    Calls Try.prog 6 #[.slice A ps.length c, .slice B ms.length d] w fun e w' => e = .returned (.bool true) ∧ Below w.heap.size w w' := by
  have HZ := Lib.hid (szEventS_l A c ps 1048576 w hR hw hm (by omega) (by omega))
  have HO := Lib.hid (@Evt.szT_ok ps)
  have HZ2 := Lib.hid (fun (m : Int) (w1 : World) (b : Below w.heap.size w w1) (h0 : 0 ≤ m) (h1 : m ≤ 2000000) => szInterestS_l B d ms m w1 (hQ.below b) hw2 hm2 h0 h1)
  have HO2 := Lib.hid (fun (m : Int) => @Ist.szT_bd ms m)
  generalize Evt.szT ps 1048576 = m at *
  go_enter Try.func6, Try.ntmps6
  go_wp2_with fail
  refine HZ.out.mono ?_
  rintro e w0 ⟨rfl, b0⟩
  by_cases hneg : m < 0
  · go_wp2_with fail
    go_ret
    exact ⟨rfl, b0⟩
  obtain ⟨hn, htx, hmm⟩ := HO.out (by omega)
  have hm0 : 0 ≤ m := by omega
  have HZ2 := Lib.hid (HZ2.out m w0 b0 hm0 (by omega))
  have HO2 := Lib.hid (HO2.out m)
  clear HO HZ hm hw hneg hm2 hw2
  generalize Ist.szT ms m = m2 at *
  go_wp2_with fail
  refine HZ2.out.mono ?_
  rintro e w00 ⟨rfl, b00⟩
  replace b0 := belowGo b0 b00
  by_cases hneg : m2 < 0
  · go_wp2_with fail
    go_ret
    exact ⟨rfl, b0⟩
  obtain ⟨hm3, hn2, htx2⟩ := HO2.out (by omega)
  have hm20 : 0 ≤ m2 := by omega
  have hn3 : ms.length ≤ 1048576 := by omega
  have htx3 : ∀ r ∈ ms, r.sz ≤ 1048576 := fun r hr => by have := htx2 r hr; omega
  clear HO2 HZ2 hneg htx2
  have HI := Lib.hid (fun A B c d w (h : ETblC w A c ps) (h2 : ITblC w B d ms) => fit_i A B c d ps ms w h.tbl h2)
  have HS := Lib.hid (fun A B c d w (h : ETblC w A c ps) (h2 : ITblC w B d ms) => fit_s A B c d ps ms w h.tbl h2)
  generalize fitR ps ms = r at *
  have e0 : (r.1 != r.1) = false := by simp
  have e1 : (r.2 != r.2) = false := by simp
  go_wp2_with fail
  refine (toEventS_l A c ps _ (hR.below b0) hn).mono ?_
  rintro e w1 ⟨B1, c1, rfl, o1, b1⟩
  have t1 := belowGo b0 b1
  go_wp2_with fail
  refine (toInterestS_l B d ms _ (hQ.below t1) hn3).mono ?_
  rintro e w2 ⟨B2, c2, rfl, o2, b2⟩
  have t2 := belowGo t1 b2
  go_wp2_with fail
  refine (HS.out B1 B2 c1 c2 _ (etbl_of (o1.below b2) htx hn) (itbl_of o2 htx3 hn3)).mono ?_
  rintro e w3 ⟨rfl, b3⟩
  have t3 := belowGo t2 b3
  go_wp2_with fail
  refine (toEventS_l A c ps _ (hR.below t3) hn).mono ?_
  rintro e w4 ⟨B4, c4, rfl, o4, b4⟩
  have t4 := belowGo t3 b4
  go_wp2_with fail
  refine (toInterestS_l B d ms _ (hQ.below t4) hn3).mono ?_
  rintro e w5 ⟨B5, c5, rfl, o5, b5⟩
  have t5 := belowGo t4 b5
  go_wp2_with fail
  refine (HI.out B4 B5 c4 c5 _ (etbl_of (o4.below b5) htx hn) (itbl_of o5 htx3 hn3)).mono ?_
  rintro e w6 ⟨rfl, b6⟩
  have t6 := belowGo t5 b6
  go_wp2_with fail
  refine (toEventS_l A c ps _ (hR.below t6) hn).mono ?_
  rintro e w7 ⟨B7, c7, rfl, o7, b7⟩
  have t7 := belowGo t6 b7
  go_wp2_with fail
  refine (eqEventS_l B4 B7 _ _ c4 c7 ps _ (((o4.below b5).below b6).below b7).row o7.row rfl rfl (by omega)).mono ?_
  rintro e w8 ⟨rfl, b8⟩
  have t8 := belowGo t7 b8
  go_wp2_with fail
  refine (toInterestS_l B d ms _ (hQ.below t8) hn3).mono ?_
  rintro e w9 ⟨B9, c9, rfl, o9, b9⟩
  have t9 := belowGo t8 b9
  go_wp2_with fail
  refine (eqInterestS_l B5 B9 _ _ c5 c9 ms _ ((((o5.below b6).below b7).below b8).below b9).row o9.row rfl rfl (by omega)).mono ?_
  rintro e w10 ⟨rfl, b10⟩
  go_wp2_with fail
  go_ret
  exact ⟨rfl, belowGo t9 b10⟩
end Go.Proofs.Ytifioecofeojpaa
