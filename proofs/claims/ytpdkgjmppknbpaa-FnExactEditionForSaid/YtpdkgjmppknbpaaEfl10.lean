/- The law of EditionFor. (by laws10.py) -/
import Derived.Test.YtpdkgjmppknbpaaEdf
import Derived.Test.YtpdkgjmppknbpaaEdw2
namespace Go.Proofs.Ytpdkgjmppknbpaa
open Go.ChangeShapes Go.WideShapes Go.ChangeAt Go.RowKit
set_option linter.unusedVariables false

set_option maxRecDepth 100000 in
set_option maxHeartbeats 4000000 in
theorem law_FnExactEditionFor (A : Option Addr) (c : Nat) (ps : List Edn) (n : Int) (w : World) (hR : EdnR w A ps) (hm : ps.length ≤ maxLen) (hw : ∀ r ∈ ps, r.wf) (vn : (Lit.int .i64 n).wf = true) :
    Calls Try.prog 4 #[.slice A ps.length c, .int .i64 n] w fun e w' => e = .returned (.bool true) ∧ Below w.heap.size w w' := by
  have HZ := Lib.hid (szEditionS_l A c ps 1048576 w hR hw hm (by omega) (by omega))
  have HO := Lib.hid (fun m (e : Edn.szT ps 1048576 = m) h => Edn.szT_law e h)
  obtain ⟨m, hmm⟩ : ∃ m, Edn.szT ps 1048576 = m := ⟨_, rfl⟩
  rw [hmm] at HZ
  go_enter Try.func4, Try.ntmps4
  go_wp2_with fail
  refine HZ.out.mono ?_
  rintro e w0 ⟨rfl, b0⟩
  by_cases hneg : m < 0
  · go_wp2_with fail
    go_ret
    exact ⟨rfl, b0⟩
  obtain ⟨hn, htx, hcs, hm2, htot⟩ := HO.out m hmm (by omega)
  have hm0 : 0 ≤ m := by omega
  clear HO HZ hm hw hneg hmm
  have HI := Lib.hid (fun A d W (h : LTblC W A d ps) => ef_i A d ps n W h)
  have HS := Lib.hid (fun A d W (h : LTbl W A ps) => ef_s A d ps n W h)
  generalize efR ps n = r at *
  go_wp2_with fail
  refine (toEditionS_l A c ps _ (hR.below b0) hn hcs).mono ?_
  rintro e w1 ⟨B1, c1, rfl, o1, b1⟩
  have t1 := belowGo b0 b1
  have s1 := b1.size
  clear b1
  go_wp2_with fail
  refine (HS.out B1 c1 _ (ltbl_of o1 htx hcs hn)).mono ?_
  rintro e w2 ⟨rfl, b2⟩
  have t2 := belowGo t1 b2
  have s2 := b2.size
  replace o1 := o1.below b2
  clear b2
  go_wp2_with fail
  refine (toEditionS_l A c ps _ (hR.below t2) hn hcs).mono ?_
  rintro e w3 ⟨B3, c3, rfl, o3, b3⟩
  have t3 := belowGo t2 b3
  have s3 := b3.size
  replace o1 := o1.below b3
  clear b3
  go_wp2_with fail
  refine (HI.out B3 c3 _ (ltblC_of o3 htx hcs hn)).mono ?_
  rintro e w4 ⟨rfl, b4⟩
  have t4 := belowGo t3 b4
  have s4 := b4.size
  replace o1 := o1.below b4
  replace o3 := o3.below b4
  clear b4
  have e0 : (r.1 != r.1) = false := by simp
  have e1 : (r.2 != r.2) = false := by simp
  go_wp2_with fail
  refine (toEditionS_l A c ps _ (hR.below t4) hn hcs).mono ?_
  rintro e w5 ⟨B5, c5, rfl, o5, b5⟩
  have t5 := belowGo t4 b5
  have s5 := b5.size
  replace o1 := o1.below b5
  replace o3 := o3.below b5
  clear b5
  go_wp2_with fail
  refine (eqEditionS_l B3 B5 _ _ c3 c5 ps _ o3.reads o5.reads rfl rfl (by omega) (fun e he => by have := hcs e he; omega)).mono ?_
  rintro e w6 ⟨rfl, b6⟩
  have t6 := belowGo t5 b6
  have s6 := b6.size
  replace o1 := o1.below b6
  replace o3 := o3.below b6
  replace o5 := o5.below b6
  clear b6
  go_wp2_with fail
  go_ret
  exact ⟨rfl, t6⟩
end Go.Proofs.Ytpdkgjmppknbpaa
