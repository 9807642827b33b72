/- The law of IsReachable. (by laws9.py) -/
import Derived.Test.YtjcklmhgjdmjoaaIrd
import Derived.Deep.CutRange
namespace Go.Proofs.Ytjcklmhgjdmjoaa
open Go.ChangeShapes Go.WideShapes Go.ChangeAt Go.RowKit
set_option linter.unusedVariables false

theorem ir_il (A : Option Addr) (c : Nat) (ps : List Cls) (s : List UInt8) (w : World) (h : CTblC w A c ps) (_ : s.length ≤ 1048576) : Calls Try.prog 37 #[.slice A ps.length c, .string ⟨s.toArray⟩] w (Gives w (.tuple #[.bool (irR ps s).1, .int .i64 (irR ps s).2])) := ir_i A c ps s w h
theorem ir_sl (A : Option Addr) (c : Nat) (ps : List Cls) (s : List UInt8) (w : World) (h : CTblC w A c ps) (_ : s.length ≤ 1048576) : Calls Try.prog 35 #[.slice A ps.length c, .string ⟨s.toArray⟩] w (Gives w (.tuple #[.bool (irR ps s).1, .int .i64 (irR ps s).2])) := ir_s A c ps s w h.tbl
set_option maxRecDepth 100000 in
set_option maxHeartbeats 2000000 in
theorem law_FnExactIsReachable (A : Option Addr) (c : Nat) (ps : List Cls) (a1 : ByteArray) (w : World) (hR : ClsR w A ps) (hm : ps.length ≤ maxLen) (hw : ∀ r ∈ ps, r.wf) (v1 : a1.size ≤ maxLen) :
    Calls Try.prog 4 #[.slice A ps.length c, .string a1] w fun e w' => e = .returned (.bool true) ∧ Below w.heap.size w w' := by
  obtain ⟨⟨l1⟩⟩ := a1
  have hz1 : (⟨⟨l1⟩⟩ : ByteArray).size = l1.length := rfl
  rw [hz1] at v1
  unfold maxLen at v1
  have HZ := Lib.hid (szClauseS_l A c ps 1048576 w hR hw hm (by omega) (by omega))
  have HO := Lib.hid (@Cls.szT_ok ps)
  generalize Cls.szT ps 1048576 = m at *
  by_cases hs1 : 1048576 < l1.length
  · go_enter Try.func4, Try.ntmps4
    go_wp2_with fail
    go_ret
    exact ⟨rfl, Below.refl _ _⟩
  go_enter Try.func4, Try.ntmps4
  go_wp2_with fail
  refine HZ.out.mono ?_
  rintro e w0 ⟨rfl, b0⟩
  by_cases hneg : m < 0
  · go_wp2_with fail
    go_ret
    exact ⟨rfl, b0⟩
  obtain ⟨hn, htx, hmm⟩ := HO.out (by omega)
  have hm0 : 0 ≤ m := by omega
  clear HO HZ hm hw hneg
  have HI := Lib.hid (fun A d w (h : CTblC w A d ps) => ir_il A d ps l1 w h (by omega))
  have HS := Lib.hid (fun A d w (h : CTblC w A d ps) => ir_sl A d ps l1 w h (by omega))
  generalize irR ps l1 = r at *
  go_wp2_with fail
  refine (toClauseS_l A c ps _ (hR.below b0) hn).mono ?_
  rintro e w1 ⟨B1, c1, rfl, o1, b1⟩
  have t1 := belowGo b0 b1
  go_wp2_with fail
  refine (HS.out B1 c1 _ (ctblC_of o1 htx hn)).mono ?_
  rintro e w2 ⟨rfl, b2⟩
  have t2 := belowGo t1 b2
  go_wp2_with fail
  refine (toClauseS_l A c ps _ (hR.below t2) hn).mono ?_
  rintro e w3 ⟨B3, c3, rfl, o3, b3⟩
  have t3 := belowGo t2 b3
  go_wp2_with fail
  refine (HI.out B3 c3 _ (ctblC_of o3 htx hn)).mono ?_
  rintro e w4 ⟨rfl, b4⟩
  have t4 := belowGo t3 b4
  have e1 : (r.2 != r.2) = false := by simp
  go_wp2_with fail
  refine (toClauseS_l A c ps _ (hR.below t4) hn).mono ?_
  rintro e w5 ⟨B5, c5, rfl, o5, b5⟩
  have t5 := belowGo t4 b5
  go_wp2_with fail
  refine (eqClauseS_l B3 B5 _ _ c3 c5 ps _ ((o3.below b4).below b5).row o5.row rfl rfl (by omega)).mono ?_
  rintro e w6 ⟨rfl, b6⟩
  go_wp2_with fail
  go_ret
  exact ⟨rfl, belowGo t5 b6⟩
end Go.Proofs.Ytjcklmhgjdmjoaa
