/- The law of TotalByKind. (by laws8.py) -/
import Derived.Test.YtifioecofeojpaaEvq
import Derived.Deep.CutRange
import Derived.Test.YtifioecofeojpaaEvk
namespace Go.Proofs.Ytifioecofeojpaa
open Go.ChangeShapes Go.WideShapes Go.ChangeAt Go.RowKit
set_option linter.unusedVariables false

theorem tbk_il (A : Option Addr) (c : Nat) (ps : List Evt)  (w : World) (h : ETblC w A c ps) : Calls Try.prog 22 #[.slice A ps.length c] w (NewIntsC w (tbkR ps)) := tbk_i A c ps w h.tbl
theorem tbk_sl (A : Option Addr) (c : Nat) (ps : List Evt)  (w : World) (h : ETblC w A c ps) : Calls Try.prog 23 #[.slice A ps.length c] w (NewIntsC w (tbkR ps)) := tbk_s A c ps w h.tbl
set_option maxRecDepth 100000 in
set_option maxHeartbeats 2000000 in
theorem law_FnExactTotalByKind (A : Option Addr) (c : Nat) (ps : List Evt) (w : World) (hR : EvtR w A ps) (hm : ps.length ≤ maxLen) (hw : ∀ r ∈ ps, r.wf) :
    Calls Try.prog 10 #[.slice A ps.length c] w fun e w' => e = .returned (.bool true) ∧ Below w.heap.size w w' := by
  have HZ := Lib.hid (szEventS_l A c ps 1048576 w hR hw hm (by omega) (by omega))
  have HO := Lib.hid (@Evt.szT_ok ps)
  generalize Evt.szT ps 1048576 = m at *
  go_enter Try.func10, Try.ntmps10
  go_wp2_with fail
  refine HZ.out.mono ?_
  rintro e w0 ⟨rfl, b0⟩
  by_cases hneg : m < 0
  · go_wp2_with fail
    go_ret
    exact ⟨rfl, b0⟩
  obtain ⟨hn, htx, hmm⟩ := HO.out (by omega)
  have hm0 : 0 ≤ m := by omega
  clear HO HZ hm hw hneg
  have HI := Lib.hid (fun A d w (h : ETblC w A d ps) => tbk_il A d ps  w h)
  have HS := Lib.hid (fun A d w (h : ETblC w A d ps) => tbk_sl A d ps  w h)
  have hrl := tbkR_len ps
  generalize tbkR ps = r at *
  go_wp2_with fail
  refine (toEventS_l A c ps _ (hR.below b0) hn).mono ?_
  rintro e w1 ⟨B1, c1, rfl, o1, b1⟩
  have t1 := belowGo b0 b1
  go_wp2_with fail
  refine (HS.out B1 c1 _ (etbl_of o1 htx hn)).mono ?_
  rintro e w2 ⟨C2, d2, rfl, o2, b2⟩
  have t2 := belowGo t1 b2
  have bd2 := o2.bd
  have s2 := Nat.le_refl w2.heap.size
  go_wp2_with fail
  refine (toEventS_l A c ps _ (hR.below t2) hn).mono ?_
  rintro e w3 ⟨B3, c3, rfl, o3, b3⟩
  have t3 := belowGo t2 b3
  have bx := o3.bd
  have s23 : w2.heap.size ≤ w3.heap.size := b3.size
  go_wp2_with fail
  refine (HI.out B3 c3 _ (etbl_of o3 htx hn)).mono ?_
  rintro e w4 ⟨G4, d4, rfl, o4, b4⟩
  have t4 := belowGo t3 b4
  have s3b : w3.heap.size ≤ w3.heap.size := Nat.le_refl _
  have i4 := ((o2.below b3).below b4)
  have x4 := (o3.below b4)
  go_wp2_with fail
  refine (eqInts_same G4 C2 _ _ d4 d2 r.1 _ o4.ir i4.ir rfl rfl (by omega)).mono ?_
  rintro e w5 ⟨rfl, b5⟩
  have t5 := belowGo t4 b5
  go_wp2_with fail
  refine (toEventS_l A c ps _ (hR.below t5) hn).mono ?_
  rintro e w6 ⟨B6, c6, rfl, o6, b6⟩
  have t6 := belowGo t5 b6
  go_wp2_with fail
  refine (eqEventS_l B3 B6 _ _ c3 c6 ps _ ((x4.below b5).below b6).row o6.row rfl rfl (by omega)).mono ?_
  rintro e w7 ⟨rfl, b7⟩
  have t7 := belowGo t6 b7
  have x7 := (((x4.below b5).below b6).below b7)
  go_wp2_with fail
  refine (markEventS_l B3 _ c3 1 ps _ w7 x7 hn (by omega) (by omega)).mono ?_
  rintro e w8 ⟨rfl, o8, g8⟩
  have s37 : w3.heap.size ≤ w7.heap.size := Nat.le_trans b4.size (Nat.le_trans b5.size (Nat.le_trans b6.size (b7.size)))
  have f8 : Below w2.heap.size w7 w8 := x7.far g8 (by omega) (by omega)
  have t8 : Below w.heap.size w w8 := EvtO.wrote t7 x7 g8 (Nat.le_trans t2.size (by omega)) t7.size
  have g8' := (((o4.below b5).below b6).below b7).kept g8 (bx.mono s3b)
  have i8 := (((i4.below b5).below b6).below b7).ir.keepB bd2 f8
  have hk : decide (((1 + 7 * ps.length : Nat) : Int) < 0) = false := by simp; omega
  clear o8 f8
  go_wp2_with fail
  refine (eqInts_same G4 C2 _ _ d4 d2 r.1 _ g8'.ir i8 rfl rfl (by omega)).mono ?_
  rintro e w9 ⟨rfl, b9⟩
  have t9 := belowGo t8 b9
  have g9 := g8'.below b9
  have i9 := i8.below b9
  clear g8'
  have s9 : w3.heap.size ≤ w9.heap.size := Nat.le_trans s37 (Nat.le_trans g8.size b9.size)
  go_wp2_with fail
  refine (markInts G4 _ d4 1 r.1 _ _ g9 (by omega) (by omega) (by omega)).mono ?_
  rintro e w10 ⟨rfl, o10, g10⟩
  have f10 : Below w2.heap.size w9 w10 := g9.far g10 (by omega) (by omega)
  have t10 : Below w.heap.size w w10 := Oi.wrote t9 g9 g10 (Nat.le_trans t2.size (by omega)) t9.size
  have i10 := i9.keepB bd2 f10
  clear f10 g9
  go_wp2_with fail
  refine (heldInts_b G4 _ d4 1 _ o10.ir (by omega) (by omega) (by omega)).mono ?_
  rintro e w11 ⟨rfl, b11⟩
  have t11 := belowGo t10 b11
  have hk2 : decide ((1 : Int) + (r.1.length : Int) < 0) = false := by simp; omega
  have hk3 : ((1 : Int) + (r.1.length : Int) != 1 + (r.1.length : Int)) = false := by simp
  go_wp2_with fail
  refine (toEventS_l A c ps _ (hR.below t11) hn).mono ?_
  rintro e w12 ⟨B12, c12, rfl, o12, b12⟩
  have t12 := belowGo t11 b12
  go_wp2_with fail
  refine (HI.out B12 c12 _ (etbl_of o12 htx hn)).mono ?_
  rintro e w13 ⟨H12, d12, rfl, o13, b13⟩
  have t13 := belowGo t12 b13
  go_wp2_with fail
  refine (eqInts_same H12 C2 _ _ d12 d2 r.1 _ o13.ir (((i10.below b11).below b12).below b13) rfl rfl (by omega)).mono ?_
  rintro e w14 ⟨rfl, b14⟩
  have t14 := belowGo t13 b14
  go_wp2_with fail
  refine (heldInts_b G4 _ d4 1 _ ((((o10.below b11).below b12).below b13).below b14).ir (by omega) (by omega) (by omega)).mono ?_
  rintro e w15 ⟨rfl, b15⟩
  go_wp2_with fail
  go_ret
  exact ⟨rfl, belowGo t14 b15⟩
end Go.Proofs.Ytifioecofeojpaa
