/- The law of DaysWithRate. -/
import Derived.Test.YtmeglhmlhdaacaaDwr
namespace Go.Proofs.Ytmeglhmlhdaacaa
open Go.ChangeShapes Go.WideShapes Go.ChangeAt Go.RowKit
set_option linter.unusedVariables false

theorem Or.far {w w' : World} {base n c : Nat} {A : Option Addr} {xs : List Rt} {B : Nat} (h : Or w base A n c xs) (hg : w.grownBy w' (Value.slice A n c).ownBlock) (hB : B ≤ base) (hs : B ≤ w.heap.size) : Below B w w' :=
  (Below.refl _ _).grown hg hs (fun k e => Nat.le_trans hB (h.lo k e))
theorem Or.wrote {W w w' : World} {base n c : Nat} {A : Option Addr} {xs : List Rt} {B : Nat} (hW : Below B W w) (h : Or w base A n c xs) (hg : w.grownBy w' (Value.slice A n c).ownBlock) (hB : B ≤ base) (hs : B ≤ w.heap.size) : Below B W w' :=
  hW.grown hg hs (fun k e => Nat.le_trans hB (h.lo k e))
theorem daysR_len (rs : List Rt) (c : List UInt8) : (daysR rs c).1.length ≤ rs.length := by
  unfold daysR; split
  · split
    · simp
    · exact daysOf_len c rs
  · simp
set_option maxRecDepth 100000 in
set_option maxHeartbeats 4000000 in
theorem law_FnExactDaysWithRate (A : Option Addr) (c : Nat) (rs : List Rt) (cur : ByteArray) (w : World) (hR : Rr w A rs) (hm : rs.length ≤ maxLen) (hw : ∀ r ∈ rs, r.wf) (hs : cur.size ≤ maxLen) :
    Calls Try.prog 14 #[.slice A rs.length c, .string cur] w fun e w' => e = .returned (.bool true) ∧ Below w.heap.size w w' := by
  unfold maxLen at hs
  obtain ⟨⟨cl⟩⟩ := cur
  have hz : (⟨⟨cl⟩⟩ : ByteArray).size = cl.length := rfl
  rw [hz] at hs
  have hs : cl.length ≤ 9223372036854775807 := by omega
  have HZ := Lib.hid (szRateS_l A c rs 1048576 w hR (rok_of hw) hm (by omega) (by omega))
  have HO := Lib.hid (@szT_ok rs)
  generalize szT rs 1048576 = m at *
  by_cases hbig : 1048576 < cl.length
  · go_enter Try.func14, Try.ntmps14
    go_wp2_with fail
    go_ret
    exact ⟨rfl, Below.refl _ _⟩
  go_enter Try.func14, Try.ntmps14
  go_wp2_with fail
  refine HZ.out.mono ?_
  rintro e w0 ⟨rfl, b0⟩
  by_cases hneg : m < 0
  · go_wp2_with fail
    go_ret
    exact ⟨rfl, b0⟩
  obtain ⟨hn, htx⟩ := HO.out (by omega)
  have hrl := daysR_len rs cl
  have HI := Lib.hid (fun A d w h => days_i A d rs cl w h hs)
  have HS := Lib.hid (fun A d w h => days_s A d rs cl w h hs)
  generalize daysR rs cl = r at hrl HI HS
  clear HO HZ hm hw
  go_wp2_with fail
  refine (toRateS_l A c rs _ (hR.below b0) hn).mono ?_
  rintro e w1 ⟨B1, c1, rfl, o1, b1⟩
  have t1 := belowGo b0 b1
  go_wp2_with fail
  refine (HS.out B1 c1 w1 ⟨o1.rr, htx, hn⟩).mono ?_
  rintro e w2 ⟨C2, c2, rfl, o2, b2⟩
  have t2 := belowGo t1 b2
  have bd2 := o2.bd
  go_wp2_with fail
  refine (toRateS_l A c rs _ (hR.below t2) hn).mono ?_
  rintro e w3 ⟨X3, c3, rfl, o3, b3⟩
  have t3 := belowGo t2 b3
  go_wp2_with fail
  refine (HI.out X3 c3 w3 ⟨o3.rr, htx, hn⟩).mono ?_
  rintro e w4 ⟨G4, c4, rfl, o4, b4⟩
  have t4 := belowGo t3 b4
  have bx4 := o3.bd
  have i4 := (o2.below b3).below b4
  have x4 := o3.below b4
  go_wp2_with fail
  refine (eqInts_same G4 C2 _ _ c4 c2 r.1 w4 o4.ir i4.ir rfl rfl (by omega)).mono ?_
  rintro e w5 ⟨rfl, b5⟩
  have t5 := belowGo t4 b5
  go_wp2_with fail
  refine (toRateS_l A c rs _ (hR.below t5) hn).mono ?_
  rintro e w6 ⟨X6, c6, rfl, o6, b6⟩
  have t6 := belowGo t5 b6
  go_wp2_with fail
  refine (eqRateS_l X3 X6 c3 c6 rs w6 ((x4.below b5).below b6).rr o6.rr (by omega)).mono ?_
  rintro e w7 ⟨rfl, b7⟩
  have t7 := belowGo t6 b7
  go_wp2_with fail
  refine (markRateS_l X3 _ c3 1 rs _ w7 (((x4.below b5).below b6).below b7) hn (by omega) (by omega)).mono ?_
  rintro e w8 ⟨rfl, o8, g8⟩
  have x7 := ((x4.below b5).below b6).below b7
  have s23 : w2.heap.size ≤ w3.heap.size := b3.size
  have s37 : w3.heap.size ≤ w7.heap.size := Nat.le_trans b4.size (Nat.le_trans b5.size (Nat.le_trans b6.size b7.size))
  have f8 : Below w2.heap.size w7 w8 := x7.far g8 (Nat.le_refl _) (by omega)
  have t8 : Below w.heap.size w w8 := Or.wrote t7 x7 g8 t2.size t7.size
  have g8' := (((o4.below b5).below b6).below b7).kept g8 bx4
  have i8 : Ir w8 C2 r.1 := (((i4.below b5).below b6).below b7).ir.keepB bd2 f8
  have hk : decide (((1 + 4 * rs.length : Nat) : Int) < 0) = false := by simp; omega
  clear o8 f8
  go_wp2_with fail
  refine (eqInts_same G4 C2 _ _ c4 c2 r.1 w8 g8'.ir i8 rfl rfl (by omega)).mono ?_
  rintro e w9 ⟨rfl, b9⟩
  have t9 := belowGo t8 b9
  have g9 := g8'.below b9
  have i9 := i8.below b9
  clear g8'
  go_wp2_with fail
  refine (markInts G4 _ c4 1 r.1 _ w9 g9 (by omega) (by omega) (by omega)).mono ?_
  rintro e w10 ⟨rfl, o10, g10⟩
  have s9 : w3.heap.size ≤ w9.heap.size := Nat.le_trans s37 (Nat.le_trans g8.size b9.size)
  have f10 : Below w2.heap.size w9 w10 := g9.far g10 s23 (by omega)
  have t10 : Below w.heap.size w w10 := g9.wrote t9 g10 t3.size t9.size
  have i10 := i9.keepB bd2 f10
  clear f10 g9
  go_wp2_with fail
  refine (heldInts G4 _ c4 1 w10 o10.ir (by omega) (by omega) (by omega)).mono ?_
  rintro e w' ⟨rfl, rfl⟩
  have hk2 : decide ((1 : Int) + (r.1.length : Int) < 0) = false := by simp; omega
  have hk3 : ((1 : Int) + (r.1.length : Int) != 1 + (r.1.length : Int)) = false := by simp
  go_wp2_with fail
  refine (toRateS_l A c rs _ (hR.below t10) hn).mono ?_
  rintro e w11 ⟨X11, c11, rfl, o11, b11⟩
  have t11 := belowGo t10 b11
  go_wp2_with fail
  refine (HI.out X11 c11 w11 ⟨o11.rr, htx, hn⟩).mono ?_
  rintro e w12 ⟨H12, c12, rfl, o12, b12⟩
  have t12 := belowGo t11 b12
  go_wp2_with fail
  refine (eqInts_same H12 C2 _ _ c12 c2 r.1 w12 o12.ir ((i10.below b11).below b12) rfl rfl (by omega)).mono ?_
  rintro e w13 ⟨rfl, b13⟩
  have t13 := belowGo t12 b13
  go_wp2_with fail
  refine (heldInts G4 _ c4 1 w13 ((((o10.below b11).below b12).below b13).ir) (by omega) (by omega) (by omega)).mono ?_
  rintro e w' ⟨rfl, rfl⟩
  go_wp2_with fail
  go_ret
  exact ⟨rfl, t13⟩
end Go.Proofs.Ytmeglhmlhdaacaa
