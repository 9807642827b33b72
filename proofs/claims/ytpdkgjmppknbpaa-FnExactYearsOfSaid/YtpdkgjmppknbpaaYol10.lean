/- The law of YearsOf. (by laws10.py) -/
import Derived.Test.YtpdkgjmppknbpaaEdy
import Derived.Test.YtpdkgjmppknbpaaEdw2
namespace Go.Proofs.Ytpdkgjmppknbpaa
open Go.ChangeShapes Go.WideShapes Go.ChangeAt Go.RowKit
set_option linter.unusedVariables false

theorem yoR_len (es : List Edn) (s : List UInt8) (h : es.length ≤ 1048576) : (yoR es s).1.length ≤ 1048576 := by
  unfold yoR
  split
  · have := yrsE_len es s; show (yrsE es s).length ≤ _; omega
  · simp
set_option maxRecDepth 100000 in
set_option maxHeartbeats 4000000 in
theorem law_FnExactYearsOf (A : Option Addr) (c : Nat) (ps : List Edn) (s : ByteArray) (w : World) (hR : EdnR w A ps) (hm : ps.length ≤ maxLen) (hw : ∀ r ∈ ps, r.wf) (vs : s.size ≤ maxLen) :
    Calls Try.prog 9 #[.slice A ps.length c, .string s] w fun e w' => e = .returned (.bool true) ∧ Below w.heap.size w w' := by
  obtain ⟨⟨l⟩⟩ := s
  have hz : (⟨⟨l⟩⟩ : ByteArray).size = l.length := rfl
  rw [hz] at vs
  unfold maxLen at vs
  have HZ := Lib.hid (szEditionS_l A c ps 1048576 w hR hw hm (by omega) (by omega))
  have HO := Lib.hid (fun m (e : Edn.szT ps 1048576 = m) h => Edn.szT_law e h)
  obtain ⟨m, hmm⟩ : ∃ m, Edn.szT ps 1048576 = m := ⟨_, rfl⟩
  rw [hmm] at HZ
  by_cases hs : 1048576 < l.length
  · go_enter Try.func9, Try.ntmps9
    go_wp2_with fail
    go_ret
    exact ⟨rfl, Below.refl _ _⟩
  go_enter Try.func9, Try.ntmps9
  go_wp2_with fail
  refine HZ.out.mono ?_
  rintro e w0 ⟨rfl, b0⟩
  by_cases hneg : m < 0
  · go_wp2_with fail
    go_ret
    exact ⟨rfl, b0⟩
  obtain ⟨hn, htx, hcs, hm2, htot⟩ := HO.out m hmm (by omega)
  have hm0 : 0 ≤ m := by omega
  clear HO HZ hm hw hneg hmm
  have HI := Lib.hid (fun A d W (h : LTbl W A ps) => yo_i A d ps l W h)
  have HS := Lib.hid (fun A d W (h : LTbl W A ps) => yo_s A d ps l W h)
  have hrl : (yoR ps l).1.length ≤ 1048576 := yoR_len ps l hn
  generalize yoR ps l = r at *
  go_wp2_with fail
  refine (toEditionS_l A c ps _ (hR.below b0) hn hcs).mono ?_
  rintro e w1 ⟨B1, c1, rfl, o1, b1⟩
  have t1 := belowGo b0 b1
  have s1 := b1.size
  clear b1
  go_wp2_with fail
  refine (HS.out B1 c1 _ (ltbl_of o1 htx hcs hn)).mono ?_
  rintro e w2 ⟨C2, d2, rfl, q2, b2⟩
  have t2 := belowGo t1 b2
  have s2 := b2.size
  replace o1 := o1.below b2
  clear b2
  replace q2 := Own2.of (lo := w1.heap.size) (e := 2) (size := 1) (xs := r.1.map (Value.int .i64)) q2
  clear o1
  go_wp2_with fail
  refine (toEditionS_l A c ps _ (hR.below t2) hn hcs).mono ?_
  rintro e w3 ⟨B3, c3, rfl, o3, b3⟩
  have t3 := belowGo t2 b3
  have s3 := b3.size
  replace q2 := q2.below b3
  clear b3
  go_wp2_with fail
  refine (HI.out B3 c3 _ (ltbl_of o3 htx hcs hn)).mono ?_
  rintro e w4 ⟨C4, d4, rfl, q4, b4⟩
  have t4 := belowGo t3 b4
  have s4 := b4.size
  replace q2 := q2.below b4
  replace o3 := o3.below b4
  clear b4
  replace q4 := Own2.of (lo := w3.heap.size) (e := 2) (size := 1) (xs := r.1.map (Value.int .i64)) q4
  go_wp2_with fail
  refine (eqInts_same C4 C2 _ _ d4 d2 r.1 _ q4.ir q2.ir rfl rfl (by omega)).mono ?_
  rintro e w5 ⟨rfl, b5⟩
  have t5 := belowGo t4 b5
  have s5 := b5.size
  replace q2 := q2.below b5
  replace o3 := o3.below b5
  replace q4 := q4.below b5
  clear b5
  go_wp2_with fail
  refine (toEditionS_l A c ps _ (hR.below t5) hn hcs).mono ?_
  rintro e w6 ⟨B6, c6, rfl, o6, b6⟩
  have t6 := belowGo t5 b6
  have s6 := b6.size
  replace q2 := q2.below b6
  replace o3 := o3.below b6
  replace q4 := q4.below b6
  clear b6
  go_wp2_with fail
  refine (eqEditionS_l B3 B6 _ _ c3 c6 ps _ o3.reads o6.reads rfl rfl (by omega) (fun e he => by have := hcs e he; omega)).mono ?_
  rintro e w7 ⟨rfl, b7⟩
  have t7 := belowGo t6 b7
  have s7 := b7.size
  replace q2 := q2.below b7
  replace o3 := o3.below b7
  replace q4 := q4.below b7
  replace o6 := o6.below b7
  clear b7
  clear o6
  have hfin : Edn.fin 1 ps ≤ 1000000000 := by unfold Edn.fin; omega
  obtain ⟨K, hK⟩ : ∃ K, Edn.fin 1 ps = K := ⟨_, rfl⟩
  have HMK := Lib.hid (markEditionS_l B3 _ c3 1 ps _ _ _ o3 hn hcs (by omega) hfin)
  unfold MarkedEdn at HMK
  rw [hK] at HMK hfin
  have hk : decide (((K : Nat) : Int) < 0) = false := decide_eq_false (by omega)
  go_wp2_with fail
  refine HMK.out.mono ?_
  rintro e w8 ⟨rfl, n8, T8⟩
  replace q2 := q2.tou T8 (by omega)
  replace q4 := q4.tou T8 (by omega)
  have t8 : Below w.heap.size w w8 := Tou.far t7 T8 (by have := b0.size; omega) t7.size
  have s8 := T8.size
  clear o3 n8 HMK hK
  go_wp2_with fail
  refine (eqInts_same C4 C2 _ _ d4 d2 r.1 _ q4.ir q2.ir rfl rfl (by omega)).mono ?_
  rintro e w9 ⟨rfl, b9⟩
  have t9 := belowGo t8 b9
  have s9 := b9.size
  replace q2 := q2.below b9
  replace q4 := q4.below b9
  clear b9
  go_wp2_with fail
  refine (markInts C4 _ d4 1 r.1 _ _ q4.1 (by omega) (by omega) (by omega)).mono ?_
  rintro e w10 ⟨rfl, n10, g10⟩
  have T10 := q4.wrote g10
  replace q2 := q2.tou T10 (by omega)
  have t10 : Below w.heap.size w w10 := Tou.far t9 T10 (by have := b0.size; omega) t9.size
  have s10 := T10.size
  have m10 : Own2 w10 w3.heap.size w4.heap.size 2 1 C4 r.1.length d4 ((marks 1 r.1.length).map (Value.int .i64)) := ⟨n10, q4.2⟩
  clear q4 n10
  have hk2 : decide ((1 : Int) + (r.1.length : Int) < 0) = false := by simp; omega
  have hk3 : ((1 : Int) + (r.1.length : Int) != 1 + (r.1.length : Int)) = false := by simp
  go_wp2_with fail
  refine (heldInts_w C4 _ d4 1 _ m10.ir (by omega) (by omega) (by omega)).mono ?_
  rintro e w11 ⟨rfl, b11⟩
  have t11 := belowGo t10 b11
  have s11 := b11.size
  replace q2 := q2.below b11
  replace m10 := m10.below b11
  clear b11
  go_wp2_with fail
  refine (toEditionS_l A c ps _ (hR.below t11) hn hcs).mono ?_
  rintro e w12 ⟨B12, c12, rfl, o12, b12⟩
  have t12 := belowGo t11 b12
  have s12 := b12.size
  replace q2 := q2.below b12
  replace m10 := m10.below b12
  clear b12
  go_wp2_with fail
  refine (HI.out B12 c12 _ (ltbl_of o12 htx hcs hn)).mono ?_
  rintro e w13 ⟨C13, d13, rfl, q13, b13⟩
  have t13 := belowGo t12 b13
  have s13 := b13.size
  replace q2 := q2.below b13
  replace m10 := m10.below b13
  replace o12 := o12.below b13
  clear b13
  replace q13 := Own2.of (lo := w12.heap.size) (e := 2) (size := 1) (xs := r.1.map (Value.int .i64)) q13
  go_wp2_with fail
  refine (eqInts_same C13 C2 _ _ d13 d2 r.1 _ q13.ir q2.ir rfl rfl (by omega)).mono ?_
  rintro e w14 ⟨rfl, b14⟩
  have t14 := belowGo t13 b14
  have s14 := b14.size
  replace q2 := q2.below b14
  replace m10 := m10.below b14
  replace o12 := o12.below b14
  replace q13 := q13.below b14
  clear b14
  go_wp2_with fail
  refine (heldInts_w C4 _ d4 1 _ m10.ir (by omega) (by omega) (by omega)).mono ?_
  rintro e w15 ⟨rfl, b15⟩
  have t15 := belowGo t14 b15
  have s15 := b15.size
  replace q2 := q2.below b15
  replace m10 := m10.below b15
  replace o12 := o12.below b15
  replace q13 := q13.below b15
  clear b15
  go_wp2_with fail
  go_ret
  exact ⟨rfl, t15⟩
end Go.Proofs.Ytpdkgjmppknbpaa
