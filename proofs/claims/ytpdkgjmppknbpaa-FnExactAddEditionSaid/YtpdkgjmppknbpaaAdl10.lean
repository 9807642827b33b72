/- The law of AddEdition. (by laws10.py) -/
import Derived.Test.YtpdkgjmppknbpaaBxl10
import Derived.Deep.CutRange
namespace Go.Proofs.Ytpdkgjmppknbpaa
open Go.ChangeShapes Go.WideShapes Go.ChangeAt Go.RowKit
set_option linter.unusedVariables false

set_option maxRecDepth 100000 in
set_option maxHeartbeats 4000000 in
theorem law_FnExactAddEdition (A : Option Addr) (c : Nat) (ps : List Edn) (y : Int) (a : Option Addr) (cc : Nat) (rs : List Cls) (w : World) (hR : EdnR w A ps) (hm : ps.length ≤ maxLen) (hw : ∀ r ∈ ps, r.wf) (v1 : (Lit.int .i64 y).wf = true) (hR1 : ClsR w a rs) (hm1 : rs.length ≤ maxLen) (hw1 : ∀ r ∈ rs, r.wf) :
    Calls Try.prog 5 #[.slice A ps.length c, .agg #[.int .i64 y, .slice a rs.length cc]] w fun e w' => e = .returned (.bool true) ∧ Below w.heap.size w w' := by
  have X := (BoxEd.new w y a rs.length cc)
  have bB := below_alloc w (.cells #[.int .i64 y, .slice a rs.length cc] 34)
  have HZ := Lib.hid (szEditionS_l A c ps 1048576 _ (hR.below bB) hw hm (by omega) (by omega))
  have HO := Lib.hid (fun m (e : Edn.szT ps 1048576 = m) h => Edn.szT_law e h)
  obtain ⟨m, hmm⟩ : ∃ m, Edn.szT ps 1048576 = m := ⟨_, rfl⟩
  rw [hmm] at HZ
  go_enter Try.func5, Try.ntmps5
  go_wp2_with fail
  refine HZ.out.mono ?_
  rintro e wa ⟨rfl, b0⟩
  replace X := X.below b0
  have ta := belowGo bB b0
  by_cases hneg : m < 0
  · go_wp2_with fail
    go_ret
    exact ⟨rfl, ta⟩
  obtain ⟨hn, htx, hcs, hm2, htot⟩ := HO.out m hmm (by omega)
  have hm0 : 0 ≤ m := by omega
  clear HO HZ hm hw hneg hmm b0 bB
  have c0 := X.c0
  have c1 := X.c1
  have HZ := Lib.hid (szEdition_l y a cc rs m wa (hR1.below ta) hw1 hm1 hm0 (by omega))
  obtain ⟨m2, hmm⟩ : ∃ m2, Cls.szT rs m = m2 := ⟨_, rfl⟩
  have HO := Lib.hid (fun h => Cls.szT_law hmm h hm2)
  rw [hmm] at HZ
  go_wp2_with fail
  refine HZ.out.mono ?_
  rintro e w0 ⟨rfl, b0⟩
  replace X := X.below b0
  have t0 := belowGo ta b0
  clear c0 c1
  by_cases hneg : m2 < 0
  · go_wp2_with fail
    go_ret
    exact ⟨rfl, t0⟩
  obtain ⟨hn1, htx1, hmu⟩ := HO.out (by omega)
  have hm02 : 0 ≤ m2 := by omega
  clear HO HZ hm1 hw1 hneg hmm b0 ta
  have HI := Lib.hid (fun A d B e W (h : LTblC W A d ps) (h2 : CTbl W B rs) => (adds_i A d ps ⟨y, B, rs.length, e⟩ ⟨y, rs⟩ W h ⟨⟨rfl, rfl, h2.row⟩, h2.txt, h2.len⟩ : Calls Try.prog 22 #[.slice A ps.length d, .agg #[.int .i64 y, .slice B rs.length e]] W (NewEdnsC W (adR ps ⟨y, rs⟩))))
  have HS := Lib.hid (fun A d B e W (h : LTblC W A d ps) (h2 : CTbl W B rs) => (adds_s A d ps ⟨y, B, rs.length, e⟩ ⟨y, rs⟩ W h ⟨⟨rfl, rfl, h2.row⟩, h2.txt, h2.len⟩ : Calls Try.prog 20 #[.slice A ps.length d, .agg #[.int .i64 y, .slice B rs.length e]] W (NewEdnsC W (adR ps ⟨y, rs⟩))))
  obtain ⟨hr6, hr12, hrf⟩ := lib_bd (adR_lib ps ⟨y, rs⟩)
  generalize adR ps ⟨y, rs⟩ = r at *
  have hX0 : w.heap.size < w0.heap.size := X.lt
  have hbw := Below.drew t0
  have hbx := (Below.refl w0.heap.size w0).drew
  have kd := X.drew
  have c0 := kd.c0
  have c1 := kd.c1
  go_wp2_with fail
  go_cut [6, 7] from 28 to 34 (fun u v wx => ∃ C q, u = .slice C r.1.length q ∧ v = .int .i64 r.2 ∧ EdnO wx w.heap.size wx.heap.size C r.1.length q r.1 ∧ BoxEd w.heap.size y a rs.length cc wx ∧ Below w0.heap.size w0 wx)
  case first =>
    go_region_with (first
      | (go_at_call 14; refine (toEditionS_l A c ps _ (hR.below hbw) hn hcs).mono ?_; rintro e wS ⟨AS, cS, rfl, oS, bS⟩; have hbw := belowGo hbw bS; have hbx := belowGo hbx bS; have kd := kd.below bS; have c0 := kd.c0; have c1 := kd.c1)
      | (go_at_call 21; refine (toEdition_l y a cc rs _ (hR1.below hbw) hn1).mono ?_; rintro e wT ⟨AT, cT, rfl, oT, bT⟩; have hbw := belowGo hbw bT; have hbx := belowGo hbx bT; have kd := kd.below bT; have c0 := kd.c0; have c1 := kd.c1)
      | (go_at_call 20; refine (HS.out AS cS AT cT _ (by first | exact (ltblC_of (oS) htx hcs hn) | exact (ltblC_of (oS.below bT) htx hcs hn)) (by first | exact (ctbl_of (oT) htx1 hn1) | exact (ctbl_of (oT.below bS) htx1 hn1))).mono ?_; rintro e wA ⟨AA, cA, rfl, oA, bA⟩))
    all_goals
      go_wp2_with fail
      go_meet
      exact ⟨AA, cA, rfl, rfl, oA.mono hbw.size (Nat.le_refl _), kd.below bA, belowGo hbx bA⟩
  case rest =>
    obtain ⟨C1, d1, rfl, rfl, q1, X2, b1⟩ := hcut
    obtain ⟨w1, hw1⟩ : ∃ x, x = wc := ⟨_, rfl⟩
    subst hw1
    clear kd hbw hbx c0 c1
    have t1 := belowGo t0 b1
    have s1 := b1.size
    clear X; have X := X2; clear X2
    clear b1
    go_wp2_with fail
    refine (toEditionS_l A c ps _ (hR.below t1) hn hcs).mono ?_
    rintro e w2 ⟨B2, c2, rfl, o2, b2⟩
    have t2 := belowGo t1 b2
    have s2 := b2.size
    replace X := X.below b2
    replace q1 := q1.below b2
    clear b2
    have c0 := X.c0
    have c1 := X.c1
    go_wp2_with fail
    refine (toEdition_l y a cc rs _ (hR1.below t2) hn1).mono ?_
    rintro e w3 ⟨B3, c3', rfl, o3, b3⟩
    have t3 := belowGo t2 b3
    have s3 := b3.size
    replace X := X.below b3
    replace q1 := q1.below b3
    replace o2 := o2.below b3
    clear b3
    clear c0 c1
    replace o3 := Own2.of (lo := w2.heap.size) (e := 50) (size := 7) (xs := rs.flatMap Cls.cells) o3
    obtain ⟨w4, hw4⟩ : ∃ x, w3.alloc (.cells #[.int .i64 y, .slice B3 rs.length c3'] 40) = x := ⟨_, rfl⟩
    have b4 : Below w3.heap.size w3 w4 := by rw [← hw4]; exact below_alloc _ _
    have Y : BoxIE w3.heap.size y B3 rs.length c3' w4 := by rw [← hw4]; exact BoxIE.new _ _ _ _ _
    have t4 := belowGo t3 b4
    have s4 := b4.size
    replace X := X.below b4
    replace q1 := q1.below b4
    replace o2 := o2.below b4
    replace o3 := o3.below b4
    clear b4
    have z0 := Y.c0; have z1 := Y.c1
    go_wp2_with fail
    refine (HI.out B2 c2 B3 c3' _ (ltblC_of (o2) htx hcs hn) (ctbl_of (show ClsO _ _ _ _ _ rs from o3.1) htx1 hn1)).mono ?_
    rintro e w5 ⟨C5, d5, rfl, q5, b5⟩
    have t5 := belowGo t4 b5
    have s5 := b5.size
    replace X := X.below b5
    replace q1 := q1.below b5
    replace o2 := o2.below b5
    replace o3 := o3.below b5
    replace Y := Y.below b5
    clear b5
    clear z0 z1
    go_wp2_with fail
    refine (eqEditionS_l C5 C1 _ _ d5 d1 r.1 _ q5.reads q1.reads rfl rfl (by omega) (fun e he => by have := hr12 e he; omega)).mono ?_
    rintro e w6 ⟨rfl, b6⟩
    have t6 := belowGo t5 b6
    have s6 := b6.size
    replace X := X.below b6
    replace q1 := q1.below b6
    replace o2 := o2.below b6
    replace o3 := o3.below b6
    replace Y := Y.below b6
    replace q5 := q5.below b6
    clear b6
    go_wp2_with fail
    refine (toEditionS_l A c ps _ (hR.below t6) hn hcs).mono ?_
    rintro e w7 ⟨B7, c7, rfl, o7, b7⟩
    have t7 := belowGo t6 b7
    have s7 := b7.size
    replace X := X.below b7
    replace q1 := q1.below b7
    replace o2 := o2.below b7
    replace o3 := o3.below b7
    replace Y := Y.below b7
    replace q5 := q5.below b7
    clear b7
    go_wp2_with fail
    refine (eqEditionS_l B2 B7 _ _ c2 c7 ps _ o2.reads o7.reads rfl rfl (by omega) (fun e he => by have := hcs e he; omega)).mono ?_
    rintro e w8 ⟨rfl, b8⟩
    have t8 := belowGo t7 b8
    have s8 := b8.size
    replace X := X.below b8
    replace q1 := q1.below b8
    replace o2 := o2.below b8
    replace o3 := o3.below b8
    replace Y := Y.below b8
    replace q5 := q5.below b8
    replace o7 := o7.below b8
    clear b8
    clear o7
    have hbw := Below.drew t8
    have hbx := (Below.refl w8.heap.size w8).drew
    have kd := X.drew
    have yd := Y.drew
    have od := o3.below (Below.refl _ _).drew
    have c0 := kd.c0
    have c1 := kd.c1
    have z0 := yd.c0
    have z1 := yd.c1
    go_wp2_with fail
    go_cut [63] from 59 to 62 (fun u wx => u = .bool false ∧ Below w8.heap.size w8 wx)
    case first =>
      go_region_with (first
        | (go_at_call 21; refine (toEdition_l y a cc rs _ (hR1.below hbw) hn1).mono ?_; rintro e wT ⟨AT, cT, rfl, oT, bT⟩; have hbw := belowGo hbw bT; have hbx := belowGo hbx bT; have od := od.below bT; have yd := yd.below bT; have z0 := yd.c0; have z1 := yd.c1)
        | (go_at_call 23; refine (eqEdition_same y B3 AT _ _ c3' cT rs _ od.cl oT.row rfl rfl (by omega)).mono ?_; rintro e wA ⟨rfl, bA⟩))
      all_goals
        go_wp2_with fail
        go_meet
        exact ⟨rfl, belowGo hbx bA⟩
    case rest =>
      obtain ⟨rfl, b9⟩ := hcut
      obtain ⟨w9, hw9⟩ : ∃ x, x = wc := ⟨_, rfl⟩
      subst hw9
      clear kd yd od hbw hbx c0 c1 z0 z1
      have t9 := belowGo t8 b9
      have s9 := b9.size
      replace X := X.below b9
      replace q1 := q1.below b9
      replace o2 := o2.below b9
      replace o3 := o3.below b9
      replace Y := Y.below b9
      replace q5 := q5.below b9
      clear b9
      have hfin : Edn.fin 1 ps ≤ 1000000000 := by unfold Edn.fin; omega
      obtain ⟨K, hK⟩ : ∃ K, Edn.fin 1 ps = K := ⟨_, rfl⟩
      have HMK := Lib.hid (markEditionS_l B2 _ c2 1 ps _ _ _ o2 hn hcs (by omega) hfin)
      unfold MarkedEdn at HMK
      rw [hK] at HMK hfin
      go_wp2_with fail
      refine HMK.out.mono ?_
      rintro e w10 ⟨rfl, n10, T10⟩
      have hxl : w.heap.size < w0.heap.size := hX0
      replace X := X.tou T10 (by have := X.lt; omega)
      replace q1 := q1.tou T10 (by omega)
      replace o3 := o3.tou T10 (by omega)
      replace Y := Y.tou2 T10 (by omega)
      replace q5 := q5.tou T10 (by omega)
      have t10 : Below w.heap.size w w10 := Tou.far t9 T10 (by have := t0.size; omega) t9.size
      have s10 := T10.size
      clear o2 n10 HMK
      have hK1 : 1 ≤ K := by rw [← hK]; unfold Edn.fin; omega
      have z0 := Y.c0; have z1 := Y.c1
      go_wp2_with fail
      refine (markEdition_l y B3 _ c3' K rs _ _ o3.1 hn1 (by omega) (by omega)).mono ?_
      rintro e w11 ⟨rfl, n11, g11⟩
      have T11 := o3.wrote g11
      clear z0 z1
      clear Y
      replace X := X.tou T11 (by have := X.lt; omega)
      replace q1 := q1.tou T11 (by omega)
      replace q5 := q5.tou T11 (by omega)
      have t11 : Below w.heap.size w w11 := Tou.far t10 T11 (by have := t0.size; omega) t10.size
      have s11 := T11.size
      clear o3 n11
      have hk : decide (((K + 7 * rs.length : Nat) : Int) < 0) = false := decide_eq_false (by omega)
      clear hK
      go_wp2_with fail
      refine (eqEditionS_l C5 C1 _ _ d5 d1 r.1 _ q5.reads q1.reads rfl rfl (by omega) (fun e he => by have := hr12 e he; omega)).mono ?_
      rintro e w12 ⟨rfl, b12⟩
      have t12 := belowGo t11 b12
      have s12 := b12.size
      replace X := X.below b12
      replace q1 := q1.below b12
      replace q5 := q5.below b12
      clear b12
      clear hk hfin
      have hfin : Edn.fin 1 r.1 ≤ 1000000000 := by omega
      obtain ⟨K, hK⟩ : ∃ K, Edn.fin 1 r.1 = K := ⟨_, rfl⟩
      have HMK := Lib.hid (markEditionS_l C5 _ d5 1 r.1 _ _ _ q5 (by omega) (fun e he => by have := hr12 e he; omega) (by omega) hfin)
      unfold MarkedEdn at HMK
      rw [hK] at HMK hfin
      go_wp2_with fail
      refine HMK.out.mono ?_
      rintro e w13 ⟨rfl, n13, T13⟩
      replace X := X.tou T13 (by have := X.lt; omega)
      replace q1 := q1.tou T13 (by omega)
      have t13 : Below w.heap.size w w13 := Tou.far t12 T13 (by have := t0.size; omega) t12.size
      have s13 := T13.size
      clear q5
      have hk2 : decide (((K : Nat) : Int) < 0) = false := decide_eq_false (by omega)
      have hk3 : (((K : Nat) : Int) != ((K : Nat) : Int)) = false := by simp
      have HHD := Lib.hid (fun W (h : EdnR W C5 (Edn.mks 1 r.1)) => heldEditionS_l C5 r.1.length d5 1 r.1 W h rfl (by omega) (fun e he => by have := hr12 e he; omega) (by omega) (by omega))
      rw [hK] at HHD
      clear hK HMK
      go_wp2_with fail
      refine (HHD.out _ n13.reads).mono ?_
      rintro e w14 ⟨rfl, b14⟩
      have t14 := belowGo t13 b14
      have s14 := b14.size
      replace X := X.below b14
      replace q1 := q1.below b14
      replace n13 := n13.below b14
      clear b14
      have hbw := Below.drew t14
      have hbx := (Below.refl w14.heap.size w14).drew
      have kd := X.drew
      have c0 := kd.c0
      have c1 := kd.c1
      go_wp2_with fail
      go_cut [15, 16] from 95 to 101 (fun u v wx => ∃ C q, u = .slice C r.1.length q ∧ v = .int .i64 r.2 ∧ EdnO wx w14.heap.size wx.heap.size C r.1.length q r.1 ∧ BoxEd w.heap.size y a rs.length cc wx ∧ Below w14.heap.size w14 wx)
      case first =>
        go_region_with (first
          | (go_at_call 14; refine (toEditionS_l A c ps _ (hR.below hbw) hn hcs).mono ?_; rintro e wS ⟨AS, cS, rfl, oS, bS⟩; have hbw := belowGo hbw bS; have hbx := belowGo hbx bS; have kd := kd.below bS; have c0 := kd.c0; have c1 := kd.c1)
          | (go_at_call 21; refine (toEdition_l y a cc rs _ (hR1.below hbw) hn1).mono ?_; rintro e wT ⟨AT, cT, rfl, oT, bT⟩; have hbw := belowGo hbw bT; have hbx := belowGo hbx bT; have kd := kd.below bT; have c0 := kd.c0; have c1 := kd.c1)
          | (go_at_call 22; refine (HI.out AS cS AT cT _ (by first | exact (ltblC_of (oS) htx hcs hn) | exact (ltblC_of (oS.below bT) htx hcs hn)) (by first | exact (ctbl_of (oT) htx1 hn1) | exact (ctbl_of (oT.below bS) htx1 hn1))).mono ?_; rintro e wA ⟨AA, cA, rfl, oA, bA⟩))
        all_goals
          go_wp2_with fail
          go_meet
          exact ⟨AA, cA, rfl, rfl, oA.mono hbx.size (Nat.le_refl _), kd.below bA, belowGo hbx bA⟩
      case rest =>
        obtain ⟨C15, d15, rfl, rfl, q15, X2, b15⟩ := hcut
        obtain ⟨w15, hw15⟩ : ∃ x, x = wc := ⟨_, rfl⟩
        subst hw15
        clear kd hbw hbx c0 c1
        have t15 := belowGo t14 b15
        have s15 := b15.size
        clear X; have X := X2; clear X2
        replace q1 := q1.below b15
        replace n13 := n13.below b15
        clear b15
        go_wp2_with fail
        refine (eqEditionS_l C15 C1 _ _ d15 d1 r.1 _ q15.reads q1.reads rfl rfl (by omega) (fun e he => by have := hr12 e he; omega)).mono ?_
        rintro e w16 ⟨rfl, b16⟩
        have t16 := belowGo t15 b16
        have s16 := b16.size
        replace X := X.below b16
        replace q1 := q1.below b16
        replace n13 := n13.below b16
        replace q15 := q15.below b16
        clear b16
        go_wp2_with fail
        refine (HHD.out _ n13.reads).mono ?_
        rintro e w17 ⟨rfl, b17⟩
        have t17 := belowGo t16 b17
        have s17 := b17.size
        replace X := X.below b17
        replace q1 := q1.below b17
        replace n13 := n13.below b17
        replace q15 := q15.below b17
        clear b17
        go_wp2_with fail
        go_ret
        exact ⟨rfl, t17⟩
end Go.Proofs.Ytpdkgjmppknbpaa
