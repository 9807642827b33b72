/- The law of AmendEdition. (by laws10.py) -/
import Derived.Test.YtpdkgjmppknbpaaBxl10
import Derived.Test.YtpdkgjmppknbpaaAg7c
import Derived.Deep.CutRange
namespace Go.Proofs.Ytpdkgjmppknbpaa
open Go.ChangeShapes Go.WideShapes Go.ChangeAt Go.RowKit
set_option linter.unusedVariables false

set_option maxRecDepth 100000 in
set_option maxHeartbeats 4000000 in
theorem law_FnExactAmendEdition (A : Option Addr) (c : Nat) (ps : List Edn) (n : Int) (p : Cls) (w : World) (hR : EdnR w A ps) (hm : ps.length ≤ maxLen) (hw : ∀ r ∈ ps, r.wf) (v1 : (Lit.int .i64 n).wf = true) (v2 : p.wf) :
    Calls Try.prog 6 #[.slice A ps.length c, .int .i64 n, .agg #[.string ⟨p.c.toArray⟩, .int .i64 p.k, .int .i64 p.p, .int .i64 p.v, .int .i64 p.r, .int .i64 p.e, .string ⟨p.t.toArray⟩]] w fun e w' => e = .returned (.bool true) ∧ Below w.heap.size w w' := by
  have X := (BoxCl.new w p)
  have bB := below_alloc w (.cells #[.string ⟨p.c.toArray⟩, .int .i64 p.k, .int .i64 p.p, .int .i64 p.v, .int .i64 p.r, .int .i64 p.e, .string ⟨p.t.toArray⟩] 47)
  have HZ := Lib.hid (szEditionS_l A c ps 1048576 _ (hR.below bB) hw hm (by omega) (by omega))
  have HO := Lib.hid (fun m (e : Edn.szT ps 1048576 = m) h => Edn.szT_law e h)
  obtain ⟨m, hmm⟩ : ∃ m, Edn.szT ps 1048576 = m := ⟨_, rfl⟩
  rw [hmm] at HZ
  go_enter Try.func6, Try.ntmps6
  go_wp2_with fail
  refine HZ.out.mono ?_
  rintro e wa ⟨rfl, b0⟩
  replace X := X.below b0
  have ta := belowGo bB b0
  by_cases hneg : m < 0
  · go_wp2_with fail
    go_ret
    exact ⟨rfl, ta⟩
  obtain ⟨hn, htx, hcs, hm2, htot⟩ := HO.out m hmm (by omega)
  have hm0 : 0 ≤ m := by omega
  clear HO HZ hm hw hneg hmm b0 bB
  have c0 := X.cells.c0
  have c1 := X.cells.c1
  have c2 := X.cells.c2
  have c3 := X.cells.c3
  have c4 := X.cells.c4
  have c5 := X.cells.c5
  have c6 := X.cells.c6
  have HZ := Lib.hid (fun W => szClause_l p m W hm0 (by omega) v2)
  by_cases hneg : m - (p.sz : Int) < 0
  · rw [if_pos hneg] at HZ
    go_wp2_with fail
    refine (HZ.out _).mono ?_
    rintro e w0 ⟨rfl, b0⟩
    go_wp2_with fail
    go_ret
    exact ⟨rfl, belowGo ta b0⟩
  rw [if_neg hneg] at HZ
  have hps : p.sz ≤ 1048600 := by omega
  obtain ⟨m2, hmm⟩ : ∃ m2, m2 = m - (p.sz : Int) := ⟨_, rfl⟩
  rw [← hmm] at HZ
  have hm02 : 0 ≤ m2 := by omega
  clear hneg hmm
  go_wp2_with fail
  refine (HZ.out _).mono ?_
  rintro e w0 ⟨rfl, b0⟩
  replace X := X.below b0
  have t0 := belowGo ta b0
  clear c0 c1 c2 c3 c4 c5 c6
  clear HZ b0 ta
  have HI := Lib.hid (fun A d W (h : LTblC W A d ps) => amend_i A d ps n p W h.tbl hps)
  have HS := Lib.hid (fun A d W (h : LTblC W A d ps) => amend_s A d ps n p W h.tbl hps)
  obtain ⟨hr6, hr12, hrf⟩ := lib_bd (amR_lib ps n p)
  generalize amR ps n p = r at *
  have hX0 : w.heap.size < w0.heap.size := X.lt
  have hbw := Below.drew t0
  have hbx := (Below.refl w0.heap.size w0).drew
  have kd := X.drew
  have c0 := kd.cells.c0
  have c1 := kd.cells.c1
  have c2 := kd.cells.c2
  have c3 := kd.cells.c3
  have c4 := kd.cells.c4
  have c5 := kd.cells.c5
  have c6 := kd.cells.c6
  go_wp2_with fail
  go_cut [8, 9] from 29 to 36 (fun u v wx => ∃ C q, u = .slice C r.1.length q ∧ v = .int .i64 r.2 ∧ EdnO wx w.heap.size wx.heap.size C r.1.length q r.1 ∧ BoxCl w.heap.size p wx ∧ Below w0.heap.size w0 wx)
  case first =>
    go_region_with (first
      | (go_at_call 14; refine (toEditionS_l A c ps _ (hR.below hbw) hn hcs).mono ?_; rintro e wS ⟨AS, cS, rfl, oS, bS⟩; have hbw := belowGo hbw bS; have hbx := belowGo hbx bS; have kd := kd.below bS; have c0 := kd.cells.c0; have c1 := kd.cells.c1; have c2 := kd.cells.c2; have c3 := kd.cells.c3; have c4 := kd.cells.c4; have c5 := kd.cells.c5; have c6 := kd.cells.c6)
      | (go_at_call 29; refine (toClause_l p _).mono ?_; rintro e wT ⟨rfl, bT⟩; have hbw := belowGo hbw bT; have hbx := belowGo hbx bT; have kd := kd.below bT; have c0 := kd.cells.c0; have c1 := kd.cells.c1; have c2 := kd.cells.c2; have c3 := kd.cells.c3; have c4 := kd.cells.c4; have c5 := kd.cells.c5; have c6 := kd.cells.c6)
      | (go_at_call 28; refine (HS.out AS cS _ (by first | exact (ltblC_of (oS) htx hcs hn) | exact (ltblC_of (oS.below bT) htx hcs hn))).mono ?_; rintro e wA ⟨AA, cA, rfl, oA, bA⟩))
    all_goals
      go_wp2_with fail
      go_meet
      exact ⟨AA, cA, rfl, rfl, oA.mono hbw.size (Nat.le_refl _), kd.below bA, belowGo hbx bA⟩
  case rest =>
    obtain ⟨C1, d1, rfl, rfl, q1, X2, b1⟩ := hcut
    obtain ⟨w1, hw1⟩ : ∃ x, x = wc := ⟨_, rfl⟩
    subst hw1
    clear kd hbw hbx c0 c1 c2 c3 c4 c5 c6
    have t1 := belowGo t0 b1
    have s1 := b1.size
    clear X; have X := X2; clear X2
    clear b1
    go_wp2_with fail
    refine (toEditionS_l A c ps _ (hR.below t1) hn hcs).mono ?_
    rintro e w2 ⟨B2, c2, rfl, o2, b2⟩
    have t2 := belowGo t1 b2
    have s2 := b2.size
    replace X := X.below b2
    replace q1 := q1.below b2
    clear b2
    have c0 := X.cells.c0
    have c1 := X.cells.c1
    have c2 := X.cells.c2
    have c3 := X.cells.c3
    have c4 := X.cells.c4
    have c5 := X.cells.c5
    have c6 := X.cells.c6
    go_wp2_with fail
    refine (toClause_l p _).mono ?_
    rintro e w3 ⟨rfl, b3⟩
    have t3 := belowGo t2 b3
    have s3 := b3.size
    replace X := X.below b3
    replace q1 := q1.below b3
    replace o2 := o2.below b3
    clear b3
    clear c0 c1 c2 c3 c4 c5 c6
    go_wp2_with fail
    refine (HI.out B2 c2 _ (ltblC_of (o2) htx hcs hn)).mono ?_
    rintro e w4 ⟨C4, d4, rfl, q4, b4⟩
    have t4 := belowGo t3 b4
    have s4 := b4.size
    replace X := X.below b4
    replace q1 := q1.below b4
    replace o2 := o2.below b4
    clear b4
    go_wp2_with fail
    refine (eqEditionS_l C4 C1 _ _ d4 d1 r.1 _ q4.reads q1.reads rfl rfl (by omega) (fun e he => by have := hr12 e he; omega)).mono ?_
    rintro e w5 ⟨rfl, b5⟩
    have t5 := belowGo t4 b5
    have s5 := b5.size
    replace X := X.below b5
    replace q1 := q1.below b5
    replace o2 := o2.below b5
    replace q4 := q4.below b5
    clear b5
    go_wp2_with fail
    refine (toEditionS_l A c ps _ (hR.below t5) hn hcs).mono ?_
    rintro e w6 ⟨B6, c6, rfl, o6, b6⟩
    have t6 := belowGo t5 b6
    have s6 := b6.size
    replace X := X.below b6
    replace q1 := q1.below b6
    replace o2 := o2.below b6
    replace q4 := q4.below b6
    clear b6
    go_wp2_with fail
    refine (eqEditionS_l B2 B6 _ _ c2 c6 ps _ o2.reads o6.reads rfl rfl (by omega) (fun e he => by have := hcs e he; omega)).mono ?_
    rintro e w7 ⟨rfl, b7⟩
    have t7 := belowGo t6 b7
    have s7 := b7.size
    replace X := X.below b7
    replace q1 := q1.below b7
    replace o2 := o2.below b7
    replace q4 := q4.below b7
    replace o6 := o6.below b7
    clear b7
    clear o6
    have hfin : Edn.fin 1 ps ≤ 1000000000 := by unfold Edn.fin; omega
    obtain ⟨K, hK⟩ : ∃ K, Edn.fin 1 ps = K := ⟨_, rfl⟩
    have HMK := Lib.hid (markEditionS_l B2 _ c2 1 ps _ _ _ o2 hn hcs (by omega) hfin)
    unfold MarkedEdn at HMK
    rw [hK] at HMK hfin
    go_wp2_with fail
    refine HMK.out.mono ?_
    rintro e w8 ⟨rfl, n8, T8⟩
    have hxl : w.heap.size < w0.heap.size := hX0
    replace X := X.tou T8 (by have := X.lt; omega)
    replace q1 := q1.tou T8 (by omega)
    replace q4 := q4.tou T8 (by omega)
    have t8 : Below w.heap.size w w8 := Tou.far t7 T8 (by have := t0.size; omega) t7.size
    have s8 := T8.size
    clear o2 n8 HMK
    have hk : decide (((K : Nat) : Int) < 0) = false := decide_eq_false (by omega)
    clear hK
    go_wp2_with fail
    refine (eqEditionS_l C4 C1 _ _ d4 d1 r.1 _ q4.reads q1.reads rfl rfl (by omega) (fun e he => by have := hr12 e he; omega)).mono ?_
    rintro e w9 ⟨rfl, b9⟩
    have t9 := belowGo t8 b9
    have s9 := b9.size
    replace X := X.below b9
    replace q1 := q1.below b9
    replace q4 := q4.below b9
    clear b9
    clear hk hfin
    have hfin : Edn.fin 1 r.1 ≤ 1000000000 := by omega
    obtain ⟨K, hK⟩ : ∃ K, Edn.fin 1 r.1 = K := ⟨_, rfl⟩
    have HMK := Lib.hid (markEditionS_l C4 _ d4 1 r.1 _ _ _ q4 (by omega) (fun e he => by have := hr12 e he; omega) (by omega) hfin)
    unfold MarkedEdn at HMK
    rw [hK] at HMK hfin
    go_wp2_with fail
    refine HMK.out.mono ?_
    rintro e w10 ⟨rfl, n10, T10⟩
    replace X := X.tou T10 (by have := X.lt; omega)
    replace q1 := q1.tou T10 (by omega)
    have t10 : Below w.heap.size w w10 := Tou.far t9 T10 (by have := t0.size; omega) t9.size
    have s10 := T10.size
    clear q4
    have hk2 : decide (((K : Nat) : Int) < 0) = false := decide_eq_false (by omega)
    have hk3 : (((K : Nat) : Int) != ((K : Nat) : Int)) = false := by simp
    have HHD := Lib.hid (fun W (h : EdnR W C4 (Edn.mks 1 r.1)) => heldEditionS_l C4 r.1.length d4 1 r.1 W h rfl (by omega) (fun e he => by have := hr12 e he; omega) (by omega) (by omega))
    rw [hK] at HHD
    clear hK HMK
    go_wp2_with fail
    refine (HHD.out _ n10.reads).mono ?_
    rintro e w11 ⟨rfl, b11⟩
    have t11 := belowGo t10 b11
    have s11 := b11.size
    replace X := X.below b11
    replace q1 := q1.below b11
    replace n10 := n10.below b11
    clear b11
    have hbw := Below.drew t11
    have hbx := (Below.refl w11.heap.size w11).drew
    have kd := X.drew
    have c0 := kd.cells.c0
    have c1 := kd.cells.c1
    have c2 := kd.cells.c2
    have c3 := kd.cells.c3
    have c4 := kd.cells.c4
    have c5 := kd.cells.c5
    have c6 := kd.cells.c6
    go_wp2_with fail
    go_cut [16, 17] from 89 to 96 (fun u v wx => ∃ C q, u = .slice C r.1.length q ∧ v = .int .i64 r.2 ∧ EdnO wx w11.heap.size wx.heap.size C r.1.length q r.1 ∧ BoxCl w.heap.size p wx ∧ Below w11.heap.size w11 wx)
    case first =>
      go_region_with (first
        | (go_at_call 14; refine (toEditionS_l A c ps _ (hR.below hbw) hn hcs).mono ?_; rintro e wS ⟨AS, cS, rfl, oS, bS⟩; have hbw := belowGo hbw bS; have hbx := belowGo hbx bS; have kd := kd.below bS; have c0 := kd.cells.c0; have c1 := kd.cells.c1; have c2 := kd.cells.c2; have c3 := kd.cells.c3; have c4 := kd.cells.c4; have c5 := kd.cells.c5; have c6 := kd.cells.c6)
        | (go_at_call 29; refine (toClause_l p _).mono ?_; rintro e wT ⟨rfl, bT⟩; have hbw := belowGo hbw bT; have hbx := belowGo hbx bT; have kd := kd.below bT; have c0 := kd.cells.c0; have c1 := kd.cells.c1; have c2 := kd.cells.c2; have c3 := kd.cells.c3; have c4 := kd.cells.c4; have c5 := kd.cells.c5; have c6 := kd.cells.c6)
        | (go_at_call 30; refine (HI.out AS cS _ (by first | exact (ltblC_of (oS) htx hcs hn) | exact (ltblC_of (oS.below bT) htx hcs hn))).mono ?_; rintro e wA ⟨AA, cA, rfl, oA, bA⟩))
      all_goals
        go_wp2_with fail
        go_meet
        exact ⟨AA, cA, rfl, rfl, oA.mono hbx.size (Nat.le_refl _), kd.below bA, belowGo hbx bA⟩
    case rest =>
      obtain ⟨C12, d12, rfl, rfl, q12, X2, b12⟩ := hcut
      obtain ⟨w12, hw12⟩ : ∃ x, x = wc := ⟨_, rfl⟩
      subst hw12
      clear kd hbw hbx c0 c1 c2 c3 c4 c5 c6
      have t12 := belowGo t11 b12
      have s12 := b12.size
      clear X; have X := X2; clear X2
      replace q1 := q1.below b12
      replace n10 := n10.below b12
      clear b12
      go_wp2_with fail
      refine (eqEditionS_l C12 C1 _ _ d12 d1 r.1 _ q12.reads q1.reads rfl rfl (by omega) (fun e he => by have := hr12 e he; omega)).mono ?_
      rintro e w13 ⟨rfl, b13⟩
      have t13 := belowGo t12 b13
      have s13 := b13.size
      replace X := X.below b13
      replace q1 := q1.below b13
      replace n10 := n10.below b13
      replace q12 := q12.below b13
      clear b13
      go_wp2_with fail
      refine (HHD.out _ n10.reads).mono ?_
      rintro e w14 ⟨rfl, b14⟩
      have t14 := belowGo t13 b14
      have s14 := b14.size
      replace X := X.below b14
      replace q1 := q1.below b14
      replace n10 := n10.below b14
      replace q12 := q12.below b14
      clear b14
      go_wp2_with fail
      go_ret
      exact ⟨rfl, t14⟩
end Go.Proofs.Ytpdkgjmppknbpaa
