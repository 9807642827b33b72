/- The law FnVoyages. (by gen_vw.py) -/
import Derived.Test.YtklhcofonkmiiaaVdf
import Derived.Test.YtklhcofonkmiiaaVfa
import Derived.Test.YtklhcofonkmiiaaVlp
import Derived.Test.YtklhcofonkmiiaaVod
import Derived.Test.YtklhcofonkmiiaaVis
import Derived.Test.YtklhcofonkmiiaaVit
import Derived.Test.YtklhcofonkmiiaaDlf
import Derived.Test.YtklhcofonkmiiaaDlg
namespace Go.Proofs.Ytklhcofonkmiiaa
open Go.ChangeShapes Go.WideShapes Go.ChangeAt Go.RowKit
set_option linter.unusedVariables false

theorem keepHV {w w' : World} {k : Nat} {o : Obj} (hb : Below w.heap.size w w') (h : w.heap[k]? = some o) : w'.heap[k]? = some o := (hb.block _ (lt_some h)).trans h
set_option maxRecDepth 100000 in
set_option maxHeartbeats 16000000 in
theorem law_FnVoyages (A : Option Addr) (c : Nat) (bs : List Int) (w : World) (hA : Rw w A (bs.map (Value.int .u8))) (hm : bs.length ≤ maxLen) (hb : ∀ b ∈ bs, 0 ≤ b ∧ b ≤ 255) (hB : bs ≠ [] → Bd A w.heap.size) :
    Calls Try.prog 3 #[.slice A bs.length c] w fun e w' => e = .returned (.bool true) ∧ Below w.heap.size w w' := by
  by_cases hl : 4096 < bs.length
  · have hd : decide (4096 < bs.length) = true := by simpa using hl
    go_enter Try.func3, Try.ntmps3
    go_wp2_with (go_at_call 11; refine (big_p _ _ _ _ hm).mono ?_; rintro e w' ⟨rfl, rfl⟩)
    go_ret
    exact ⟨rfl, Below.refl _ _⟩
  have hd : decide (4096 < bs.length) = false := by simpa using hl
  have h0 : Code0 w A bs := ⟨hA, hB, hb, by omega⟩
  clear hA hB hb
  go_enter Try.func3, Try.ntmps3
  go_wp2_with (go_at_call 11; refine (big_p _ _ _ _ hm).mono ?_; rintro e w' ⟨rfl, rfl⟩)
  refine (drawPortOn A c bs _ h0).mono ?_
  rintro e w1 ⟨B, d, ps, n, rfl, hn, D, b1⟩
  clear hm hl hd
  have hps : ps.length ≤ 11 := D.1
  have t1 := b1
  clear b1
  have HP1 := Lib.hid (fun w (h : VTblC w B d ps) => portOn_i B d ps n w h)
  have HP2 := Lib.hid (fun w (h : VTblC w B d ps) => portOn_s B d ps n w h)
  have HL1 := Lib.hid (fun w (h : VTblC w B d ps) => legOn_i B d ps n w h)
  have HL2 := Lib.hid (fun w (h : VTblC w B d ps) => legOn_s B d ps n w h)
  have HD := Lib.hid (fun w (h : VTblC w B d ps) => daysAt_i B d ps n n w h)
  have O := Lib.hid (one_day ps n)
  generalize portR ps n = q at *
  obtain ⟨p, bad⟩ := q
  generalize legR ps n = q at *
  obtain ⟨l, one⟩ := q
  simp only at HP1 HP2 HL1 HL2
  go_wp2_with fail
  refine (HP1.out _ D.tbl).mono ?_
  rintro e w2 ⟨rfl, b2⟩
  replace D := D.below b2
  have t2 := belowGo t1 b2
  clear b2 t1
  go_wp2_with fail
  refine (HP2.out _ D.tbl).mono ?_
  rintro e w3 ⟨rfl, b3⟩
  replace D := D.below b3
  have t3 := belowGo t2 b3
  clear b3 t2
  go_wp2_with fail
  refine (HL1.out _ D.tbl).mono ?_
  rintro e w4 ⟨rfl, b4⟩
  replace D := D.below b4
  have t4 := belowGo t3 b4
  clear b4 t3
  go_wp2_with fail
  refine (HL2.out _ D.tbl).mono ?_
  rintro e w5 ⟨rfl, b5⟩
  replace D := D.below b5
  have t5 := belowGo t4 b5
  clear b5 t4
  clear HP1 HP2 HL1 HL2
  go_wp2_with fail
  refine (drawDaysAtSea A c bs _ (h0.below t5)).mono ?_
  rintro e w6 ⟨B2, d2, ys, f, u, rfl, hf, hu, Y, b6⟩
  replace D := D.below b6
  have t6 := belowGo t5 b6
  clear b6 t5
  have HA1 := Lib.hid (fun w (h : VTblC w B2 d2 ys) => daysAt_i B2 d2 ys f u w h)
  have HA2 := Lib.hid (fun w (h : VTblC w B2 d2 ys) => daysAt_s B2 d2 ys f u w h)
  generalize dasR ys f u = q at HA1 HA2
  obtain ⟨nd, three⟩ := q
  simp only at HA1 HA2
  go_wp2_with fail
  refine (HA1.out _ Y.tbl).mono ?_
  rintro e w7 ⟨rfl, b7⟩
  replace D := D.below b7
  replace Y := Y.below b7
  have t7 := belowGo t6 b7
  clear b7 t6
  go_wp2_with fail
  refine (HA2.out _ Y.tbl).mono ?_
  rintro e w8 ⟨rfl, b8⟩
  replace D := D.below b8
  clear Y
  have t8 := belowGo t7 b8
  clear b8 t7
  clear HA1 HA2
  go_wp2_with fail
  refine (drawRefuge A c bs _ (h0.below t8)).mono ?_
  rintro e w9 ⟨B3, d3, zs, z, rfl, hz, hzi, hzo, Z, b9⟩
  replace D := D.below b9
  have t9 := belowGo t8 b9
  clear b9 t8
  have hzs : zs.length ≤ 11 := Z.1
  have hzz : z.sz ≤ 1048576 := by unfold Sto.sz; omega
  have hza : ∀ p ∈ zs, p.sz ≤ 1048576 := fun p hp => by have := (Z.2.2 p hp).1; unfold Sto.sz; omega
  have K := heap_alloc_new w9 (.cells #[.string ⟨z.p.toArray⟩, .int .i64 z.i, .int .i64 z.o] 35)
  have bx := below_alloc w9 (.cells #[.string ⟨z.p.toArray⟩, .int .i64 z.i, .int .i64 z.o] 35)
  have tb := belowGo t9 bx
  replace D := D.below bx
  replace Z := Z.below bx
  clear bx t9
  have t9 := tb
  clear tb
  have HR1 := Lib.hid (fun w (h : VTblC w B3 d3 zs) => refuge_i B3 d3 zs z w h (by omega))
  have HR2 := Lib.hid (fun w (h : VTblC w B3 d3 zs) => refuge_s B3 d3 zs z w h (by omega))
  have HRF := Lib.hid (insR_found zs z)
  have HRS := Lib.hid (insR_sz (rs := zs) (s := z) hza hzz)
  have hrl := insR_len zs z
  generalize insR zs z = q at *
  obtain ⟨L, five⟩ := q
  simp only at hrl HRF HRS
  go_wp2_with fail
  refine (HR1.out _ Z.tbl).mono ?_
  rintro e w10 ⟨C1, c1, rfl, L1, b10⟩
  simp only at L1
  replace D := D.below b10
  replace Z := Z.below b10
  replace K := keepHV b10 K
  have t10 := belowGo t9 b10
  clear b10 t9
  obtain ⟨k0, k1, k2, _⟩ := row3V_at K
  go_wp2_with fail
  refine (HR2.out _ Z.tbl).mono ?_
  rintro e w11 ⟨C2, c2, rfl, L2, b11⟩
  clear k0 k1 k2; simp only at L2
  replace D := D.below b11
  replace Z := Z.below b11
  clear K
  replace L1 := L1.below b11
  have t11 := belowGo t10 b11
  clear b11 t10
  clear HR1 HR2
  go_wp2_with fail
  refine (drawDelayBy A c bs _ (h0.below t11)).mono ?_
  rintro e w12 ⟨B4, d4, xs, x, m, rfl, hx, hm, X, b12⟩
  replace D := D.below b12
  replace Z := Z.below b12
  replace L1 := L1.below b12
  replace L2 := L2.below b12
  have t12 := belowGo t11 b12
  clear b12 t11
  have hxs : xs.length ≤ 11 := X.1
  have hxa : ∀ p ∈ xs, p.sz ≤ 1048576 := fun p hp => by have := (X.2.2 p hp).1; unfold Sto.sz; omega
  have HY1 := Lib.hid (fun w (h : VTblC w B4 d4 xs) => delay_i B4 d4 xs x m w h)
  have HY2 := Lib.hid (fun w (h : VTblC w B4 d4 xs) => delay_s B4 d4 xs x m w h)
  have HYF := Lib.hid (dlyR_found xs x m)
  have HYS := Lib.hid (dlyR_sz (rs := xs) (x := x) (d := m) hxa)
  have hyl := dlyR_len xs x m
  generalize dlyR xs x m = q at *
  obtain ⟨M, seven⟩ := q
  simp only at hyl HYF HYS
  go_wp2_with fail
  refine (HY1.out _ X.tbl).mono ?_
  rintro e w13 ⟨C3, c3, rfl, M1, b13⟩
  simp only at M1
  replace D := D.below b13
  replace Z := Z.below b13
  replace L1 := L1.below b13
  replace L2 := L2.below b13
  replace X := X.below b13
  have t13 := belowGo t12 b13
  clear b13 t12
  go_wp2_with fail
  refine (HY2.out _ X.tbl).mono ?_
  rintro e w14 ⟨C4, c4, rfl, M2, b14⟩
  simp only at M2
  replace D := D.below b14
  replace Z := Z.below b14
  replace L1 := L1.below b14
  replace L2 := L2.below b14
  replace X := X.below b14
  replace M1 := M1.below b14
  have t14 := belowGo t13 b14
  clear b14 t13
  clear HY1 HY2
  go_wp2_with fail
  refine (drawLastDay A c bs _ (h0.below t14)).mono ?_
  rintro e w15 ⟨B5, d5, es, rfl, E, b15⟩
  replace D := D.below b15
  replace Z := Z.below b15
  replace L1 := L1.below b15
  replace L2 := L2.below b15
  replace X := X.below b15
  replace M1 := M1.below b15
  replace M2 := M2.below b15
  have t15 := belowGo t14 b15
  clear b15 t14
  have HE1 := Lib.hid (fun w (h : VTblC w B5 d5 es) => last_i B5 d5 es w h)
  have HE2 := Lib.hid (fun w (h : VTblC w B5 d5 es) => last_s B5 d5 es w h)
  generalize lastR es = q at HE1 HE2
  obtain ⟨el, nine⟩ := q
  simp only at HE1 HE2
  go_wp2_with fail
  refine (HE1.out _ E.tbl).mono ?_
  rintro e w16 ⟨rfl, b16⟩
  replace D := D.below b16
  replace Z := Z.below b16
  replace L1 := L1.below b16
  replace L2 := L2.below b16
  replace X := X.below b16
  replace M1 := M1.below b16
  replace M2 := M2.below b16
  replace E := E.below b16
  have t16 := belowGo t15 b16
  clear b16 t15
  go_wp2_with fail
  refine (HE2.out _ E.tbl).mono ?_
  rintro e w17 ⟨rfl, b17⟩
  replace D := D.below b17
  replace Z := Z.below b17
  replace L1 := L1.below b17
  replace L2 := L2.below b17
  replace X := X.below b17
  replace M1 := M1.below b17
  replace M2 := M2.below b17
  clear E
  have t17 := belowGo t16 b17
  clear b17 t16
  clear HE1 HE2 h0
  have n1 : (bad != bad) = false := by simp
  have n2 : (p != p) = false := by simp
  have n3 : (one != one) = false := by simp
  have n4 : (l != l) = false := by simp
  have n5 : (three != three) = false := by simp
  have n6 : (nd != nd) = false := by simp
  have n7 : (five != five) = false := by simp
  have n8 : (seven != seven) = false := by simp
  have n9 : (nine != nine) = false := by simp
  have n10 : (el != el) = false := by simp
  go_wp2_with fail
  refine (likeV C1 C2 c1 c2 L _ L1.row L2.row (by omega)).mono ?_
  rintro e w18 ⟨rfl, b18⟩
  replace D := D.below b18
  replace Z := Z.below b18
  replace L1 := L1.below b18
  clear L2
  replace X := X.below b18
  replace M1 := M1.below b18
  replace M2 := M2.below b18
  have t18 := belowGo t17 b18
  clear b18 t17
  go_wp2_with fail
  refine (likeV C3 C4 c3 c4 M _ M1.row M2.row (by omega)).mono ?_
  rintro e w19 ⟨rfl, b19⟩
  replace D := D.below b19
  replace Z := Z.below b19
  replace L1 := L1.below b19
  replace X := X.below b19
  replace M1 := M1.below b19
  clear M2
  have t19 := belowGo t18 b19
  clear b19 t18
  clear n1 n2 n3 n4 n5 n6 n7 n8 n9 n10
  by_cases h5 : five = 0
  · subst h5
    obtain ⟨v, g1, g2, hlen⟩ := HRF.out rfl
    try simp only at g2 hlen
    have HM1 := Lib.hid (fun w (h : VTblC w C1 c1 L) => last_i C1 c1 L w h)
    have HM2 := Lib.hid (fun w (h : VTblC w B3 d3 zs) => last_i B3 d3 zs w h)
    rw [g2] at HM1
    rw [g1] at HM2
    simp only at HM1 HM2
    have VM := Lib.hid (vtbl_of L1 HRS.out (by omega))
    have hvm : (v != v) = false := by simp
    have hen : ((L.length : Int) != (zs.length : Int) + 1) = false := by simp; omega
    clear g1 g2 hlen HRF HRS L1
    go_wp2_with fail
    refine (HM1.out _ VM.out).mono ?_
    rintro e w20 ⟨rfl, b20⟩
    clear VM
    replace D := D.below b20
    replace Z := Z.below b20
    replace X := X.below b20
    replace M1 := M1.below b20
    have t20 := belowGo t19 b20
    clear b20 t19
    go_wp2_with fail
    refine (HM2.out _ Z.tbl).mono ?_
    rintro e w21 ⟨rfl, b21⟩
    replace D := D.below b21
    clear Z
    replace X := X.below b21
    replace M1 := M1.below b21
    have t21 := belowGo t20 b21
    clear b21 t20
    clear HM1 HM2
    by_cases h7 : seven = 0
    · subst h7
      obtain ⟨v, g1, g2, hv, hmm⟩ := HYF.out rfl
      try simp only at g2
      have HM1 := Lib.hid (fun w (h : VTblC w C3 c3 M) => last_i C3 c3 M w h)
      have HM2 := Lib.hid (fun w (h : VTblC w B4 d4 xs) => last_i B4 d4 xs w h)
      rw [g2] at HM1
      rw [g1] at HM2
      simp only at HM1 HM2
      have VM := Lib.hid (vtbl_of M1 HYS.out (by omega))
      have hw : IntKind.i64.wrap (v + m) = v + m := IntWalk.i64_in _ (by omega)
      have hvm : (v + m != v + m) = false := by simp
      clear g1 g2 HYF HYS M1
      go_wp2_with fail
      refine (HM1.out _ VM.out).mono ?_
      rintro e w22 ⟨rfl, b22⟩
      clear VM
      replace D := D.below b22
      replace X := X.below b22
      have t22 := belowGo t21 b22
      clear b22 t21
      go_wp2_with fail
      refine (HM2.out _ X.tbl).mono ?_
      rintro e w23 ⟨rfl, b23⟩
      replace D := D.below b23
      clear X
      have t23 := belowGo t22 b23
      clear b23 t22
      clear HM1 HM2
      cases O.out with
      | no c hc =>
        have h3 := bne_iff_ne.2 hc
        go_wp2_with fail
        go_ret
        exact ⟨by simp, t23⟩
      | port p hp hd =>
        rw [hd] at HD
        simp only at HD
        have hp0 : (p == ([] : List UInt8)) = false := beq_eq_false_iff_ne.2 hp
        clear hp hd
        go_wp2_with fail
        refine (HD.out _ D.tbl).mono ?_
        rintro e w24 ⟨rfl, b24⟩
        replace D := D.below b24
        have t24 := belowGo t23 b24
        clear b24 t23
        clear HD O
        go_wp2_with fail
        go_ret
        exact ⟨by simp_all, t24⟩
      | sea k hd =>
        rw [hd] at HD
        simp only at HD
        clear hd
        go_wp2_with fail
        refine (HD.out _ D.tbl).mono ?_
        rintro e w24 ⟨rfl, b24⟩
        replace D := D.below b24
        have t24 := belowGo t23 b24
        clear b24 t23
        clear HD O
        go_wp2_with fail
        go_ret
        exact ⟨by simp_all, t24⟩
    · have h7 : (seven == 0) = false := beq_eq_false_iff_ne.2 h7
      clear HYF HYS M1 X
      cases O.out with
      | no c hc =>
        have h3 := bne_iff_ne.2 hc
        go_wp2_with fail
        go_ret
        exact ⟨by simp, t21⟩
      | port p hp hd =>
        rw [hd] at HD
        simp only at HD
        have hp0 : (p == ([] : List UInt8)) = false := beq_eq_false_iff_ne.2 hp
        clear hp hd
        go_wp2_with fail
        refine (HD.out _ D.tbl).mono ?_
        rintro e w22 ⟨rfl, b22⟩
        replace D := D.below b22
        have t22 := belowGo t21 b22
        clear b22 t21
        clear HD O
        go_wp2_with fail
        go_ret
        exact ⟨by simp_all, t22⟩
      | sea k hd =>
        rw [hd] at HD
        simp only at HD
        clear hd
        go_wp2_with fail
        refine (HD.out _ D.tbl).mono ?_
        rintro e w22 ⟨rfl, b22⟩
        replace D := D.below b22
        have t22 := belowGo t21 b22
        clear b22 t21
        clear HD O
        go_wp2_with fail
        go_ret
        exact ⟨by simp_all, t22⟩
  · have h5 : (five == 0) = false := beq_eq_false_iff_ne.2 h5
    clear HRF HRS L1 Z
    by_cases h7 : seven = 0
    · subst h7
      obtain ⟨v, g1, g2, hv, hmm⟩ := HYF.out rfl
      try simp only at g2
      have HM1 := Lib.hid (fun w (h : VTblC w C3 c3 M) => last_i C3 c3 M w h)
      have HM2 := Lib.hid (fun w (h : VTblC w B4 d4 xs) => last_i B4 d4 xs w h)
      rw [g2] at HM1
      rw [g1] at HM2
      simp only at HM1 HM2
      have VM := Lib.hid (vtbl_of M1 HYS.out (by omega))
      have hw : IntKind.i64.wrap (v + m) = v + m := IntWalk.i64_in _ (by omega)
      have hvm : (v + m != v + m) = false := by simp
      clear g1 g2 HYF HYS M1
      go_wp2_with fail
      refine (HM1.out _ VM.out).mono ?_
      rintro e w20 ⟨rfl, b20⟩
      clear VM
      replace D := D.below b20
      replace X := X.below b20
      have t20 := belowGo t19 b20
      clear b20 t19
      go_wp2_with fail
      refine (HM2.out _ X.tbl).mono ?_
      rintro e w21 ⟨rfl, b21⟩
      replace D := D.below b21
      clear X
      have t21 := belowGo t20 b21
      clear b21 t20
      clear HM1 HM2
      cases O.out with
      | no c hc =>
        have h3 := bne_iff_ne.2 hc
        go_wp2_with fail
        go_ret
        exact ⟨by simp, t21⟩
      | port p hp hd =>
        rw [hd] at HD
        simp only at HD
        have hp0 : (p == ([] : List UInt8)) = false := beq_eq_false_iff_ne.2 hp
        clear hp hd
        go_wp2_with fail
        refine (HD.out _ D.tbl).mono ?_
        rintro e w22 ⟨rfl, b22⟩
        replace D := D.below b22
        have t22 := belowGo t21 b22
        clear b22 t21
        clear HD O
        go_wp2_with fail
        go_ret
        exact ⟨by simp_all, t22⟩
      | sea k hd =>
        rw [hd] at HD
        simp only at HD
        clear hd
        go_wp2_with fail
        refine (HD.out _ D.tbl).mono ?_
        rintro e w22 ⟨rfl, b22⟩
        replace D := D.below b22
        have t22 := belowGo t21 b22
        clear b22 t21
        clear HD O
        go_wp2_with fail
        go_ret
        exact ⟨by simp_all, t22⟩
    · have h7 : (seven == 0) = false := beq_eq_false_iff_ne.2 h7
      clear HYF HYS M1 X
      cases O.out with
      | no c hc =>
        have h3 := bne_iff_ne.2 hc
        go_wp2_with fail
        go_ret
        exact ⟨by simp, t19⟩
      | port p hp hd =>
        rw [hd] at HD
        simp only at HD
        have hp0 : (p == ([] : List UInt8)) = false := beq_eq_false_iff_ne.2 hp
        clear hp hd
        go_wp2_with fail
        refine (HD.out _ D.tbl).mono ?_
        rintro e w20 ⟨rfl, b20⟩
        replace D := D.below b20
        have t20 := belowGo t19 b20
        clear b20 t19
        clear HD O
        go_wp2_with fail
        go_ret
        exact ⟨by simp_all, t20⟩
      | sea k hd =>
        rw [hd] at HD
        simp only at HD
        clear hd
        go_wp2_with fail
        refine (HD.out _ D.tbl).mono ?_
        rintro e w20 ⟨rfl, b20⟩
        replace D := D.below b20
        have t20 := belowGo t19 b20
        clear b20 t19
        clear HD O
        go_wp2_with fail
        go_ret
        exact ⟨by simp_all, t20⟩
end Go.Proofs.Ytklhcofonkmiiaa
