/- The law FnManifests. (by gen_mw.py) -/
import Derived.Test.YthainomgmgaikaaDie
import Derived.Test.YthainomgmgaikaaMks
import Derived.Test.YthainomgmgaikaaPlm
import Derived.Test.YthainomgmgaikaaOwi
import Derived.Test.YthainomgmgaikaaSpi
import Derived.Test.YthainomgmgaikaaSpr
namespace Go.Proofs.Ythainomgmgaikaa
open Go.ChangeShapes Go.WideShapes Go.ChangeAt Go.RowKit
set_option linter.unusedVariables false

set_option maxRecDepth 100000 in
set_option maxHeartbeats 16000000 in
theorem law_FnManifests (A : Option Addr) (c : Nat) (bs : List Int) (w : World) (hA : Rw w A (bs.map (Value.int .u8))) (hm : bs.length ≤ maxLen) (hb : ∀ b ∈ bs, 0 ≤ b ∧ b ≤ 255) (hB : bs ≠ [] → Bd A w.heap.size) :
    Calls Try.prog 3 #[.slice A bs.length c] w fun e w' => e = .returned (.bool true) ∧ Below w.heap.size w w' := by
  by_cases hl : 4096 < bs.length
  · have hd : decide (4096 < bs.length) = true := by simpa using hl
    go_enter Try.func3, Try.ntmps3
    go_wp2_with (go_at_call 11; refine (big_p _ _ _ _ hm).mono ?_; rintro e w' ⟨rfl, rfl⟩)
    go_ret
    exact ⟨rfl, Below.refl _ _⟩
  have hd : decide (4096 < bs.length) = false := by simpa using hl
  have h0 : Code0 w A bs := ⟨hA, hB, hb, by omega⟩
  clear hA hB hb
  go_enter Try.func3, Try.ntmps3
  go_wp2_with (go_at_call 11; refine (big_p _ _ _ _ hm).mono ?_; rintro e w' ⟨rfl, rfl⟩)
  refine (drawIP A c bs _ h0).mono ?_
  rintro e w1 ⟨B, d, ps, s, r, u, rfl, D, hs, hr, b1⟩
  clear hm hl hd
  have hps : ps.length ≤ 40 := D.2.1
  have t1 := b1
  clear b1
  have HI := Lib.hid (fun w (h : ITbl w B ps) => split_i B d ps s r u w h (by omega))
  have HS := Lib.hid (fun w (h : ITbl w B ps) => split_s B d ps s r u w h (by omega))
  have HF := Lib.hid (fun h => @split_total ps s r u h)
  have hL11 := splR_len ps s r u
  generalize splR ps s r u = q at *
  obtain ⟨l, bad⟩ := q
  simp only at hL11 HF
  go_wp2_with fail
  refine (HI.out _ D.tbl).mono ?_
  rintro e w2 ⟨C1, c1, rfl, L, b2⟩
  replace D := D.below b2
  have t2 := belowGo t1 b2
  clear b2 t1
  go_wp2_with fail
  refine (HS.out _ D.tbl).mono ?_
  rintro e w3 ⟨C2, c2, rfl, M, b3⟩
  replace D := D.below b3
  replace L := L.below b3
  have t3 := belowGo t2 b3
  clear b3 t2
  clear HI HS
  go_wp2_with fail
  refine (drawI A c bs _ (h0.below t3)).mono ?_
  rintro e w4 ⟨B2, d2, ys, rfl, X, b4⟩
  replace D := D.below b4
  replace L := L.below b4
  replace M := M.below b4
  have t4 := belowGo t3 b4
  clear b4 t3
  have hys : ys.length ≤ 40 := X.2.1
  have HT1 := Lib.hid (fun w (h : ITbl w B2 ys) => total_i B2 d2 ys w h)
  have HT2 := Lib.hid (fun w (h : ITbl w B2 ys) => total_s B2 d2 ys w h)
  have HO1 := Lib.hid (fun w (h : ITbl w B2 ys) => owners_i B2 d2 ys w h)
  have HO2 := Lib.hid (fun w (h : ITbl w B2 ys) => owners_s B2 d2 ys w h)
  have HM := Lib.hid (fun w (b : Bool) (h : ITbl w B2 ys) (hb : manB ys = b) => manI_q (c := d2) h hb)
  obtain ⟨n, tc, os, hT, hO, hmc, hosl, HW⟩ := man_way ys
  rw [hT] at HT1 HT2
  rw [hO] at HO1 HO2
  simp only at HT1 HT2
  clear hT hO
  go_wp2_with fail
  refine (HT1.out _ X.tbl).mono ?_
  rintro e w5 ⟨rfl, b5⟩
  replace D := D.below b5
  replace L := L.below b5
  replace M := M.below b5
  replace X := X.below b5
  have t5 := belowGo t4 b5
  clear b5 t4
  go_wp2_with fail
  refine (HT2.out _ X.tbl).mono ?_
  rintro e w6 ⟨rfl, b6⟩
  replace D := D.below b6
  replace L := L.below b6
  replace M := M.below b6
  replace X := X.below b6
  have t6 := belowGo t5 b6
  clear b6 t5
  go_wp2_with fail
  refine (HO1.out _ X.tbl).mono ?_
  rintro e w7 ⟨S1, s1, rfl, Y, b7⟩
  replace D := D.below b7
  replace L := L.below b7
  replace M := M.below b7
  replace X := X.below b7
  have t7 := belowGo t6 b7
  clear b7 t6
  go_wp2_with fail
  refine (HO2.out _ X.tbl).mono ?_
  rintro e w8 ⟨S2, s2, rfl, Z, b8⟩
  replace D := D.below b8
  replace L := L.below b8
  replace M := M.below b8
  replace X := X.below b8
  replace Y := Y.below b8
  have t8 := belowGo t7 b8
  clear b8 t7
  clear HT1 HT2 HO1 HO2
  go_wp2_with fail
  refine (drawIC A c bs _ (h0.below t8)).mono ?_
  rintro e w9 ⟨B3, d3, zs, z, rfl, P, hz, b9⟩
  replace D := D.below b9
  replace L := L.below b9
  replace M := M.below b9
  replace X := X.below b9
  replace Y := Y.below b9
  replace Z := Z.below b9
  have t9 := belowGo t8 b9
  clear b9 t8
  have hzs : zs.length ≤ 40 := P.2.1
  have HC1 := Lib.hid (fun w (h : ITbl w B3 zs) => codes_i B3 d3 zs z w h)
  have HC2 := Lib.hid (fun w (h : ITbl w B3 zs) => codes_s B3 d3 zs z w h)
  have hdl := codR_len zs z
  generalize codR zs z = q at *
  obtain ⟨ds, five⟩ := q
  simp only at hdl
  go_wp2_with fail
  refine (HC1.out _ P.tbl).mono ?_
  rintro e w10 ⟨S3, s3, rfl, U, b10⟩
  replace D := D.below b10
  replace L := L.below b10
  replace M := M.below b10
  replace X := X.below b10
  replace Y := Y.below b10
  replace Z := Z.below b10
  replace P := P.below b10
  have t10 := belowGo t9 b10
  clear b10 t9
  go_wp2_with fail
  refine (HC2.out _ P.tbl).mono ?_
  rintro e w11 ⟨S4, s4, rfl, V, b11⟩
  replace D := D.below b11
  replace L := L.below b11
  replace M := M.below b11
  replace X := X.below b11
  replace Y := Y.below b11
  replace Z := Z.below b11
  clear P
  replace U := U.below b11
  have t11 := belowGo t10 b11
  clear b11 t10
  clear HC1 HC2
  go_wp2_with fail
  refine (drawIF A c bs _ (h0.below t11)).mono ?_
  rintro e w12 ⟨B4, d4, xs, x, rfl, F, hx, b12⟩
  replace D := D.below b12
  replace L := L.below b12
  replace M := M.below b12
  replace X := X.below b12
  replace Y := Y.below b12
  replace Z := Z.below b12
  replace U := U.below b12
  replace V := V.below b12
  have t12 := belowGo t11 b12
  clear b12 t11
  have HF1 := Lib.hid (fun w (h : ITbl w B4 xs) => findi_i B4 d4 xs x w h)
  have HF2 := Lib.hid (fun w (h : ITbl w B4 xs) => findi_s B4 d4 xs x w h)
  generalize finR xs x = q at *
  obtain ⟨k, seven⟩ := q
  simp only at HF1 HF2
  go_wp2_with fail
  refine (HF1.out _ F.tbl).mono ?_
  rintro e w13 ⟨rfl, b13⟩
  replace D := D.below b13
  replace L := L.below b13
  replace M := M.below b13
  replace X := X.below b13
  replace Y := Y.below b13
  replace Z := Z.below b13
  replace U := U.below b13
  replace V := V.below b13
  replace F := F.below b13
  have t13 := belowGo t12 b13
  clear b13 t12
  go_wp2_with fail
  refine (HF2.out _ F.tbl).mono ?_
  rintro e w14 ⟨rfl, b14⟩
  replace D := D.below b14
  replace L := L.below b14
  replace M := M.below b14
  replace X := X.below b14
  replace Y := Y.below b14
  replace Z := Z.below b14
  replace U := U.below b14
  replace V := V.below b14
  clear F
  have t14 := belowGo t13 b14
  clear b14 t13
  clear HF1 HF2 h0
  have n1 : (bad != bad) = false := by simp
  have n2 : (tc != tc) = false := by simp
  have n3 : (n != n) = false := by simp
  have n4 : (five != five) = false := by simp
  have n5 : (seven != seven) = false := by simp
  have n6 : (k != k) = false := by simp
  have n7 : ((tc == 0) != (tc == 0)) = false := by simp
  go_wp2_with fail
  refine (likeI C1 C2 _ _ c1 c2 l _ L.row M.row rfl rfl (by omega)).mono ?_
  rintro e w15 ⟨rfl, b15⟩
  replace D := D.below b15
  replace L := L.below b15
  clear M
  replace X := X.below b15
  replace Y := Y.below b15
  replace Z := Z.below b15
  replace U := U.below b15
  replace V := V.below b15
  have t15 := belowGo t14 b15
  clear b15 t14
  go_wp2_with fail
  refine (likeT S1 S2 _ _ s1 s2 os _ Y.sr Z.sr rfl rfl (by omega)).mono ?_
  rintro e w16 ⟨rfl, b16⟩
  replace D := D.below b16
  replace L := L.below b16
  replace X := X.below b16
  replace Y := Y.below b16
  clear Z
  replace U := U.below b16
  replace V := V.below b16
  have t16 := belowGo t15 b16
  clear b16 t15
  go_wp2_with fail
  refine (likeT S3 S4 _ _ s3 s4 ds _ U.sr V.sr rfl rfl (by omega)).mono ?_
  rintro e w17 ⟨rfl, b17⟩
  replace D := D.below b17
  replace L := L.below b17
  replace X := X.below b17
  replace Y := Y.below b17
  clear U
  clear V
  have t17 := belowGo t16 b17
  clear b17 t16
  go_wp2_with fail
  refine (HM.out _ _ X.tbl hmc).mono ?_
  rintro e w18 ⟨rfl, b18⟩
  replace D := D.below b18
  replace L := L.below b18
  replace X := X.below b18
  replace Y := Y.below b18
  have t18 := belowGo t17 b18
  clear b18 t17
  clear HM n1 n2 n3 n4 n5 n6 n7
  by_cases h1 : tc = 0
  · subst h1
    obtain ⟨hman, rfl⟩ := HW rfl
    have h10 := (manB_iff.1 hman).1
    have HR := Lib.hid (fun k o => @own_round ys o k hman)
    have HN := Lib.hid (fun k => @own_end ys k)
    have hst := Lib.hid (ownU_strict (ys.map Ist.o))
    clear hman hmc HW
    have HZ := Lib.hid (fun w o (h : ITbl w B2 ys) => codes_i B2 d2 ys o w h)
    generalize cntU (ys.map Ist.o) = cf at *
    generalize ownU (ys.map Ist.o) = os at *
    go_wp2_with fail
    go_loopw [32, 33] (fun cn i wr => ∃ k C : Nat, k ≤ os.length ∧ i = .int .i64 k ∧ cn = .int .i64 C ∧ Hid (C = ((os.take k).map cf).sum) ∧ C ≤ 10 * k ∧ Below w18.heap.size w18 wr) (fun _ i _ => os.length - (intOf i).toNat)
    case atStart => exact ⟨0, 0, Nat.zero_le _, rfl, rfl, Lib.hid rfl, Nat.zero_le _, Below.refl _ _⟩
    case round =>
      obtain ⟨k, C, hk, rfl, rfl, hC, hC10, hb⟩ := hrel
      have L' := L.below hb
      have D' := D.below hb
      have tw := belowGo t18 hb
      by_cases hlt : k < os.length
      · obtain ⟨b, off, o, rfl, hl1, h1, ho⟩ := (Y.sr.below hb).at hlt
        obtain ⟨ds', hcr, hd0, hd10, hsum⟩ := HR.out k o ho.out
        have HZ2 := HZ.out wr o (X.tbl.below hb)
        rw [hcr] at HZ2
        have HS2 : Hid (C + ds'.length = ((os.take (k + 1)).map cf).sum) := Lib.hid (by rw [hsum, ← hC.out])
        clear hcr hsum HZ hC L' D' HF HR HN L D X
        replace HZ2 := Lib.hid HZ2
        go_wp2_with fail
        refine HZ2.out.mono ?_
        rintro e w19 ⟨G, g, rfl, _, b19⟩
        have b20 := belowGo hb b19
        obtain ⟨b', off', o', e2, _, h1', ho'⟩ := (Y.sr.below b20).at hlt
        obtain ⟨rfl, rfl⟩ : b = b' ∧ off = off' := by injection e2 with e2; injection e2 with e3 e4; exact ⟨e3, e4⟩
        obtain rfl : o = o' := by have h1 := ho.out; have h2 := ho'.out; rw [h1] at h2; exact Option.some.inj h2
        have hdz : ((ds'.length : Int) == 0) = false := beq_eq_false_iff_ne.2 (by omega)
        by_cases hk0 : 0 < k
        · obtain ⟨b', off', q, e3, _, h1q, hq⟩ := (Y.sr.below b20).at (k := k - 1) (by omega)
          obtain ⟨rfl, rfl⟩ : b = b' ∧ off = off' := by injection e3 with e3; injection e3 with e3 e4; exact ⟨e3, e4⟩
          have hbl := strict_at hst.out (show k - 1 < k by omega) hq.out ho.out
          have hbo : Op.bytesLess o q = false := by
            rcases Bool.eq_false_or_eq_true (Op.bytesLess o q) with h | h
            · have := less_trans hbl h; rw [less_irr] at this; cases this
            · exact h
          have hqo : (o == q) = false := by
            rcases Bool.eq_false_or_eq_true (o == q) with h | h
            · have h2 := eq_of_beq h; subst h2; rw [less_irr] at hbl; cases hbl
            · exact h
          have hdk : decide (0 < (k : Int)) = true := by simp; omega
          clear hst ho ho' hq e2 e3 Y h1
          go_wp2_with fail
          go_quiet (fail)
          go_wp2_with fail
          go_roundw
          case rel => exact ⟨k + 1, C + ds'.length, by omega, by go_num, by go_num, HS2, by omega, belowGo b20 (below_drewN _ _)⟩
          case measure => simp [intOf]; omega
        · have hdk : decide (0 < (k : Int)) = false := by simp; omega
          clear hst ho ho' e2 Y h1
          go_wp2_with fail
          go_quiet (fail)
          go_wp2_with fail
          go_roundw
          case rel => exact ⟨k + 1, C + ds'.length, by omega, by go_num, by go_num, HS2, by omega, belowGo b20 (below_drewN _ _)⟩
          case measure => simp [intOf]; omega
      · have hCn : (C : Int) = ys.length := by rw [hC.out, HN.out k hk hlt]
        have hne : ((C : Int) != (ys.length : Int)) = false := by simp [hCn]
        clear hC HR HN hst HZ X Y L D hCn
        have L := L'
        have D := D'
        clear L' D'
        by_cases h2 : bad = 0
        · subst h2
          obtain ⟨m1, m2, hsum, hlen⟩ := HF.out rfl
          have HE1 := Lib.hid (fun w (h : ITbl w B ps) => total_i B d ps w h)
          have HE2 := Lib.hid (fun w (h : ITbl w C1 l) => total_i C1 c1 l w h)
          rw [totR_ok m1] at HE1
          rw [totR_ok m2, hsum] at HE2
          simp only at HE1 HE2
          have hsz := man_sz m2
          clear m1 m2 hsum HF
          generalize isum (ps.map Ist.v) = tot at *
          have e1 : (tot == tot) = true := by simp
          have hen : ((l.length : Int) == (ps.length : Int) + 1) = true := by simp; omega
          clear hlen
          go_wp2_with fail
          refine (HE1.out _ D.tbl).mono ?_
          rintro e wa ⟨rfl, ba⟩
          replace L := L.below ba
          have ta := belowGo tw ba
          go_wp2_with fail
          refine (HE2.out _ (itbl_of L hsz (by omega))).mono ?_
          rintro e wb ⟨rfl, bb⟩
          have tb := belowGo ta bb
          clear ba bb L D HE1 HE2
          go_wp2_with fail
          go_ret
          exact ⟨by simp_all, tb⟩
        · have h2 : (bad != 0) = true := bne_iff_ne.2 h2
          go_wp2_with fail
          go_ret
          exact ⟨rfl, tw⟩
  · have h1 : (tc == 0) = false := beq_eq_false_iff_ne.2 h1
    clear HW hmc X Y
    by_cases h2 : bad = 0
    · subst h2
      obtain ⟨m1, m2, hsum, hlen⟩ := HF.out rfl
      have HE1 := Lib.hid (fun w (h : ITbl w B ps) => total_i B d ps w h)
      have HE2 := Lib.hid (fun w (h : ITbl w C1 l) => total_i C1 c1 l w h)
      rw [totR_ok m1] at HE1
      rw [totR_ok m2, hsum] at HE2
      simp only at HE1 HE2
      have hsz := man_sz m2
      clear m1 m2 hsum HF
      generalize isum (ps.map Ist.v) = tot at *
      have e1 : (tot == tot) = true := by simp
      have hen : ((l.length : Int) == (ps.length : Int) + 1) = true := by simp; omega
      clear hlen
      go_wp2_with fail
      refine (HE1.out _ D.tbl).mono ?_
      rintro e wa ⟨rfl, ba⟩
      replace L := L.below ba
      have ta := belowGo t18 ba
      go_wp2_with fail
      refine (HE2.out _ (itbl_of L hsz (by omega))).mono ?_
      rintro e wb ⟨rfl, bb⟩
      have tb := belowGo ta bb
      clear ba bb L D HE1 HE2
      go_wp2_with fail
      go_ret
      exact ⟨by simp_all, tb⟩
    · have h2 : (bad != 0) = true := bne_iff_ne.2 h2
      go_wp2_with fail
      go_ret
      exact ⟨rfl, t18⟩
end Go.Proofs.Ythainomgmgaikaa
