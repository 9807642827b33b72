/- The law FnParties. (by gen_pw.py) -/
import Derived.Test.YtjgagiigpijaiaaDoorDpd
import Derived.Test.YtjgagiigpijaiaaDoorPfa
import Derived.Test.YtjgagiigpijaiaaDoorPks
import Derived.Test.YtjgagiigpijaiaaDoorPof
import Derived.Test.YtjgagiigpijaiaaDoorCli
import Derived.Test.YtjgagiigpijaiaaDoorAdps
namespace Go.Proofs.YtjgagiigpijaiaaDoor
open Go.ChangeShapes Go.WideShapes Go.ChangeAt Go.RowKit
set_option linter.unusedVariables false

set_option maxRecDepth 100000 in
set_option maxHeartbeats 8000000 in
theorem law_FnParties (A : Option Addr) (c : Nat) (bs : List Int) (w : World) (hA : Rw w A (bs.map (Value.int .u8))) (hm : bs.length ≤ maxLen) (hb : ∀ b ∈ bs, 0 ≤ b ∧ b ≤ 255) (hB : bs ≠ [] → Bd A w.heap.size) (hE : Ety w) :
    Calls Tryd.prog 10 #[.slice A bs.length c] w fun e w' => e = .returned (.bool true) ∧ Below w.heap.size w w' := by
  by_cases hl : 4096 < bs.length
  · have hd : decide (4096 < bs.length) = true := by simpa using hl
    go_enter Tryd.func10, Tryd.ntmps10
    go_wp2_with (go_at_call 34; refine (big_p _ _ _ _ hm).mono ?_; rintro e w' ⟨rfl, rfl⟩)
    go_ret
    exact ⟨rfl, Below.refl _ _⟩
  have hd : decide (4096 < bs.length) = false := by simpa using hl
  have h0 : Code0 w A bs := ⟨hA, hB, hb, by omega⟩
  clear hA hB hb
  go_enter Tryd.func10, Tryd.ntmps10
  go_wp2_with (go_at_call 34; refine (big_p _ _ _ _ hm).mono ?_; rintro e w' ⟨rfl, rfl⟩)
  refine (drawPP A c bs _ h0).mono ?_
  rintro e w1 ⟨B, d, ps, q, rfl, D, hq, b1⟩
  clear hm hl hd
  have hps : ps.length ≤ 40 := D.1
  have K := heap_alloc_new w1 (.cells #[.string ⟨q.c.toArray⟩, .int .i64 q.k, .string ⟨q.a.toArray⟩] 35)
  have bx := below_alloc w1 (.cells #[.string ⟨q.c.toArray⟩, .int .i64 q.k, .string ⟨q.a.toArray⟩] 35)
  have t1 := belowGo b1 bx
  replace D := D.below bx
  clear b1 bx
  have HI := Lib.hid (fun w (h : PTblC w B d ps) (g : Ety w) => addp_ic B d ps q w h hq.sz g)
  have HS := Lib.hid (fun w (h : PTblC w B d ps) => addp_sc B d ps q w h hq.sz)
  have hL13 := addPR_13 ps q
  have HLt := Lib.hid (addPR_txt D.2.2 hq)
  have HF := Lib.hid (fun h => @addp_found ps q h)
  generalize addPR ps q = r at *
  obtain ⟨l, bad⟩ := r
  simp only at hL13
  go_wp2_with fail
  refine (HI.out _ D.tblC (hE.below t1)).mono ?_
  rintro e w2 ⟨C1, c1, rfl, L, b2⟩
  replace K := keepH b2 K
  replace D := D.below b2
  have t2 := belowGo t1 b2
  clear b2 t1
  obtain ⟨k0, k1, k2, _⟩ := row3_at K
  go_wp2_with fail
  refine (HS.out _ D.tblC).mono ?_
  rintro e w3 ⟨C2, c2, rfl, M, b3⟩
  replace K := keepH b3 K
  clear D
  replace L := L.below b3
  have t3 := belowGo t2 b3
  clear b3 t2
  clear k0 k1 k2
  clear HI HS
  go_wp2_with fail
  refine (drawPC A c bs _ (h0.below t3)).mono ?_
  rintro e w4 ⟨B2, d2, ys, s, rfl, P, hs, b4⟩
  replace K := keepH b4 K
  replace L := L.below b4
  replace M := M.below b4
  have t4 := belowGo t3 b4
  clear b4 t3
  have hs2 : s.length ≤ 9223372036854775807 := by omega
  have HF1 := Lib.hid (fun w (h : PTbl w B2 ys) (g : Ety w) => findp_i B2 d2 ys s w h hs2 g)
  have HF2 := Lib.hid (fun w (h : PTbl w B2 ys) => findp_s B2 d2 ys s w h hs2)
  have HA1 := Lib.hid (fun w (h : PTbl w B2 ys) (g : Ety w) => acts_i B2 d2 ys s w h hs2 g)
  have HA2 := Lib.hid (fun w (h : PTbl w B2 ys) => acts_s B2 d2 ys s w h hs2)
  have HC1 := Lib.hid (fun w (h : PTbl w B2 ys) (g : Ety w) => clients_i B2 d2 ys s w h hs2 g)
  have HC2 := Lib.hid (fun w (h : PTbl w B2 ys) => clients_s B2 d2 ys s w h hs2)
  have hal : (actR ys s).1.length ≤ 7 := act_len (fun p hp => (P.2.2 p hp).2) hs
  have HA3 := Lib.hid (fun w (h : PTbl w B2 ys) (g : Ety w) => acts_i B2 d2 ys (actR ys s).1 w h (by omega) g)
  have HZ := Lib.hid (fun (h : (plcR ys s).2 = 0) => And.intro (@act_again ys s h) (@plc_zero ys s h))
  have hcl : cliR ys s = ((cliR ys s).1, (plcR ys s).2) := by rw [← cli_code]
  have hdl : (cliR ys s).1.length ≤ ys.length := cliR_len ys s
  have has : ys.length ≤ 40 := P.1
  rw [act_code] at HA1 HA2
  rw [hcl] at HC1 HC2
  clear hcl
  generalize (cliR ys s).1 = ds at *
  generalize hsx : (actR ys s).1 = sx at *
  clear hsx
  generalize plcR ys s = r2 at *
  obtain ⟨k, one⟩ := r2
  simp only at HF1 HF2 HA1 HA2 HC1 HC2 HZ
  go_wp2_with fail
  refine (HF1.out _ P.tbl (hE.below t4)).mono ?_
  rintro e w5 ⟨rfl, b5⟩
  replace K := keepH b5 K
  replace L := L.below b5
  replace M := M.below b5
  replace P := P.below b5
  have t5 := belowGo t4 b5
  clear b5 t4
  go_wp2_with fail
  refine (HF2.out _ P.tbl).mono ?_
  rintro e w6 ⟨rfl, b6⟩
  replace K := keepH b6 K
  replace L := L.below b6
  replace M := M.below b6
  replace P := P.below b6
  have t6 := belowGo t5 b6
  clear b6 t5
  go_wp2_with fail
  refine (HA1.out _ P.tbl (hE.below t6)).mono ?_
  rintro e w7 ⟨rfl, b7⟩
  replace K := keepH b7 K
  replace L := L.below b7
  replace M := M.below b7
  replace P := P.below b7
  have t7 := belowGo t6 b7
  clear b7 t6
  go_wp2_with fail
  refine (HA2.out _ P.tbl).mono ?_
  rintro e w8 ⟨rfl, b8⟩
  replace K := keepH b8 K
  replace L := L.below b8
  replace M := M.below b8
  replace P := P.below b8
  have t8 := belowGo t7 b8
  clear b8 t7
  go_wp2_with fail
  refine (HC1.out _ P.tbl (hE.below t8)).mono ?_
  rintro e w9 ⟨S1, s1, rfl, U, b9⟩
  replace K := keepH b9 K
  replace L := L.below b9
  replace M := M.below b9
  replace P := P.below b9
  have t9 := belowGo t8 b9
  clear b9 t8
  go_wp2_with fail
  refine (HC2.out _ P.tbl).mono ?_
  rintro e w10 ⟨S2, s2, rfl, V, b10⟩
  replace K := keepH b10 K
  replace L := L.below b10
  replace M := M.below b10
  replace P := P.below b10
  replace U := U.below b10
  have t10 := belowGo t9 b10
  clear b10 t9
  clear HF1 HF2 HA1 HA2 HC1 HC2
  go_wp2_with fail
  refine (drawPI A c bs _ (h0.below t10)).mono ?_
  rintro e w11 ⟨B3, d3, xs, kd, rfl, X, b11⟩
  replace K := keepH b11 K
  replace L := L.below b11
  replace M := M.below b11
  replace P := P.below b11
  replace U := U.below b11
  replace V := V.below b11
  have t11 := belowGo t10 b11
  clear b11 t10
  have HP1 := Lib.hid (fun w (h : PTbl w B3 xs) => parties_i B3 d3 xs kd w h)
  have HP2 := Lib.hid (fun w (h : PTbl w B3 xs) => parties_s B3 d3 xs kd w h)
  have hreg : regB xs = ((pofR xs kd).2 == 0) := by
    rcases pof_reg xs kd with ⟨h1, h2⟩ | ⟨h1, h2⟩ <;> rw [h1, h2] <;> rfl
  have hxl : (pofR xs kd).1.length ≤ xs.length := by
    unfold pofR; split
    · exact codesP_len _ _
    · exact Nat.zero_le _
  have hxs : xs.length ≤ 40 := X.1
  generalize pofR xs kd = r3 at *
  obtain ⟨os, eight⟩ := r3
  simp only at HP1 HP2 hreg hxl
  go_wp2_with fail
  refine (HP1.out _ X.tbl).mono ?_
  rintro e w12 ⟨S3, s3, rfl, Y, b12⟩
  replace K := keepH b12 K
  replace L := L.below b12
  replace M := M.below b12
  replace P := P.below b12
  replace U := U.below b12
  replace V := V.below b12
  replace X := X.below b12
  have t12 := belowGo t11 b12
  clear b12 t11
  go_wp2_with fail
  refine (HP2.out _ X.tbl).mono ?_
  rintro e w13 ⟨S4, s4, rfl, Z, b13⟩
  replace K := keepH b13 K
  replace L := L.below b13
  replace M := M.below b13
  replace P := P.below b13
  replace U := U.below b13
  replace V := V.below b13
  replace X := X.below b13
  replace Y := Y.below b13
  have t13 := belowGo t12 b13
  clear b13 t12
  clear HP1 HP2 h0
  have n1 : (bad != bad) = false := by simp
  have n2 : (one != one) = false := by simp
  have n3 : (k != k) = false := by simp
  have n4 : (sx != sx) = false := by simp
  have n5 : (eight != eight) = false := by simp
  have n6 : ((eight == 0) != (eight == 0)) = false := by simp
  have n7 : (s != s) = false := by simp
  have n8 : (pcode s != pcode s) = false := by simp
  go_wp2_with fail
  refine (likeP C1 C2 _ _ c1 c2 l _ L.row M.row rfl rfl (by omega)).mono ?_
  rintro e w14 ⟨rfl, b14⟩
  replace K := keepH b14 K
  replace L := L.below b14
  clear M
  replace P := P.below b14
  replace U := U.below b14
  replace V := V.below b14
  replace X := X.below b14
  replace Y := Y.below b14
  replace Z := Z.below b14
  have t14 := belowGo t13 b14
  clear b14 t13
  go_wp2_with fail
  refine (likeT S1 S2 _ _ s1 s2 ds _ U.sr V.sr rfl rfl (by omega)).mono ?_
  rintro e w15 ⟨rfl, b15⟩
  replace K := keepH b15 K
  replace L := L.below b15
  replace P := P.below b15
  clear U
  clear V
  replace X := X.below b15
  replace Y := Y.below b15
  replace Z := Z.below b15
  have t15 := belowGo t14 b15
  clear b15 t14
  go_wp2_with fail
  refine (likeT S3 S4 _ _ s3 s4 os _ Y.sr Z.sr rfl rfl (by omega)).mono ?_
  rintro e w16 ⟨rfl, b16⟩
  replace K := keepH b16 K
  replace L := L.below b16
  replace P := P.below b16
  replace X := X.below b16
  clear Y
  clear Z
  have t16 := belowGo t15 b16
  clear b16 t15
  go_wp2_with fail
  refine (isRegI_q X.tbl hreg).mono ?_
  rintro e w17 ⟨rfl, b17⟩
  replace K := keepH b17 K
  replace L := L.below b17
  replace P := P.below b17
  clear X
  have t17 := belowGo t16 b17
  clear b17 t16
  go_wp2_with fail
  refine (isPcode_i s _ hs2).mono ?_
  rintro e wa ⟨rfl, rfl⟩
  go_wp2_with fail
  refine (isPcode_s s _ hs2).mono ?_
  rintro e wb ⟨rfl, rfl⟩
  by_cases h1 : one = 0
  · subst h1
    obtain ⟨hag, kn, pp, hk, hkl, hpp, hpc, _⟩ := HZ.out rfl
    obtain ⟨rfl, _⟩ := Prod.mk.inj hk
    rw [hag] at HA3
    clear hag HZ hk
    go_wp2_with fail
    refine (HA3.out _ P.tbl (hE.below t17)).mono ?_
    rintro e w18 ⟨rfl, b18⟩
    replace K := keepH b18 K
    replace L := L.below b18
    replace P := P.below b18
    have t18 := belowGo t17 b18
    clear b18 t17
    obtain ⟨b, off, p', rfl, _, hp', hp4⟩ := P.tbl.row.at hkl
    obtain rfl : pp = p' := by have h := hp'.out; rw [hpp] at h; exact Option.some.inj h
    have a0 := hp4.c0
    rw [hpc] at a0
    clear hp4 hp' hpp hpc HA3 P
    by_cases h2 : bad = 0
    · subst h2
      obtain ⟨j, hj, hjl, hjq, hlen⟩ := HF.out rfl
      try simp only at hj hjl hjq hlen
      have HG := Lib.hid (fun w (h : PTbl w C1 l) (g : Ety w) => findp_i C1 c1 l q.c w h (by have := hq.1; omega) g)
      rw [hj] at HG
      have hlt : PTbl w18 C1 l := ⟨L.row, fun p hp => (HLt.out p hp).sz, by omega⟩
      have hen : ((l.length : Int) == (ps.length : Int) + 1) = true := by simp; omega
      obtain ⟨c0, c1', c2', _⟩ := row3_at K
      clear hj HF HLt hlen
      go_wp2_with fail
      refine (HG.out _ hlt (hE.below t18)).mono ?_
      rintro e w19 ⟨rfl, b19⟩
      replace K := keepH b19 K
      replace L := L.below b19
      have t19 := belowGo t18 b19
      clear b19 t18
      clear HG c0 c1' c2' hlt
      obtain ⟨c0, c1', c2', _⟩ := row3_at K
      obtain ⟨b, off, q', rfl, _, hq', hq4⟩ := L.row.at hjl
      obtain rfl : q = q' := by have h := hq'.out; simp only [hjq] at h; exact Option.some.inj h
      have c3 := hq4.c0; have c4 := hq4.c1; have c5 := hq4.c2
      have N := fun W => eql_pty W q
      clear hq4 hq' hjq K L
      go_wp2_with fail
      go_quiet (fail)
      go_wp2_with fail
      go_ret
      exact ⟨by simp_all, belowGo t19 (below_drewN _ _)⟩
    · have h2 : (bad != 0) = true := bne_iff_ne.2 h2
      go_wp2_with fail
      go_ret
      exact ⟨rfl, t18⟩
  · have h1 : (one == 0) = false := beq_eq_false_iff_ne.2 h1
    clear HA3 HZ
    by_cases h2 : bad = 0
    · subst h2
      obtain ⟨j, hj, hjl, hjq, hlen⟩ := HF.out rfl
      try simp only at hj hjl hjq hlen
      have HG := Lib.hid (fun w (h : PTbl w C1 l) (g : Ety w) => findp_i C1 c1 l q.c w h (by have := hq.1; omega) g)
      rw [hj] at HG
      have hlt : PTbl w17 C1 l := ⟨L.row, fun p hp => (HLt.out p hp).sz, by omega⟩
      have hen : ((l.length : Int) == (ps.length : Int) + 1) = true := by simp; omega
      obtain ⟨c0, c1', c2', _⟩ := row3_at K
      clear hj HF HLt hlen
      go_wp2_with fail
      refine (HG.out _ hlt (hE.below t17)).mono ?_
      rintro e w18 ⟨rfl, b18⟩
      replace K := keepH b18 K
      replace L := L.below b18
      replace P := P.below b18
      have t18 := belowGo t17 b18
      clear b18 t17
      clear HG c0 c1' c2' hlt
      obtain ⟨c0, c1', c2', _⟩ := row3_at K
      obtain ⟨b, off, q', rfl, _, hq', hq4⟩ := L.row.at hjl
      obtain rfl : q = q' := by have h := hq'.out; simp only [hjq] at h; exact Option.some.inj h
      have c3 := hq4.c0; have c4 := hq4.c1; have c5 := hq4.c2
      have N := fun W => eql_pty W q
      clear hq4 hq' hjq K L
      go_wp2_with fail
      go_quiet (fail)
      go_wp2_with fail
      go_ret
      exact ⟨by simp_all, belowGo t18 (below_drewN _ _)⟩
    · have h2 : (bad != 0) = true := bne_iff_ne.2 h2
      go_wp2_with fail
      go_ret
      exact ⟨rfl, t17⟩
end Go.Proofs.YtjgagiigpijaiaaDoor
