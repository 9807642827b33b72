/- The law FnEvents. (by gen_ewl.py) -/
import Derived.Test.YtifioecofeojpaaEdr
import Derived.Test.YtifioecofeojpaaMElk
import Derived.Test.YtifioecofeojpaaMEvg
import Derived.Test.YtifioecofeojpaaEvw
import Derived.Test.YtifioecofeojpaaEvq
import Derived.Test.YtifioecofeojpaaFit
namespace Go.Proofs.Ytifioecofeojpaa
open Go.ChangeShapes Go.WideShapes Go.ChangeAt Go.RowKit
set_option linter.unusedVariables false

theorem keepHE {w w' : World} {k : Nat} {o : Obj} (hb : Below w.heap.size w w') (h : w.heap[k]? = some o) : w'.heap[k]? = some o := (hb.block _ (lt_some h)).trans h
theorem eql_sameE (W : World) (p : Evt) : (binOp .eql 26 (.agg #[.int .i64 p.d, .int .i64 p.k, .string ⟨p.c.toArray⟩, .int .i64 p.a, .bool p.p, .bool p.v, .bool p.r]) (.agg #[.int .i64 p.d, .int .i64 p.k, .string ⟨p.c.toArray⟩, .int .i64 p.a, .bool p.p, .bool p.v, .bool p.r])).run Try.prog W = .ok (.bool true) W := by
  rw [eql_evt, evB_same]
theorem eql_asE {p q : Evt} {b : Bool} (h : evB p q = b) (W : World) : (binOp .eql 26 (.agg #[.int .i64 p.d, .int .i64 p.k, .string ⟨p.c.toArray⟩, .int .i64 p.a, .bool p.p, .bool p.v, .bool p.r]) (.agg #[.int .i64 q.d, .int .i64 q.k, .string ⟨q.c.toArray⟩, .int .i64 q.a, .bool q.p, .bool q.v, .bool q.r])).run Try.prog W = .ok (.bool b) W := by
  rw [eql_evt, h]
set_option maxRecDepth 100000 in
set_option maxHeartbeats 16000000 in
theorem law_FnEvents (A : Option Addr) (c : Nat) (bs : List Int) (w : World) (hA : Rw w A (bs.map (Value.int .u8))) (hm : bs.length ≤ maxLen) (hb : ∀ b ∈ bs, 0 ≤ b ∧ b ≤ 255) (hB : bs ≠ [] → Bd A w.heap.size) :
    Calls Try.prog 3 #[.slice A bs.length c] w fun e w' => e = .returned (.bool true) ∧ Below w.heap.size w w' := by
  by_cases hl : 4096 < bs.length
  · have hd : decide (4096 < bs.length) = true := by simpa using hl
    go_enter Try.func3, Try.ntmps3
    go_wp2_with (go_at_call 11; refine (big_pE _ _ _ _ hm).mono ?_; rintro e w' ⟨rfl, rfl⟩)
    go_ret
    exact ⟨rfl, Below.refl _ _⟩
  have hd : decide (4096 < bs.length) = false := by simpa using hl
  have h0 : Code0 w A bs := ⟨hA, hB, hb, by omega⟩
  clear hA hB hb
  go_enter Try.func3, Try.ntmps3
  go_wp2_with (go_at_call 11; refine (big_pE _ _ _ _ hm).mono ?_; rintro e w' ⟨rfl, rfl⟩)
  refine (drawAE A c bs _ h0).mono ?_
  rintro e w1 ⟨B, d, ps, x, rfl, hx, D, b1⟩
  clear hm hl hd
  have hps : ps.length ≤ 16 := D.1
  have hxs : x.sz ≤ 1048600 := by have := sz_deq hx; omega
  have t0 := b1
  clear b1
  have K := heap_alloc_new w1 (.cells #[.int .i64 x.d, .int .i64 x.k, .string ⟨x.c.toArray⟩, .int .i64 x.a, .bool x.p, .bool x.v, .bool x.r] 26)
  have bx := below_alloc w1 (.cells #[.int .i64 x.d, .int .i64 x.k, .string ⟨x.c.toArray⟩, .int .i64 x.a, .bool x.p, .bool x.v, .bool x.r] 26)
  have t1 := belowGo t0 bx
  replace D := D.below bx
  clear bx t0
  have HA1 := Lib.hid (fun w (h : ETblC w B d ps) => adde_i B d ps x w h hxs)
  have HA2 := Lib.hid (fun w (h : ETblC w B d ps) => adde_s B d ps x w h hxs)
  have HAF := Lib.hid (@added_of ps x)
  have HAD := Lib.hid (add_deq D.2.2 hx)
  have hal := addR_len ps x
  generalize addR ps x = q at *
  obtain ⟨L, bad⟩ := q
  simp only at hal HAF HAD
  go_wp2_with fail
  refine (HA1.out _ D.tbl).mono ?_
  rintro e w2 ⟨C1, c1, rfl, L1, b2⟩
  simp only at L1
  replace D := D.below b2
  replace K := keepHE b2 K
  have t2 := belowGo t1 b2
  clear b2 t1
  obtain ⟨k0, k1, k2, k3, k4, k5, k6, _, _, _, _, _, _, _⟩ := celE K
  go_wp2_with fail
  refine (HA2.out _ D.tbl).mono ?_
  rintro e w3 ⟨C2, c2, rfl, L2, b3⟩
  clear k0 k1 k2 k3 k4 k5 k6; simp only at L2
  replace D := D.below b3
  replace K := keepHE b3 K
  replace L1 := L1.below b3
  have t3 := belowGo t2 b3
  clear b3 t2
  clear HA1 HA2
  go_wp2_with fail
  refine (drawEB A c bs _ (h0.below t3)).mono ?_
  rintro e w4 ⟨B2, d2, ys, f, t, rfl, hf, ht, Y, b4⟩
  replace D := D.below b4
  replace K := keepHE b4 K
  replace L1 := L1.below b4
  replace L2 := L2.below b4
  have t4 := belowGo t3 b4
  clear b4 t3
  have HB1 := Lib.hid (fun w (h : ETbl w B2 ys) => between_i B2 d2 ys f t w h)
  have HB2 := Lib.hid (fun w (h : ETbl w B2 ys) => between_s B2 d2 ys f t w h)
  have hyl := betR_len ys f t
  have hys : ys.length ≤ 16 := Y.1
  generalize betR ys f t = q at *
  obtain ⟨M, one⟩ := q
  simp only at hyl
  go_wp2_with fail
  refine (HB1.out _ Y.tbl.tbl).mono ?_
  rintro e w5 ⟨C3, c3, rfl, M1, b5⟩
  simp only at M1
  replace D := D.below b5
  replace K := keepHE b5 K
  replace L1 := L1.below b5
  replace L2 := L2.below b5
  replace Y := Y.below b5
  have t5 := belowGo t4 b5
  clear b5 t4
  go_wp2_with fail
  refine (HB2.out _ Y.tbl.tbl).mono ?_
  rintro e w6 ⟨C4, c4, rfl, M2, b6⟩
  simp only at M2
  replace D := D.below b6
  replace K := keepHE b6 K
  replace L1 := L1.below b6
  replace L2 := L2.below b6
  clear Y
  replace M1 := M1.below b6
  have t6 := belowGo t5 b6
  clear b6 t5
  clear HB1 HB2
  go_wp2_with fail
  refine (drawEO A c bs _ (h0.below t6)).mono ?_
  rintro e w7 ⟨B3, d3, zs, s, rfl, hs, Z, b7⟩
  replace D := D.below b7
  replace K := keepHE b7 K
  replace L1 := L1.below b7
  replace L2 := L2.below b7
  replace M1 := M1.below b7
  replace M2 := M2.below b7
  have t7 := belowGo t6 b7
  clear b7 t6
  have HO1 := Lib.hid (fun w (h : ETbl w B3 zs) => evof_i B3 d3 zs s w h)
  have HO2 := Lib.hid (fun w (h : ETbl w B3 zs) => evof_s B3 d3 zs s w h)
  have hzl := eofR_len zs s
  have hzs : zs.length ≤ 16 := Z.1
  generalize eofR zs s = q at *
  obtain ⟨O, three⟩ := q
  simp only at hzl
  go_wp2_with fail
  refine (HO1.out _ Z.tbl.tbl).mono ?_
  rintro e w8 ⟨C5, c5, rfl, O1, b8⟩
  simp only at O1
  replace D := D.below b8
  replace K := keepHE b8 K
  replace L1 := L1.below b8
  replace L2 := L2.below b8
  replace M1 := M1.below b8
  replace M2 := M2.below b8
  replace Z := Z.below b8
  have t8 := belowGo t7 b8
  clear b8 t7
  go_wp2_with fail
  refine (HO2.out _ Z.tbl.tbl).mono ?_
  rintro e w9 ⟨C6, c6, rfl, O2, b9⟩
  simp only at O2
  replace D := D.below b9
  replace K := keepHE b9 K
  replace L1 := L1.below b9
  replace L2 := L2.below b9
  replace M1 := M1.below b9
  replace M2 := M2.below b9
  clear Z
  replace O1 := O1.below b9
  have t9 := belowGo t8 b9
  clear b9 t8
  clear HO1 HO2
  go_wp2_with fail
  refine (drawTK A c bs _ (h0.below t9)).mono ?_
  rintro e w10 ⟨B4, d4, xs, rfl, X, b10⟩
  replace D := D.below b10
  replace K := keepHE b10 K
  replace L1 := L1.below b10
  replace L2 := L2.below b10
  replace M1 := M1.below b10
  replace M2 := M2.below b10
  replace O1 := O1.below b10
  replace O2 := O2.below b10
  have t10 := belowGo t9 b10
  clear b10 t9
  have HT1 := Lib.hid (fun w (h : ETbl w B4 xs) => tbk_i B4 d4 xs w h)
  have HT2 := Lib.hid (fun w (h : ETbl w B4 xs) => tbk_s B4 d4 xs w h)
  have htl := tbkR_len xs
  have hxl : xs.length ≤ 16 := X.1
  have HTC := Lib.hid (tbk_code xs)
  have HTZ := Lib.hid (@tbk_zero xs)
  generalize tbkR xs = q at *
  obtain ⟨T, five⟩ := q
  simp only at htl HTC HTZ
  go_wp2_with fail
  refine (HT1.out _ X.tbl.tbl).mono ?_
  rintro e w11 ⟨C7, c7, rfl, T1, b11⟩
  simp only at T1
  replace D := D.below b11
  replace K := keepHE b11 K
  replace L1 := L1.below b11
  replace L2 := L2.below b11
  replace M1 := M1.below b11
  replace M2 := M2.below b11
  replace O1 := O1.below b11
  replace O2 := O2.below b11
  replace X := X.below b11
  have t11 := belowGo t10 b11
  clear b11 t10
  go_wp2_with fail
  refine (HT2.out _ X.tbl.tbl).mono ?_
  rintro e w12 ⟨C8, c8, rfl, T2, b12⟩
  simp only at T2
  replace D := D.below b12
  replace K := keepHE b12 K
  replace L1 := L1.below b12
  replace L2 := L2.below b12
  replace M1 := M1.below b12
  replace M2 := M2.below b12
  replace O1 := O1.below b12
  replace O2 := O2.below b12
  replace X := X.below b12
  replace T1 := T1.below b12
  have t12 := belowGo t11 b12
  clear b12 t11
  clear HT1 HT2
  go_wp2_with fail
  refine (drawDF A c bs _ (h0.below t12)).mono ?_
  rintro e w13 ⟨B5, d5, es, C9, c9, ms, rfl, E, I, b13⟩
  replace D := D.below b13
  replace K := keepHE b13 K
  replace L1 := L1.below b13
  replace L2 := L2.below b13
  replace M1 := M1.below b13
  replace M2 := M2.below b13
  replace O1 := O1.below b13
  replace O2 := O2.below b13
  replace X := X.below b13
  replace T1 := T1.below b13
  replace T2 := T2.below b13
  have t13 := belowGo t12 b13
  clear b13 t12
  have HF1 := Lib.hid (fun w (h : ETbl w B5 es) (h2 : ITbl w C9 ms) => fit_i B5 C9 d5 c9 es ms w h h2)
  have HF2 := Lib.hid (fun w (h : ETbl w B5 es) (h2 : ITbl w C9 ms) => fit_s B5 C9 d5 c9 es ms w h h2)
  generalize fitR es ms = q at *
  obtain ⟨ff, seven⟩ := q
  simp only at HF1 HF2
  go_wp2_with fail
  refine (HF1.out _ E.tbl.tbl I.tblE).mono ?_
  rintro e w14 ⟨rfl, b14⟩
  replace D := D.below b14
  replace K := keepHE b14 K
  replace L1 := L1.below b14
  replace L2 := L2.below b14
  replace M1 := M1.below b14
  replace M2 := M2.below b14
  replace O1 := O1.below b14
  replace O2 := O2.below b14
  replace X := X.below b14
  replace T1 := T1.below b14
  replace T2 := T2.below b14
  replace E := E.below b14
  replace I := I.belowE b14
  have t14 := belowGo t13 b14
  clear b14 t13
  go_wp2_with fail
  refine (HF2.out _ E.tbl.tbl I.tblE).mono ?_
  rintro e w15 ⟨rfl, b15⟩
  replace D := D.below b15
  replace K := keepHE b15 K
  replace L1 := L1.below b15
  replace L2 := L2.below b15
  replace M1 := M1.below b15
  replace M2 := M2.below b15
  replace O1 := O1.below b15
  replace O2 := O2.below b15
  replace X := X.below b15
  replace T1 := T1.below b15
  replace T2 := T2.below b15
  clear E
  clear I
  have t15 := belowGo t14 b15
  clear b15 t14
  clear HF1 HF2 h0
  have n1 : (bad != bad) = false := by simp
  have n2 : (one != one) = false := by simp
  have n3 : (three != three) = false := by simp
  have n4 : (five != five) = false := by simp
  have n5 : (seven != seven) = false := by simp
  have n6 : (ff != ff) = false := by simp

  go_wp2_with fail
  refine (likeE C1 C2 c1 c2 L _ L1.row L2.row (by omega)).mono ?_
  rintro e w16 ⟨rfl, b16⟩
  replace D := D.below b16
  replace K := keepHE b16 K
  replace L1 := L1.below b16
  clear L2
  replace M1 := M1.below b16
  replace M2 := M2.below b16
  replace O1 := O1.below b16
  replace O2 := O2.below b16
  replace X := X.below b16
  replace T1 := T1.below b16
  replace T2 := T2.below b16
  have t16 := belowGo t15 b16
  clear b16 t15
  go_wp2_with fail
  refine (likeIE C3 C4 c3 c4 M _ M1.ir M2.ir (by omega)).mono ?_
  rintro e w17 ⟨rfl, b17⟩
  replace D := D.below b17
  replace K := keepHE b17 K
  replace L1 := L1.below b17
  clear M1
  clear M2
  replace O1 := O1.below b17
  replace O2 := O2.below b17
  replace X := X.below b17
  replace T1 := T1.below b17
  replace T2 := T2.below b17
  have t17 := belowGo t16 b17
  clear b17 t16
  go_wp2_with fail
  refine (likeIE C5 C6 c5 c6 O _ O1.ir O2.ir (by omega)).mono ?_
  rintro e w18 ⟨rfl, b18⟩
  replace D := D.below b18
  replace K := keepHE b18 K
  replace L1 := L1.below b18
  clear O1
  clear O2
  replace X := X.below b18
  replace T1 := T1.below b18
  replace T2 := T2.below b18
  have t18 := belowGo t17 b18
  clear b18 t17
  go_wp2_with fail
  refine (likeIE C7 C8 c7 c8 T _ T1.ir T2.ir (by omega)).mono ?_
  rintro e w19 ⟨rfl, b19⟩
  replace D := D.below b19
  replace K := keepHE b19 K
  replace L1 := L1.below b19
  replace X := X.below b19
  replace T1 := T1.below b19
  clear T2
  have t19 := belowGo t18 b19
  clear b19 t18
  by_cases h5 : five = 0
  · subst h5
    obtain ⟨hxg, hTL⟩ := HTZ.out rfl
    have HXS := Lib.hid (sums_bd hxg)
    have HTS := Lib.hid (tot_take hxg)
    have HTA := Lib.hid (tot_all hxg)
    clear HTZ HTC
    subst hTL
    go_wp2_with fail
    refine (logI_q X.tbl.tbl hxg).mono ?_
    rintro e w20 ⟨rfl, b20⟩
    replace D := D.below b20
    replace K := keepHE b20 K
    replace L1 := L1.below b20
    replace X := X.below b20
    replace T1 := T1.below b20
    have t20 := belowGo t19 b20
    clear b20 t19
    clear n1 n2 n3 n4 n5 n6
    have HXR := Lib.hid X.tbl.tbl.row
    clear X hxg
    go_wp2_with fail
    go_loop [33, 34] (fun u i => ∃ (k : Nat) (t : Int), k ≤ xs.length ∧ i = .int .i64 k ∧ u = .int .i64 t ∧ Hid (isum ((xs.take k).map Evt.a) = t)) (fun _ i => xs.length - (intOf i).toNat)
    case atStart => exact ⟨0, 0, Nat.zero_le _, rfl, rfl, Lib.hid rfl⟩
    case round =>
      obtain ⟨k, t, hk, rfl, rfl, ht⟩ := hrel
      by_cases hlt : k < xs.length
      · obtain ⟨b, off, r, rfl, hbl, hrk, hc⟩ := HXR.out.at hlt
        have HT : Hid (isum ((xs.take (k + 1)).map Evt.a) = t + r.a) := Lib.hid (by rw [snoc_of hrk.out, List.map_append, isum_app, ht.out]; simp [isum])
        obtain ⟨hb0, hb1⟩ : 0 ≤ t + r.a ∧ t + r.a ≤ 15000000000 := by have := HXS.out (k + 1); rwa [HT.out] at this
        have c3 := hc.c3
        clear ht hc hrk
        go_wp2_with fail
        go_round
        case rel => exact ⟨k + 1, t + r.a, by omega, by go_num, rfl, HT⟩
        case measure => simp [intOf]; omega
      · have HT : isum (xs.map Evt.a) = t := by have := ht.out; rwa [take_all hk hlt] at this
        have hall : (isum (totL xs) != t) = false := by rw [HTA.out, HT]; simp
        clear ht HT HXS HTA HXR
        go_wp2_with fail
        refine (sumE C7 c7 (totL xs) _ T1.ir HTS.out (by omega)).mono ?_
        rintro e w21 ⟨rfl, rfl⟩
        clear T1 HTS
        by_cases h1 : bad = 0
        · subst h1
          obtain ⟨P, HAD2⟩ := HAF.out rfl
          have HAF2 := Lib.hid HAD2
          obtain ⟨hLen, hP, hS, _, _, _, _, _, hLog⟩ := HAD2
          have hL1 : L.length ≤ ps.length + 1 := by omega
          have hL2 : ps.length + 1 ≤ L.length := by omega
          have HT5 := Lib.hid (etbl_of L1 (fun p hp => sz_deq (HAD.out p hp)) (by omega)).tbl
          have HLQ := Lib.hid (fun W (h : ETbl W C1 L) => logI_q (c := c1) h hLog)
          have HTD := Lib.hid D.tbl.tbl
          clear HAF HAD hLog hLen D L1 hxs hx hal
          have HK := Lib.hid K
          obtain ⟨k0, k1, k2, k3, k4, k5, k6, _, _, _, _, _, _, _⟩ := celE K
          go_wp2_with fail
          go_loopw [35, 36, 37] (fun u v i wr => ∃ (b : Bool) (j n : Nat), u = .bool b ∧ v = .int .i64 j ∧ i = .int .i64 n ∧ n ≤ L.length ∧ ((b = false ∧ j = n ∧ n ≤ P) ∨ (b = true ∧ n = j + 1 ∧ P ≤ j)) ∧ ∃ m, wr = w20.drewN m) (fun _ _ i _ => L.length - (intOf i).toNat)
          case atStart => exact ⟨false, 0, 0, rfl, rfl, rfl, by omega, .inl ⟨rfl, rfl, by omega⟩, 0, rfl⟩
          case round =>
            obtain ⟨b, j, n, rfl, rfl, rfl, hn, hst, m, rfl⟩ := hrel
            rcases hst with ⟨rfl, rfl, hnP⟩ | ⟨rfl, rfl, hjP⟩
            · rcases Nat.lt_or_ge j P with hlt | hge
              · obtain ⟨b1, o1, r, rfl, hb1, hr1, e0, e1, e2, e3, e4, e5, e6⟩ := HT5.out.row.at (show j < L.length by omega)
                obtain ⟨b2, o2, r2, rfl, hb2, hr2, f0, f1, f2, f3, f4, f5, f6⟩ := HTD.out.row.at (show j < ps.length by omega)
                obtain rfl : r = r2 := by
                  have h := HAF2.out.lo j hlt
                  rw [hr1.out, hr2.out] at h
                  exact Option.some.inj h
                have hday := HAF2.out.before j r hlt hr2.out
                have z1 : ((j : Int) == ps.length) = false := beq_eq_false_iff_ne.2 (by omega)
                have z2 : decide (x.d < r.d) = false := by simp; omega
                have NN := fun W => neq_sameE W r
                obtain ⟨eb, heb⟩ : ∃ eb, evB r x = eb := ⟨_, rfl⟩
                have NE := eql_asE heb
                clear hr1 hr2 heb
                cases eb
                all_goals
                  go_wp2_with fail
                  go_quiet (fail)
                  go_wp2_with fail
                  go_quiet (fail)
                  go_wp2_with fail
                  go_roundw
                  case rel => exact ⟨false, j + 1, j + 1, rfl, by go_num, by go_num, by omega, .inl ⟨rfl, rfl, by omega⟩, _, rfl⟩
                  case measure => simp [intOf]; omega
              · obtain rfl : j = P := by omega
                obtain ⟨b1, o1, r, rfl, hb1, hr1, e0, e1, e2, e3, e4, e5, e6⟩ := HT5.out.row.at (show j < L.length by omega)
                obtain rfl : r = x := by
                  have h := HAF2.out.mid
                  rw [hr1.out] at h
                  exact Option.some.inj h
                have NE := fun W => eql_sameE W r
                clear hr1
                by_cases hjl : ps.length ≤ j
                · have z1 : ((j : Int) == ps.length) = true := by rw [beq_iff_eq]; omega
                  go_wp2_with fail
                  go_quiet (fail)
                  go_wp2_with fail
                  go_roundw
                  case rel => exact ⟨true, j, j + 1, rfl, rfl, by go_num, by omega, .inr ⟨rfl, rfl, Nat.le_refl _⟩, _, rfl⟩
                  case measure => simp [intOf]; omega
                · have z1 : ((j : Int) == ps.length) = false := beq_eq_false_iff_ne.2 (by omega)
                  obtain ⟨b2, o2, r2, rfl, hb2, hr2, f0, f1, f2, f3, f4, f5, f6⟩ := HTD.out.row.at (show j < ps.length by omega)
                  have hday := HAF2.out.after r2 hr2.out
                  have z2 : decide (r.d < r2.d) = true := by simp; omega
                  clear hr2
                  go_wp2_with fail
                  go_quiet (fail)
                  go_wp2_with fail
                  go_roundw
                  case rel => exact ⟨true, j, j + 1, rfl, rfl, by go_num, by omega, .inr ⟨rfl, rfl, Nat.le_refl _⟩, _, rfl⟩
                  case measure => simp [intOf]; omega
            · by_cases hlt : j + 1 < L.length
              · obtain ⟨b1, o1, r, rfl, hb1, hr1, e0, e1, e2, e3, e4, e5, e6⟩ := HT5.out.row.at (show j + 1 < L.length by omega)
                obtain ⟨b2, o2, r2, rfl, hb2, hr2, f0, f1, f2, f3, f4, f5, f6⟩ := HTD.out.row.at (show j < ps.length by omega)
                obtain rfl : r = r2 := by
                  have h := HAF2.out.hi j hjP
                  rw [hr1.out, hr2.out] at h
                  exact Option.some.inj h
                have z1 : ((j : Int) == ps.length) = false := beq_eq_false_iff_ne.2 (by omega)
                have NN := fun W => neq_sameE W r
                clear hr1 hr2
                go_wp2_with fail
                go_quiet (fail)
                go_wp2_with fail
                go_quiet (fail)
                go_wp2_with fail
                go_roundw
                case rel => exact ⟨true, j + 1, j + 2, rfl, by go_num, by go_num, by omega, .inr ⟨rfl, rfl, by omega⟩, _, rfl⟩
                case measure => simp [intOf]; omega
              · clear HTD HAF2 k0 k1 k2 k3 k4 k5 k6 HK K
                go_wp2_with fail
                refine (HLQ.out _ (HT5.out.below (below_drewN _ _))).mono ?_
                rintro e w21 ⟨rfl, b21⟩
                have t21 := belowGo (belowGo t20 (below_drewN _ _)) b21
                clear b21
                go_wp2_with fail
                go_ret
                exact ⟨rfl, t21⟩
        · have h2 : (bad != 0) = true := bne_iff_ne.2 h1
          clear HAF HAD D L1 K
          go_wp2_with fail
          go_ret
          exact ⟨rfl, t20⟩
  · have h5' : (five == 0) = false := beq_eq_false_iff_ne.2 h5
    have hxg : logB xs = false := HTC.out.trans h5'
    clear HTC HTZ
    go_wp2_with fail
    refine (logI_q X.tbl.tbl hxg).mono ?_
    rintro e w20 ⟨rfl, b20⟩
    replace D := D.below b20
    replace K := keepHE b20 K
    replace L1 := L1.below b20
    replace X := X.below b20
    replace T1 := T1.below b20
    have t20 := belowGo t19 b20
    clear b20 t19
    clear n1 n2 n3 n4 n5 n6 X T1 hxg
    by_cases h1 : bad = 0
    · subst h1
      obtain ⟨P, HAD2⟩ := HAF.out rfl
      have HAF2 := Lib.hid HAD2
      obtain ⟨hLen, hP, hS, _, _, _, _, _, hLog⟩ := HAD2
      have hL1 : L.length ≤ ps.length + 1 := by omega
      have hL2 : ps.length + 1 ≤ L.length := by omega
      have HT5 := Lib.hid (etbl_of L1 (fun p hp => sz_deq (HAD.out p hp)) (by omega)).tbl
      have HLQ := Lib.hid (fun W (h : ETbl W C1 L) => logI_q (c := c1) h hLog)
      have HTD := Lib.hid D.tbl.tbl
      clear HAF HAD hLog hLen D L1 hxs hx hal
      have HK := Lib.hid K
      obtain ⟨k0, k1, k2, k3, k4, k5, k6, _, _, _, _, _, _, _⟩ := celE K
      go_wp2_with fail
      go_loopw [35, 36, 37] (fun u v i wr => ∃ (b : Bool) (j n : Nat), u = .bool b ∧ v = .int .i64 j ∧ i = .int .i64 n ∧ n ≤ L.length ∧ ((b = false ∧ j = n ∧ n ≤ P) ∨ (b = true ∧ n = j + 1 ∧ P ≤ j)) ∧ ∃ m, wr = w20.drewN m) (fun _ _ i _ => L.length - (intOf i).toNat)
      case atStart => exact ⟨false, 0, 0, rfl, rfl, rfl, by omega, .inl ⟨rfl, rfl, by omega⟩, 0, rfl⟩
      case round =>
        obtain ⟨b, j, n, rfl, rfl, rfl, hn, hst, m, rfl⟩ := hrel
        rcases hst with ⟨rfl, rfl, hnP⟩ | ⟨rfl, rfl, hjP⟩
        · rcases Nat.lt_or_ge j P with hlt | hge
          · obtain ⟨b1, o1, r, rfl, hb1, hr1, e0, e1, e2, e3, e4, e5, e6⟩ := HT5.out.row.at (show j < L.length by omega)
            obtain ⟨b2, o2, r2, rfl, hb2, hr2, f0, f1, f2, f3, f4, f5, f6⟩ := HTD.out.row.at (show j < ps.length by omega)
            obtain rfl : r = r2 := by
              have h := HAF2.out.lo j hlt
              rw [hr1.out, hr2.out] at h
              exact Option.some.inj h
            have hday := HAF2.out.before j r hlt hr2.out
            have z1 : ((j : Int) == ps.length) = false := beq_eq_false_iff_ne.2 (by omega)
            have z2 : decide (x.d < r.d) = false := by simp; omega
            have NN := fun W => neq_sameE W r
            obtain ⟨eb, heb⟩ : ∃ eb, evB r x = eb := ⟨_, rfl⟩
            have NE := eql_asE heb
            clear hr1 hr2 heb
            cases eb
            all_goals
              go_wp2_with fail
              go_quiet (fail)
              go_wp2_with fail
              go_quiet (fail)
              go_wp2_with fail
              go_roundw
              case rel => exact ⟨false, j + 1, j + 1, rfl, by go_num, by go_num, by omega, .inl ⟨rfl, rfl, by omega⟩, _, rfl⟩
              case measure => simp [intOf]; omega
          · obtain rfl : j = P := by omega
            obtain ⟨b1, o1, r, rfl, hb1, hr1, e0, e1, e2, e3, e4, e5, e6⟩ := HT5.out.row.at (show j < L.length by omega)
            obtain rfl : r = x := by
              have h := HAF2.out.mid
              rw [hr1.out] at h
              exact Option.some.inj h
            have NE := fun W => eql_sameE W r
            clear hr1
            by_cases hjl : ps.length ≤ j
            · have z1 : ((j : Int) == ps.length) = true := by rw [beq_iff_eq]; omega
              go_wp2_with fail
              go_quiet (fail)
              go_wp2_with fail
              go_roundw
              case rel => exact ⟨true, j, j + 1, rfl, rfl, by go_num, by omega, .inr ⟨rfl, rfl, Nat.le_refl _⟩, _, rfl⟩
              case measure => simp [intOf]; omega
            · have z1 : ((j : Int) == ps.length) = false := beq_eq_false_iff_ne.2 (by omega)
              obtain ⟨b2, o2, r2, rfl, hb2, hr2, f0, f1, f2, f3, f4, f5, f6⟩ := HTD.out.row.at (show j < ps.length by omega)
              have hday := HAF2.out.after r2 hr2.out
              have z2 : decide (r.d < r2.d) = true := by simp; omega
              clear hr2
              go_wp2_with fail
              go_quiet (fail)
              go_wp2_with fail
              go_roundw
              case rel => exact ⟨true, j, j + 1, rfl, rfl, by go_num, by omega, .inr ⟨rfl, rfl, Nat.le_refl _⟩, _, rfl⟩
              case measure => simp [intOf]; omega
        · by_cases hlt : j + 1 < L.length
          · obtain ⟨b1, o1, r, rfl, hb1, hr1, e0, e1, e2, e3, e4, e5, e6⟩ := HT5.out.row.at (show j + 1 < L.length by omega)
            obtain ⟨b2, o2, r2, rfl, hb2, hr2, f0, f1, f2, f3, f4, f5, f6⟩ := HTD.out.row.at (show j < ps.length by omega)
            obtain rfl : r = r2 := by
              have h := HAF2.out.hi j hjP
              rw [hr1.out, hr2.out] at h
              exact Option.some.inj h
            have z1 : ((j : Int) == ps.length) = false := beq_eq_false_iff_ne.2 (by omega)
            have NN := fun W => neq_sameE W r
            clear hr1 hr2
            go_wp2_with fail
            go_quiet (fail)
            go_wp2_with fail
            go_quiet (fail)
            go_wp2_with fail
            go_roundw
            case rel => exact ⟨true, j + 1, j + 2, rfl, by go_num, by go_num, by omega, .inr ⟨rfl, rfl, by omega⟩, _, rfl⟩
            case measure => simp [intOf]; omega
          · clear HTD HAF2 k0 k1 k2 k3 k4 k5 k6 HK K
            go_wp2_with fail
            refine (HLQ.out _ (HT5.out.below (below_drewN _ _))).mono ?_
            rintro e w21 ⟨rfl, b21⟩
            have t21 := belowGo (belowGo t20 (below_drewN _ _)) b21
            clear b21
            go_wp2_with fail
            go_ret
            exact ⟨rfl, t21⟩
    · have h2 : (bad != 0) = true := bne_iff_ne.2 h1
      clear HAF HAD D L1 K
      go_wp2_with fail
      go_ret
      exact ⟨rfl, t20⟩
end Go.Proofs.Ytifioecofeojpaa
