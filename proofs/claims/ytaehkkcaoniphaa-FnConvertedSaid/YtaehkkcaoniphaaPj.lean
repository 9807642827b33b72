import Derived.Test.YtaehkkcaoniphaaPi
/- ConvertAmount: both sides and the law. -/
namespace Go.Proofs.Ytaehkkcaoniphaa
open Go.ChangeShapes Go.WideShapes Go.ChangeAt Go.RowKit
set_option linter.unusedVariables false

theorem isAmount_iq {n : Int} {b : Bool} (h : amt n = b) (w : World) : Calls Try.prog 44 #[.int .i64 n] w fun e w' => e = .returned (.bool b) ∧ w = w' :=
  (isAmount_i n w).mono fun e w' k => ⟨by rw [← h]; exact k.1, k.2⟩
theorem isAmount_sq {n : Int} {b : Bool} (h : amt n = b) (w : World) : Calls Try.prog 49 #[.int .i64 n] w fun e w' => e = .returned (.bool b) ∧ w = w' :=
  (isAmount_s n w).mono fun e w' k => ⟨by rw [← h]; exact k.1, k.2⟩
set_option maxRecDepth 100000 in
set_option maxHeartbeats 4000000 in
theorem convert_i (A : Option Addr) (d : Nat) (rs : List Rt) (f t : List UInt8) (day a : Int) (w : World) (h : Tbl w A rs) (hf : f.length ≤ 9223372036854775807) (ht : t.length ≤ 9223372036854775807) :
    Calls Try.prog 8 #[.slice A rs.length d, .string ⟨f.toArray⟩, .string ⟨t.toArray⟩, .int .i64 day, .int .i64 a] w (Gives w (.tuple #[.int .i64 (cvR (crossR rs f t day) a).1, .int .i64 (cvR (crossR rs f t day) a).2])) := by
  have HC := Lib.hid (crossRate_i A d rs f t day w h hf ht)
  have hbd : (crossR rs f t day).2.2 = 0 → 1 ≤ (crossR rs f t day).1 ∧ (crossR rs f t day).1 ≤ 1000000000000 ∧ 1 ≤ (crossR rs f t day).2.1 ∧ (crossR rs f t day).2.1 ≤ 1000000000000 := fun h0 => by
    rcases @crossR_k rs f t day with ⟨_, c2, c3, c4, c5⟩ | ⟨c1, _⟩ | ⟨c1, c2⟩
    · rw [c4, c5]; exact crossS_bd (cdB_0 c2).1 c3
    · omega
    · omega
  generalize crossR rs f t day = R at *
  obtain ⟨n, m, k⟩ := R
  simp only at HC hbd
  clear h
  by_cases hk1 : k = 1
  · have E : cvR (n, m, k) a = (0, 1) := if_pos hk1
    rw [E]
    subst hk1
    go_enter Try.func8, Try.ntmps8
    go_wp2_with (go_at_call 18; refine HC.out.mono ?_; rintro e w1 ⟨rfl, b1⟩)
    go_ret2
    exact ⟨rfl, b1⟩
  have q1 : (k != 1) = true := by rw [bne_iff_ne]; exact hk1
  have q1' : (k == 1) = false := by rw [beq_eq_false_iff_ne]; exact hk1
  rcases Bool.eq_false_or_eq_true (amt a) with ha | ha
  · by_cases hk0 : k = 0
    · subst hk0
      have E : cvR (n, m, 0) a = nearR a n m := by unfold cvR; rw [if_neg (fun h => absurd (show (0 : Int) = 1 from h) (by decide)), if_neg (by rw [ha]; exact Bool.noConfusion), if_neg (fun h => h rfl)]
      rw [E]
      obtain ⟨n0, n1, m0, m1⟩ := hbd rfl
      obtain ⟨a0, a1⟩ := amt_iff.1 ha
      have HN := Lib.hid (fun w => near_any a n m w a0 a1 (by omega) n1 m0 m1)
      clear hbd E
      go_enter Try.func8, Try.ntmps8
      go_wp2_with (first
        | (go_at_call 18; refine HC.out.mono ?_; rintro e w1 ⟨rfl, b1⟩)
        | (go_at_call 44; refine (isAmount_iq ha _).mono ?_; rintro e w' ⟨rfl, rfl⟩)
        | (go_at_call 45; refine (HN.out _).mono ?_; rintro e w2 ⟨rfl, nq, rfl⟩))
      go_ret2
      exact ⟨rfl, belowGo b1 (below_drewN _ _)⟩
    · have E : cvR (n, m, k) a = (0, k) := by unfold cvR; rw [if_neg hk1, if_neg (by rw [ha]; exact Bool.noConfusion), if_pos hk0]
      rw [E]
      have q2 : (k != 0) = true := by rw [bne_iff_ne]; exact hk0
      have q2' : (k == 0) = false := by rw [beq_eq_false_iff_ne]; exact hk0
      clear hbd E
      go_enter Try.func8, Try.ntmps8
      go_wp2_with (first
        | (go_at_call 18; refine HC.out.mono ?_; rintro e w1 ⟨rfl, b1⟩)
        | (go_at_call 44; refine (isAmount_iq ha _).mono ?_; rintro e w' ⟨rfl, rfl⟩))
      go_ret2
      exact ⟨rfl, b1⟩
  · have E : cvR (n, m, k) a = (0, 2) := by unfold cvR; rw [if_neg hk1, if_pos ha]
    rw [E]
    clear hbd E
    go_enter Try.func8, Try.ntmps8
    go_wp2_with (first
      | (go_at_call 18; refine HC.out.mono ?_; rintro e w1 ⟨rfl, b1⟩)
      | (go_at_call 44; refine (isAmount_iq ha _).mono ?_; rintro e w' ⟨rfl, rfl⟩))
    go_ret2
    exact ⟨rfl, b1⟩

set_option maxRecDepth 100000 in
set_option maxHeartbeats 4000000 in
theorem convert_s (A : Option Addr) (d : Nat) (rs : List Rt) (f t : List UInt8) (day a : Int) (w : World) (h : Tbl w A rs) (hf : f.length ≤ 9223372036854775807) (ht : t.length ≤ 9223372036854775807) :
    Calls Try.prog 9 #[.slice A rs.length d, .string ⟨f.toArray⟩, .string ⟨t.toArray⟩, .int .i64 day, .int .i64 a] w (Gives w (.tuple #[.int .i64 (cvR (crossR rs f t day) a).1, .int .i64 (cvR (crossR rs f t day) a).2])) := by
  have HC := Lib.hid (l03Code_q (d := d) (amount := a) h hf ht rfl rfl rfl rfl rfl (t := t) (f := f) (day := day))
  have HA := Lib.hid (fun k => @cv_a rs f t day a k)
  have HB := Lib.hid (@cv_b rs f t day a)
  have HR := Lib.hid (fun (ht : tabB rs = true) w' (hb : Below w.heap.size w w') => l03Cross_s A d rs f t day w' (h.below hb) ht)
  have H0 := Lib.hid (fun h : cdO rs f t day (amt a) = 0 => (cdB_0 h))
  have HD := Lib.hid (fun ht => @crossS_bd rs ht f t day)
  rw [show cdB (tabB rs) (codeB f) (codeB t) (inr day 0 36524) (amt a) = cdO rs f t day (amt a) from rfl] at HC
  generalize cdO rs f t day (amt a) = k at *
  generalize cvR (crossR rs f t day) a = R at *
  generalize crossS rs f t day = p at *
  obtain ⟨n, m, ok⟩ := p
  simp only at HB HR HD
  clear h
  by_cases hk : k = 0
  · obtain ⟨htb, _, _, _, ha⟩ := H0.out hk
    have HR := Lib.hid (HR.out htb)
    have HD := Lib.hid (HD.out htb)
    subst hk
    have E := Lib.hid (HB.out rfl)
    obtain ⟨a0, a1⟩ := amt_iff.1 ha
    clear HA HB H0
    cases ok
    · clear HD
      go_enter Try.func9, Try.ntmps9
      go_wp2_with (first
        | (go_at_call 46; refine HC.out.mono ?_; rintro e w1 ⟨rfl, b1⟩)
        | (go_at_call 47; refine (HR.out _ b1).mono ?_; rintro e w2 ⟨rfl, b2⟩))
      go_ret2
      rw [E.out]
      exact ⟨rfl, belowGo b1 b2⟩
    · obtain ⟨n0, n1, m0, m1⟩ := HD.out rfl
      obtain ⟨a, rfl⟩ : ∃ x : Nat, a = x := ⟨a.toNat, by omega⟩
      obtain ⟨n, rfl⟩ : ∃ x : Nat, n = x := ⟨n.toNat, by omega⟩
      obtain ⟨m, rfl⟩ : ∃ x : Nat, m = x := ⟨m.toNat, by omega⟩
      have HV := Lib.hid (fun w => l03Convert_s a n m w (by omega) (by omega) (by omega) (by omega))
      rw [if_pos rfl] at E
      have N1 := Lib.hid (@nearR_ok (a : Int) n m)
      have N0 := Lib.hid (@nearR_no (a : Int) n m)
      generalize nearR (a : Int) n m = Z at *
      generalize nearest ((a : Int) * n) m = Y at *
      clear HD
      go_enter Try.func9, Try.ntmps9
      go_wp2_with (first
        | (go_at_call 46; refine HC.out.mono ?_; rintro e w1 ⟨rfl, b1⟩)
        | (go_at_call 47; refine (HR.out _ b1).mono ?_; rintro e w2 ⟨rfl, b2⟩)
        | (go_at_call 48; refine (HV.out _).mono ?_; rintro e w3 ⟨v, rfl, b3, hv⟩; rcases hv with ⟨hy, rfl⟩ | ⟨hy, hv⟩)
        | (go_at_call 49; refine (isAmount_sq (by assumption) _).mono ?_; rintro e w' ⟨rfl, rfl⟩))
      · go_ret2
        rw [E.out, N1.out hy]
        exact ⟨rfl, belowGo (belowGo b1 b2) b3⟩
      · go_ret2
        rw [E.out, N0.out hy]
        exact ⟨rfl, belowGo (belowGo b1 b2) b3⟩
  · have E := Lib.hid (HA.out k rfl hk)
    have q2 : (k != 0) = true := by rw [bne_iff_ne]; exact hk
    clear HA HB HR H0 HD
    go_enter Try.func9, Try.ntmps9
    go_wp2_with (go_at_call 46; refine HC.out.mono ?_; rintro e w1 ⟨rfl, b1⟩)
    go_ret2
    rw [E.out]
    exact ⟨rfl, b1⟩

end Go.Proofs.Ytaehkkcaoniphaa

/- The law FnConverted. -/
namespace Go.Proofs.Ytaehkkcaoniphaa
open Go.ChangeShapes Go.WideShapes Go.ChangeAt Go.RowKit
set_option linter.unusedVariables false

theorem bigy (A : Option Addr) (c : Nat) (bs : List Int) (w : World) (h : bs.length ≤ maxLen) :
    Calls Try.prog 6 #[.slice A bs.length c] w fun e w' => e = .returned (.bool (decide (4096 < bs.length))) ∧ w = w' := by
  unfold maxLen at h
  go_enter Try.func6, Try.ntmps6
  go_wp2
  all_goals go_ret
  all_goals exact ⟨congrArg (fun b => Ending.returned (Value.bool b)) (decide_eq_decide.2 (by omega)), rfl⟩

set_option maxRecDepth 100000 in
set_option maxHeartbeats 8000000 in
theorem law_FnConverted (A : Option Addr) (c : Nat) (bs : List Int) (w : World) (hA : Rw w A (bs.map (Value.int .u8))) (hm : bs.length ≤ maxLen) (hb : ∀ b ∈ bs, 0 ≤ b ∧ b ≤ 255) (hB : bs ≠ [] → Bd A w.heap.size) :
    Calls Try.prog 3 #[.slice A bs.length c] w fun e w' => e = .returned (.bool true) ∧ Below w.heap.size w w' := by
  by_cases hl : 4096 < bs.length
  · have hd : decide (4096 < bs.length) = true := by simpa using hl
    go_enter Try.func3, Try.ntmps3
    go_wp2_with (go_at_call 6; refine (bigy _ _ _ _ hm).mono ?_; rintro e w' ⟨rfl, rfl⟩)
    go_ret
    exact ⟨rfl, Below.refl _ _⟩
  have hd : decide (4096 < bs.length) = false := by simpa using hl
  have h0 : Code0 w A bs := ⟨hA, hB, hb, by omega⟩
  clear hA hB hb
  go_enter Try.func3, Try.ntmps3
  go_wp2_with (go_at_call 6; refine (bigy _ _ _ _ hm).mono ?_; rintro e w' ⟨rfl, rfl⟩)
  refine (drawCA A c bs _ h0).mono ?_
  rintro e w1 ⟨B, d, rs, f, t, y, m, rfl, d1, lf, lt, m0, m1, q1⟩
  clear hm hl hd
  have HI1 := Lib.hid (fun w h => convert_i B d rs f t y m w h (by omega) (by omega))
  have HI2 := Lib.hid (fun w h => convert_i B d rs f f y m w h (by omega) (by omega))
  have HS := Lib.hid (fun w h => convert_s B d rs f t y m w h (by omega) (by omega))
  have HCR := Lib.hid (fun w h => crossRate_i B d rs f t y w h (by omega) (by omega))
  have HSM := Lib.hid (@cv_same rs f t y m)
  have HLN := Lib.hid (@cv_line rs f t y m)
  have HOK : Hid ((cvR (crossR rs f t y) m).2 = 0 → (crossR rs f t y).2.2 = 0) := Lib.hid (fun h => (cv_ok h).1)
  generalize cvR (crossR rs f f y) m = v2 at HI2 HSM
  generalize cvR (crossR rs f t y) m = v1 at HI1 HS HSM HLN HOK
  generalize crossR rs f t y = r1 at HCR HLN HOK
  obtain ⟨p1, p2, k2⟩ := r1
  obtain ⟨n1, k1⟩ := v1
  simp only at HSM HLN HOK
  clear lf lt
  go_wp2_with fail
  refine (HI1.out _ d1.tbl).mono ?_
  rintro e w2 ⟨rfl, b2⟩
  have d2 := d1.below b2
  have q2 := belowGo q1 b2
  go_wp2_with fail
  refine (HS.out _ d2.tbl).mono ?_
  rintro e w3 ⟨rfl, b3⟩
  have d3 := d2.below b3
  have q3 := belowGo q2 b3
  clear HS HI1 d1 d2 b2 b3 q1 q2
  go_wp2_with fail
  refine (drawAR A c bs _ (h0.below q3)).mono ?_
  rintro e w4 ⟨X, x, xs, q, rfl, x4, lq, b4⟩
  have d4 := d3.below b4
  have q4 := belowGo q3 b4
  have kb := KeepB.new w4 #[.string ⟨q.c.toArray⟩, .int .i64 q.day, .int .i64 q.num, .int .i64 q.den] 30
  have HA1 := Lib.hid (fun w (h : Drt w w3.heap.size X x xs) => addRate_i X x xs q w h.tbl h.2.1.adr (own_room h.2.1) (by omega))
  have HA2 := Lib.hid (fun w (h : Drt w w3.heap.size X x xs) => addRate_s X x xs q w h.tbl (by omega))
  have HAF := Lib.hid (@add_found xs q)
  have HAT : Hid (∀ z ∈ (addR xs q).1, z.c.length ≤ 3) := Lib.hid (addR_txt x4.2.2 lq)
  obtain ⟨HAN, hAc⟩ := @addR_len20 xs q
  have HAC := Lib.hid hAc
  clear hAc
  generalize addR xs q = ad at HA1 HA2 HAF HAT HAN HAC
  obtain ⟨al, k3⟩ := ad
  simp only at HAF HAT HAN HAC
  clear d3 b4 q3
  go_wp2_with fail
  refine (HA1.out _ (x4.below kb.bel)).mono ?_
  rintro e w5 ⟨T, tc, rfl, o5, b5⟩
  have kb5 := kb.step b5
  have q5 := belowGo q4 kb5.bel
  have d5 := d4.below kb5.bel
  have x5 := x4.below kb5.bel
  have o5' : Or w5 w4.heap.size T al.length tc al := o5.mono kb.bel.size
  obtain ⟨c0, c1, c2, c3, _⟩ := kb5.all
  clear kb b5 d4 q4 x4 HA1 o5
  go_wp2_with fail
  refine (HA2.out _ x5).mono ?_
  rintro e w6 ⟨U, uc, rfl, o6, b6⟩
  have kb6 := kb5.step b6
  have q6 := belowGo q5 b6
  have d6 := d5.below b6
  have o6' := o5'.below b6
  clear c0 c1 c2 c3 kb5 d5 x5 q5 HA2 o5' b6
  go_wp2_with fail
  refine (drawRO A c bs _ (h0.below q6)).mono ?_
  rintro e w7 ⟨Y, yc, ys, s, ty, rfl, y7, ls, b7⟩
  have kb7 := kb6.step b7
  have q7 := belowGo q6 b7
  have d7 := d6.below b7
  have t7 := o6'.below b7
  have u7 := o6.below b7
  have HR1 := Lib.hid (fun w h => rateOn_i Y yc ys s ty w h (by omega))
  have HR2 := Lib.hid (fun w h => rateOn_s Y yc ys s ty w h (by omega))
  generalize rateR ys s ty = rr at HR1 HR2
  clear kb6 d6 q6 o6' o6 b7 h0 ls
  go_wp2_with fail
  refine (HR1.out _ y7.tbl).mono ?_
  rintro e w8 ⟨rfl, b8⟩
  have kb8 := kb7.step b8
  have q8 := belowGo q7 b8
  have d8 := d7.below b8
  have y8 := y7.below b8
  have t8 := t7.below b8
  have u8 := u7.below b8
  clear kb7 d7 q7 t7 u7 b8 y7
  go_wp2_with fail
  refine (HR2.out _ y8.tbl).mono ?_
  rintro e w9 ⟨rfl, b9⟩
  have kb9 := kb8.step b9
  have q9 := belowGo q8 b9
  have d9 := d8.below b9
  have t9 := t8.below b9
  have u9 := u8.below b9
  clear kb8 d8 q8 t8 u8 b9 y8 HR1 HR2
  have HLK := Lib.hid (fun w h1 h2 => likeR T U tc uc al w h1 h2 (by omega))
  have HTB := Lib.hid (fun w (h : Or w w4.heap.size T al.length tc al) => (⟨h.rr, fun r hr => by have := HAT.out r hr; omega, by omega⟩ : Tbl w T al))
  have HR3 := Lib.hid (fun w h => rateOn_i T tc al q.c q.day w h (by omega))
  rcases HAC.out with rfl | rfl
  · obtain ⟨ht, hr3⟩ := HAF.out rfl
    rw [hr3] at HR3
    have HIT := Lib.hid (fun w h => @tabI_q w T tc al true h ht)
    clear HAF HAC HAT ht hr3
    go_wp2_with (go_at_call 16; refine (HLK.out _ t9.rr u9.rr).mono ?_; rintro e w10 ⟨rfl, b10⟩; have kb10 := kb9.step b10; have q10 := belowGo q9 b10; have d10 := d9.below b10; have t10 := t9.below b10; obtain ⟨c0, c1, c2, c3, _⟩ := kb10.all; clear kb9 q9 d9 t9 u9 b10)
    refine (HR3.out _ (HTB.out _ t10)).mono ?_
    rintro e w11 ⟨rfl, b11⟩
    have kb11 := kb10.step b11
    have q11 := belowGo q10 b11
    have d11 := d10.below b11
    have t11 := t10.below b11
    clear c0 c1 c2 c3
    obtain ⟨c0, c1, c2, c3, _⟩ := kb11.all
    clear kb10 q10 d10 t10 b11
    have HTI := HIT.out _ (HTB.out _ t11)
    by_cases hz : k1 = 0
    · subst hz
      have E := HSM.out rfl
      have E2 : k2 = 0 := HOK.out rfl
      have HLQ := Lib.hid (HLN.out rfl)
      clear HLN HSM HOK
      subst E E2
      go_wp2_with (go_at_call 17; refine HTI.mono ?_; rintro e w12 ⟨rfl, b12⟩; have q12 := belowGo q11 b12; have d12 := d11.below b12; clear HTI)
      refine (HI2.out _ d12.tbl).mono ?_
      rintro e w13 ⟨rfl, b13⟩
      have d13 := d12.below b13
      have q13 := belowGo q12 b13
      go_wp2_with fail
      refine (HCR.out _ d13.tbl).mono ?_
      rintro e w14 ⟨rfl, b14⟩
      have q14 := belowGo q13 b14
      by_cases g1 : 1000000 < m
      · go_wp2_with fail
        go_ret
        exact ⟨rfl, q14⟩
      · by_cases g2 : 1000000000 < p2
        · go_wp2_with fail
          go_ret
          exact ⟨rfl, q14⟩
        · by_cases g3 : 1000000000 < p1
          · go_wp2_with fail
            go_ret
            exact ⟨rfl, q14⟩
          · obtain ⟨l1, l2, x0, x1, n0, n1⟩ := HLQ.out (by omega) (by omega) (by omega)
            go_wp2_with fail
            go_ret
            exact ⟨rfl, q14⟩
    · go_wp2_with (go_at_call 17; refine HTI.mono ?_; rintro e w12 ⟨rfl, b12⟩; have q12 := belowGo q11 b12; have d12 := d11.below b12; clear HTI)
      go_ret
      exact ⟨rfl, q12⟩
  · clear HAF HAC HAT
    by_cases hz : k1 = 0
    · subst hz
      have E := HSM.out rfl
      have E2 : k2 = 0 := HOK.out rfl
      have HLQ := Lib.hid (HLN.out rfl)
      clear HLN HSM HOK
      subst E E2
      go_wp2_with (go_at_call 16; refine (HLK.out _ t9.rr u9.rr).mono ?_; rintro e w10 ⟨rfl, b10⟩; have q10 := belowGo q9 b10; have d10 := d9.below b10)
      refine (HI2.out _ d10.tbl).mono ?_
      rintro e w13 ⟨rfl, b13⟩
      have d13 := d10.below b13
      have q13 := belowGo q10 b13
      go_wp2_with fail
      refine (HCR.out _ d13.tbl).mono ?_
      rintro e w14 ⟨rfl, b14⟩
      have q14 := belowGo q13 b14
      by_cases g1 : 1000000 < m
      · go_wp2_with fail
        go_ret
        exact ⟨rfl, q14⟩
      · by_cases g2 : 1000000000 < p2
        · go_wp2_with fail
          go_ret
          exact ⟨rfl, q14⟩
        · by_cases g3 : 1000000000 < p1
          · go_wp2_with fail
            go_ret
            exact ⟨rfl, q14⟩
          · obtain ⟨l1, l2, x0, x1, n0, n1⟩ := HLQ.out (by omega) (by omega) (by omega)
            go_wp2_with fail
            go_ret
            exact ⟨rfl, q14⟩
    · go_wp2_with (go_at_call 16; refine (HLK.out _ t9.rr u9.rr).mono ?_; rintro e w10 ⟨rfl, b10⟩; have q10 := belowGo q9 b10; have d10 := d9.below b10)
      go_ret
      exact ⟨rfl, q10⟩
end Go.Proofs.Ytaehkkcaoniphaa

