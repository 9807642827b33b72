/- ConvertAmount: both sides and the law. -/
import Derived.Test.YtmeglhmlhdaacaaCvm
namespace Go.Proofs.Ytmeglhmlhdaacaa
open Go.ChangeShapes Go.WideShapes Go.ChangeAt Go.RowKit
set_option linter.unusedVariables false

theorem isAmount_iq {n : Int} {b : Bool} (h : amt n = b) (w : World) : Calls Try.prog 27 #[.int .i64 n] w fun e w' => e = .returned (.bool b) ∧ w = w' :=
  (isAmount_i n w).mono fun e w' k => ⟨by rw [← h]; exact k.1, k.2⟩
theorem isAmount_sq {n : Int} {b : Bool} (h : amt n = b) (w : World) : Calls Try.prog 28 #[.int .i64 n] w fun e w' => e = .returned (.bool b) ∧ w = w' :=
  (isAmount_s n w).mono fun e w' k => ⟨by rw [← h]; exact k.1, k.2⟩
set_option maxRecDepth 100000 in
set_option maxHeartbeats 4000000 in
theorem convert_i (A : Option Addr) (d : Nat) (rs : List Rt) (f t : List UInt8) (day a : Int) (w : World) (h : Tbl w A rs) (hf : f.length ≤ 9223372036854775807) (ht : t.length ≤ 9223372036854775807) :
    Calls Try.prog 31 #[.slice A rs.length d, .string ⟨f.toArray⟩, .string ⟨t.toArray⟩, .int .i64 day, .int .i64 a] w (Gives w (.tuple #[.int .i64 (cvR (crossR rs f t day) a).1, .int .i64 (cvR (crossR rs f t day) a).2])) := by
  have HC := Lib.hid (crossRate_i A d rs f t day w h hf ht)
  have hbd : (crossR rs f t day).2.2 = 0 → 1 ≤ (crossR rs f t day).1 ∧ (crossR rs f t day).1 ≤ 1000000000000 ∧ 1 ≤ (crossR rs f t day).2.1 ∧ (crossR rs f t day).2.1 ≤ 1000000000000 := fun h0 => by
    rcases @crossR_k rs f t day with ⟨_, c2, c3, c4, c5⟩ | ⟨c1, _⟩ | ⟨c1, c2⟩
    · rw [c4, c5]; exact crossS_bd (cdB_0 c2).1 c3
    · omega
    · omega
  generalize crossR rs f t day = R at *
  obtain ⟨n, m, k⟩ := R
  simp only at HC hbd
  clear h
  by_cases hk1 : k = 1
  · have E : cvR (n, m, k) a = (0, 1) := if_pos hk1
    rw [E]
    subst hk1
    go_enter Try.func31, Try.ntmps31
    go_wp2_with (go_at_call 41; refine HC.out.mono ?_; rintro e w1 ⟨rfl, b1⟩)
    go_ret2
    exact ⟨rfl, b1⟩
  have q1 : (k != 1) = true := by rw [bne_iff_ne]; exact hk1
  have q1' : (k == 1) = false := by rw [beq_eq_false_iff_ne]; exact hk1
  rcases Bool.eq_false_or_eq_true (amt a) with ha | ha
  · by_cases hk0 : k = 0
    · subst hk0
      have E : cvR (n, m, 0) a = nearR a n m := by unfold cvR; rw [if_neg (fun h => absurd (show (0 : Int) = 1 from h) (by decide)), if_neg (by rw [ha]; exact Bool.noConfusion), if_neg (fun h => h rfl)]
      rw [E]
      obtain ⟨n0, n1, m0, m1⟩ := hbd rfl
      obtain ⟨a0, a1⟩ := amt_iff.1 ha
      have HN := Lib.hid (fun w => near_any a n m w a0 a1 (by omega) n1 m0 m1)
      clear hbd E
      go_enter Try.func31, Try.ntmps31
      go_wp2_with (first
        | (go_at_call 41; refine HC.out.mono ?_; rintro e w1 ⟨rfl, b1⟩)
        | (go_at_call 27; refine (isAmount_iq ha _).mono ?_; rintro e w' ⟨rfl, rfl⟩)
        | (go_at_call 72; refine (HN.out _).mono ?_; rintro e w2 ⟨rfl, nq, rfl⟩))
      go_ret2
      exact ⟨rfl, belowGo b1 (below_drewN _ _)⟩
    · have E : cvR (n, m, k) a = (0, k) := by unfold cvR; rw [if_neg hk1, if_neg (by rw [ha]; exact Bool.noConfusion), if_pos hk0]
      rw [E]
      have q2 : (k != 0) = true := by rw [bne_iff_ne]; exact hk0
      have q2' : (k == 0) = false := by rw [beq_eq_false_iff_ne]; exact hk0
      clear hbd E
      go_enter Try.func31, Try.ntmps31
      go_wp2_with (first
        | (go_at_call 41; refine HC.out.mono ?_; rintro e w1 ⟨rfl, b1⟩)
        | (go_at_call 27; refine (isAmount_iq ha _).mono ?_; rintro e w' ⟨rfl, rfl⟩))
      go_ret2
      exact ⟨rfl, b1⟩
  · have E : cvR (n, m, k) a = (0, 2) := by unfold cvR; rw [if_neg hk1, if_pos ha]
    rw [E]
    clear hbd E
    go_enter Try.func31, Try.ntmps31
    go_wp2_with (first
      | (go_at_call 41; refine HC.out.mono ?_; rintro e w1 ⟨rfl, b1⟩)
      | (go_at_call 27; refine (isAmount_iq ha _).mono ?_; rintro e w' ⟨rfl, rfl⟩))
    go_ret2
    exact ⟨rfl, b1⟩

set_option maxRecDepth 100000 in
set_option maxHeartbeats 4000000 in
theorem convert_s (A : Option Addr) (d : Nat) (rs : List Rt) (f t : List UInt8) (day a : Int) (w : World) (h : Tbl w A rs) (hf : f.length ≤ 9223372036854775807) (ht : t.length ≤ 9223372036854775807) :
    Calls Try.prog 32 #[.slice A rs.length d, .string ⟨f.toArray⟩, .string ⟨t.toArray⟩, .int .i64 day, .int .i64 a] w (Gives w (.tuple #[.int .i64 (cvR (crossR rs f t day) a).1, .int .i64 (cvR (crossR rs f t day) a).2])) := by
  have HC := Lib.hid (l03Code_q (d := d) (amount := a) h hf ht rfl rfl rfl rfl rfl (t := t) (f := f) (day := day))
  have HA := Lib.hid (fun k => @cv_a rs f t day a k)
  have HB := Lib.hid (@cv_b rs f t day a)
  have HR := Lib.hid (fun (ht : tabB rs = true) w' (hb : Below w.heap.size w w') => l03Cross_s A d rs f t day w' (h.below hb) ht)
  have H0 := Lib.hid (fun h : cdO rs f t day (amt a) = 0 => (cdB_0 h))
  have HD := Lib.hid (fun ht => @crossS_bd rs ht f t day)
  rw [show cdB (tabB rs) (codeB f) (codeB t) (inr day 0 36524) (amt a) = cdO rs f t day (amt a) from rfl] at HC
  generalize cdO rs f t day (amt a) = k at *
  generalize cvR (crossR rs f t day) a = R at *
  generalize crossS rs f t day = p at *
  obtain ⟨n, m, ok⟩ := p
  simp only at HB HR HD
  clear h
  by_cases hk : k = 0
  · obtain ⟨htb, _, _, _, ha⟩ := H0.out hk
    have HR := Lib.hid (HR.out htb)
    have HD := Lib.hid (HD.out htb)
    subst hk
    have E := Lib.hid (HB.out rfl)
    obtain ⟨a0, a1⟩ := amt_iff.1 ha
    clear HA HB H0
    cases ok
    · clear HD
      go_enter Try.func32, Try.ntmps32
      go_wp2_with (first
        | (go_at_call 85; refine HC.out.mono ?_; rintro e w1 ⟨rfl, b1⟩)
        | (go_at_call 86; refine (HR.out _ b1).mono ?_; rintro e w2 ⟨rfl, b2⟩))
      go_ret2
      rw [E.out]
      exact ⟨rfl, belowGo b1 b2⟩
    · obtain ⟨n0, n1, m0, m1⟩ := HD.out rfl
      obtain ⟨a, rfl⟩ : ∃ x : Nat, a = x := ⟨a.toNat, by omega⟩
      obtain ⟨n, rfl⟩ : ∃ x : Nat, n = x := ⟨n.toNat, by omega⟩
      obtain ⟨m, rfl⟩ : ∃ x : Nat, m = x := ⟨m.toNat, by omega⟩
      have HV := Lib.hid (fun w => l03Convert_s a n m w (by omega) (by omega) (by omega) (by omega))
      rw [if_pos rfl] at E
      have N1 := Lib.hid (@nearR_ok (a : Int) n m)
      have N0 := Lib.hid (@nearR_no (a : Int) n m)
      generalize nearR (a : Int) n m = Z at *
      generalize nearest ((a : Int) * n) m = Y at *
      clear HD
      go_enter Try.func32, Try.ntmps32
      go_wp2_with (first
        | (go_at_call 85; refine HC.out.mono ?_; rintro e w1 ⟨rfl, b1⟩)
        | (go_at_call 86; refine (HR.out _ b1).mono ?_; rintro e w2 ⟨rfl, b2⟩)
        | (go_at_call 87; refine (HV.out _).mono ?_; rintro e w3 ⟨v, rfl, b3, hv⟩; rcases hv with ⟨hy, rfl⟩ | ⟨hy, hv⟩)
        | (go_at_call 28; refine (isAmount_sq (by assumption) _).mono ?_; rintro e w' ⟨rfl, rfl⟩))
      · go_ret2
        rw [E.out, N1.out hy]
        exact ⟨rfl, belowGo (belowGo b1 b2) b3⟩
      · go_ret2
        rw [E.out, N0.out hy]
        exact ⟨rfl, belowGo (belowGo b1 b2) b3⟩
  · have E := Lib.hid (HA.out k rfl hk)
    have q2 : (k != 0) = true := by rw [bne_iff_ne]; exact hk
    clear HA HB HR H0 HD
    go_enter Try.func32, Try.ntmps32
    go_wp2_with (go_at_call 85; refine HC.out.mono ?_; rintro e w1 ⟨rfl, b1⟩)
    go_ret2
    rw [E.out]
    exact ⟨rfl, b1⟩

set_option maxRecDepth 100000 in
set_option maxHeartbeats 4000000 in
theorem law_FnExactConvertAmount (A : Option Addr) (c : Nat) (rs : List Rt) (cur : ByteArray) (cvr : ByteArray) (day : Int) (am : Int) (w : World) (hR : Rr w A rs) (hm : rs.length ≤ maxLen) (hw : ∀ r ∈ rs, r.wf) (hs : cur.size ≤ maxLen) (hs' : cvr.size ≤ maxLen) (_ : (Lit.int .i64 day).wf = true) (_ : (Lit.int .i64 am).wf = true) :
    Calls Try.prog 10 #[.slice A rs.length c, .string cur, .string cvr, .int .i64 day, .int .i64 am] w fun e w' => e = .returned (.bool true) ∧ Below w.heap.size w w' := by
  unfold maxLen at hs hs'
  obtain ⟨⟨cl⟩⟩ := cur
  obtain ⟨⟨dl⟩⟩ := cvr
  have hz : (⟨⟨cl⟩⟩ : ByteArray).size = cl.length := rfl
  have hz' : (⟨⟨dl⟩⟩ : ByteArray).size = dl.length := rfl
  rw [hz] at hs
  rw [hz'] at hs'
  have hs : cl.length ≤ 9223372036854775807 := by omega
  have hs' : dl.length ≤ 9223372036854775807 := by omega
  have HZ := Lib.hid (szRateS_l A c rs 1048576 w hR (rok_of hw) hm (by omega) (by omega))
  have HO := Lib.hid (@szT_ok rs)
  generalize szT rs 1048576 = m at *
  by_cases hbig : 1048576 < cl.length
  · go_enter Try.func10, Try.ntmps10
    go_wp2_with fail
    go_ret
    exact ⟨rfl, Below.refl _ _⟩
  by_cases hbig' : 1048576 < dl.length
  · go_enter Try.func10, Try.ntmps10
    go_wp2_with fail
    go_ret
    exact ⟨rfl, Below.refl _ _⟩
  go_enter Try.func10, Try.ntmps10
  go_wp2_with fail
  refine HZ.out.mono ?_
  rintro e w0 ⟨rfl, b0⟩
  by_cases hneg : m < 0
  · go_wp2_with fail
    go_ret
    exact ⟨rfl, b0⟩
  obtain ⟨hn, htx⟩ := HO.out (by omega)
  have HI := Lib.hid (fun A d w h => convert_i A d rs cl dl day am w h hs hs')
  have HS := Lib.hid (fun A d w h => convert_s A d rs cl dl day am w h hs hs')
  generalize cvR (crossR rs cl dl day) am = r at HI HS
  obtain ⟨r1, r2⟩ := r
  clear HO HZ hm hw
  go_wp2_with fail
  refine (toRateS_l A c rs _ (hR.below b0) hn).mono ?_
  rintro e w1 ⟨B1, c1, rfl, o1, b1⟩
  have t1 := belowGo b0 b1
  go_wp2_with fail
  refine (HS.out B1 c1 w1 ⟨o1.rr, htx, hn⟩).mono ?_
  rintro e w2 ⟨rfl, b2⟩
  have t2 := belowGo t1 b2
  go_wp2_with fail
  refine (toRateS_l A c rs _ (hR.below t2) hn).mono ?_
  rintro e w3 ⟨X3, c3, rfl, o3, b3⟩
  have t3 := belowGo t2 b3
  go_wp2_with fail
  refine (HI.out X3 c3 w3 ⟨o3.rr, htx, hn⟩).mono ?_
  rintro e w4 ⟨rfl, b4⟩
  have t4 := belowGo t3 b4
  have x4 := o3.below b4
  go_wp2_with fail
  refine (toRateS_l A c rs _ (hR.below t4) hn).mono ?_
  rintro e w6 ⟨X6, c6, rfl, o6, b6⟩
  have t6 := belowGo t4 b6
  go_wp2_with fail
  refine (eqRateS_l X3 X6 c3 c6 rs w6 (x4.below b6).rr o6.rr (by omega)).mono ?_
  rintro e w7 ⟨rfl, b7⟩
  go_wp2_with fail
  go_ret
  exact ⟨rfl, belowGo t6 b7⟩
end Go.Proofs.Ytmeglhmlhdaacaa
