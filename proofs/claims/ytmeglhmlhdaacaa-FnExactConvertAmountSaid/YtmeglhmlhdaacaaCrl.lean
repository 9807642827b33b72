/- spec.CrossRate; the law of CrossRate. -/
import Derived.Test.YtmeglhmlhdaacaaCrs
namespace Go.Proofs.Ytmeglhmlhdaacaa
open Go.ChangeShapes Go.WideShapes Go.ChangeAt Go.RowKit
set_option linter.unusedVariables false

theorem ratesC_two {rs : List Rt} {f t : List UInt8} {day : Int} : ratesC rs day [f, t] = if cdO rs f t day true = 0 then (if (noRate rs day f || noRate rs day t) = true then 4 else 0) else cdO rs f t day true := by
  unfold ratesC cdO
  simp only [List.all_cons, List.all_nil, List.any_cons, List.any_nil, Bool.and_true, Bool.or_false]
  generalize tabB rs = a
  generalize codeB f = b
  generalize codeB t = c
  generalize inr day 0 36524 = d
  generalize noRate rs day f = e
  generalize noRate rs day t = g
  revert a b c d e g; decide
theorem crossR_a {rs : List Rt} {f t : List UInt8} {day k : Int} (h : cdO rs f t day true = k) (hk : k ≠ 0) : crossR rs f t day = (0, 0, k) := by
  have : ratesC rs day [f, t] = k := by rw [ratesC_two, h, if_neg hk]
  unfold crossR; rw [this, if_neg hk]
theorem crossR_b {rs : List Rt} {f t : List UInt8} {day : Int} (h : cdO rs f t day true = 0) : crossR rs f t day = if (crossS rs f t day).2.2 = true then ((crossS rs f t day).1, (crossS rs f t day).2.1, 0) else (0, 0, 4) := by
  have ht := (cdB_0 h).1
  have n1 := no_rate ht (c := f) (day := day)
  have n2 := no_rate ht (c := t) (day := day)
  by_cases hb : 0 < (rateL f day rs).2 ∧ 0 < (rateL t day rs).2
  · have e1 : noRate rs day f = false := by
      cases e : noRate rs day f with
      | false => rfl
      | true => exact absurd hb.1 (n1.1 e)
    have e2 : noRate rs day t = false := by
      cases e : noRate rs day t with
      | false => rfl
      | true => exact absurd hb.2 (n2.1 e)
    have hs : crossS rs f t day = ((crossL (rateL f day rs) (rateL t day rs)).1, (crossL (rateL f day rs) (rateL t day rs)).2, true) := if_pos hb
    have : ratesC rs day [f, t] = 0 := by rw [ratesC_two, h, if_pos rfl, e1, e2]; rfl
    unfold crossR; rw [if_pos this, hs]; rfl
  · have hs : crossS rs f t day = (0, 0, false) := if_neg hb
    have e : (noRate rs day f || noRate rs day t) = true := by
      rw [Bool.or_eq_true, n1, n2]
      by_cases h1 : 0 < (rateL f day rs).2
      · exact .inr fun h2 => hb ⟨h1, h2⟩
      · exact .inl h1
    have : ratesC rs day [f, t] = 4 := by rw [ratesC_two, h, if_pos rfl, e]; rfl
    unfold crossR; rw [this, hs]; rfl

set_option maxRecDepth 100000 in
set_option maxHeartbeats 4000000 in
theorem crossRate_s (A : Option Addr) (d : Nat) (rs : List Rt) (f t : List UInt8) (day : Int) (w : World) (h : Tbl w A rs) (hf : f.length ≤ 9223372036854775807) (ht : t.length ≤ 9223372036854775807) :
    Calls Try.prog 43 #[.slice A rs.length d, .string ⟨f.toArray⟩, .string ⟨t.toArray⟩, .int .i64 day] w (Gives w (.tuple #[.int .i64 (crossR rs f t day).1, .int .i64 (crossR rs f t day).2.1, .int .i64 (crossR rs f t day).2.2])) := by
  have HC := Lib.hid (l03Code_q (d := d) (amount := 0) h hf ht rfl rfl rfl rfl (show amt 0 = true from rfl) (t := t) (f := f) (day := day))
  have HA := Lib.hid (fun k => @crossR_a rs f t day k)
  have HB := Lib.hid (@crossR_b rs f t day)
  have HR := Lib.hid (fun (ht : tabB rs = true) w' (hb : Below w.heap.size w w') => l03Cross_s A d rs f t day w' (h.below hb) ht)
  have H0 := Lib.hid (fun h : cdO rs f t day true = 0 => (cdB_0 h).1)
  rw [show cdB (tabB rs) (codeB f) (codeB t) (inr day 0 36524) true = cdO rs f t day true from rfl] at HC
  generalize cdO rs f t day true = k at *
  generalize crossR rs f t day = R at *
  generalize crossS rs f t day = p at *
  obtain ⟨n, m, ok⟩ := p
  simp only at HB HR
  clear h
  by_cases hk : k = 0
  · have HR := Lib.hid (HR.out (H0.out hk))
    subst hk
    have E := Lib.hid (HB.out rfl)
    clear HA HB H0
    cases ok
    all_goals
      go_enter Try.func43, Try.ntmps43
      go_wp2_with (first
        | (go_at_call 85; refine HC.out.mono ?_; rintro e w1 ⟨rfl, b1⟩)
        | (go_at_call 86; refine (HR.out _ b1).mono ?_; rintro e w2 ⟨rfl, b2⟩))
      go_ret3
      rw [E.out]
      exact ⟨rfl, belowGo b1 b2⟩
  · have E := Lib.hid (HA.out k rfl hk)
    clear HA HB HR H0
    go_enter Try.func43, Try.ntmps43
    go_wp2_with (go_at_call 85; refine HC.out.mono ?_; rintro e w1 ⟨rfl, b1⟩)
    go_ret3
    rw [E.out]
    exact ⟨rfl, b1⟩

set_option maxRecDepth 100000 in
set_option maxHeartbeats 4000000 in
theorem law_FnExactCrossRate (A : Option Addr) (c : Nat) (rs : List Rt) (cur : ByteArray) (cvr : ByteArray) (day : Int) (w : World) (hR : Rr w A rs) (hm : rs.length ≤ maxLen) (hw : ∀ r ∈ rs, r.wf) (hs : cur.size ≤ maxLen) (hs' : cvr.size ≤ maxLen) (_ : (Lit.int .i64 day).wf = true) :
    Calls Try.prog 13 #[.slice A rs.length c, .string cur, .string cvr, .int .i64 day] w fun e w' => e = .returned (.bool true) ∧ Below w.heap.size w w' := by
  unfold maxLen at hs hs'
  obtain ⟨⟨cl⟩⟩ := cur
  obtain ⟨⟨dl⟩⟩ := cvr
  have hz : (⟨⟨cl⟩⟩ : ByteArray).size = cl.length := rfl
  have hz' : (⟨⟨dl⟩⟩ : ByteArray).size = dl.length := rfl
  rw [hz] at hs
  rw [hz'] at hs'
  have hs : cl.length ≤ 9223372036854775807 := by omega
  have hs' : dl.length ≤ 9223372036854775807 := by omega
  have HZ := Lib.hid (szRateS_l A c rs 1048576 w hR (rok_of hw) hm (by omega) (by omega))
  have HO := Lib.hid (@szT_ok rs)
  generalize szT rs 1048576 = m at *
  by_cases hbig : 1048576 < cl.length
  · go_enter Try.func13, Try.ntmps13
    go_wp2_with fail
    go_ret
    exact ⟨rfl, Below.refl _ _⟩
  by_cases hbig' : 1048576 < dl.length
  · go_enter Try.func13, Try.ntmps13
    go_wp2_with fail
    go_ret
    exact ⟨rfl, Below.refl _ _⟩
  go_enter Try.func13, Try.ntmps13
  go_wp2_with fail
  refine HZ.out.mono ?_
  rintro e w0 ⟨rfl, b0⟩
  by_cases hneg : m < 0
  · go_wp2_with fail
    go_ret
    exact ⟨rfl, b0⟩
  obtain ⟨hn, htx⟩ := HO.out (by omega)
  have HI := Lib.hid (fun A d w h => crossRate_i A d rs cl dl day w h hs hs')
  have HS := Lib.hid (fun A d w h => crossRate_s A d rs cl dl day w h hs hs')
  generalize crossR rs cl dl day = r at HI HS
  obtain ⟨r1, r2, r3⟩ := r
  clear HO HZ hm hw
  go_wp2_with fail
  refine (toRateS_l A c rs _ (hR.below b0) hn).mono ?_
  rintro e w1 ⟨B1, c1, rfl, o1, b1⟩
  have t1 := belowGo b0 b1
  go_wp2_with fail
  refine (HS.out B1 c1 w1 ⟨o1.rr, htx, hn⟩).mono ?_
  rintro e w2 ⟨rfl, b2⟩
  have t2 := belowGo t1 b2
  go_wp2_with fail
  refine (toRateS_l A c rs _ (hR.below t2) hn).mono ?_
  rintro e w3 ⟨X3, c3, rfl, o3, b3⟩
  have t3 := belowGo t2 b3
  go_wp2_with fail
  refine (HI.out X3 c3 w3 ⟨o3.rr, htx, hn⟩).mono ?_
  rintro e w4 ⟨rfl, b4⟩
  have t4 := belowGo t3 b4
  have x4 := o3.below b4
  go_wp2_with fail
  refine (toRateS_l A c rs _ (hR.below t4) hn).mono ?_
  rintro e w6 ⟨X6, c6, rfl, o6, b6⟩
  have t6 := belowGo t4 b6
  go_wp2_with fail
  refine (eqRateS_l X3 X6 c3 c6 rs w6 (x4.below b6).rr o6.rr (by omega)).mono ?_
  rintro e w7 ⟨rfl, b7⟩
  go_wp2_with fail
  go_ret
  exact ⟨rfl, belowGo t6 b7⟩
end Go.Proofs.Ytmeglhmlhdaacaa
