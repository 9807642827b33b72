/- The law FnInterest. -/
import Derived.Test.YthiegfcgbfhmmaaDru
import Derived.Test.YthiegfcgbfhmmaaDic
import Derived.Test.YthiegfcgbfhmmaaDws
import Derived.Deep.CutRange
namespace Go.Proofs.Ythiegfcgbfhmmaa
open Go.ChangeShapes Go.WideShapes Go.ChangeAt Go.RowKit
set_option linter.unusedVariables false

theorem bigc (A : Option Addr) (c : Nat) (bs : List Int) (w : World) (h : bs.length ≤ maxLen) :
    Calls Try.prog 10 #[.slice A bs.length c] w fun e w' => e = .returned (.bool (decide (4096 < bs.length))) ∧ w = w' := by
  unfold maxLen at h
  go_enter Try.func10, Try.ntmps10
  go_wp2
  all_goals go_ret
  all_goals exact ⟨congrArg (fun b => Ending.returned (Value.bool b)) (decide_eq_decide.2 (by omega)), rfl⟩
/-- A schedule of one step from the first day on. -/
theorem one_sch {p : Int} (h0 : 0 ≤ p) (h1 : p ≤ 10000) : schB [⟨0, p⟩] = true := by
  have : (⟨0, p⟩ : St).ok = true := by unfold St.ok; rw [inr_iff.2 ⟨by simp, by simp⟩, inr_iff.2 ⟨h0, h1⟩]; rfl
  refine sch_iff.2 ⟨?_, by simp, by simp⟩
  show sTo [⟨0, p⟩] 1 = true
  rw [sTo_succ, sAt_0 (r := ⟨0, p⟩) rfl, this]; rfl
theorem one_wgt {p d : Int} (h : 0 ≤ d) : wgt [⟨0, p⟩] 0 d = p * d := by
  show wT [⟨0, p⟩] 0 d 1 = p * d
  rw [wT_succ (r := ⟨0, p⟩) rfl, endD_last (by simp)]
  show wT _ _ _ 0 + p * max 0 (d - max 0 0) = p * d
  rw [show max 0 (d - max 0 0) = d by omega]
  simp [wT]
theorem one_is {a p d : Int} (h : (simR a p d).2 = 0) : ibR [⟨0, p⟩] a 0 d = simR a p d := by
  have W := mway a p d
  generalize hr : simR a p d = r at W h
  cases W with
  | amt h1 => simp at h
  | pts h1 h2 => simp at h
  | day h1 h2 h3 => simp at h
  | ok h1 h2 h3 =>
    obtain ⟨p0, p1⟩ := inr_iff.1 h2
    obtain ⟨d0, d1⟩ := inr_iff.1 h3
    have hc : codeR [⟨0, p⟩] a 0 d = 0 := by unfold codeR; rw [if_pos (one_sch p0 p1), h1, h3]; rfl
    unfold ibR
    rw [if_pos hc, one_wgt d0]
theorem wof_ok {rs : List St} {x y : Int} (h : (wofR rs x y).2 = 0) : schB rs = true ∧ (0 ≤ x ∧ x ≤ 36524) ∧ (0 ≤ y ∧ y ≤ 36524) ∧ (wofR rs x y).1 = wgt rs x y := by
  unfold wofR at *
  by_cases hz : codeR rs 0 x y = 0
  · rw [if_pos hz] at *
    obtain ⟨hs, _, hx, hy⟩ := codeR_zero hz
    exact ⟨hs, hx, hy, rfl⟩
  · rw [if_neg hz] at h; exact absurd h hz
theorem wof_at {rs : List St} {x y : Int} (hs : schB rs = true) (hx : 0 ≤ x ∧ x ≤ 36524) (hy : 0 ≤ y ∧ y ≤ 36524) : wofR rs x y = (wgt rs x y, 0) := by
  unfold wofR
  rw [if_pos (by unfold codeR; rw [if_pos hs, show amt 0 = true by decide, inr_iff.2 hx, inr_iff.2 hy]; rfl)]
/-- Weights add up, as the law asks. -/
theorem wof_split {rs : List St} {x y r : Int} (h : (wofR rs x y).2 = 0) (hr : 0 ≤ r) (hr2 : r < y - x) :
    wofR rs x (x + r) = (wgt rs x (x + r), 0) ∧ wofR rs (x + r) y = (wgt rs (x + r) y, 0) ∧ wgt rs x (x + r) + wgt rs (x + r) y = (wofR rs x y).1 ∧ (0 ≤ wgt rs x (x + r) ∧ wgt rs x (x + r) ≤ 365250000) ∧ 0 ≤ wgt rs (x + r) y ∧ wgt rs (x + r) y ≤ 365250000 := by
  obtain ⟨hs, hx, hy, e⟩ := wof_ok h
  have ha := wgt_add hs (f := x) (m := x + r) (by omega) (y - (x + r)).toNat
  rw [show x + r + ((y - (x + r)).toNat : Int) = y by omega] at ha
  exact ⟨wof_at hs hx (by omega), wof_at hs (by omega) hy, by rw [e]; exact ha, wgt_bd2 hs hx.1 (by omega), wgt_bd2 hs (by omega) (by omega)⟩
theorem ib_ok {rs : List St} {a f t : Int} (h : (ibR rs a f t).2 = 0) : schB rs = true ∧ (0 ≤ a ∧ a ≤ 1000000000) ∧ (0 ≤ f ∧ f ≤ 36524) ∧ (0 ≤ t ∧ t ≤ 36524) ∧ (ibR rs a f t).1 = nearest (a * wgt rs f t) 3650000 ∧ ibR rs a f t = nearR a (wgt rs f t) 3650000 := by
  by_cases hz : codeR rs a f t = 0
  · have e : ibR rs a f t = nearR a (wgt rs f t) 3650000 := by unfold ibR; rw [if_pos hz]
    obtain ⟨hs, ha, hf, ht⟩ := codeR_zero hz
    refine ⟨hs, ha, hf, ht, ?_, e⟩
    rw [e] at h ⊢
    rcases Bool.eq_false_or_eq_true (amt (nearest (a * wgt rs f t) 3650000)) with h3 | h3
    · rw [nearR_ok h3]
    · rw [nearR_no h3] at h; simp at h
  · have e : ibR rs a f t = (0, codeR rs a f t) := by unfold ibR; rw [if_neg hz]
    rw [e] at h; exact absurd h hz
/-- A day more is no less. -/
theorem ib_more {rs : List St} {a f t : Int} (h : (ibR rs a f t).2 = 0) (hft : f ≤ t) (ht : t ≠ 36524) : (ibR rs a f (t + 1)).2 = 3 ∨ ((ibR rs a f (t + 1)).2 = 0 ∧ (ibR rs a f t).1 ≤ (ibR rs a f (t + 1)).1) := by
  obtain ⟨hs, ha, hf, ht2, e, _⟩ := ib_ok h
  have hz : codeR rs a f (t + 1) = 0 := by unfold codeR; rw [if_pos hs, amt_iff.2 ha, inr_iff.2 hf, inr_iff.2 (by omega)]; rfl
  have e2 : ibR rs a f (t + 1) = nearR a (wgt rs f (t + 1)) 3650000 := by unfold ibR; rw [if_pos hz]
  have hm : nearest (a * wgt rs f t) 3650000 ≤ nearest (a * wgt rs f (t + 1)) 3650000 := nearest_mono (by omega) (Int.mul_le_mul_of_nonneg_left (wgt_mono hs hft (by omega)) ha.1)
  rw [e2, e]
  rcases Bool.eq_false_or_eq_true (amt (nearest (a * wgt rs f (t + 1)) 3650000)) with h3 | h3
  · rw [nearR_ok h3]; exact .inr ⟨rfl, hm⟩
  · rw [nearR_no h3]; exact .inl rfl
theorem Rs.one (w : World) (p : Int) : Rs (w.alloc (.cells #[.int .i64 0, .int .i64 p] 37)) (some ⟨w.heap.size, 0, none⟩) [⟨0, p⟩] := Rw.new w [.int .i64 0, .int .i64 p] 37 (0, 0)

set_option maxRecDepth 100000 in
set_option maxHeartbeats 8000000 in
theorem law_FnInterest (A : Option Addr) (c : Nat) (bs : List Int) (w : World) (hA : Rw w A (bs.map (Value.int .u8))) (hm : bs.length ≤ maxLen) (hb : ∀ b ∈ bs, 0 ≤ b ∧ b ≤ 255) (hB : bs ≠ [] → Bd A w.heap.size) :
    Calls Try.prog 3 #[.slice A bs.length c] w fun e w' => e = .returned (.bool true) ∧ Below w.heap.size w w' := by
  by_cases hl : 4096 < bs.length
  · have hd : decide (4096 < bs.length) = true := by simpa using hl
    go_enter Try.func3, Try.ntmps3
    go_wp2_with (go_at_call 10; refine (bigc _ _ _ _ hm).mono ?_; rintro e w' ⟨rfl, rfl⟩)
    go_ret
    exact ⟨rfl, Below.refl _ _⟩
  have hd : decide (4096 < bs.length) = false := by simpa using hl
  have h0 : Code0 w A bs := ⟨hA, hB, hb, by omega⟩
  clear hA hB hb
  go_enter Try.func3, Try.ntmps3
  go_wp2_with (go_at_call 10; refine (bigc _ _ _ _ hm).mono ?_; rintro e w' ⟨rfl, rfl⟩)
  refine (drawIB A c bs _ h0).mono ?_
  rintro e w1 ⟨B, d, ys, a, f, t, rfl, d1, b1⟩
  have q1 := b1
  clear hm hl
  have HI := Lib.hid (fun f t w h => interest_i B d ys a f t w h d1.2.1)
  have HM := Lib.hid (@ib_more ys a f t)
  have HS := Lib.hid (fun w h => interestB_s B d ys a f t w h (by have := d1.1; omega))
  have HI1 := Lib.hid (HI.out f t)
  have HI2 := Lib.hid (HI.out f (t + 1))
  have HOK := Lib.hid (@ib_ok ys a f t)
  have HT : Hid ((ibR ys a f t).2 = 0 → -1 ≤ t ∧ t ≤ 36524) := Lib.hid (fun h => by have := (ib_ok h).2.2.2.1; omega)
  generalize ibR ys a f t = r1 at HM HS HI1 HOK HT
  generalize ibR ys a f (t + 1) = r2 at HM HI2
  obtain ⟨n, k1⟩ := r1
  obtain ⟨n2, k2⟩ := r2
  simp only at HM HT
  clear HI HOK
  go_wp2_with fail
  refine (HI1.out _ d1.2.2.1).mono ?_
  rintro e w2 ⟨rfl, b2⟩
  have d2 := d1.below b2
  have q2 := belowGo q1 b2
  go_wp2_with fail
  refine (HS.out _ d2.2.2.1).mono ?_
  rintro e w3 ⟨rfl, b3⟩
  have d3 := d2.below b3
  have q3 := belowGo q2 b3
  clear HS HI1 d1 d2 b1 b2 b3 q1 q2
  go_wp2_with fail
  refine (drawSI A c bs _ (h0.below q3)).mono ?_
  rintro e w4 ⟨sa, sp, sd, rfl, b4⟩
  have d4 := d3.below b4
  have q4 := belowGo q3 b4
  have HC1 := Lib.hid (simple_i sa sp sd)
  have HC2 := Lib.hid (simple_s sa sp sd)
  have HO := Lib.hid (@one_is sa sp sd)
  generalize simR sa sp sd = r3 at HC1 HC2 HO
  obtain ⟨s, k3⟩ := r3
  simp only at HO
  go_wp2_with fail
  refine (HC1.out _).mono ?_
  rintro e w5 ⟨rfl, b5⟩
  have d5 := d4.below b5
  have q5 := belowGo q4 b5
  go_wp2_with fail
  refine (HC2.out _).mono ?_
  rintro e w6 ⟨rfl, b6⟩
  have d6 := d5.below b6
  have q6 := belowGo q5 b6
  clear HC1 HC2 d3 d4 d5 b4 b5 b6 q3 q4 q5
  go_wp2_with fail
  refine (drawWO A c bs _ (h0.below q6)).mono ?_
  rintro e w7 ⟨L, l, zs, x, y, rfl, l7, b7⟩
  have d7 := d6.below b7
  have q7 := belowGo q6 b7
  have HW := Lib.hid (fun x y w h => weightOf_i L l zs x y w h l7.2.1)
  have HW1 := Lib.hid (HW.out x y)
  have HV := Lib.hid (fun w h => weightOf_s L l zs x y w h (by have := l7.1; omega))
  have HSP := Lib.hid (fun r => @wof_split zs x y r)
  have HOK : Hid ((wofR zs x y).2 = 0 → (0 ≤ x ∧ x ≤ 36524) ∧ 0 ≤ y ∧ y ≤ 36524) := Lib.hid (fun h => by have := wof_ok h; exact ⟨this.2.1, this.2.2.1⟩)
  generalize wofR zs x y = r4 at HW1 HV HSP HOK
  obtain ⟨wv, k4⟩ := r4
  simp only at HSP HOK
  go_wp2_with fail
  refine (HW1.out _ l7.2.2.1).mono ?_
  rintro e w8 ⟨rfl, b8⟩
  have d8 := d7.below b8
  have l8 := l7.below b8
  have q8 := belowGo q7 b8
  go_wp2_with fail
  refine (HV.out _ l8.2.2.1).mono ?_
  rintro e w9 ⟨rfl, b9⟩
  have d9 := d8.below b9
  have l9 := l8.below b9
  have q9 := belowGo q8 b9
  clear HW1 HV d6 d7 d8 l7 l8 b7 b8 b9 q6 q7 q8
  go_wp2_with fail
  refine (sch_i L l zs _ l9.2.2.1).mono ?_
  rintro e w10 ⟨rfl, b10⟩
  have l10 := l9.below b10
  go_wp2_with fail
  refine (sch_s L l zs _ l10.2.2.1 (by have := l9.1; omega)).mono ?_
  rintro e w11 ⟨rfl, b11⟩
  have b12 := belowGo b10 b11
  have d11 := d9.below b12
  have l11 := l9.below b12
  have q11 := belowGo q9 b12
  clear d9 l9 l10 q9 b10 b11 b12
  generalize schB zs = sb
  go_upto_if 135 with fail
  go_cut [] from 136 to 151 (fun wx => Below w11.heap.size w11 wx)
  case first =>
    by_cases e3 : k3 = 0
    · subst e3
      have HI3 := Lib.hid (fun w => interest_i _ 1 [⟨0, sp⟩] sa 0 sd _ (Rs.one w sp) (by simp))
      rw [HO.out rfl] at HI3
      go_wp2_with (go_at_call 12; refine (HI3.out _).mono ?_; rintro e w12 ⟨rfl, b12⟩)
      go_meet
      exact (below_alloc _ _).trans (b12.mono (by simp))
    · have e3' : (k3 == 0) = false := by simpa using e3
      go_wp2_with fail
      go_meet
      exact Below.refl _ _
  case rest =>
    have bx := hcut
    have d12 := d11.below bx
    have l12 := l11.below bx
    have q12 := belowGo q11 bx
    clear d11 l11 q11 bx hcut HO
    rcases (show k4 ≠ 0 ∨ (k4 = 0 ∧ y ≤ x) ∨ (k4 = 0 ∧ x < y) by omega) with e4 | ⟨rfl, e5⟩ | ⟨rfl, e5⟩
    · have e4' : (k4 == 0) = false := by simpa using e4
      rcases (show k1 ≠ 0 ∨ (k1 = 0 ∧ t = 36524) ∨ (k1 = 0 ∧ t ≠ 36524 ∧ t < f) ∨ (k1 = 0 ∧ t ≠ 36524 ∧ f ≤ t) by omega) with h1 | ⟨rfl, rfl⟩ | ⟨rfl, h2, h3⟩ | ⟨rfl, h2, h3⟩
      · have e1 : (k1 != 0) = true := by simpa using h1
        go_wp2_with fail
        go_ret
        exact ⟨rfl, q12⟩
      · go_wp2_with fail
        go_ret
        exact ⟨rfl, q12⟩
      · have e2 : (t == 36524) = false := by simpa using h2
        go_wp2_with fail
        go_ret
        exact ⟨rfl, q12⟩
      · have e2 : (t == 36524) = false := by simpa using h2
        have ht := HT.out rfl
        rcases HM.out rfl h3 h2 with rfl | ⟨rfl, hle⟩
        · go_wp2_with (go_at_call 12; refine (HI2.out _ d12.2.2.1).mono ?_; rintro e w20 ⟨rfl, b20⟩; have q20 := belowGo q12 b20)
          go_ret
          exact ⟨rfl, q20⟩
        · go_wp2_with (go_at_call 12; refine (HI2.out _ d12.2.2.1).mono ?_; rintro e w20 ⟨rfl, b20⟩; have q20 := belowGo q12 b20)
          go_ret
          exact ⟨rfl, q20⟩
    · have e5' : decide (x < y) = false := by simp; omega
      rcases (show k1 ≠ 0 ∨ (k1 = 0 ∧ t = 36524) ∨ (k1 = 0 ∧ t ≠ 36524 ∧ t < f) ∨ (k1 = 0 ∧ t ≠ 36524 ∧ f ≤ t) by omega) with h1 | ⟨rfl, rfl⟩ | ⟨rfl, h2, h3⟩ | ⟨rfl, h2, h3⟩
      · have e1 : (k1 != 0) = true := by simpa using h1
        go_wp2_with fail
        go_ret
        exact ⟨rfl, q12⟩
      · go_wp2_with fail
        go_ret
        exact ⟨rfl, q12⟩
      · have e2 : (t == 36524) = false := by simpa using h2
        go_wp2_with fail
        go_ret
        exact ⟨rfl, q12⟩
      · have e2 : (t == 36524) = false := by simpa using h2
        have ht := HT.out rfl
        rcases HM.out rfl h3 h2 with rfl | ⟨rfl, hle⟩
        · go_wp2_with (go_at_call 12; refine (HI2.out _ d12.2.2.1).mono ?_; rintro e w20 ⟨rfl, b20⟩; have q20 := belowGo q12 b20)
          go_ret
          exact ⟨rfl, q20⟩
        · go_wp2_with (go_at_call 12; refine (HI2.out _ d12.2.2.1).mono ?_; rintro e w20 ⟨rfl, b20⟩; have q20 := belowGo q12 b20)
          go_ret
          exact ⟨rfl, q20⟩
    · obtain ⟨⟨x0, x1⟩, y0, y1⟩ := HOK.out rfl
      have HS2 := Lib.hid (fun r (h0 : 0 ≤ r) (h1 : r < y - x) => HSP.out r rfl h0 h1)
      clear HSP HOK
      go_wp2_with fail
      refine (roll_any A c bs 401 _ (h0.below q12) (by omega) (by omega)).mono ?_
      rintro e w13 ⟨g, rfl, dc, b13⟩
      have d13 := d12.below b13
      have l13 := l12.below b13
      have q13 := belowGo q12 b13
      go_wp2_with fail
      refine (below_any g (y - x) _ A c bs _ dc (by omega) (by omega)).mono ?_
      rintro e w14 ⟨r, rfl, r0, r1, dc2, g14⟩
      have b14 : Below wc.heap.size w13 w14 := (Below.refl _ _).grown g14 b13.size (fun k hk => by cases hk; exact dc.1)
      have d14 := d12.below (b13.trans b14)
      have l14 := l12.below (b13.trans b14)
      have q14 := belowGo q12 (b13.trans b14)
      obtain ⟨o1, o2, o3, ⟨p0, p1⟩, p2, p3⟩ := HS2.out r r0 r1
      have HA := Lib.hid (HW.out x (x + r))
      have HB := Lib.hid (HW.out (x + r) y)
      rw [o1] at HA
      rw [o2] at HB
      generalize wgt zs x (x + r) = u at *
      generalize wgt zs (x + r) y = v at *
      subst o3
      clear o1 o2 HW HS2
      go_wp2_with fail
      refine (HA.out _ l14.2.2.1).mono ?_
      rintro e w15 ⟨rfl, b15⟩
      have d15 := d14.below b15
      have l15 := l14.below b15
      have q15 := belowGo q14 b15
      go_wp2_with fail
      refine (HB.out _ l15.2.2.1).mono ?_
      rintro e w16 ⟨rfl, b16⟩
      have d16 := d15.below b16
      have q16 := belowGo q15 b16
      clear HA HB l12 l13 l14 l15 d13 d14 d15 q13 q14 q15
      rcases (show k1 ≠ 0 ∨ (k1 = 0 ∧ t = 36524) ∨ (k1 = 0 ∧ t ≠ 36524 ∧ t < f) ∨ (k1 = 0 ∧ t ≠ 36524 ∧ f ≤ t) by omega) with h1 | ⟨rfl, rfl⟩ | ⟨rfl, h2, h3⟩ | ⟨rfl, h2, h3⟩
      · have e1 : (k1 != 0) = true := by simpa using h1
        go_wp2_with fail
        go_ret
        exact ⟨rfl, q16⟩
      · go_wp2_with fail
        go_ret
        exact ⟨rfl, q16⟩
      · have e2 : (t == 36524) = false := by simpa using h2
        go_wp2_with fail
        go_ret
        exact ⟨rfl, q16⟩
      · have e2 : (t == 36524) = false := by simpa using h2
        have ht := HT.out rfl
        rcases HM.out rfl h3 h2 with rfl | ⟨rfl, hle⟩
        · go_wp2_with (go_at_call 12; refine (HI2.out _ d16.2.2.1).mono ?_; rintro e w20 ⟨rfl, b20⟩; have q20 := belowGo q16 b20)
          go_ret
          exact ⟨rfl, q20⟩
        · go_wp2_with (go_at_call 12; refine (HI2.out _ d16.2.2.1).mono ?_; rintro e w20 ⟨rfl, b20⟩; have q20 := belowGo q16 b20)
          go_ret
          exact ⟨rfl, q20⟩
end Go.Proofs.Ythiegfcgbfhmmaa
