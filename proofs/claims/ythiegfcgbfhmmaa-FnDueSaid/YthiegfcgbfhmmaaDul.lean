/- The law FnDue. -/
import Derived.Test.YthiegfcgbfhmmaaLin
import Derived.Test.YthiegfcgbfhmmaaDwo
import Derived.Test.YthiegfcgbfhmmaaTol
namespace Go.Proofs.Ythiegfcgbfhmmaa
open Go.ChangeShapes Go.WideShapes Go.ChangeAt Go.RowKit
set_option linter.unusedVariables false

theorem com_le {a p : Int} (h : (comR a p).2 = 0) : (comR a p).1 ≤ a := by
  have W := nway a p
  generalize hr : comR a p = r at W h ⊢
  cases W with
  | amt h1 => simp at h
  | pts h1 h2 => simp at h
  | ok h1 h2 =>
    obtain ⟨a0, a1⟩ := amt_iff.1 h1
    obtain ⟨p0, p1⟩ := inr_iff.1 h2
    have := (com_ok a0 a1 p0 p1)
    rw [hr] at this
    rw [this.1]; exact this.2.2
theorem due_ge {rs : List St} {a p f t : Int} (h : (tdR rs a p f t).2 = 0) : a ≤ (tdR rs a p f t).1 := by
  have W := tway rs a p f t
  generalize hr : tdR rs a p f t = r at W h ⊢
  cases W with
  | sch h1 => simp at h
  | com h1 h2 => simp at h
  | ib v hv h1 n h2 h3 => simp at h; omega
  | ok h1 n h2 i h3 ha hn hi =>
    have ham : amts [a, n, i] = true := by simp [amts, ha, hn, hi]
    have hs : isum [a, n, i] = a + n + i := by simp [isum]; omega
    rcases Bool.eq_false_or_eq_true (amt (isum [a, n, i])) with h4 | h4
    · rw [sumR_ok ham h4, hs]
      have := amt_iff.1 hn; have := amt_iff.1 hi
      show a ≤ a + n + i
      omega
    · rw [sumR_big ham h4] at h; simp at h
/-- The first day on which P holds. -/
theorem seek_facts {P : Int → Bool} : ∀ (n : Nat) (d : Int), (seek P d n).2 = 0 → d ≤ (seek P d n).1 ∧ (seek P d n).1 < d + n ∧ P (seek P d n).1 = true ∧ ∀ x, d ≤ x → x < (seek P d n).1 → P x = false := by
  intro n
  induction n with
  | zero => intro d h; simp [seek] at h
  | succ n ih =>
    intro d h
    unfold seek at h ⊢
    by_cases hp : P d = true
    · rw [if_pos hp] at h ⊢
      exact ⟨Int.le_refl _, by show d < d + ((n + 1 : Nat) : Int); omega, hp, fun x h1 h2 => by have h2 : x < d := h2; omega⟩
    · rw [if_neg hp] at h ⊢
      obtain ⟨h1, h2, h3, h4⟩ := ih (d + 1) h
      refine ⟨by omega, by omega, h3, fun x hx hx2 => ?_⟩
      rcases Int.lt_or_le d x with hlt | hge
      · exact h4 x (by omega) hx2
      · obtain rfl : x = d := by omega
        simpa using hp
/-- On the day the interest is reached; the day before it is not. -/
theorem due_facts {rs : List St} {a f i : Int} (h : (dwrR rs a f i).2 = 0) : f ≤ (dwrR rs a f i).1 ∧ (dwrR rs a f i).1 ≤ 36524 ∧ 0 ≤ f ∧
    ((ibR rs a f (dwrR rs a f i).1).2 = 3 ∨ ((ibR rs a f (dwrR rs a f i).1).2 = 0 ∧ i ≤ (ibR rs a f (dwrR rs a f i).1).1)) ∧
    (f < (dwrR rs a f i).1 → (ibR rs a f ((dwrR rs a f i).1 - 1)).2 = 0 ∧ (ibR rs a f ((dwrR rs a f i).1 - 1)).1 < i) := by
  by_cases hz : codeR rs a f f = 0
  · obtain ⟨hs, ha, hf, _⟩ := codeR_zero hz
    rcases Bool.eq_false_or_eq_true (amt i) with hi | hi
    · have e : dwrR rs a f i = seek (reaB rs a f i) f (36525 - f).toNat := by unfold dwrR; rw [if_pos hz, if_pos hi]
      rw [e] at h ⊢
      obtain ⟨h1, h2, h3, h4⟩ := seek_facts _ _ h
      obtain ⟨i0, i1⟩ := amt_iff.1 hi
      generalize (seek (reaB rs a f i) f (36525 - f).toNat).1 = d at *
      have hd : d ≤ 36524 := by omega
      have hib : ∀ t, 0 ≤ t → t ≤ 36524 → ibR rs a f t = nearR a (wgt rs f t) 3650000 := fun t t0 t1 => by
        unfold ibR; rw [if_pos (by unfold codeR; rw [if_pos hs, amt_iff.2 ha, inr_iff.2 hf, inr_iff.2 ⟨t0, t1⟩]; rfl)]
      have hnn : ∀ t, t ≤ 36524 → 0 ≤ nearest (a * wgt rs f t) 3650000 := fun t t1 => near_nn (Int.mul_nonneg ha.1 (wgt_bd2 hs hf.1 (by omega)).1) (by omega)
      refine ⟨h1, hd, hf.1, ?_, fun hlt => ?_⟩
      · rw [hib d (by omega) hd]
        unfold reaB at h3
        rw [decide_eq_true_eq] at h3
        rcases Bool.eq_false_or_eq_true (amt (nearest (a * wgt rs f d) 3650000)) with h5 | h5
        · rw [nearR_ok h5]; exact .inr ⟨rfl, h3⟩
        · rw [nearR_no h5]; exact .inl rfl
      · have h6 := h4 (d - 1) (by omega) (by omega)
        unfold reaB at h6
        rw [decide_eq_false_iff_not] at h6
        rw [hib (d - 1) (by omega) (by omega), nearR_ok (amt_iff.2 ⟨hnn _ (by omega), by omega⟩)]
        exact ⟨rfl, by show nearest (a * wgt rs f (d - 1)) 3650000 < i; omega⟩
    · have e : dwrR rs a f i = (0, 2) := by unfold dwrR; rw [if_pos hz, if_neg (by rw [hi]; exact Bool.false_ne_true)]
      rw [e] at h; simp at h
  · have e : dwrR rs a f i = (0, codeR rs a f f) := by unfold dwrR; rw [if_neg hz]
    rw [e] at h; exact absurd h hz

set_option maxRecDepth 100000 in
set_option maxHeartbeats 8000000 in
theorem law_FnDue (A : Option Addr) (c : Nat) (bs : List Int) (w : World) (hA : Rw w A (bs.map (Value.int .u8))) (hm : bs.length ≤ maxLen) (hb : ∀ b ∈ bs, 0 ≤ b ∧ b ≤ 255) (hB : bs ≠ [] → Bd A w.heap.size) :
    Calls Try.prog 4 #[.slice A bs.length c] w fun e w' => e = .returned (.bool true) ∧ Below w.heap.size w w' := by
  by_cases hl : 4096 < bs.length
  · have hd : decide (4096 < bs.length) = true := by simpa using hl
    go_enter Try.func4, Try.ntmps4
    go_wp2_with (go_at_call 10; refine (bigc _ _ _ _ hm).mono ?_; rintro e w' ⟨rfl, rfl⟩)
    go_ret
    exact ⟨rfl, Below.refl _ _⟩
  have hd : decide (4096 < bs.length) = false := by simpa using hl
  have h0 : Code0 w A bs := ⟨hA, hB, hb, by omega⟩
  clear hA hB hb
  go_enter Try.func4, Try.ntmps4
  go_wp2_with (go_at_call 10; refine (bigc _ _ _ _ hm).mono ?_; rintro e w' ⟨rfl, rfl⟩)
  refine (drawDW A c bs _ h0).mono ?_
  rintro e w1 ⟨B, d, ys, a, f, i, rfl, d1, b1⟩
  have q1 := b1
  clear hm hl
  have HII := Lib.hid (fun t w h => interest_i B d ys a f t w h d1.2.1)
  have HI := Lib.hid (fun w h => reach_i B d ys a f i w h d1.2.1)
  have HS := Lib.hid (fun w h => reach_s B d ys a f i w h (by have := d1.1; omega))
  have HF := Lib.hid (@due_facts ys a f i)
  generalize dwrR ys a f i = r1 at HI HS HF
  obtain ⟨dd, k1⟩ := r1
  simp only at HF
  go_wp2_with fail
  refine (HI.out _ d1.2.2.1).mono ?_
  rintro e w2 ⟨rfl, b2⟩
  have d2 := d1.below b2
  have q2 := belowGo q1 b2
  go_wp2_with fail
  refine (HS.out _ d2.2.2.1).mono ?_
  rintro e w3 ⟨rfl, b3⟩
  have d3 := d2.below b3
  have q3 := belowGo q2 b3
  clear HS HI d1 d2 b1 b2 b3 q1 q2
  go_wp2_with fail
  refine (drawCO A c bs _ (h0.below q3)).mono ?_
  rintro e w4 ⟨ca, cp, rfl, b4⟩
  have d4 := d3.below b4
  have q4 := belowGo q3 b4
  have HC1 := Lib.hid (commission_i ca cp)
  have HC2 := Lib.hid (commissionOf_s ca cp)
  have HCL := Lib.hid (@com_le ca cp)
  generalize comR ca cp = r3 at HC1 HC2 HCL
  obtain ⟨cv, k3⟩ := r3
  simp only at HCL
  go_wp2_with fail
  refine (HC1.out _).mono ?_
  rintro e w5 ⟨rfl, b5⟩
  have d5 := d4.below b5
  have q5 := belowGo q4 b5
  go_wp2_with fail
  refine (HC2.out _).mono ?_
  rintro e w6 ⟨rfl, b6⟩
  have d6 := d5.below b6
  have q6 := belowGo q5 b6
  clear HC1 HC2 d3 d4 d5 b4 b5 b6 q3 q4 q5
  go_wp2_with fail
  refine (drawPO A c bs _ (h0.below q6)).mono ?_
  rintro e w7 ⟨L, l, zs, x, rfl, l7, b7⟩
  have d7 := d6.below b7
  have q7 := belowGo q6 b7
  have HP1 := Lib.hid (fun w h => pointsOn_i L l zs x w h l7.2.1)
  have HP2 := Lib.hid (fun w h => pointsOn_s L l zs x w h (by have := l7.1; omega))
  generalize ponR zs x = r4 at HP1 HP2
  obtain ⟨pv, k4⟩ := r4
  go_wp2_with fail
  refine (HP1.out _ l7.2.2.1).mono ?_
  rintro e w8 ⟨rfl, b8⟩
  have l8 := l7.below b8
  have d8 := d7.below b8
  have q8 := belowGo q7 b8
  go_wp2_with fail
  refine (HP2.out _ l8.2.2.1).mono ?_
  rintro e w9 ⟨rfl, b9⟩
  have d9 := d8.below b9
  have q9 := belowGo q8 b9
  clear HP1 HP2 d6 d7 d8 l7 l8 b7 b8 b9 q6 q7 q8
  go_wp2_with fail
  refine (drawTD A c bs _ (h0.below q9)).mono ?_
  rintro e w10 ⟨X, m, xs, ta, tp, tf, tt, rfl, l10, b10⟩
  have d10 := d9.below b10
  have q10 := belowGo q9 b10
  have HT1 := Lib.hid (fun w h => total_i X m xs ta tp tf tt w h l10.2.1)
  have HT2 := Lib.hid (fun w h => total_s X m xs ta tp tf tt w h (by have := l10.1; omega))
  have HTG := Lib.hid (@due_ge xs ta tp tf tt)
  generalize tdR xs ta tp tf tt = r5 at HT1 HT2 HTG
  obtain ⟨tv, k5⟩ := r5
  simp only at HTG
  go_wp2_with fail
  refine (HT1.out _ l10.2.2.1).mono ?_
  rintro e w11 ⟨rfl, b11⟩
  have l11 := l10.below b11
  have d11 := d10.below b11
  have q11 := belowGo q10 b11
  go_wp2_with fail
  refine (HT2.out _ l11.2.2.1).mono ?_
  rintro e w12 ⟨rfl, b12⟩
  have d12 := d11.below b12
  have q12 := belowGo q11 b12
  clear HT1 HT2 d9 d10 d11 l10 l11 b10 b11 b12 q9 q10 q11
  have f1 : k3 = 0 → cv ≤ ca := HCL.out
  have f2 : k5 = 0 → ta ≤ tv := HTG.out
  clear HCL HTG
  rcases (show (k3 ≠ 0) ∨ (k3 = 0 ∧ cv ≤ ca) by omega) with c1 | ⟨rfl, c1⟩
  · have e3 : (k3 == 0) = false := by simpa using c1
    clear f1
    rcases (show (k5 ≠ 0) ∨ (k5 = 0 ∧ ta ≤ tv) by omega) with c2 | ⟨rfl, c2⟩
    · have e5 : (k5 == 0) = false := by simpa using c2
      rcases (show k1 ≠ 0 ∨ k1 = 0 by omega) with h1 | rfl
      · have e1 : (k1 != 0) = true := by simpa using h1
        go_wp2_with fail
        go_ret
        exact ⟨rfl, q12⟩
      · obtain ⟨g1, g2, g3, g4, g5⟩ := HF.out rfl
        have HZ := Lib.hid (HII.out dd)
        have HY := Lib.hid (HII.out (dd - 1))
        clear HF HII
        generalize ibR ys a f dd = z1 at *
        generalize ibR ys a f (dd - 1) = z2 at *
        obtain ⟨own, s1⟩ := z1
        obtain ⟨less, s2⟩ := z2
        simp only at g4 g5
        rcases (show f = dd ∨ f < dd by omega) with rfl | hlt
        · clear g5
          have e2 : (f == f) = true := by simp
          rcases g4 with rfl | ⟨rfl, g4⟩
          · go_wp2_with (go_at_call 12; refine (HZ.out _ d12.2.2.1).mono ?_; rintro e w20 ⟨rfl, b20⟩; have q20 := belowGo q12 b20; have d20 := d12.below b20)
            go_ret
            exact ⟨rfl, q20⟩
          · go_wp2_with (go_at_call 12; refine (HZ.out _ d12.2.2.1).mono ?_; rintro e w20 ⟨rfl, b20⟩; have q20 := belowGo q12 b20; have d20 := d12.below b20)
            go_ret
            exact ⟨rfl, q20⟩
        · obtain ⟨rfl, g6⟩ := g5 hlt
          have e2 : (dd == f) = false := by simp; omega
          clear g5
          rcases g4 with rfl | ⟨rfl, g4⟩
          · go_wp2_with (first | (go_at_call 12; refine (HZ.out _ d12.2.2.1).mono ?_; rintro e w20 ⟨rfl, b20⟩; have q20 := belowGo q12 b20; have d20 := d12.below b20; clear HZ) | (go_at_call 12; refine (HY.out _ d20.2.2.1).mono ?_; rintro e w21 ⟨rfl, b21⟩; have q21 := belowGo q20 b21))
            go_ret
            exact ⟨rfl, q21⟩
          · go_wp2_with (first | (go_at_call 12; refine (HZ.out _ d12.2.2.1).mono ?_; rintro e w20 ⟨rfl, b20⟩; have q20 := belowGo q12 b20; have d20 := d12.below b20; clear HZ) | (go_at_call 12; refine (HY.out _ d20.2.2.1).mono ?_; rintro e w21 ⟨rfl, b21⟩; have q21 := belowGo q20 b21))
            go_ret
            exact ⟨rfl, q21⟩
    · clear f2
      rcases (show k1 ≠ 0 ∨ k1 = 0 by omega) with h1 | rfl
      · have e1 : (k1 != 0) = true := by simpa using h1
        go_wp2_with fail
        go_ret
        exact ⟨rfl, q12⟩
      · obtain ⟨g1, g2, g3, g4, g5⟩ := HF.out rfl
        have HZ := Lib.hid (HII.out dd)
        have HY := Lib.hid (HII.out (dd - 1))
        clear HF HII
        generalize ibR ys a f dd = z1 at *
        generalize ibR ys a f (dd - 1) = z2 at *
        obtain ⟨own, s1⟩ := z1
        obtain ⟨less, s2⟩ := z2
        simp only at g4 g5
        rcases (show f = dd ∨ f < dd by omega) with rfl | hlt
        · clear g5
          have e2 : (f == f) = true := by simp
          rcases g4 with rfl | ⟨rfl, g4⟩
          · go_wp2_with (go_at_call 12; refine (HZ.out _ d12.2.2.1).mono ?_; rintro e w20 ⟨rfl, b20⟩; have q20 := belowGo q12 b20; have d20 := d12.below b20)
            go_ret
            exact ⟨rfl, q20⟩
          · go_wp2_with (go_at_call 12; refine (HZ.out _ d12.2.2.1).mono ?_; rintro e w20 ⟨rfl, b20⟩; have q20 := belowGo q12 b20; have d20 := d12.below b20)
            go_ret
            exact ⟨rfl, q20⟩
        · obtain ⟨rfl, g6⟩ := g5 hlt
          have e2 : (dd == f) = false := by simp; omega
          clear g5
          rcases g4 with rfl | ⟨rfl, g4⟩
          · go_wp2_with (first | (go_at_call 12; refine (HZ.out _ d12.2.2.1).mono ?_; rintro e w20 ⟨rfl, b20⟩; have q20 := belowGo q12 b20; have d20 := d12.below b20; clear HZ) | (go_at_call 12; refine (HY.out _ d20.2.2.1).mono ?_; rintro e w21 ⟨rfl, b21⟩; have q21 := belowGo q20 b21))
            go_ret
            exact ⟨rfl, q21⟩
          · go_wp2_with (first | (go_at_call 12; refine (HZ.out _ d12.2.2.1).mono ?_; rintro e w20 ⟨rfl, b20⟩; have q20 := belowGo q12 b20; have d20 := d12.below b20; clear HZ) | (go_at_call 12; refine (HY.out _ d20.2.2.1).mono ?_; rintro e w21 ⟨rfl, b21⟩; have q21 := belowGo q20 b21))
            go_ret
            exact ⟨rfl, q21⟩
  · clear f1
    rcases (show (k5 ≠ 0) ∨ (k5 = 0 ∧ ta ≤ tv) by omega) with c2 | ⟨rfl, c2⟩
    · have e5 : (k5 == 0) = false := by simpa using c2
      rcases (show k1 ≠ 0 ∨ k1 = 0 by omega) with h1 | rfl
      · have e1 : (k1 != 0) = true := by simpa using h1
        go_wp2_with fail
        go_ret
        exact ⟨rfl, q12⟩
      · obtain ⟨g1, g2, g3, g4, g5⟩ := HF.out rfl
        have HZ := Lib.hid (HII.out dd)
        have HY := Lib.hid (HII.out (dd - 1))
        clear HF HII
        generalize ibR ys a f dd = z1 at *
        generalize ibR ys a f (dd - 1) = z2 at *
        obtain ⟨own, s1⟩ := z1
        obtain ⟨less, s2⟩ := z2
        simp only at g4 g5
        rcases (show f = dd ∨ f < dd by omega) with rfl | hlt
        · clear g5
          have e2 : (f == f) = true := by simp
          rcases g4 with rfl | ⟨rfl, g4⟩
          · go_wp2_with (go_at_call 12; refine (HZ.out _ d12.2.2.1).mono ?_; rintro e w20 ⟨rfl, b20⟩; have q20 := belowGo q12 b20; have d20 := d12.below b20)
            go_ret
            exact ⟨rfl, q20⟩
          · go_wp2_with (go_at_call 12; refine (HZ.out _ d12.2.2.1).mono ?_; rintro e w20 ⟨rfl, b20⟩; have q20 := belowGo q12 b20; have d20 := d12.below b20)
            go_ret
            exact ⟨rfl, q20⟩
        · obtain ⟨rfl, g6⟩ := g5 hlt
          have e2 : (dd == f) = false := by simp; omega
          clear g5
          rcases g4 with rfl | ⟨rfl, g4⟩
          · go_wp2_with (first | (go_at_call 12; refine (HZ.out _ d12.2.2.1).mono ?_; rintro e w20 ⟨rfl, b20⟩; have q20 := belowGo q12 b20; have d20 := d12.below b20; clear HZ) | (go_at_call 12; refine (HY.out _ d20.2.2.1).mono ?_; rintro e w21 ⟨rfl, b21⟩; have q21 := belowGo q20 b21))
            go_ret
            exact ⟨rfl, q21⟩
          · go_wp2_with (first | (go_at_call 12; refine (HZ.out _ d12.2.2.1).mono ?_; rintro e w20 ⟨rfl, b20⟩; have q20 := belowGo q12 b20; have d20 := d12.below b20; clear HZ) | (go_at_call 12; refine (HY.out _ d20.2.2.1).mono ?_; rintro e w21 ⟨rfl, b21⟩; have q21 := belowGo q20 b21))
            go_ret
            exact ⟨rfl, q21⟩
    · clear f2
      rcases (show k1 ≠ 0 ∨ k1 = 0 by omega) with h1 | rfl
      · have e1 : (k1 != 0) = true := by simpa using h1
        go_wp2_with fail
        go_ret
        exact ⟨rfl, q12⟩
      · obtain ⟨g1, g2, g3, g4, g5⟩ := HF.out rfl
        have HZ := Lib.hid (HII.out dd)
        have HY := Lib.hid (HII.out (dd - 1))
        clear HF HII
        generalize ibR ys a f dd = z1 at *
        generalize ibR ys a f (dd - 1) = z2 at *
        obtain ⟨own, s1⟩ := z1
        obtain ⟨less, s2⟩ := z2
        simp only at g4 g5
        rcases (show f = dd ∨ f < dd by omega) with rfl | hlt
        · clear g5
          have e2 : (f == f) = true := by simp
          rcases g4 with rfl | ⟨rfl, g4⟩
          · go_wp2_with (go_at_call 12; refine (HZ.out _ d12.2.2.1).mono ?_; rintro e w20 ⟨rfl, b20⟩; have q20 := belowGo q12 b20; have d20 := d12.below b20)
            go_ret
            exact ⟨rfl, q20⟩
          · go_wp2_with (go_at_call 12; refine (HZ.out _ d12.2.2.1).mono ?_; rintro e w20 ⟨rfl, b20⟩; have q20 := belowGo q12 b20; have d20 := d12.below b20)
            go_ret
            exact ⟨rfl, q20⟩
        · obtain ⟨rfl, g6⟩ := g5 hlt
          have e2 : (dd == f) = false := by simp; omega
          clear g5
          rcases g4 with rfl | ⟨rfl, g4⟩
          · go_wp2_with (first | (go_at_call 12; refine (HZ.out _ d12.2.2.1).mono ?_; rintro e w20 ⟨rfl, b20⟩; have q20 := belowGo q12 b20; have d20 := d12.below b20; clear HZ) | (go_at_call 12; refine (HY.out _ d20.2.2.1).mono ?_; rintro e w21 ⟨rfl, b21⟩; have q21 := belowGo q20 b21))
            go_ret
            exact ⟨rfl, q21⟩
          · go_wp2_with (first | (go_at_call 12; refine (HZ.out _ d12.2.2.1).mono ?_; rintro e w20 ⟨rfl, b20⟩; have q20 := belowGo q12 b20; have d20 := d12.below b20; clear HZ) | (go_at_call 12; refine (HY.out _ d20.2.2.1).mono ?_; rintro e w21 ⟨rfl, b21⟩; have q21 := belowGo q20 b21))
            go_ret
            exact ⟨rfl, q21⟩
end Go.Proofs.Ythiegfcgbfhmmaa
