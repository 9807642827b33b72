/- TotalDue on both sides. -/
import Derived.Test.YthiegfcgbfhmmaaPol
import Derived.Test.YthiegfcgbfhmmaaSums
namespace Go.Proofs.Ythiegfcgbfhmmaa
open Go.ChangeShapes Go.WideShapes Go.ChangeAt Go.RowKit
set_option linter.unusedVariables false

/-- The total of what is due. -/
def dueN (rs : List St) (a p f t : Int) : Int := a + nearest (a * p) 10000 + nearest (a * wgt rs f t) 3650000
def tdR (rs : List St) (a p f t : Int) : Int × Int := if codeR rs a f t = 0 then (if inr p 0 10000 = true then resR (dueN rs a p f t) else (0, 2)) else (0, codeR rs a f t)
theorem nearest_le {a p c : Int} (a0 : 0 ≤ a) (p0 : 0 ≤ p) (c0 : 1 ≤ c) (h : p ≤ c) : nearest (a * p) c ≤ a := by
  unfold nearest
  have h1 : a * p ≤ a * c := Int.mul_le_mul_of_nonneg_left h a0
  have h2 : (2 * (a * p) + c) / (2 * c) < a + 1 := by
    rw [Int.ediv_lt_iff_lt_mul (by omega), Int.add_mul, Int.one_mul, show a * (2 * c) = 2 * (a * c) by rw [← Int.mul_assoc, Int.mul_comm a 2, Int.mul_assoc]]
    omega
  omega
theorem com_ok {a p : Int} (a0 : 0 ≤ a) (a1 : a ≤ 1000000000) (p0 : 0 ≤ p) (p1 : p ≤ 10000) : comR a p = (nearest (a * p) 10000, 0) ∧ 0 ≤ nearest (a * p) 10000 ∧ nearest (a * p) 10000 ≤ a := by
  have h1 := nearest_le a0 p0 (c := 10000) (by omega) p1
  have h0 := near_nn (x := a * p) (c := 10000) (Int.mul_nonneg a0 p0) (by omega)
  refine ⟨?_, h0, h1⟩
  unfold comR
  rw [if_pos (by rw [amt_iff.2 ⟨a0, a1⟩, inr_iff.2 ⟨p0, p1⟩]; rfl), nearR_ok (amt_iff.2 ⟨h0, by omega⟩)]
/-- The ways of TotalDue. -/
inductive TWay (rs : List St) (a p f t : Int) : Int × Int → Prop where
  | sch (h : schB rs = false) : TWay rs a p f t (0, 1)
  | com (h : schB rs = true) (h1 : comR a p = (0, 2)) : TWay rs a p f t (0, 2)
  | ib (v : Int) (hv : v = 2 ∨ v = 3) (h : schB rs = true) (n : Int) (h1 : comR a p = (n, 0)) (h2 : ibR rs a f t = (0, v)) : TWay rs a p f t (0, v)
  | ok (h : schB rs = true) (n : Int) (h1 : comR a p = (n, 0)) (i : Int) (h2 : ibR rs a f t = (i, 0)) (ha : amt a = true) (hn : amt n = true) (hi : amt i = true) : TWay rs a p f t (sumR [a, n, i])
theorem tway (rs : List St) (a p f t : Int) : TWay rs a p f t (tdR rs a p f t) := by
  rcases Bool.eq_false_or_eq_true (schB rs) with h | h
  · rcases Bool.eq_false_or_eq_true (amt a) with h1 | h1
    · rcases Bool.eq_false_or_eq_true (inr p 0 10000) with h2 | h2
      · obtain ⟨a0, a1⟩ := amt_iff.1 h1
        obtain ⟨p0, p1⟩ := inr_iff.1 h2
        obtain ⟨hc, n0, n1⟩ := com_ok a0 a1 p0 p1
        rcases codeR_cases rs a f t with hz | hz | hz
        · obtain ⟨hs, _, ⟨f0, f1⟩, t0, t1⟩ := codeR_zero hz
          obtain ⟨g0, g1⟩ := wgt_bd2 hs (f := f) (t := t) f0 (by omega)
          have i0 := near_nn (x := a * wgt rs f t) (c := 3650000) (Int.mul_nonneg a0 g0) (by omega)
          have hi : ibR rs a f t = nearR a (wgt rs f t) 3650000 := by unfold ibR; rw [if_pos hz]
          have ht : tdR rs a p f t = resR (dueN rs a p f t) := by unfold tdR; rw [if_pos hz, if_pos h2]
          rcases Bool.eq_false_or_eq_true (amt (nearest (a * wgt rs f t) 3650000)) with h3 | h3
          · rw [nearR_ok h3] at hi
            have hn : amt (nearest (a * p) 10000) = true := amt_iff.2 ⟨n0, by omega⟩
            have : tdR rs a p f t = sumR [a, nearest (a * p) 10000, nearest (a * wgt rs f t) 3650000] := by
              rw [ht]
              unfold resR dueN
              have ha : amts [a, nearest (a * p) 10000, nearest (a * wgt rs f t) 3650000] = true := by simp [amts, h1, hn, h3]
              have hsum : isum [a, nearest (a * p) 10000, nearest (a * wgt rs f t) 3650000] = a + nearest (a * p) 10000 + nearest (a * wgt rs f t) 3650000 := by simp [isum]; omega
              rcases Bool.eq_false_or_eq_true (amt (a + nearest (a * p) 10000 + nearest (a * wgt rs f t) 3650000)) with h4 | h4
              · rw [if_pos h4, sumR_ok ha (by rw [hsum]; exact h4), hsum]
              · rw [if_neg (by rw [h4]; decide), sumR_big ha (by rw [hsum]; exact h4)]
            rw [this]
            exact .ok h _ hc _ hi h1 hn h3
          · rw [nearR_no h3] at hi
            have : tdR rs a p f t = (0, 3) := by
              rw [ht]
              unfold resR dueN
              have := amt_no.1 h3
              rw [if_neg (by rw [amt_no.2 (by omega)]; decide)]
            rw [this]
            exact .ib 3 (.inr rfl) h _ hc hi
        · exact absurd hz (by unfold codeR; rw [if_pos h]; split <;> omega)
        · have hi : ibR rs a f t = (0, 2) := by unfold ibR; rw [hz]; rfl
          have ht : tdR rs a p f t = (0, 2) := by unfold tdR; rw [hz]; rfl
          rw [ht]
          exact .ib 2 (.inl rfl) h _ hc hi
      · have hc : comR a p = (0, 2) := by unfold comR; rw [if_neg (by rw [h1, h2]; decide)]
        have ht : tdR rs a p f t = (0, 2) := by
          unfold tdR codeR
          rw [if_pos h, h2]
          split <;> simp_all
        rw [ht]; exact .com h hc
    · have hc : comR a p = (0, 2) := by unfold comR; rw [if_neg (by rw [h1]; simp)]
      have ht : tdR rs a p f t = (0, 2) := by unfold tdR codeR; rw [if_pos h, h1]; simp
      rw [ht]; exact .com h hc
  · have hc : codeR rs a f t = 1 := by unfold codeR; rw [if_neg (by rw [h]; exact Bool.false_ne_true)]
    have ht : tdR rs a p f t = (0, 1) := by unfold tdR; rw [hc]; rfl
    rw [ht]; exact .sch h
theorem Ir.new3 (w : World) (a b c : Int) (t : TypeId) : Ir (w.alloc (.cells #[.int .i64 a, .int .i64 b, .int .i64 c] t)) (some ⟨w.heap.size, 0, none⟩) [a, b, c] := Rw.new w [.int .i64 a, .int .i64 b, .int .i64 c] t (0, 0)
set_option maxHeartbeats 2000000 in
theorem total_i (A : Option Addr) (c : Nat) (rs : List St) (a p f t : Int) (w : World) (hR : Rs w A rs) (hcap : rs.length ≤ c) : Calls Try.prog 34 #[.slice A rs.length c, .int .i64 a, .int .i64 p, .int .i64 f, .int .i64 t] w (GivP w (tdR rs a p f t)) := by
  have W := tway rs a p f t
  generalize tdR rs a p f t = r at W
  cases W with
  | sch h =>
    go_enter Try.func34, Try.ntmps34
    go_wp2_with (go_at_call 20; refine (schI_q h _ hR).mono ?_; rintro e w1 ⟨rfl, b1⟩)
    go_ret2
    exact ⟨rfl, b1⟩
  | com h h1 =>
    have HC := Lib.hid (fun w => commission_i a p w)
    rw [h1] at HC
    clear h1
    go_enter Try.func34, Try.ntmps34
    go_wp2_with (first
      | (go_at_call 20; refine (schI_q h _ hR).mono ?_; rintro e w1 ⟨rfl, b1⟩)
      | (go_at_call 28; refine (HC.out _).mono ?_; rintro e w2 ⟨rfl, b2⟩))
    go_ret2
    exact ⟨rfl, belowGo b1 b2⟩
  | ib v hv h n h1 h2 =>
    have HC := Lib.hid (fun w => commission_i a p w)
    have HB := Lib.hid (fun w h => interest_i A c rs a f t w h hcap)
    rw [h1] at HC
    rw [h2] at HB
    clear h1 h2
    rcases hv with rfl | rfl
    all_goals
      go_enter Try.func34, Try.ntmps34
      go_wp2_with (first
        | (go_at_call 20; refine (schI_q h _ hR).mono ?_; rintro e w1 ⟨rfl, b1⟩)
        | (go_at_call 28; refine (HC.out _).mono ?_; rintro e w2 ⟨rfl, b2⟩; have t2 := belowGo b1 b2)
        | (go_at_call 12; refine (HB.out _ (hR.below t2)).mono ?_; rintro e w3 ⟨rfl, b3⟩))
      go_ret2
      exact ⟨rfl, belowGo t2 b3⟩
  | ok h n h1 i h2 ha hn hi =>
    have HC := Lib.hid (fun w => commission_i a p w)
    have HB := Lib.hid (fun w h => interest_i A c rs a f t w h hcap)
    rw [h1] at HC
    rw [h2] at HB
    have HS := Lib.hid (fun w => sums_i (some ⟨w.heap.size, 0, none⟩) 3 [a, n, i] _ (Ir.new3 w a n i 2) (by simp))
    clear h1 h2
    go_enter Try.func34, Try.ntmps34
    go_wp2_with (first
      | (go_at_call 20; refine (schI_q h _ hR).mono ?_; rintro e w1 ⟨rfl, b1⟩)
      | (go_at_call 28; refine (HC.out _).mono ?_; rintro e w2 ⟨rfl, b2⟩; have t2 := belowGo b1 b2)
      | (go_at_call 12; refine (HB.out _ (hR.below t2)).mono ?_; rintro e w3 ⟨rfl, b3⟩; have t3 := (belowGo t2 b3).alloc (belowGo t2 b3).size (.cells #[.int .i64 a, .int .i64 n, .int .i64 i] 2))
      | (go_at_call 65; refine (HS.out _).mono ?_; rintro e w' ⟨rfl, rfl⟩))
    go_ret2
    exact ⟨rfl, t3⟩
set_option maxHeartbeats 2000000 in
theorem total_s (A : Option Addr) (c : Nat) (rs : List St) (a p f t : Int) (w : World) (hR : Rs w A rs) (hn : rs.length ≤ 1048576) : Calls Try.prog 35 #[.slice A rs.length c, .int .i64 a, .int .i64 p, .int .i64 f, .int .i64 t] w (GivP w (tdR rs a p f t)) := by
  have HC := Lib.hid (code_s A c rs a f t w hR hn)
  have HP : Hid (tdR rs a p f t = if codeR rs a f t = 0 then (if inr p 0 10000 = true then resR (dueN rs a p f t) else (0, 2)) else (0, codeR rs a f t)) := Lib.hid rfl
  rcases codeR_cases rs a f t with h | h | h
  · rw [h, if_pos rfl] at HP
    rcases Bool.eq_false_or_eq_true (inr p 0 10000) with h2 | h2
    · obtain ⟨hs, ⟨a0, a1⟩, ⟨f0, f1⟩, t0, t1⟩ := codeR_zero h
      obtain ⟨p0, p1⟩ := inr_iff.1 h2
      rw [if_pos h2] at HP
      rw [h] at HC
      obtain ⟨_, n0, n1⟩ := com_ok a0 a1 p0 p1
      obtain ⟨g0, g1⟩ := wgt_bd2 hs (f := f) (t := t) f0 (by omega)
      have hm := mul_bw a0 a1 g0 g1
      have i0 := near_nn (x := a * wgt rs f t) (c := 3650000) hm.1 (by omega)
      have i1 : nearest (a * wgt rs f t) 3650000 ≤ 365250000000000000 := by
        unfold nearest
        have := Int.ediv_le_self (2 * 3650000 : Int) (show 0 ≤ 2 * (a * wgt rs f t) + 3650000 by omega)
        omega
      have HN := Lib.hid (fun w => interest_s a (wgt rs f t) w a0 a1 g0 g1)
      have HM := Lib.hid (fun w => commission_s a p w a0 a1 p0 p1)
      have HW := Lib.hid (fun w h => weight_s A c rs f t w h hs f0 (by omega) t0 (by omega))
      have HD : Hid (dueN rs a p f t = a + nearest (a * p) 10000 + nearest (a * wgt rs f t) 3650000) := Lib.hid rfl
      clear h h2 hm
      generalize nearest (a * wgt rs f t) 3650000 = i at *
      generalize nearest (a * p) 10000 = n at *
      generalize wgt rs f t = g at *
      rw [HD.out] at HP
      go_enter Try.func35, Try.ntmps35
      go_wp2_with (first
        | (go_at_call 45; refine HC.out.mono ?_; rintro e w1 ⟨rfl, b1⟩)
        | (go_at_call 55; refine (pts_sq (inr_iff.2 ⟨p0, p1⟩) _).mono ?_; rintro e w' ⟨rfl, rfl⟩)
        | (go_at_call 63; refine (HM.out _).mono ?_; rintro e w2 ⟨rfl, n2, rfl⟩; have q2 := b1.trans ((below_drewN _ n2).mono b1.size))
        | (go_at_call 48; refine (HW.out _ (hR.below q2)).mono ?_; rintro e w3 ⟨rfl, b3⟩; have q3 := belowGo q2 b3)
        | (go_at_call 47; refine (HN.out _).mono ?_; rintro e w4 ⟨rfl, n4, rfl⟩; have q4 := q3.trans ((below_drewN _ n4).mono q3.size))
        | (go_at_call 46; refine (result_s _ _).mono ?_; rintro e w' ⟨rfl, rfl⟩))
      go_ret2
      exact ⟨by rw [HP.out] <;> rfl, q4⟩
    · rw [if_neg (by rw [h2]; decide)] at HP
      rw [h] at HC
      go_enter Try.func35, Try.ntmps35
      go_wp2_with (first
        | (go_at_call 45; refine HC.out.mono ?_; rintro e w1 ⟨rfl, b1⟩)
        | (go_at_call 55; refine (pts_sq h2 _).mono ?_; rintro e w' ⟨rfl, rfl⟩))
      go_ret2
      exact ⟨by rw [HP.out] <;> rfl, b1⟩
  · rw [h, if_neg (by decide)] at HP
    rw [h] at HC
    go_enter Try.func35, Try.ntmps35
    go_wp2_with (go_at_call 45; refine HC.out.mono ?_; rintro e w1 ⟨rfl, b1⟩)
    go_ret2
    exact ⟨by rw [HP.out] <;> rfl, b1⟩
  · rw [h, if_neg (by decide)] at HP
    rw [h] at HC
    go_enter Try.func35, Try.ntmps35
    go_wp2_with (go_at_call 45; refine HC.out.mono ?_; rintro e w1 ⟨rfl, b1⟩)
    go_ret2
    exact ⟨by rw [HP.out] <;> rfl, b1⟩
end Go.Proofs.Ythiegfcgbfhmmaa
