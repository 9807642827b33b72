/- ConvertAmount: both sides and the law. -/
import Derived.Test.YtmeglhmlhdaacaaCrl
import Derived.Test.YtmeglhmlhdaacaaConv
import Derived.Test.YtmeglhmlhdaacaaDiv
namespace Go.Proofs.Ytmeglhmlhdaacaa
open Go.ChangeShapes Go.WideShapes Go.ChangeAt Go.RowKit
set_option linter.unusedVariables false

theorem near_any (a b c : Int) (w : World) (a0 : 0 ≤ a) (a1 : a ≤ 1000000000) (b0 : 0 ≤ b) (b1 : b ≤ 1000000000000) (c0 : 1 ≤ c) (c1 : c ≤ 1000000000000) :
    Calls Try.prog 72 #[.int .i64 a, .int .i64 b, .int .i64 c] w fun e w' => e = .returned (.tuple #[.int .i64 (nearR a b c).1, .int .i64 (nearR a b c).2]) ∧ ∃ n, w' = w.drewN n := by
  refine near_of a b c w a0 a1 b0 b1 c0 c1 (fun hlt w => ?_)
  have m0 : 0 ≤ a * b := Int.mul_nonneg a0 b0
  unfold nearest
  generalize a * b = P at *
  obtain ⟨X, hX⟩ : ∃ X, X = 2 * P + c := ⟨_, rfl⟩
  rw [← hX] at hlt ⊢
  have hX0 : 0 ≤ X := by omega
  clear hX m0
  by_cases hz : X / 18446744073709551616 = 0
  · rw [hz, show X % 18446744073709551616 = X by omega]
    exact div64_0 _ _ hX0 (by omega) (by omega) (by omega) w
  · obtain ⟨H, hH⟩ : ∃ H : Nat, X / 18446744073709551616 = H := ⟨(X / 18446744073709551616).toNat, by omega⟩
    obtain ⟨L, hL⟩ : ∃ L : Nat, X % 18446744073709551616 = L := ⟨(X % 18446744073709551616).toNat, by omega⟩
    obtain ⟨Y, hY⟩ : ∃ Y : Nat, 2 * c = Y := ⟨(2 * c).toNat, by omega⟩
    have hXe : X = ((H * 18446744073709551616 + L : Nat) : Int) := by omega
    have hL2 : L < 18446744073709551616 := by omega
    have hY2 : Y < 9223372036854775808 := by omega
    rw [hH, hL, hY]
    rw [hH, hY] at hlt
    have h := div64_1 H L Y w (by omega) (by omega) hL2 hY2
    rw [Int.natCast_ediv, ← hXe] at h
    exact h
/-- What ConvertAmount answers, off the cross rate and its code. -/
def cvR (r : Int × Int × Int) (a : Int) : Int × Int := if r.2.2 = 1 then (0, 1) else if amt a = false then (0, 2) else if r.2.2 ≠ 0 then (0, r.2.2) else nearR a r.1 r.2.1
theorem cross_bd {p q : Int × Int} (hp : 1 ≤ p.1 ∧ p.1 ≤ 1000000 ∧ 1 ≤ p.2 ∧ p.2 ≤ 1000000) (hq : 1 ≤ q.1 ∧ q.1 ≤ 1000000 ∧ 1 ≤ q.2 ∧ q.2 ≤ 1000000) :
    1 ≤ (crossL p q).1 ∧ (crossL p q).1 ≤ 1000000000000 ∧ 1 ≤ (crossL p q).2 ∧ (crossL p q).2 ≤ 1000000000000 := by
  obtain ⟨m1, m2⟩ := mul_bd hp.1 hp.2.1 hq.2.2.1 hq.2.2.2
  obtain ⟨m3, m4⟩ := mul_bd hp.2.2.1 hp.2.2.2 hq.1 hq.2.1
  unfold crossL
  generalize p.1 * q.2 = P at *
  generalize p.2 * q.1 = Q at *
  obtain ⟨X, rfl⟩ : ∃ X : Nat, P = X := ⟨P.toNat, by omega⟩
  obtain ⟨Y, rfl⟩ : ∃ Y : Nat, Q = Y := ⟨Q.toNat, by omega⟩
  simp only [Int.toNat_natCast]
  have hg : 0 < Nat.gcd X Y := Nat.gcd_pos_of_pos_left _ (by omega)
  have h1 := Nat.div_pos (Nat.le_of_dvd (by omega) (Nat.gcd_dvd_left X Y)) hg
  have h2 := Nat.div_pos (Nat.le_of_dvd (by omega) (Nat.gcd_dvd_right X Y)) hg
  have h3 := Nat.div_le_self X (Nat.gcd X Y)
  have h4 := Nat.div_le_self Y (Nat.gcd X Y)
  rw [← Int.natCast_ediv, ← Int.natCast_ediv]
  generalize X / Nat.gcd X Y = x at *
  generalize Y / Nat.gcd X Y = y at *
  omega
theorem crossS_bd {rs : List Rt} (ht : tabB rs = true) {f t : List UInt8} {day : Int} (h : (crossS rs f t day).2.2 = true) :
    1 ≤ (crossS rs f t day).1 ∧ (crossS rs f t day).1 ≤ 1000000000000 ∧ 1 ≤ (crossS rs f t day).2.1 ∧ (crossS rs f t day).2.1 ≤ 1000000000000 := by
  by_cases hb : 0 < (rateL f day rs).2 ∧ 0 < (rateL t day rs).2
  · have e : crossS rs f t day = ((crossL (rateL f day rs) (rateL t day rs)).1, (crossL (rateL f day rs) (rateL t day rs)).2, true) := if_pos hb
    obtain ⟨a1, a2, a3⟩ := rate_good ht hb.1
    obtain ⟨b1, b2, b3⟩ := rate_good ht hb.2
    rw [e]
    exact cross_bd ⟨a1, a2, by omega, a3⟩ ⟨b1, b2, by omega, b3⟩
  · have e : crossS rs f t day = (0, 0, false) := if_neg hb
    rw [e] at h; cases h
theorem crossR_k {rs : List Rt} {f t : List UInt8} {day : Int} : ((crossR rs f t day).2.2 = 0 ∧ cdO rs f t day true = 0 ∧ (crossS rs f t day).2.2 = true ∧ (crossR rs f t day).1 = (crossS rs f t day).1 ∧ (crossR rs f t day).2.1 = (crossS rs f t day).2.1) ∨
    ((crossR rs f t day).2.2 = 4 ∧ cdO rs f t day true = 0 ∧ (crossS rs f t day).2.2 = false) ∨ ((crossR rs f t day).2.2 = cdO rs f t day true ∧ cdO rs f t day true ≠ 0) := by
  by_cases h : cdO rs f t day true = 0
  · have e := crossR_b h
    rcases Bool.eq_false_or_eq_true (crossS rs f t day).2.2 with hs | hs
    · rw [if_pos hs] at e; exact .inl ⟨by rw [e], h, hs, by rw [e], by rw [e]⟩
    · rw [if_neg (by rw [hs]; exact Bool.false_ne_true)] at e; exact .inr (.inl ⟨by rw [e], h, hs⟩)
  · exact .inr (.inr ⟨by rw [crossR_a rfl h], h⟩)
theorem cdB_3 {bt bf bc bd ba : Bool} : (cdB bt bf bc bd ba = 1 ∧ cdB bt bf bc bd true = 1) ∨ (cdB bt bf bc bd ba = 2 ∧ ba = false ∧ cdB bt bf bc bd true ≠ 1) ∨ (cdB bt bf bc bd ba = 2 ∧ cdB bt bf bc bd true = 2 ∧ ba = true) ∨ (cdB bt bf bc bd ba = 0 ∧ ba = true ∧ cdB bt bf bc bd true = 0) := by
  revert bt bf bc bd ba; decide
theorem cv_a {rs : List Rt} {f t : List UInt8} {day a k : Int} (h : cdO rs f t day (amt a) = k) (hk : k ≠ 0) : cvR (crossR rs f t day) a = (0, k) := by
  have hc := @crossR_k rs f t day
  unfold cvR
  have h3 : (cdO rs f t day (amt a) = 1 ∧ cdO rs f t day true = 1) ∨ (cdO rs f t day (amt a) = 2 ∧ amt a = false ∧ cdO rs f t day true ≠ 1) ∨ (cdO rs f t day (amt a) = 2 ∧ cdO rs f t day true = 2 ∧ amt a = true) ∨ (cdO rs f t day (amt a) = 0 ∧ amt a = true ∧ cdO rs f t day true = 0) := cdB_3
  rcases h3 with ⟨h1, h2⟩ | ⟨h1, h2, h3⟩ | ⟨h1, h2, h3⟩ | ⟨h1, h2, h3⟩
  · rw [h1] at h; subst h
    have : (crossR rs f t day).2.2 = 1 := by omega
    rw [if_pos this]
  · rw [h1] at h; subst h
    have : (crossR rs f t day).2.2 ≠ 1 := by omega
    rw [if_neg this, if_pos h2]
  · rw [h1] at h; subst h
    have : (crossR rs f t day).2.2 = 2 := by omega
    rw [this, if_neg (by decide), if_neg (by rw [h3]; exact Bool.noConfusion), if_pos (by decide)]
  · omega
theorem cv_b {rs : List Rt} {f t : List UInt8} {day a : Int} (h : cdO rs f t day (amt a) = 0) : cvR (crossR rs f t day) a = if (crossS rs f t day).2.2 = true then nearR a (crossS rs f t day).1 (crossS rs f t day).2.1 else (0, 4) := by
  have hb := cdB_0 h
  have h0 : cdO rs f t day true = 0 := by rw [← hb.2.2.2.2]; exact h
  have hc := @crossR_k rs f t day
  unfold cvR
  rcases hc with ⟨c1, _, c3, c4, c5⟩ | ⟨c1, _, c3⟩ | ⟨_, c2⟩
  · rw [c1, if_neg (by decide), if_neg (by rw [hb.2.2.2.2]; exact Bool.noConfusion), if_neg (by decide), if_pos c3, c4, c5]
  · rw [c1, if_neg (by decide), if_neg (by rw [hb.2.2.2.2]; exact Bool.noConfusion), if_pos (by decide), if_neg (by rw [c3]; exact Bool.false_ne_true)]
  · exact absurd h0 c2

end Go.Proofs.Ytmeglhmlhdaacaa
