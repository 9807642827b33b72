/- The numbers of the long division: shifted divisor and dividend. Plain numbers. -/
import Derived.Test.YtmeglhmlhdaacaaKnuth
import Derived.Lib.BitFns
namespace Go.Proofs.Ytmeglhmlhdaacaa

theorem aux_spec : ∀ (f x : Nat), x < 2 ^ f → x < 2 ^ Lib.bitLenAux f x ∧ (0 < x → 1 ≤ Lib.bitLenAux f x ∧ 2 ^ (Lib.bitLenAux f x - 1) ≤ x) := by
  intro f
  induction f with
  | zero => intro x h; simp at h; subst h; simp [Lib.bitLenAux]
  | succ f ih =>
    intro x h
    by_cases h0 : x = 0
    · subst h0; simp [Lib.bitLenAux]
    · obtain ⟨h1, h2⟩ := ih (x / 2) (by rw [Nat.pow_succ] at h; omega)
      rw [Lib.bitLenAux, if_neg h0]
      have e : 2 ^ (1 + Lib.bitLenAux f (x / 2)) = 2 * 2 ^ Lib.bitLenAux f (x / 2) := by rw [Nat.add_comm, Nat.pow_succ, Nat.mul_comm]
      refine ⟨by rw [e]; omega, fun _ => ⟨by omega, ?_⟩⟩
      rw [show 1 + Lib.bitLenAux f (x / 2) - 1 = Lib.bitLenAux f (x / 2) by omega]
      by_cases hx : x / 2 = 0
      · rw [hx]
        have : Lib.bitLenAux f 0 = 0 := by cases f <;> simp [Lib.bitLenAux]
        rw [this]; simp; omega
      · obtain ⟨h3, h4⟩ := h2 (by omega)
        have e2 : 2 ^ Lib.bitLenAux f (x / 2) = 2 * 2 ^ (Lib.bitLenAux f (x / 2) - 1) := by
          rw [← Nat.pow_succ']; congr 1; omega
        omega
/-- How far the divisor is shifted. -/
structure Sh (y s : Nat) : Prop where
  lo : 9223372036854775808 ≤ y * 2 ^ s
  hi : y * 2 ^ s < 18446744073709551616
  one : 1 ≤ s
  le : s ≤ 63
theorem sh_of {y : Nat} (h0 : 0 < y) (h1 : y < 9223372036854775808) : Sh y (64 - Lib.bitLen y) ∧ Lib.bitLen y ≤ 63 ∧ 1 ≤ Lib.bitLen y := by
  obtain ⟨ha, hb⟩ := aux_spec 64 y (by omega)
  have hL := Lib.bitLen_le y 63 (by omega) (by omega)
  change y < 2 ^ Lib.bitLen y at ha
  change 0 < y → 1 ≤ Lib.bitLen y ∧ 2 ^ (Lib.bitLen y - 1) ≤ y at hb
  obtain ⟨h2, h3⟩ := hb h0
  generalize Lib.bitLen y = n at *
  have e : (2 : Nat) ^ n * 2 ^ (64 - n) = 18446744073709551616 := by rw [← Nat.pow_add, show n + (64 - n) = 64 by omega]
  have e2 : (2 : Nat) ^ (n - 1) * 2 ^ (64 - n) = 9223372036854775808 := by rw [← Nat.pow_add, show n - 1 + (64 - n) = 63 by omega]
  have hp : 0 < 2 ^ (64 - n) := Nat.pow_pos (by decide)
  refine ⟨⟨?_, ?_, by omega, by omega⟩, by omega, h2⟩
  · rw [← e2]; exact Nat.mul_le_mul_right _ h3
  · rw [← e]; exact (Nat.mul_lt_mul_right hp).2 ha
/-- What the two halves of the shifted dividend are good for. -/
theorem shifted {hi lo y s : Nat} (hs : Sh y s) (h : hi < y) (hl : lo < 18446744073709551616) :
    hi * 2 ^ s < 18446744073709551616 ∧ lo / 2 ^ (64 - s) < 2 ^ s ∧ 2 ^ s ≤ 9223372036854775808 ∧ hi * 2 ^ s + lo / 2 ^ (64 - s) < y * 2 ^ s ∧
    ((hi * 2 ^ s + lo / 2 ^ (64 - s)) * 18446744073709551616 + lo * 2 ^ s % 18446744073709551616) / (y * 2 ^ s) = (hi * 18446744073709551616 + lo) / y := by
  have e : (2 : Nat) ^ s * 2 ^ (64 - s) = 18446744073709551616 := by have := hs.le; rw [← Nat.pow_add, show s + (64 - s) = 64 by omega]
  have hT : 0 < 2 ^ s := Nat.pow_pos (by decide)
  have hU : 0 < 2 ^ (64 - s) := Nat.pow_pos (by decide)
  have hTle : 2 ^ s ≤ 9223372036854775808 := by
    have := Nat.pow_le_pow_right (show 0 < 2 by decide) hs.le
    simpa using this
  have hY := hs.hi
  generalize 2 ^ s = T at *
  generalize 2 ^ (64 - s) = U at *
  have h1 : (hi + 1) * T ≤ y * T := Nat.mul_le_mul_right _ h
  rw [Nat.succ_mul] at h1
  have hm : lo / U < T := by rw [Nat.div_lt_iff_lt_mul hU]; rw [e]; exact hl
  have hlm := Nat.div_add_mod lo U
  have hlr := Nat.mod_lt lo hU
  have hr : lo * T % 18446744073709551616 = lo % U * T := by
    have e3 : lo * T = lo % U * T + lo / U * 18446744073709551616 := by
      conv => lhs; rw [← hlm]
      rw [Nat.add_mul, ← e, Nat.mul_comm U, Nat.mul_assoc, Nat.mul_comm U T]
      omega
    have e4 : lo % U * T < 18446744073709551616 := by rw [← e, Nat.mul_comm T U]; exact (Nat.mul_lt_mul_right hT).2 hlr
    rw [e3, Nat.add_mul_mod_self_right, Nat.mod_eq_of_lt e4]
  refine ⟨by omega, hm, hTle, by omega, ?_⟩
  rw [hr]
  have e5 : (hi * T + lo / U) * 18446744073709551616 + lo % U * T = (hi * 18446744073709551616 + lo) * T := by
    conv => rhs; rw [← hlm]
    rw [Nat.add_mul, Nat.add_mul, Nat.add_mul, Nat.mul_right_comm hi T, Nat.mul_comm U, Nat.mul_assoc (lo / U) U T, Nat.mul_comm U T, e]
    omega
  rw [e5, Nat.mul_div_mul_right _ _ hT]
theorem dig_one {u d Y : Nat} (hl : 9223372036854775808 ≤ Y) (hh : Y < 18446744073709551616) (hu : u < Y) (hd : d < 4294967296) : Dig u d Y (Y / 4294967296) (Y % 4294967296) :=
  ⟨by omega, by omega, by omega, by omega, hu, hd⟩
end Go.Proofs.Ytmeglhmlhdaacaa
