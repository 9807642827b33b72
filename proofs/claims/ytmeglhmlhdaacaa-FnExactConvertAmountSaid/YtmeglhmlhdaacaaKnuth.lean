/- Long division by two digits of 32 bits: plain numbers, no program. -/
import Derived.Test.YtmeglhmlhdaacaaBase
namespace Go.Proofs.Ytmeglhmlhdaacaa

/-- The divisor y is two digits a, b, its first bit set; u is less than it; d is the next digit. -/
structure Dig (u d y a b : Nat) : Prop where
  hy : y = a * 4294967296 + b
  hb : b < 4294967296
  ha : 2147483648 ≤ a
  ha' : a < 4294967296
  hu : u < y
  hd : d < 4294967296
theorem dig_eq {u d y a b q r : Nat} (hy : y = a * 4294967296 + b) (hr : r + q * a = u) : ∃ P, q * y = P + q * b ∧ u * 4294967296 + d = r * 4294967296 + P + d := by
  subst hy; subst hr
  refine ⟨q * a * 4294967296, ?_, ?_⟩
  · rw [Nat.mul_add, Nat.mul_assoc]
  · rw [Nat.add_mul]
/-- What holds of the digit that is tried, and of what it leaves. -/
structure Try (u d y a b q r : Nat) : Prop where
  eq : r + q * a = u
  lo : (u * 4294967296 + d) / y ≤ q
  hi : q ≤ 4294967297
  lt : r < 4294967296
section
variable {u d y a b q r : Nat}
theorem Dig.ypos (h : Dig u d y a b) : 0 < y := by have := h.hy; have := h.ha; omega
theorem Dig.lty (h : Dig u d y a b) : (u * 4294967296 + d) / y < 4294967296 := by
  rw [Nat.div_lt_iff_lt_mul h.ypos]
  have := h.hu; have := h.hd; omega
theorem Dig.start (h : Dig u d y a b) : Try u d y a b (u / a) (u % a) := by
  have ha := h.ha
  have e : u % a + u / a * a = u := by rw [Nat.mul_comm, Nat.mod_add_div]
  have hm : u % a < a := Nat.mod_lt _ (by omega)
  refine ⟨e, ?_, ?_, by have := h.ha'; omega⟩
  · apply Nat.le_of_lt_succ
    rw [Nat.div_lt_iff_lt_mul h.ypos]
    obtain ⟨P, h1, h2⟩ := dig_eq (d := d) h.hy e
    have h3 : (u / a + 1) * y = u / a * y + y := Nat.succ_mul _ _
    have hy := h.hy; have hd := h.hd
    show u * 4294967296 + d < (u / a + 1) * y
    rw [h3, h1, h2]
    omega
  · have : u / a < 4294967298 := by
      rw [Nat.div_lt_iff_lt_mul (by omega)]
      have hu := h.hu; have hy := h.hy; have hb := h.hb
      omega
    omega
/-- It is too great: the next one. -/
theorem Try.step (h : Dig u d y a b) (t : Try u d y a b q r) (hc : 4294967296 ≤ q ∨ 4294967296 * r + d < q * b) :
    1 ≤ q ∧ (r + a) + (q - 1) * a = u ∧ (u * 4294967296 + d) / y ≤ q - 1 ∧ q - 1 ≤ 4294967296 := by
  have hl := h.lty
  have hlt : (u * 4294967296 + d) / y < q := by
    rcases hc with hc | hc
    · omega
    · rw [Nat.div_lt_iff_lt_mul h.ypos]
      obtain ⟨P, h1, h2⟩ := dig_eq (d := d) h.hy t.eq
      rw [h1, h2]; omega
  have hq : 1 ≤ q := Nat.lt_of_le_of_lt (Nat.zero_le _) hlt
  obtain ⟨k, rfl⟩ : ∃ k, q = k + 1 := ⟨q - 1, by omega⟩
  have e := t.eq
  rw [Nat.succ_mul] at e
  have := t.hi
  exact ⟨hq, by simp only [Nat.add_sub_cancel]; omega, by omega, by omega⟩
theorem Try.stop (h : Dig u d y a b) (t : Try u d y a b q r) (h1 : q < 4294967296) (h2 : q * b ≤ 4294967296 * r + d) : q = (u * 4294967296 + d) / y := by
  apply Nat.le_antisymm _ t.lo
  rw [Nat.le_div_iff_mul_le h.ypos]
  obtain ⟨P, h3, h4⟩ := dig_eq (d := d) h.hy t.eq
  rw [h3, h4]; omega
theorem Dig.brk (h : Dig u d y a b) (e : r + q * a = u) (lo : (u * 4294967296 + d) / y ≤ q) (hq : q ≤ 4294967296) (hr : 4294967296 ≤ r) : q = (u * 4294967296 + d) / y := by
  apply Nat.le_antisymm _ lo
  rw [Nat.le_div_iff_mul_le h.ypos]
  obtain ⟨P, h3, h4⟩ := dig_eq (d := d) h.hy e
  rw [h3, h4]
  have hb := h.hb
  have : q * b ≤ 4294967296 * 4294967295 := Nat.mul_le_mul hq (by omega)
  omega
theorem Try.prod (h : Dig u d y a b) (t : Try u d y a b q r) : q * b ≤ 18446744073709551615 ∧ 4294967296 * r + d ≤ 18446744073709551615 ∧ 0 ≤ q * b := by
  have hb := h.hb; have hd := h.hd; have := t.lt
  have : q * b ≤ 4294967297 * 4294967295 := Nat.mul_le_mul t.hi (by omega)
  exact ⟨by omega, by omega, by omega⟩
/-- The rest behind a digit. -/
theorem Dig.rest (h : Dig u d y a b) (hq : q = (u * 4294967296 + d) / y) : q * y ≤ u * 4294967296 + d ∧ u * 4294967296 + d - q * y < y ∧ u * 4294967296 + d - q * y = (u * 4294967296 + d) % y := by
  subst hq
  have h1 := Nat.div_add_mod (u * 4294967296 + d) y
  have h2 := Nat.mod_lt (u * 4294967296 + d) h.ypos
  rw [Nat.mul_comm] at h1
  omega
end
theorem two_digits' {u1 d1 d0 y q1 q0 m k : Nat} (hy : 0 < y) (h1 : y * q1 + m = u1 * 4294967296 + d1) (h2 : y * q0 + k = m * 4294967296 + d0) (h3 : k < y) :
    (u1 * 18446744073709551616 + (d1 * 4294967296 + d0)) / y = q1 * 4294967296 + q0 := by
  have e : u1 * 18446744073709551616 + (d1 * 4294967296 + d0) = k + (q1 * 4294967296 + q0) * y := by
    have e1 : (q1 * 4294967296 + q0) * y = y * q1 * 4294967296 + y * q0 := by rw [Nat.mul_comm, Nat.mul_add, Nat.mul_assoc]
    omega
  rw [e, Nat.add_mul_div_right _ _ hy, Nat.div_eq_of_lt h3, Nat.zero_add]
/-- Two digits give the quotient. -/
theorem two_digits {u1 d1 d0 y q1 q0 : Nat} (hy : 0 < y) (hq1 : q1 = (u1 * 4294967296 + d1) / y) (hq0 : q0 = ((u1 * 4294967296 + d1) % y * 4294967296 + d0) / y) :
    (u1 * 18446744073709551616 + (d1 * 4294967296 + d0)) / y = q1 * 4294967296 + q0 := by
  have h1 := Nat.div_add_mod (u1 * 4294967296 + d1) y
  have h2 := Nat.div_add_mod ((u1 * 4294967296 + d1) % y * 4294967296 + d0) y
  have h3 := Nat.mod_lt ((u1 * 4294967296 + d1) % y * 4294967296 + d0) hy
  rw [← hq1] at h1
  rw [← hq0] at h2
  exact two_digits' hy h1 h2 h3
/-- The product with the digit, in 64 bits, gives the rest all the same. -/
theorem wrap_rest {n p r M : Nat} (hM : 0 < M) (h : n = p + r) (hr : r < M) : ((n : Int) % M - (p : Int) % M) % M = r := by
  subst h
  rw [← Int.sub_emod]
  rw [show ((p + r : Nat) : Int) - (p : Int) = (r : Int) by omega]
  exact Int.emod_eq_of_lt (by omega) (by omega)
end Go.Proofs.Ytmeglhmlhdaacaa
