/- impl.ProportionOf and spec.ProportionOf give the nearest integer. -/
import Derived.Test.YthiegfcgbfhmmaaNear
namespace Go.Proofs.Ythiegfcgbfhmmaa
open Go.ChangeShapes Go.WideShapes Go.ChangeAt Go.RowKit
set_option linter.unusedVariables false

theorem nearest_up {x c : Int} (hx : 0 ≤ x) (hc : 1 ≤ c) (h : c ≤ 2 * (x % c)) : nearest x c = x / c + 1 := by
  have h1 := Int.emod_add_mul_ediv x c
  have h2 := Int.emod_lt_of_pos x (by omega : 0 < c)
  unfold nearest
  apply Int.le_antisymm
  · have : (2 * x + c) / (2 * c) < x / c + 2 := by
      apply Int.ediv_lt_of_lt_mul (by omega)
      have : (x / c + 2) * (2 * c) = 2 * (c * (x / c)) + 4 * c := by rw [Int.add_mul]; rw [show x / c * (2 * c) = 2 * (c * (x/c)) by rw [Int.mul_comm, Int.mul_assoc]]; omega
      omega
    omega
  · apply Int.le_ediv_of_mul_le (by omega)
    have : (x / c + 1) * (2 * c) = 2 * (c * (x / c)) + 2 * c := by rw [Int.add_mul]; rw [show x / c * (2 * c) = 2 * (c * (x/c)) by rw [Int.mul_comm, Int.mul_assoc]]; omega
    omega
theorem nearest_down {x c : Int} (hx : 0 ≤ x) (hc : 1 ≤ c) (h : 2 * (x % c) < c) : nearest x c = x / c := by
  have h1 := Int.emod_add_mul_ediv x c
  have h2 := Int.emod_nonneg x (by omega : c ≠ 0)
  unfold nearest
  apply Int.le_antisymm
  · have : (2 * x + c) / (2 * c) < x / c + 1 := by
      apply Int.ediv_lt_of_lt_mul (by omega)
      have : (x / c + 1) * (2 * c) = 2 * (c * (x / c)) + 2 * c := by rw [Int.add_mul]; rw [show x / c * (2 * c) = 2 * (c * (x/c)) by rw [Int.mul_comm, Int.mul_assoc]]; omega
      omega
    omega
  · apply Int.le_ediv_of_mul_le (by omega)
    have : (x / c) * (2 * c) = 2 * (c * (x / c)) := by rw [Int.mul_comm, Int.mul_assoc]
    omega
theorem mul_bd {a b : Int} (a0 : 0 ≤ a) (a1 : a ≤ 1000000000) (b0 : 0 ≤ b) (b1 : b ≤ 1000000000) : 0 ≤ a * b ∧ a * b ≤ 1000000000000000000 :=
  ⟨Int.mul_nonneg a0 b0, by have := Int.mul_le_mul a1 b1 b0 (by omega : (0 : Int) ≤ 1000000000); omega⟩

theorem l01Prop (a b c : Int) (w : World) (a0 : 0 ≤ a) (a1 : a ≤ 1000000000) (b0 : 0 ≤ b) (b1 : b ≤ 1000000000) (c0 : 1 ≤ c) (c1 : c ≤ 1000000000) :
    Calls Try.prog 75 #[.int .i64 a, .int .i64 b, .int .i64 c] w fun e w' => e = .returned (.int .i64 (nearest (a * b) c)) ∧ ∃ n, w' = w.drewN n := by
  obtain ⟨m0, m1⟩ := mul_bd a0 a1 b0 b1
  have q0 : 0 ≤ a * b / c := Int.ediv_nonneg m0 (by omega)
  have q1 : a * b / c ≤ 1000000000000000000 := Int.le_trans (Int.ediv_le_self _ m0) m1
  have r0 : 0 ≤ a * b % c := Int.emod_nonneg _ (by omega)
  have r1 : a * b % c < c := Int.emod_lt_of_pos _ (by omega)
  by_cases h : c ≤ 2 * (a * b % c)
  · have E := Lib.hid (nearest_up m0 c0 h)
    go_enter Try.func75, Try.ntmps75
    go_wp2_with fail
    go_quiet (fail)
    go_wp2_with fail
    go_ret
    exact ⟨by rw [E.out] <;> rfl, _, rfl⟩
  · have h : 2 * (a * b % c) < c := by omega
    have E := Lib.hid (nearest_down m0 c0 h)
    go_enter Try.func75, Try.ntmps75
    go_wp2_with fail
    go_quiet (fail)
    go_wp2_with fail
    go_ret
    exact ⟨by rw [E.out] <;> rfl, _, rfl⟩

/-- What ProportionOf answers: the number and the code. -/
def propR (a b c : Int) : Int × Int :=
  if amts [a, b, c] = true then if c = 0 then (0, 5) else if amt (nearest (a * b) c) = true then (nearest (a * b) c, 0) else (0, 3) else (0, 2)
theorem propR_bad {a b c : Int} (h : amts [a, b, c] = false) : propR a b c = (0, 2) := by simp [propR, h]
theorem propR_zero {a b c : Int} (h : amts [a, b, c] = true) (hc : c = 0) : propR a b c = (0, 5) := by unfold propR; rw [if_pos h, if_pos hc]
theorem propR_big {a b c : Int} (h : amts [a, b, c] = true) (hc : ¬ c = 0) (hn : amt (nearest (a * b) c) = false) : propR a b c = (0, 3) := by simp [propR, h, hc, hn]
theorem propR_ok {a b c : Int} (h : amts [a, b, c] = true) (hc : ¬ c = 0) (hn : amt (nearest (a * b) c) = true) : propR a b c = (nearest (a * b) c, 0) := by simp [propR, h, hc, hn]
theorem amts3 {a b c : Int} (h : amts [a, b, c] = true) : amt a = true ∧ amt b = true ∧ amt c = true := by simpa [amts] using h

theorem nearest_eq {a b c d e : Int} (h : d = 2 * (a * b) + c) (h' : e = 2 * c) : d / e = nearest (a * b) c := by subst h; subst h'; rfl

theorem propR_near {a b c : Int} (h : amts [a, b, c] = true) (hc : ¬ c = 0) : propR a b c = nearR a b c := by
  unfold propR nearR; rw [if_pos h, if_neg hc]
theorem amts3_no {a b c : Int} (h : amt a = false ∨ amt b = false ∨ amt c = false) : amts [a, b, c] = false := by
  rcases h with h | h | h <;> simp [amts, h]
theorem amts3_mk {a b c : Int} (ha : amt a = true) (hb : amt b = true) (hc : amt c = true) : amts [a, b, c] = true := by simp [amts, ha, hb, hc]

end Go.Proofs.Ythiegfcgbfhmmaa
