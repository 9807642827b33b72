/- impl.nearestAmount where the product fits 64 bits. -/
import Derived.Test.YthiegfcgbfhmmaaInts
import Derived.Test.YthiegfcgbfhmmaaShelf
import Derived.Shelf.Spec.BitsCarry
import Derived.Deep.QuietTactic
import Derived.BigQuiet
namespace Go.Proofs.Ythiegfcgbfhmmaa
open Go.ChangeShapes Go.WideShapes Go.ChangeAt Go.RowKit
set_option linter.unusedVariables false

theorem mul64 (x y : Int) (hx : 0 ≤ x) (hx' : x ≤ 18446744073709551615) (hy : 0 ≤ y) (hy' : y ≤ 18446744073709551615) (w : World) :
    Calls Try.prog 70 #[.int .u64 x, .int .u64 y] w fun e w' => e = .returned (.tuple #[.int .u64 (x * y / 18446744073709551616), .int .u64 (x * y % 18446744073709551616)]) ∧ w = w' := by
  obtain ⟨x, rfl⟩ := Int.eq_ofNat_of_zero_le hx
  obtain ⟨y, rfl⟩ := Int.eq_ofNat_of_zero_le hy
  refine (Try.bits_Mul64 x y (by omega) (by omega) w).mono ?_
  rintro e w' ⟨rfl, rfl⟩
  exact ⟨by simp, rfl⟩
def lays25_ren : Go.Shelf.Ren := ⟨fun | 25 => 71 | n => n, fun | 22 => 40 | n => n, fun | n => n⟩
theorem lays25 : Lays7.n25 Try.prog lays25_ren := {
  mixed := by kernel_rfl
  f25 := Try.func71.trans (congrArg some (by kernel_rfl))
  t22 := Try.underlying40
  a22 := fun _ => by kernel_rfl
  z22 := fun _ => by kernel_rfl
  v22 := fun _ => by kernel_rfl
  i22 := by kernel_rfl }
theorem add64 (x y : Int) (hx : 0 ≤ x) (hy : 0 ≤ y) (w : World) : (callFunc 71 #[.int .u64 x, .int .u64 y, .int .u64 0]).run Try.prog w =
    .ok (.value (.tuple #[.int .u64 ((x + y) % 18446744073709551616), .int .u64 ((x + y) / 18446744073709551616)])) w := by
  obtain ⟨x, rfl⟩ := Int.eq_ofNat_of_zero_le hx
  obtain ⟨y, rfl⟩ := Int.eq_ofNat_of_zero_le hy
  refine (Any7.bits_Add64 lays25 x y 0 (by omega) w).trans ?_
  congr 5 <;> omega
/-- The quotient; whatever the remainder. -/
def Quot64 (w : World) (q : Int) (e : Ending) (w' : World) : Prop := (∃ r, e = .returned (.tuple #[.int .u64 q, .int .u64 r])) ∧ ∃ n, w' = w.drewN n
theorem div64_0 (l y : Int) (h0 : 0 ≤ l) (h1 : l ≤ 18446744073709551615) (y0 : 1 ≤ y) (y1 : y ≤ 18446744073709551615) (w : World) :
    Calls Try.prog 72 #[.int .u64 0, .int .u64 l, .int .u64 y] w (Quot64 w (l / y)) := by
  have hy : (y == 0) = false := by rw [beq_eq_false_iff_ne]; omega
  go_enter Try.func72, Try.ntmps72
  go_wp2_with fail
  go_quiet (fail)
  go_wp2_with fail
  go_ret2
  exact ⟨⟨_, rfl⟩, _, rfl⟩

def nearest (x c : Int) : Int := (2 * x + c) / (2 * c)
/-- What nearestAmount answers. -/
def nearR (a b c : Int) : Int × Int := if amt (nearest (a * b) c) = true then (nearest (a * b) c, 0) else (0, 3)
theorem nearR_no {a b c : Int} (h : amt (nearest (a * b) c) = false) : nearR a b c = (0, 3) := by simp [nearR, h]
theorem nearR_ok {a b c : Int} (h : amt (nearest (a * b) c) = true) : nearR a b c = (nearest (a * b) c, 0) := by simp [nearR, h]
theorem near_nn {x c : Int} (hx : 0 ≤ x) (hc : 1 ≤ c) : 0 ≤ nearest x c := Int.ediv_nonneg (by omega) (by omega)
theorem split_sum {P c H L L2 k X : Int} (h1 : H = P / 18446744073709551616) (h2 : L = P % 18446744073709551616) (h3 : L2 = (L + c) % 18446744073709551616) (h4 : k = (L + c) / 18446744073709551616) (hX : X = P + c) :
    H + k = X / 18446744073709551616 ∧ L2 = X % 18446744073709551616 := by subst h1 h2 h3 h4 hX; omega
set_option maxHeartbeats 1000000 in
theorem near_of (a b c : Int) (w : World) (a0 : 0 ≤ a) (a1 : a ≤ 1000000000) (b0 : 0 ≤ b) (b1 : b ≤ 1000000000000) (c0 : 1 ≤ c) (c1 : c ≤ 1000000000000)
    (HD : (2 * (a * b) + c) / 18446744073709551616 < 2 * c → ∀ w, Calls Try.prog 72 #[.int .u64 ((2 * (a * b) + c) / 18446744073709551616), .int .u64 ((2 * (a * b) + c) % 18446744073709551616), .int .u64 (2 * c)] w (Quot64 w (nearest (a * b) c))) :
    Calls Try.prog 44 #[.int .i64 a, .int .i64 b, .int .i64 c] w fun e w' => e = .returned (.tuple #[.int .i64 (nearR a b c).1, .int .i64 (nearR a b c).2]) ∧ ∃ n, w' = w.drewN n := by
  have m0 : 0 ≤ a * b := Int.mul_nonneg a0 b0
  have m1 : a * b ≤ 1000000000 * 1000000000000 := Int.mul_le_mul a1 b1 b0 (by omega)
  have hM := mul64 (2 * a) b (by omega) (by omega) b0 (by omega)
  rw [Int.mul_assoc] at hM
  have hnn := near_nn m0 c0
  have hlim : ¬ (2 * (a * b) + c) / 18446744073709551616 < 2 * c → amt (nearest (a * b) c) = false := by
    intro h
    rw [amt_no]; right
    unfold nearest
    have h1 : 2 * c * 18446744073709551616 ≤ 2 * (a * b) + c := by omega
    have h2 : 18446744073709551616 ≤ (2 * (a * b) + c) / (2 * c) := Int.le_ediv_of_mul_le (by omega) (by rw [Int.mul_comm]; exact h1)
    omega
  obtain ⟨X, hX⟩ : ∃ X, X = 2 * (a * b) + c := ⟨_, rfl⟩
  obtain ⟨P, hP⟩ : ∃ P, P = 2 * (a * b) := ⟨_, rfl⟩
  obtain ⟨H, h1⟩ : ∃ H, H = P / 18446744073709551616 := ⟨_, rfl⟩
  obtain ⟨L, h2⟩ : ∃ L, L = P % 18446744073709551616 := ⟨_, rfl⟩
  obtain ⟨L2, h3⟩ : ∃ L2, L2 = (L + c) % 18446744073709551616 := ⟨_, rfl⟩
  obtain ⟨k, h4⟩ : ∃ k, k = (L + c) / 18446744073709551616 := ⟨_, rfl⟩
  obtain ⟨e1, e2⟩ := split_sum (X := X) h1 h2 h3 h4 (by rw [hX, hP])
  have hA := add64 L c (by omega) (by omega)
  rw [← hX, ← e1, ← e2] at HD
  rw [← hX, ← e1] at hlim
  rw [← hP, ← h1, ← h2] at hM
  rw [← h3, ← h4] at hA
  have HM := Lib.hid hM
  have HD := Lib.hid HD
  have g0 : 0 ≤ H := by omega
  have g1 : H ≤ 1000000000000 := by omega
  have g2 : 0 ≤ L := by omega
  have g3 : L ≤ 18446744073709551615 := by omega
  have g4 : 0 ≤ L2 := by omega
  have g5 : L2 ≤ 18446744073709551615 := by omega
  have g6 : 0 ≤ k := by omega
  have g7 : k ≤ 1 := by omega
  have HL := Lib.hid hlim
  have HN := Lib.hid (@nearR_no a b c)
  have HO := Lib.hid (@nearR_ok a b c)
  clear hM hX hP h1 h2 h3 h4 e1 e2 m0 m1 hlim
  generalize nearest (a * b) c = N at *
  generalize nearR a b c = R at *
  by_cases hge : H + k < 2 * c
  · have HD := Lib.hid (HD.out hge)
    rcases Bool.eq_false_or_eq_true (amt N) with hn | hn
    · have E := Lib.hid (HO.out hn)
      have hb := amt_iff.1 hn
      obtain ⟨n0, n1⟩ := hb
      clear HL HN HO hn
      go_enter Try.func44, Try.ntmps44
      go_wp2_with (first | (go_at_call 70; refine (HM.out _).mono ?_; rintro e w' ⟨rfl, rfl⟩) | (go_at_call 72; refine (HD.out _).mono ?_; rintro e w' ⟨⟨r, rfl⟩, n, rfl⟩))
      go_ret2
      exact ⟨by rw [E.out] <;> rfl, _, rfl⟩
    · have E := Lib.hid (HN.out hn)
      have hb := amt_no.1 hn
      have n1 : 1000000000 < N := by omega
      clear HL HN HO hn hb
      go_enter Try.func44, Try.ntmps44
      go_wp2_with (first | (go_at_call 70; refine (HM.out _).mono ?_; rintro e w' ⟨rfl, rfl⟩) | (go_at_call 72; refine (HD.out _).mono ?_; rintro e w' ⟨⟨r, rfl⟩, n, rfl⟩))
      go_ret2
      exact ⟨by rw [E.out] <;> rfl, _, rfl⟩
  · have E := Lib.hid (HN.out (HL.out hge))
    clear HL HN HO HD
    go_enter Try.func44, Try.ntmps44
    go_wp2_with (first | (go_at_call 70; refine (HM.out _).mono ?_; rintro e w' ⟨rfl, rfl⟩))
    go_ret2
    exact ⟨by rw [E.out] <;> rfl, 0, rfl⟩
theorem near_small (a b c : Int) (w : World) (a0 : 0 ≤ a) (a1 : a ≤ 1000000000) (b0 : 0 ≤ b) (b1 : b ≤ 1000000000) (c0 : 1 ≤ c) (c1 : c ≤ 1000000000) :
    Calls Try.prog 44 #[.int .i64 a, .int .i64 b, .int .i64 c] w fun e w' => e = .returned (.tuple #[.int .i64 (nearR a b c).1, .int .i64 (nearR a b c).2]) ∧ ∃ n, w' = w.drewN n := by
  refine near_of a b c w a0 a1 b0 (by omega) c0 (by omega) (fun _ w => ?_)
  have m0 : 0 ≤ a * b := Int.mul_nonneg a0 b0
  have m1 : a * b ≤ 1000000000 * 1000000000 := Int.mul_le_mul a1 b1 b0 (by omega)
  rw [show (2 * (a * b) + c) / 18446744073709551616 = 0 by omega, show (2 * (a * b) + c) % 18446744073709551616 = 2 * (a * b) + c by omega]
  exact div64_0 _ _ (by omega) (by omega) (by omega) (by omega) w
end Go.Proofs.Ythiegfcgbfhmmaa
