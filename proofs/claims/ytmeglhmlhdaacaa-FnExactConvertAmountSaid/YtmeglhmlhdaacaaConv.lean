/- spec.l03Convert: bit by bit. -/
import Derived.Test.YtmeglhmlhdaacaaNear
namespace Go.Proofs.Ytmeglhmlhdaacaa
open Go.ChangeShapes Go.WideShapes Go.ChangeAt Go.RowKit
set_option linter.unusedVariables false

theorem bit_step (a n : Nat) : a / 2 ^ n = 2 * (a / 2 ^ (n + 1)) + a / 2 ^ n % 2 := by
  rw [Nat.pow_succ, ← Nat.div_div_eq_div_mul]; omega
/-- The nearest integer off whole part, quotient and rest. -/
theorem near_parts {a b c whole rest q r : Nat} (hc : 0 < c) (hb : b = whole * c + rest) (h : q * c + r = a * rest) (hr : r < c) :
    nearest ((a : Int) * b) c = ((a * whole + (if c ≤ 2 * r then q + 1 else q) : Nat) : Int) := by
  unfold nearest
  have e : 2 * ((a : Int) * b) + c = ((2 * (a * b) + c : Nat) : Int) := by push_cast; rfl
  have e2 : 2 * (c : Int) = ((2 * c : Nat) : Int) := by push_cast; rfl
  rw [e, e2, ← Int.natCast_ediv]
  congr 1
  have hab : a * b = (a * whole + q) * c + r := by
    rw [hb, Nat.mul_add, ← h, ← Nat.mul_assoc, Nat.add_mul]; omega
  rw [hab]
  apply Nat.div_eq_of_lt_le
  · split <;> rename_i hs
    · have : (a * whole + (q + 1)) * (2 * c) = 2 * ((a * whole + q) * c) + 2 * c := by rw [← Nat.add_assoc, Nat.add_mul _ 1, Nat.mul_left_comm, Nat.one_mul]
      omega
    · have : (a * whole + q) * (2 * c) = 2 * ((a * whole + q) * c) := Nat.mul_left_comm _ _ _
      omega
  · split <;> rename_i hs
    · have : (a * whole + (q + 1) + 1) * (2 * c) = 2 * ((a * whole + q) * c) + 4 * c := by
        rw [show a * whole + (q + 1) + 1 = (a * whole + q) + 2 by omega, Nat.add_mul _ 2, Nat.mul_left_comm]; omega
      omega
    · have : (a * whole + q + 1) * (2 * c) = 2 * ((a * whole + q) * c) + 2 * c := by rw [Nat.add_mul _ 1, Nat.mul_left_comm, Nat.one_mul]
      omega
theorem near_big {a b c whole rest : Nat} (hc : 0 < c) (hb : b = whole * c + rest) (h : 1000000000 < a * whole) : amt (nearest ((a : Int) * b) c) = false := by
  rw [amt_no]; right
  have h1 : whole * c ≤ b := by omega
  have h2 : a * (whole * c) ≤ a * b := Nat.mul_le_mul_left _ h1
  rw [← Nat.mul_assoc] at h2
  have h3 : 1000000001 * c ≤ a * whole * c := Nat.mul_le_mul_right _ (by omega)
  have h4 : ((1000000001 * c : Nat) : Int) ≤ ((a * b : Nat) : Int) := Int.ofNat_le.2 (Nat.le_trans h3 h2)
  rw [Int.natCast_mul, Int.natCast_mul] at h4
  unfold nearest
  have : (1000000001 : Int) ≤ (2 * ((a : Int) * b) + c) / (2 * c) := Int.le_ediv_of_mul_le (by omega) (by omega)
  omega
/-- A quotient stays below its factor. -/
theorem q_bd {q c r A rest : Nat} (h : q * c + r = A * rest) (hr : rest < c) : q ≤ A := by
  rcases Nat.lt_or_ge A q with hlt | hge
  · have h1 : (A + 1) * c ≤ q * c := Nat.mul_le_mul_right _ hlt
    have h2 : A * rest ≤ A * c := Nat.mul_le_mul_left _ (by omega)
    rw [Nat.add_mul] at h1
    omega
  · exact hge

theorem conv_end {N v : Int} (h : v = N) : (amt N = true ∧ v = N) ∨ (amt N = false ∧ amt v = false) := by
  subst h
  rcases Bool.eq_false_or_eq_true (amt v) with e | e
  · exact .inl ⟨e, rfl⟩
  · exact .inr ⟨e, e⟩
set_option maxRecDepth 100000 in
set_option maxHeartbeats 4000000 in
theorem l03Convert_s (a b c : Nat) (w : World) (ha : a ≤ 1000000000) (hb : b ≤ 1000000000000) (hc0 : 1 ≤ c) (hc : c ≤ 1000000000000) :
    Calls Try.prog 87 #[.int .i64 a, .int .i64 b, .int .i64 c] w fun e w' => ∃ v, e = .returned (.int .i64 v) ∧ Below w.heap.size w w' ∧
      ((amt (nearest ((a : Int) * b) c) = true ∧ v = nearest ((a : Int) * b) c) ∨ (amt (nearest ((a : Int) * b) c) = false ∧ amt v = false)) := by
  obtain ⟨whole, hw⟩ : ∃ x, x = b / c := ⟨_, rfl⟩
  obtain ⟨rest, hrs⟩ : ∃ x, x = b % c := ⟨_, rfl⟩
  have hbc : b = whole * c + rest := by rw [hw, hrs, Nat.mul_comm]; exact (Nat.div_add_mod b c).symm
  have hrc : rest < c := by rw [hrs]; exact Nat.mod_lt _ (by omega)
  have hwb : whole ≤ b := by rw [hw]; exact Nat.div_le_self _ _
  have e1 : (b : Int) / (c : Int) = (whole : Int) := by rw [hw, Int.natCast_ediv]
  have e2 : (b : Int) % (c : Int) = (rest : Int) := by rw [hrs, Int.natCast_emod]
  have hz : ((c : Int) == 0) = false := by rw [beq_eq_false_iff_ne]; omega
  have hz2 : ((c : Int) == -1) = false := by rw [beq_eq_false_iff_ne]; omega
  have HB := Lib.hid (fun h => near_big (a := a) (by omega : 0 < c) hbc h)
  have HP := Lib.hid (fun q r (h : q * c + r = a * rest) hr => near_parts (a := a) (by omega : 0 < c) hbc h hr)
  generalize nearest ((a : Int) * b) c = N at *
  clear hw hrs hbc
  go_enter Try.func87, Try.ntmps87
  go_wp2_with fail
  go_quiet (fail)
  rw [e2]
  have hbd := below_drewN w nq
  generalize w.drewN nq = w1 at *
  clear e1 e2 hz hz2
  have hw3 : whole = 0 ∨ (0 < whole ∧ 1000000000 / whole < a) ∨ (0 < whole ∧ ¬ 1000000000 / whole < a) := by omega
  have hM : whole = 0 ∨ (0 < whole ∧ ¬ 1000000000 / whole < a) → a * whole ≤ 1000000000 := by
    rintro (h | ⟨h1, h2⟩)
    · subst h; omega
    · rw [Nat.div_lt_iff_lt_mul h1] at h2; omega
  have hM2 : 0 < whole ∧ 1000000000 / whole < a → 1000000000 < a * whole := by
    rintro ⟨h1, h2⟩
    rwa [Nat.div_lt_iff_lt_mul h1] at h2
  obtain ⟨M, hMe⟩ : ∃ M, M = a * whole := ⟨_, rfl⟩
  have e5 : (a : Int) * (whole : Int) = (M : Int) := by rw [hMe, Int.natCast_mul]
  rw [← hMe] at hM hM2 HP HB
  have e4 : (1000000000 : Int) / (whole : Int) = ((1000000000 / whole : Nat) : Int) := by rw [Int.natCast_ediv]; rfl
  have hwf : (0 < whole ∧ 1000000000 / whole < a) ∨ ¬ (0 < whole ∧ 1000000000 / whole < a) := Decidable.em _
  rcases hwf with hbig | hno
  · obtain ⟨h0, h1⟩ := hbig
    have E := Lib.hid (HB.out (hM2 ⟨h0, h1⟩))
    have d1 : decide (0 < (whole : Int)) = true := by simp; omega
    have hz : ((whole : Int) == 0) = false := by rw [beq_eq_false_iff_ne]; omega
    have hz2 : ((whole : Int) == -1) = false := by rw [beq_eq_false_iff_ne]; omega
    generalize 1000000000 / whole = Q at *
    clear hM hM2 HB HP hMe e5 hwb hw3
    go_wp2_with fail
    go_ret
    exact ⟨_, rfl, hbd, .inr ⟨E.out, by decide⟩⟩
  have hM : M ≤ 1000000000 := hM (by omega)
  have hM0 : whole = 0 → M = 0 := fun h => by rw [hMe, h, Nat.mul_zero]
  have hh : (whole = 0 ∧ M = 0 ∧ decide (0 < (whole : Int)) = false) ∨ (0 < whole ∧ decide (0 < (whole : Int)) = true ∧ ((whole : Int) == 0) = false ∧ ((whole : Int) == -1) = false ∧ ¬ 1000000000 / whole < a) := by
    rcases Nat.eq_zero_or_pos whole with h | h
    · exact .inl ⟨h, hM0 h, by simp; omega⟩
    · exact .inr ⟨h, by simp; omega, by rw [beq_eq_false_iff_ne]; omega, by rw [beq_eq_false_iff_ne]; omega, fun h2 => hno ⟨h, h2⟩⟩
  clear hM2 HB hMe hwb hno hw3 hM0
  rcases hh with ⟨h0, rfl, d1⟩ | ⟨h0, d1, hz, hz2, h1⟩
  all_goals
    (try generalize 1000000000 / whole = Q at *)
    go_wp2_with fail
    go_loopw [10, 11, 12] (fun x y z wr => ∃ n q r B : Nat, x = .int .i64 q ∧ y = .int .i64 r ∧ z = .int .i64 B ∧ n ≤ 31 ∧ Hid (B = 2 ^ n / 2) ∧ Hid (q * c + r = a / 2 ^ n * rest) ∧ r < c ∧ q ≤ 1000000000 ∧ Below w.heap.size w wr) (fun _ _ z _ => (intOf z).toNat)
    case atStart => exact ⟨31, 0, 0, 1073741824, rfl, rfl, rfl, by omega, Lib.hid (by decide), Lib.hid (by rw [Nat.div_eq_of_lt (by omega : a < 2 ^ 31)]; omega), by omega, by omega, hbd⟩
    case round =>
      obtain ⟨n, q, r, B, rfl, rfl, rfl, hn, hB, hq, hr, hq2, hbd⟩ := hrel
      by_cases hn0 : n = 0
      · subst hn0
        obtain rfl : B = 0 := hB.out
        have E := Lib.hid (HP.out q r (by simpa using hq.out) hr)
        clear HP hB hq
        by_cases hs : c ≤ 2 * r
        · rw [if_pos hs] at E
          go_wp2_with fail
          go_ret
          exact ⟨_, rfl, hbd, conv_end (by rw [E.out]; omega)⟩
        · rw [if_neg hs] at E
          go_wp2_with fail
          go_ret
          exact ⟨_, rfl, hbd, conv_end (by rw [E.out]; omega)⟩
      · obtain ⟨m, rfl⟩ : ∃ m, n = m + 1 := ⟨n - 1, by omega⟩
        have hBm : B = 2 ^ m := by rw [hB.out, Nat.pow_succ, Nat.mul_div_cancel _ (by decide)]
        have hB1 : 1 ≤ B := by rw [hBm]; exact Nat.one_le_two_pow
        have hB2 : B ≤ 2 ^ 30 := by rw [hBm]; exact Nat.pow_le_pow_right (by decide) (by omega)
        have hB2 : B ≤ 1073741824 := hB2
        have hst := bit_step a m
        have hq := hq.out
        obtain ⟨A1, hA1⟩ : ∃ x, x = a / 2 ^ (m + 1) := ⟨_, rfl⟩
        obtain ⟨A0, hA0⟩ : ∃ x, x = a / 2 ^ m := ⟨_, rfl⟩
        have hAB : (a : Int) / (B : Int) = (A0 : Int) := by rw [hA0, ← hBm, Int.natCast_ediv]
        have hA0a : A0 ≤ a := by rw [hA0]; exact Nat.div_le_self _ _
        rw [← hA1, ← hA0] at hst
        rw [← hA1] at hq
        have HQ : Hid (∀ x y : Nat, x * c + y = A0 * rest → x * c + y = a / 2 ^ m * rest) := Lib.hid fun x y h => by rw [← hA0]; exact h
        have HB2 : Hid (B / 2 = 2 ^ m / 2) := Lib.hid (by rw [hBm])
        have hz : ((B : Int) == 0) = false := by rw [beq_eq_false_iff_ne]; omega
        have hz2 : ((B : Int) == -1) = false := by rw [beq_eq_false_iff_ne]; omega
        have hm : m ≤ 30 := by omega
        clear HP hB hBm hA1 hA0 hn hn0
        rcases (by omega : A0 = 2 * A1 ∨ A0 = 2 * A1 + 1) with hpar | hpar
        · have d2 : ((A0 : Int) % 2 == 1) = false := by rw [beq_eq_false_iff_ne]; omega
          have hq1 : Hid ((2 * q) * c + 2 * r = A0 * rest) := Lib.hid (by rw [hpar, Nat.mul_assoc, Nat.mul_assoc, ← hq]; omega)
          clear hst hq hpar
          go_wp2_with fail
          go_loopw [10, 11] (fun x y wr' => ∃ q' r' : Nat, x = .int .i64 q' ∧ y = .int .i64 r' ∧ Hid (q' * c + r' = A0 * rest) ∧ r' ≤ 3 * c ∧ q' ≤ 1000000000 ∧ Below w.heap.size w wr') (fun _ y _ => (intOf y).toNat)
          case atStart => exact ⟨2 * q, 2 * r, by go_num, by go_num, hq1, by omega, by have := q_bd hq1.out hrc; omega, hbd⟩
          case round =>
            obtain ⟨q', r', rfl, rfl, he, hr3, hq3, hbd2⟩ := hrel
            by_cases hge : c ≤ r'
            · have HE : Hid ((q' + 1) * c + (r' - c) = A0 * rest) := Lib.hid (by rw [← he.out, Nat.add_mul]; omega)
              have hq4 := q_bd HE.out hrc
              clear he
              go_wp2_with fail
              go_roundw
              case rel => exact ⟨q' + 1, r' - c, by go_num, by go_num, HE, by omega, by omega, hbd2⟩
              case measure => simp [intOf]; omega
            · have HE := Lib.hid (HQ.out q' r' he.out)
              clear he
              go_wp2_with fail
              go_roundw
              case rel => exact ⟨m, q', r', B / 2, rfl, rfl, by go_num, by omega, HB2, HE, by omega, by omega, hbd2⟩
              case measure => simp [intOf]; omega
        · have d2 : ((A0 : Int) % 2 == 1) = true := by rw [beq_iff_eq]; omega
          have hq1 : Hid ((2 * q) * c + (2 * r + rest) = A0 * rest) := Lib.hid (by rw [hpar, Nat.add_mul, Nat.one_mul, Nat.mul_assoc, Nat.mul_assoc, ← hq]; omega)
          clear hst hq hpar
          go_wp2_with fail
          go_loopw [10, 11] (fun x y wr' => ∃ q' r' : Nat, x = .int .i64 q' ∧ y = .int .i64 r' ∧ Hid (q' * c + r' = A0 * rest) ∧ r' ≤ 3 * c ∧ q' ≤ 1000000000 ∧ Below w.heap.size w wr') (fun _ y _ => (intOf y).toNat)
          case atStart => exact ⟨2 * q, 2 * r + rest, by go_num, by go_num, hq1, by omega, by have := q_bd hq1.out hrc; omega, hbd⟩
          case round =>
            obtain ⟨q', r', rfl, rfl, he, hr3, hq3, hbd2⟩ := hrel
            by_cases hge : c ≤ r'
            · have HE : Hid ((q' + 1) * c + (r' - c) = A0 * rest) := Lib.hid (by rw [← he.out, Nat.add_mul]; omega)
              have hq4 := q_bd HE.out hrc
              clear he
              go_wp2_with fail
              go_roundw
              case rel => exact ⟨q' + 1, r' - c, by go_num, by go_num, HE, by omega, by omega, hbd2⟩
              case measure => simp [intOf]; omega
            · have HE := Lib.hid (HQ.out q' r' he.out)
              clear he
              go_wp2_with fail
              go_roundw
              case rel => exact ⟨m, q', r', B / 2, rfl, rfl, by go_num, by omega, HB2, HE, by omega, by omega, hbd2⟩
              case measure => simp [intOf]; omega
end Go.Proofs.Ytmeglhmlhdaacaa
