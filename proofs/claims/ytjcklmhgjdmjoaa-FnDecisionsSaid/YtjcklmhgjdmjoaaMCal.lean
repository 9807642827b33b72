import Derived.Test.YtjcklmhgjdmjoaaBase
import Derived.Laws.StructEq
/- Numbers of dates: the calendar's arithmetic, with no program in it. -/
namespace Go.Proofs.Ytjcklmhgjdmjoaa
set_option linter.unusedVariables false

/-- Days of a month. -/
def dlen (y m : Int) : Int := if m = 2 then (if y % 4 = 0 then 29 else 28) else if m = 4 ∨ m = 6 ∨ m = 9 ∨ m = 11 then 30 else 31
/-- Days before a year, days of a year before a month. -/
def start (y : Int) : Int := (y - 1970) * 365 + (y - 1969) / 4
def cum (y m : Int) : Int := (367 * m - 362) / 12 - (if m ≤ 2 then 0 else if y % 4 = 0 then 1 else 2)
def numd (y m d : Int) : Int := start y + cum y m + d - 1
def inYM (y m : Int) : Prop := 1970 ≤ y ∧ y ≤ 2069 ∧ 1 ≤ m ∧ m ≤ 12
def okd (y m d : Int) : Prop := 1970 ≤ y ∧ y ≤ 2069 ∧ 1 ≤ m ∧ m ≤ 12 ∧ 1 ≤ d ∧ d ≤ dlen y m
instance (y m d : Int) : Decidable (okd y m d) := by unfold okd; infer_instance

theorem mcases {m : Int} (h0 : 1 ≤ m) (h1 : m ≤ 12) : m = 1 ∨ m = 2 ∨ m = 3 ∨ m = 4 ∨ m = 5 ∨ m = 6 ∨ m = 7 ∨ m = 8 ∨ m = 9 ∨ m = 10 ∨ m = 11 ∨ m = 12 := by omega
theorem dlen_in (y m : Int) : 28 ≤ dlen y m ∧ dlen y m ≤ 31 := by unfold dlen; split <;> split <;> omega
theorem dlen_2 (y : Int) : dlen y 2 = if y % 4 = 0 then 29 else 28 := by simp [dlen]
theorem start_step {y : Int} (h : 1970 ≤ y) : start (y + 1) = start y + 337 + dlen y 2 := by
  unfold start; rw [dlen_2]; split <;> omega
theorem start_step2 {y : Int} : start y + 365 ≤ start (y + 1) ∧ start (y + 1) ≤ start y + 366 := by
  unfold start; omega
theorem start_0 : start 1970 = 0 := rfl
theorem start_end : start 2070 = 36525 := rfl
theorem cum_1 (y : Int) : cum y 1 = 0 := rfl
theorem cum_step {y m : Int} (h0 : 1 ≤ m) (h1 : m ≤ 12) : cum y (m + 1) = cum y m + dlen y m := by
  unfold cum dlen
  rcases mcases h0 h1 with rfl | rfl | rfl | rfl | rfl | rfl | rfl | rfl | rfl | rfl | rfl | rfl <;> by_cases h : y % 4 = 0 <;> simp [h]
theorem cum_in {y m : Int} (h0 : 1 ≤ m) (h1 : m ≤ 12) : 0 ≤ cum y m ∧ cum y m ≤ 335 := by
  unfold cum; split <;> (try split) <;> omega
theorem cum_mono {y m n : Int} (h0 : 1 ≤ m) (h1 : m < n) (h2 : n ≤ 12) : cum y m + dlen y m ≤ cum y n := by
  rw [← cum_step h0 (by omega)]
  unfold cum; split <;> split <;> (try split) <;> omega
theorem cum_end (y : Int) (h : 1970 ≤ y) : start y + cum y 12 + 31 = start (y + 1) := by
  rw [start_step h, dlen_2]; unfold cum; by_cases h : y % 4 = 0 <;> simp [h] <;> omega
theorem start_mono {y z : Int} (h : y ≤ z) : start y ≤ start z := by unfold start; omega
theorem start_in {y : Int} (h0 : 1970 ≤ y) (h1 : y ≤ 2070) : 0 ≤ start y ∧ start y ≤ 36525 := by unfold start; omega
theorem numd_yr {y m d : Int} (h : okd y m d) : start y ≤ numd y m d ∧ numd y m d < start (y + 1) := by
  obtain ⟨y0, y1, m0, m1, d0, d1⟩ := h
  have hc := cum_in (y := y) m0 m1
  have he := cum_end y y0
  unfold numd
  refine ⟨by omega, ?_⟩
  by_cases h : m = 12
  · subst h; have : dlen y 12 = 31 := by simp [dlen]
    omega
  · have := cum_mono (y := y) m0 (by omega : m < 12) (by omega)
    omega
theorem numd_in {y m d : Int} (h : okd y m d) : 0 ≤ numd y m d ∧ numd y m d ≤ 36524 := by
  have h1 := numd_yr h
  obtain ⟨y0, y1, _⟩ := h
  have h2 := start_in y0 (by omega)
  have h3 := start_mono (show y + 1 ≤ 2070 by omega)
  rw [start_end] at h3
  omega
theorem numd_inj {y m d y' m' d' : Int} (h : okd y m d) (h' : okd y' m' d') (e : numd y m d = numd y' m' d') : y = y' ∧ m = m' ∧ d = d' := by
  have h1 := numd_yr h
  have h2 := numd_yr h'
  have hy : y = y' := by
    rcases Int.lt_trichotomy y y' with hlt | heq | hgt
    · have := start_mono (show y + 1 ≤ y' by omega); omega
    · exact heq
    · have := start_mono (show y' + 1 ≤ y by omega); omega
  subst hy
  obtain ⟨_, _, m0, m1, d0, d1⟩ := h
  obtain ⟨_, _, m0', m1', d0', d1'⟩ := h'
  unfold numd at e
  rcases Int.lt_trichotomy m m' with hlt | heq | hgt
  · have := cum_mono (y := y) m0 hlt m1'; omega
  · subst heq; exact ⟨rfl, rfl, by omega⟩
  · have := cum_mono (y := y) m0' hgt m1; omega

/-- The nearest value in a range. -/
def clamp (n lo hi : Int) : Int := max lo (min n hi)
theorem clamp_id {n lo hi : Int} (h : lo ≤ n) (h' : n ≤ hi) : clamp n lo hi = n := by unfold clamp; omega
theorem clamp_in {n lo hi : Int} (h : lo ≤ hi) : lo ≤ clamp n lo hi ∧ clamp n lo hi ≤ hi := by unfold clamp; omega
theorem clamp_eq {n lo hi : Int} (h : lo ≤ hi) : clamp n lo hi = n ↔ lo ≤ n ∧ n ≤ hi := by unfold clamp; omega
/-- A date is valid if nothing is moved. -/
theorem made_iff (y m d : Int) : (y = clamp y 1970 2069 ∧ m = clamp m 1 12 ∧ d = clamp d 1 (dlen (clamp y 1970 2069) (clamp m 1 12))) ↔ okd y m d := by
  have hl := dlen_in (clamp y 1970 2069) (clamp m 1 12)
  constructor
  · rintro ⟨hy, hm, hd⟩
    have hy' := (clamp_eq (n := y) (lo := 1970) (hi := 2069) (by omega)).1 hy.symm
    have hm' := (clamp_eq (n := m) (lo := 1) (hi := 12) (by omega)).1 hm.symm
    rw [← hy, ← hm] at hd hl
    have hd' := (clamp_eq (n := d) (lo := 1) (hi := dlen y m) (by omega)).1 hd.symm
    exact ⟨hy'.1, hy'.2, hm'.1, hm'.2, hd'.1, hd'.2⟩
  · rintro ⟨a, b, c, d', e, f⟩
    have hy := clamp_id a b
    have hm := clamp_id c d'
    rw [hy, hm]
    exact ⟨rfl, rfl, (clamp_id e f).symm⟩

/-! ### business days: the day after k business days from a Monday's week -/
def bday (mon a : Int) : Int := mon + a / 5 * 7 + a % 5
theorem bday_wd {mon a : Int} (h : (mon + 3) % 7 = 0) (ha : 0 ≤ a) : (bday mon a + 3) % 7 = a % 5 := by unfold bday; omega
theorem bday_next {mon a : Int} (ha : 0 ≤ a) (h : a % 5 < 4) : bday mon (a + 1) = bday mon a + 1 := by unfold bday; omega
theorem bday_jump {mon a : Int} (ha : 0 ≤ a) (h : a % 5 = 4) : bday mon (a + 1) = bday mon a + 3 := by unfold bday; omega
end Go.Proofs.Ytjcklmhgjdmjoaa

/- Chapter 2's small functions: ranges, days of a month. -/
namespace Go.Proofs.Ytjcklmhgjdmjoaa
open Go.ChangeShapes Go.WideShapes Go.ChangeAt Go.RowKit
set_option linter.unusedVariables false

def inr (n lo hi : Int) : Bool := decide (lo ≤ n ∧ n ≤ hi)
theorem inr_iff {n lo hi : Int} : inr n lo hi = true ↔ lo ≤ n ∧ n ≤ hi := by simp [inr]
theorem inr_no {n lo hi : Int} : inr n lo hi = false ↔ n < lo ∨ hi < n := by simp [inr]; omega
theorem inr_s (n lo hi : Int) (w : World) : Calls Try.prog 84 #[.int .i64 n, .int .i64 lo, .int .i64 hi] w fun e w' => e = .returned (.bool (inr n lo hi)) ∧ w = w' := by
  rcases (by omega : (lo ≤ n ∧ n ≤ hi) ∨ n < lo ∨ (lo ≤ n ∧ hi < n)) with ⟨a, b⟩ | a | ⟨a, b⟩
  · have E : Hid (inr n lo hi = true) := Lib.hid (inr_iff.2 ⟨a, b⟩)
    go_enter Try.func84, Try.ntmps84
    go_wp2
    go_ret
    exact ⟨by rw [E.out] <;> rfl, rfl⟩
  · have E : Hid (inr n lo hi = false) := Lib.hid (inr_no.2 (.inl a))
    have d : decide (lo ≤ n) = false := by simp; omega
    go_enter Try.func84, Try.ntmps84
    go_wp2
    go_ret
    exact ⟨by rw [E.out] <;> rfl, rfl⟩
  · have E : Hid (inr n lo hi = false) := Lib.hid (inr_no.2 (.inr b))
    have d : decide (n ≤ hi) = false := by simp; omega
    go_enter Try.func84, Try.ntmps84
    go_wp2
    go_ret
    exact ⟨by rw [E.out] <;> rfl, rfl⟩

/-! ### days of a month -/
theorem dlen_4 {y m : Int} (h : m = 4 ∨ m = 6 ∨ m = 9 ∨ m = 11) : dlen y m = 30 := by unfold dlen; rw [if_neg (by omega), if_pos h]
theorem dlen_31 {y m : Int} (h : m ≠ 2) (h' : ¬ (m = 4 ∨ m = 6 ∨ m = 9 ∨ m = 11)) : dlen y m = 31 := by unfold dlen; rw [if_neg h, if_neg h']
theorem dlen_29 {y : Int} (h : y % 4 = 0) : dlen y 2 = 29 := by rw [dlen_2, if_pos h]
theorem dlen_28 {y : Int} (h : y % 4 ≠ 0) : dlen y 2 = 28 := by rw [dlen_2, if_neg h]
def GiveI (w : World) (n : Int) (e : Ending) (w' : World) : Prop := e = .returned (.int .i64 n) ∧ Below w.heap.size w w'
theorem below_alloc (w : World) (o : Obj) : Below w.heap.size w (w.alloc o) := (Below.refl _ _).alloc (Nat.le_refl _) _

theorem inn_q {n lo hi : Int} {b : Bool} (h : inr n lo hi = b) (w : World) : Calls Try.prog 84 #[.int .i64 n, .int .i64 lo, .int .i64 hi] w fun e w' => e = .returned (.bool b) ∧ w = w' :=
  (inr_s n lo hi w).mono fun e w' k => ⟨by rw [← h]; exact k.1, k.2⟩

end Go.Proofs.Ytjcklmhgjdmjoaa

/- impl.isWithin. -/
namespace Go.Proofs.Ytjcklmhgjdmjoaa
open Go.ChangeShapes Go.WideShapes Go.ChangeAt Go.RowKit
set_option linter.unusedVariables false

theorem within_i (n lo hi : Int) (w : World) : Calls Try.prog 113 #[.int .i64 n, .int .i64 lo, .int .i64 hi] w fun e w' => e = .returned (.bool (inr n lo hi)) ∧ w = w' := by
  rcases (by omega : (lo ≤ n ∧ n ≤ hi) ∨ n < lo ∨ (lo ≤ n ∧ hi < n)) with ⟨a, b⟩ | a | ⟨a, b⟩
  · have E : Hid (inr n lo hi = true) := Lib.hid (inr_iff.2 ⟨a, b⟩)
    go_enter Try.func113, Try.ntmps113
    go_wp2
    go_ret
    exact ⟨by rw [E.out] <;> rfl, rfl⟩
  · have E : Hid (inr n lo hi = false) := Lib.hid (inr_no.2 (.inl a))
    have d : decide (lo ≤ n) = false := by simp; omega
    go_enter Try.func113, Try.ntmps113
    go_wp2
    go_ret
    exact ⟨by rw [E.out] <;> rfl, rfl⟩
  · have E : Hid (inr n lo hi = false) := Lib.hid (inr_no.2 (.inr b))
    have d : decide (n ≤ hi) = false := by simp; omega
    go_enter Try.func113, Try.ntmps113
    go_wp2
    go_ret
    exact ⟨by rw [E.out] <;> rfl, rfl⟩
theorem within_q {n lo hi : Int} {b : Bool} (h : inr n lo hi = b) (w : World) : Calls Try.prog 113 #[.int .i64 n, .int .i64 lo, .int .i64 hi] w fun e w' => e = .returned (.bool b) ∧ w = w' :=
  (within_i n lo hi w).mono fun e w' k => ⟨by rw [← h]; exact k.1, k.2⟩
end Go.Proofs.Ytjcklmhgjdmjoaa

/- Numbers of years, days, weekdays. -/
namespace Go.Proofs.Ytjcklmhgjdmjoaa
open Go.ChangeShapes Go.WideShapes Go.ChangeAt Go.RowKit
set_option linter.unusedVariables false

theorem start_i (y : Int) (w : World) (h0 : 1970 ≤ y) (h1 : y ≤ 1000000000000) : Calls Try.prog 135 #[.int .i64 y] w fun e w' => e = .returned (.int .i64 (start y)) ∧ w = w' := by
  have E : Hid ((y - 1970) * 365 + (y - 1970 + 1) / 4 = start y) := Lib.hid (by unfold start; omega)
  go_enter Try.func135, Try.ntmps135
  go_wp2
  go_ret
  exact ⟨by rw [E.out] <;> rfl, rfl⟩
theorem isDay_i (n : Int) (w : World) : Calls Try.prog 112 #[.int .i64 n] w fun e w' => e = .returned (.bool (inr n 0 36524)) ∧ w = w' := by
  go_enter Try.func112, Try.ntmps112
  go_wp2_with (first | (go_at_call 135; refine (start_i _ _ (by omega) (by omega)).mono ?_; rintro e w' ⟨rfl, rfl⟩; rw [start_end]) | (go_at_call 113; refine (within_i _ _ _ _).mono ?_; rintro e w' ⟨rfl, rfl⟩))
  go_ret
  exact ⟨rfl, rfl⟩
theorem is_s (n : Int) (w : World) : Calls Try.prog 119 #[.int .i64 n] w fun e w' => e = .returned (.bool (inr n 0 36524)) ∧ w = w' := by
  go_enter Try.func119, Try.ntmps119
  go_wp2_with (go_at_call 84; refine (inr_s _ _ _ _).mono ?_; rintro e w' ⟨rfl, rfl⟩)
  go_ret
  exact ⟨rfl, rfl⟩
theorem isDay_q {n : Int} {b : Bool} (h : inr n 0 36524 = b) (w : World) : Calls Try.prog 112 #[.int .i64 n] w fun e w' => e = .returned (.bool b) ∧ w = w' :=
  (isDay_i n w).mono fun e w' k => ⟨by rw [← h]; exact k.1, k.2⟩
theorem is_q {n : Int} {b : Bool} (h : inr n 0 36524 = b) (w : World) : Calls Try.prog 119 #[.int .i64 n] w fun e w' => e = .returned (.bool b) ∧ w = w' :=
  (is_s n w).mono fun e w' k => ⟨by rw [← h]; exact k.1, k.2⟩
end Go.Proofs.Ytjcklmhgjdmjoaa

