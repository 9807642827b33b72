/- Chapter 2's small functions: ranges, days of a month. -/
import Derived.Test.YtifioecofeojpaaDoorCal
import Derived.Laws.StructEq
namespace Go.Proofs.YtifioecofeojpaaDoor
open Go.ChangeShapes Go.WideShapes Go.ChangeAt Go.RowKit
set_option linter.unusedVariables false

def inr (n lo hi : Int) : Bool := decide (lo ≤ n ∧ n ≤ hi)
theorem inr_iff {n lo hi : Int} : inr n lo hi = true ↔ lo ≤ n ∧ n ≤ hi := by simp [inr]
theorem inr_no {n lo hi : Int} : inr n lo hi = false ↔ n < lo ∨ hi < n := by simp [inr]; omega
theorem inr_s (n lo hi : Int) (w : World) : Calls Tryd.prog 14 #[.int .i64 n, .int .i64 lo, .int .i64 hi] w fun e w' => e = .returned (.bool (inr n lo hi)) ∧ w = w' := by
  rcases (by omega : (lo ≤ n ∧ n ≤ hi) ∨ n < lo ∨ (lo ≤ n ∧ hi < n)) with ⟨a, b⟩ | a | ⟨a, b⟩
  · have E : Hid (inr n lo hi = true) := Lib.hid (inr_iff.2 ⟨a, b⟩)
    go_enter Tryd.func14, Tryd.ntmps14
    go_wp2
    go_ret
    exact ⟨by rw [E.out] <;> rfl, rfl⟩
  · have E : Hid (inr n lo hi = false) := Lib.hid (inr_no.2 (.inl a))
    have d : decide (lo ≤ n) = false := by simp; omega
    go_enter Tryd.func14, Tryd.ntmps14
    go_wp2
    go_ret
    exact ⟨by rw [E.out] <;> rfl, rfl⟩
  · have E : Hid (inr n lo hi = false) := Lib.hid (inr_no.2 (.inr b))
    have d : decide (n ≤ hi) = false := by simp; omega
    go_enter Tryd.func14, Tryd.ntmps14
    go_wp2
    go_ret
    exact ⟨by rw [E.out] <;> rfl, rfl⟩

theorem least_i (a b : Int) (w : World) : Calls Tryd.prog 61 #[.int .i64 a, .int .i64 b] w fun e w' => e = .returned (.int .i64 (min a b)) ∧ w = w' := by
  by_cases h : b < a
  · have E : Hid (min a b = b) := Lib.hid (by omega)
    go_enter Tryd.func61, Tryd.ntmps61
    go_wp2
    go_ret
    exact ⟨by rw [E.out] <;> rfl, rfl⟩
  · have E : Hid (min a b = a) := Lib.hid (by omega)
    go_enter Tryd.func61, Tryd.ntmps61
    go_wp2
    go_ret
    exact ⟨by rw [E.out] <;> rfl, rfl⟩
theorem moved_i (n lo hi : Int) (w : World) : Calls Tryd.prog 60 #[.int .i64 n, .int .i64 lo, .int .i64 hi] w fun e w' => e = .returned (.int .i64 (clamp n lo hi)) ∧ w = w' := by
  have E1 : Hid (lo < min n hi → min n hi = clamp n lo hi) := Lib.hid (by unfold clamp; omega)
  have E2 : Hid (min n hi ≤ lo → lo = clamp n lo hi) := Lib.hid (by unfold clamp; omega)
  generalize clamp n lo hi = c at *
  go_enter Tryd.func60, Tryd.ntmps60
  go_wp2_with (go_at_call 61; refine (least_i _ _ _).mono ?_; rintro e w' ⟨rfl, rfl⟩)
  · go_ret
    exact ⟨by rw [← E1.out (by assumption)] <;> rfl, rfl⟩
  · go_ret
    exact ⟨by rw [← E2.out (by assumption)] <;> rfl, rfl⟩

/-! ### days of a month -/
theorem dlen_4 {y m : Int} (h : m = 4 ∨ m = 6 ∨ m = 9 ∨ m = 11) : dlen y m = 30 := by unfold dlen; rw [if_neg (by omega), if_pos h]
theorem dlen_31 {y m : Int} (h : m ≠ 2) (h' : ¬ (m = 4 ∨ m = 6 ∨ m = 9 ∨ m = 11)) : dlen y m = 31 := by unfold dlen; rw [if_neg h, if_neg h']
theorem dlen_29 {y : Int} (h : y % 4 = 0) : dlen y 2 = 29 := by rw [dlen_2, if_pos h]
theorem dlen_28 {y : Int} (h : y % 4 ≠ 0) : dlen y 2 = 28 := by rw [dlen_2, if_neg h]
def GiveI (w : World) (n : Int) (e : Ending) (w' : World) : Prop := e = .returned (.int .i64 n) ∧ Below w.heap.size w w'
theorem below_alloc (w : World) (o : Obj) : Below w.heap.size w (w.alloc o) := (Below.refl _ _).alloc (Nat.le_refl _) _

theorem mlen_i (y m d : Int) (w : World) (h0 : 0 ≤ y) (h1 : y ≤ 1000000000000) :
    Calls Tryd.prog 48 #[.agg #[.int .i64 y, .int .i64 m, .int .i64 d]] w
      fun e w' => e = .returned (.int .i64 (dlen y m)) ∧ w' = w.alloc (.cells #[.int .i64 y, .int .i64 m, .int .i64 d] 43) := by
  rcases (by omega : m = 2 ∨ m = 4 ∨ m = 6 ∨ m = 9 ∨ m = 11 ∨ (m ≠ 2 ∧ m ≠ 4 ∧ m ≠ 6 ∧ m ≠ 9 ∧ m ≠ 11)) with rfl | h | h | h | h | ⟨a, b, c, f, g⟩
  · by_cases h : y % 4 = 0
    · have E := Lib.hid (dlen_29 h)
      have q : y.tmod 4 = y % 4 := Int.tmod_eq_emod_of_nonneg h0
      have h' : (y % 4 == 0) = true := by simpa using h
      clear h
      go_enter Tryd.func48, Tryd.ntmps48
      go_wp2_with fail
      go_ret
      exact ⟨by rw [E.out] <;> rfl, rfl⟩
    · have E := Lib.hid (dlen_28 h)
      have q : y.tmod 4 = y % 4 := Int.tmod_eq_emod_of_nonneg h0
      have h' : (y % 4 == 0) = false := by simpa using h
      clear h
      go_enter Tryd.func48, Tryd.ntmps48
      go_wp2_with fail
      go_ret
      exact ⟨by rw [E.out] <;> rfl, rfl⟩
  iterate 4
    · have E := Lib.hid (dlen_4 (y := y) (m := m) (by omega))
      subst h
      go_enter Tryd.func48, Tryd.ntmps48
      go_wp2_with fail
      go_ret
      exact ⟨by rw [E.out] <;> rfl, rfl⟩
  · have E := Lib.hid (dlen_31 (y := y) (m := m) a (by omega))
    have e2 : (m == 2) = false := beq_eq_false_iff_ne.2 a
    have e4 : (m == 4) = false := beq_eq_false_iff_ne.2 b
    have e6 : (m == 6) = false := beq_eq_false_iff_ne.2 c
    have e9 : (m == 9) = false := beq_eq_false_iff_ne.2 f
    have e11 : (m == 11) = false := beq_eq_false_iff_ne.2 g
    go_enter Tryd.func48, Tryd.ntmps48
    go_wp2_with fail
    go_ret
    exact ⟨by rw [E.out] <;> rfl, rfl⟩

set_option maxHeartbeats 4000000 in
theorem len_s (y m : Int) (w : World) (h0 : 0 ≤ y) (h1 : y ≤ 1000000000000) (m0 : 1 ≤ m) (m1 : m ≤ 12) :
    Calls Tryd.prog 31 #[.int .i64 y, .int .i64 m] w (GiveI w (dlen y m)) := by
  have q : y.tmod 4 = y % 4 := Int.tmod_eq_emod_of_nonneg h0
  by_cases h : y % 4 = 0
  · have h' : (y % 4 == 0) = true := by simpa using h
    have E2 := Lib.hid (dlen_29 h)
    have B := fun o => Lib.hid (below_alloc w o)
    rcases mcases m0 m1 with rfl | rfl | rfl | rfl | rfl | rfl | rfl | rfl | rfl | rfl | rfl | rfl
    all_goals
      go_enter Tryd.func31, Tryd.ntmps31
      go_wp2_with fail
      go_ret
      first
        | exact ⟨by rw [E2.out] <;> rfl, Below.refl _ _⟩
        | exact ⟨by simp [dlen], (B _).out⟩
  · have h' : (y % 4 == 0) = false := by simpa using h
    have E2 := Lib.hid (dlen_28 h)
    have B := fun o => Lib.hid (below_alloc w o)
    clear h
    rcases mcases m0 m1 with rfl | rfl | rfl | rfl | rfl | rfl | rfl | rfl | rfl | rfl | rfl | rfl
    all_goals
      go_enter Tryd.func31, Tryd.ntmps31
      go_wp2_with fail
      go_ret
      first
        | exact ⟨by rw [E2.out] <;> rfl, (B _).out⟩
        | exact ⟨by simp [dlen], (B _).out⟩

theorem inn_q {n lo hi : Int} {b : Bool} (h : inr n lo hi = b) (w : World) : Calls Tryd.prog 14 #[.int .i64 n, .int .i64 lo, .int .i64 hi] w fun e w' => e = .returned (.bool b) ∧ w = w' :=
  (inr_s n lo hi w).mono fun e w' k => ⟨by rw [← h]; exact k.1, k.2⟩

end Go.Proofs.YtifioecofeojpaaDoor
