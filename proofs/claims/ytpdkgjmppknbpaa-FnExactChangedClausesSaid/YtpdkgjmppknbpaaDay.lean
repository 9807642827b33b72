/- Chapter 2's small functions: ranges, days of a month. -/
import Derived.Test.YtpdkgjmppknbpaaCal
import Derived.Laws.StructEq
namespace Go.Proofs.Ytpdkgjmppknbpaa
open Go.ChangeShapes Go.WideShapes Go.ChangeAt Go.RowKit
set_option linter.unusedVariables false

def inr (n lo hi : Int) : Bool := decide (lo ≤ n ∧ n ≤ hi)
theorem inr_iff {n lo hi : Int} : inr n lo hi = true ↔ lo ≤ n ∧ n ≤ hi := by simp [inr]
theorem inr_no {n lo hi : Int} : inr n lo hi = false ↔ n < lo ∨ hi < n := by simp [inr]; omega
theorem inr_s (n lo hi : Int) (w : World) : Calls Try.prog 52 #[.int .i64 n, .int .i64 lo, .int .i64 hi] w fun e w' => e = .returned (.bool (inr n lo hi)) ∧ w = w' := by
  rcases (by omega : (lo ≤ n ∧ n ≤ hi) ∨ n < lo ∨ (lo ≤ n ∧ hi < n)) with ⟨a, b⟩ | a | ⟨a, b⟩
  · have E : Hid (inr n lo hi = true) := Lib.hid (inr_iff.2 ⟨a, b⟩)
    go_enter Try.func52, Try.ntmps52
    go_wp2
    go_ret
    exact ⟨by rw [E.out] <;> rfl, rfl⟩
  · have E : Hid (inr n lo hi = false) := Lib.hid (inr_no.2 (.inl a))
    have d : decide (lo ≤ n) = false := by simp; omega
    go_enter Try.func52, Try.ntmps52
    go_wp2
    go_ret
    exact ⟨by rw [E.out] <;> rfl, rfl⟩
  · have E : Hid (inr n lo hi = false) := Lib.hid (inr_no.2 (.inr b))
    have d : decide (n ≤ hi) = false := by simp; omega
    go_enter Try.func52, Try.ntmps52
    go_wp2
    go_ret
    exact ⟨by rw [E.out] <;> rfl, rfl⟩

/-! ### days of a month -/
theorem dlen_4 {y m : Int} (h : m = 4 ∨ m = 6 ∨ m = 9 ∨ m = 11) : dlen y m = 30 := by unfold dlen; rw [if_neg (by omega), if_pos h]
theorem dlen_31 {y m : Int} (h : m ≠ 2) (h' : ¬ (m = 4 ∨ m = 6 ∨ m = 9 ∨ m = 11)) : dlen y m = 31 := by unfold dlen; rw [if_neg h, if_neg h']
theorem dlen_29 {y : Int} (h : y % 4 = 0) : dlen y 2 = 29 := by rw [dlen_2, if_pos h]
theorem dlen_28 {y : Int} (h : y % 4 ≠ 0) : dlen y 2 = 28 := by rw [dlen_2, if_neg h]
def GiveI (w : World) (n : Int) (e : Ending) (w' : World) : Prop := e = .returned (.int .i64 n) ∧ Below w.heap.size w w'
theorem below_alloc (w : World) (o : Obj) : Below w.heap.size w (w.alloc o) := (Below.refl _ _).alloc (Nat.le_refl _) _

theorem inn_q {n lo hi : Int} {b : Bool} (h : inr n lo hi = b) (w : World) : Calls Try.prog 52 #[.int .i64 n, .int .i64 lo, .int .i64 hi] w fun e w' => e = .returned (.bool b) ∧ w = w' :=
  (inr_s n lo hi w).mono fun e w' k => ⟨by rw [← h]; exact k.1, k.2⟩

end Go.Proofs.Ytpdkgjmppknbpaa
