import Derived.Test.YtjcklmhgjdmjoaaGreatBase
import Derived.Laws.StructEq
namespace Go.Proofs.YtjcklmhgjdmjoaaGreat
set_option linter.unusedVariables false
def dlen (y m : Int) : Int := if m = 2 then (if y % 4 = 0 then 29 else 28) else if m = 4 ∨ m = 6 ∨ m = 9 ∨ m = 11 then 30 else 31
def okd (y m d : Int) : Prop := 1970 <= y /\ y <= 2069 /\ 1 <= m /\ m <= 12 /\ 1 <= d /\ d <= dlen y m
instance (y m d : Int) : Decidable (okd y m d) := by unfold okd; infer_instance
end Go.Proofs.YtjcklmhgjdmjoaaGreat

namespace Go.Proofs.YtjcklmhgjdmjoaaGreat
open Go.ChangeShapes Go.WideShapes Go.ChangeAt Go.RowKit
set_option linter.unusedVariables false
def inr (n lo hi : Int) : Bool := decide (lo <= n /\ n <= hi)
theorem inr_iff {n lo hi : Int} : inr n lo hi = true ↔ lo <= n /\ n <= hi := by simp [inr]
theorem inr_no {n lo hi : Int} : inr n lo hi = false ↔ n < lo ∨ hi < n := by simp [inr]; omega
theorem inr_s (n lo hi : Int) (w : World) : Calls Tryz.prog 57 #[.int .i64 n, .int .i64 lo, .int .i64 hi] w fun e w' => e = .returned (.bool (inr n lo hi)) /\ w = w' := by
 rcases (by omega : (lo <= n /\ n <= hi) ∨ n < lo ∨ (lo <= n /\ hi < n)) with ⟨a, b⟩ | a | ⟨a, b⟩
 ·
  have E : Hid (inr n lo hi = true) := Lib.hid (inr_iff.2 ⟨a, b⟩)
  go_enter Tryz.func57, Tryz.ntmps57
  go_wp2
  go_ret
  exact ⟨by rw [E.out] <;> rfl, rfl⟩
 ·
  have E : Hid (inr n lo hi = false) := Lib.hid (inr_no.2 (.inl a))
  have d : decide (lo <= n) = false := by simp; omega
  go_enter Tryz.func57, Tryz.ntmps57
  go_wp2
  go_ret
  exact ⟨by rw [E.out] <;> rfl, rfl⟩
 ·
  have E : Hid (inr n lo hi = false) := Lib.hid (inr_no.2 (.inr b))
  have d : decide (n <= hi) = false := by simp; omega
  go_enter Tryz.func57, Tryz.ntmps57
  go_wp2
  go_ret
  exact ⟨by rw [E.out] <;> rfl, rfl⟩
theorem below_alloc (w : World) (o : Obj) : Below w.heap.size w (w.alloc o) := (Below.refl _ _).alloc (Nat.le_refl _) _
theorem inn_q {n lo hi : Int} {b : Bool} (h : inr n lo hi = b) (w : World) : Calls Tryz.prog 57 #[.int .i64 n, .int .i64 lo, .int .i64 hi] w fun e w' => e = .returned (.bool b) /\ w = w' :=
 (inr_s n lo hi w).mono fun e w' k => ⟨by rw [<- h]; exact k.1, k.2⟩
end Go.Proofs.YtjcklmhgjdmjoaaGreat

namespace Go.Proofs.YtjcklmhgjdmjoaaGreat
open Go.ChangeShapes Go.WideShapes Go.ChangeAt Go.RowKit
set_option linter.unusedVariables false
theorem within_i (n lo hi : Int) (w : World) : Calls Tryz.prog 75 #[.int .i64 n, .int .i64 lo, .int .i64 hi] w fun e w' => e = .returned (.bool (inr n lo hi)) /\ w = w' := by
 rcases (by omega : (lo <= n /\ n <= hi) ∨ n < lo ∨ (lo <= n /\ hi < n)) with ⟨a, b⟩ | a | ⟨a, b⟩
 ·
  have E : Hid (inr n lo hi = true) := Lib.hid (inr_iff.2 ⟨a, b⟩)
  go_enter Tryz.func75, Tryz.ntmps75
  go_wp2
  go_ret
  exact ⟨by rw [E.out] <;> rfl, rfl⟩
 ·
  have E : Hid (inr n lo hi = false) := Lib.hid (inr_no.2 (.inl a))
  have d : decide (lo <= n) = false := by simp; omega
  go_enter Tryz.func75, Tryz.ntmps75
  go_wp2
  go_ret
  exact ⟨by rw [E.out] <;> rfl, rfl⟩
 ·
  have E : Hid (inr n lo hi = false) := Lib.hid (inr_no.2 (.inr b))
  have d : decide (n <= hi) = false := by simp; omega
  go_enter Tryz.func75, Tryz.ntmps75
  go_wp2
  go_ret
  exact ⟨by rw [E.out] <;> rfl, rfl⟩
theorem within_q {n lo hi : Int} {b : Bool} (h : inr n lo hi = b) (w : World) : Calls Tryz.prog 75 #[.int .i64 n, .int .i64 lo, .int .i64 hi] w fun e w' => e = .returned (.bool b) /\ w = w' :=
 (within_i n lo hi w).mono fun e w' k => ⟨by rw [<- h]; exact k.1, k.2⟩
end Go.Proofs.YtjcklmhgjdmjoaaGreat

namespace Go.Proofs.YtjcklmhgjdmjoaaGreat
open Go.ChangeShapes Go.WideShapes Go.ChangeAt Go.RowKit
set_option linter.unusedVariables false
end Go.Proofs.YtjcklmhgjdmjoaaGreat

