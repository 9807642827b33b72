/- laws.eqInt64S, spec.l01Amounts, impl.areAmounts .. over slices that read as lists. -/
import Derived.Test.YthiegfcgbfhmmaaBase
namespace Go.Proofs.Ythiegfcgbfhmmaa
open Go.ChangeShapes Go.WideShapes Go.ChangeAt Go.RowKit
set_option linter.unusedVariables false

theorem eq_snoc {xs ys : List Int} {k : Nat} {x : Int} (h : xs.take k = ys.take k) (hx : xs[k]? = some x) (hy : ys[k]? = some x) : xs.take (k + 1) = ys.take (k + 1) := by
  rw [snoc_of hx, snoc_of hy, h]
theorem eq_not {xs ys : List Int} {k : Nat} {x y : Int} (hx : xs[k]? = some x) (hy : ys[k]? = some y) (h : x ≠ y) : xs ≠ ys := by
  rintro rfl; exact h (Option.some.inj (hx.symm.trans hy))

theorem isAmount_i (n : Int) (w : World) : Calls Try.prog 43 #[.int .i64 n] w fun e w' => e = .returned (.bool (amt n)) ∧ w = w' := by
  rcases (by omega : (0 ≤ n ∧ n ≤ 1000000000) ∨ n < 0 ∨ (0 ≤ n ∧ 1000000000 < n)) with ⟨a, b⟩ | a | ⟨a, b⟩
  · have E : Hid (amt n = true) := Lib.hid (amt_iff.2 ⟨a, b⟩)
    go_enter Try.func43, Try.ntmps43
    go_wp2
    go_ret
    exact ⟨by rw [E.out] <;> rfl, rfl⟩
  · have E : Hid (amt n = false) := Lib.hid (amt_no.2 (.inl a))
    go_enter Try.func43, Try.ntmps43
    go_wp2
    go_ret
    exact ⟨by rw [E.out] <;> rfl, rfl⟩
  · have E : Hid (amt n = false) := Lib.hid (amt_no.2 (.inr b))
    have d : decide (n ≤ 1000000000) = false := by simp; omega
    go_enter Try.func43, Try.ntmps43
    go_wp2
    go_ret
    exact ⟨by rw [E.out] <;> rfl, rfl⟩
theorem isAmount_s (n : Int) (w : World) : Calls Try.prog 54 #[.int .i64 n] w fun e w' => e = .returned (.bool (amt n)) ∧ w = w' := by
  rcases (by omega : (0 ≤ n ∧ n ≤ 1000000000) ∨ n < 0 ∨ (0 ≤ n ∧ 1000000000 < n)) with ⟨a, b⟩ | a | ⟨a, b⟩
  · have E : Hid (amt n = true) := Lib.hid (amt_iff.2 ⟨a, b⟩)
    go_enter Try.func54, Try.ntmps54
    go_wp2
    go_ret
    exact ⟨by rw [E.out] <;> rfl, rfl⟩
  · have E : Hid (amt n = false) := Lib.hid (amt_no.2 (.inl a))
    go_enter Try.func54, Try.ntmps54
    go_wp2
    go_ret
    exact ⟨by rw [E.out] <;> rfl, rfl⟩
  · have E : Hid (amt n = false) := Lib.hid (amt_no.2 (.inr b))
    have d : decide (n ≤ 1000000000) = false := by simp; omega
    go_enter Try.func54, Try.ntmps54
    go_wp2
    go_ret
    exact ⟨by rw [E.out] <;> rfl, rfl⟩

theorem amts_i (A : Option Addr) (c : Nat) (xs : List Int) (w : World) (hx : Ir w A xs) (hn : xs.length ≤ 1000000000) :
    Calls Try.prog 76 #[.slice A xs.length c] w fun e w' => e = .returned (.bool (amts xs)) ∧ w = w' := by
  go_enter Try.func76, Try.ntmps76
  go_wp2_with fail
  go_loop [7] (fun i => ∃ k : Nat, k ≤ xs.length ∧ i = .int .i64 k ∧ Hid (amts (xs.take k) = true)) (fun i => xs.length - (intOf i).toNat)
  case atStart => exact ⟨0, Nat.zero_le _, rfl, Lib.hid rfl⟩
  case round =>
    obtain ⟨k, hk, rfl, ht⟩ := hrel
    by_cases hlt : k < xs.length
    · obtain ⟨b, off, x, rfl, hc, hxk⟩ := hx.at hlt
      clear hx
      by_cases he : amt x = true
      · have HT : Hid (amts (xs.take (k + 1)) = true) := Lib.hid (by rw [snoc_of hxk.out, amts_snoc, ht.out, he]; rfl)
        clear ht
        go_wp2_with (go_at_call 43; refine (isAmount_i _ _).mono ?_; rintro e w' ⟨rfl, rfl⟩)
        go_round
        case rel => exact ⟨k + 1, by omega, by go_num, HT⟩
        case measure => simp [intOf]; omega
      · have he : amt x = false := by simpa using he
        have HT : Hid (amts xs = false) := Lib.hid (amts_no hxk.out he)
        clear ht
        go_wp2_with (go_at_call 43; refine (isAmount_i _ _).mono ?_; rintro e w' ⟨rfl, rfl⟩)
        go_ret
        exact ⟨by rw [HT.out] <;> rfl, rfl⟩
    · have HT : Hid (amts xs = true) := Lib.hid (by have := ht.out; rwa [take_all hk hlt] at this)
      clear ht
      go_wp2_with fail
      go_ret
      exact ⟨by rw [HT.out] <;> rfl, rfl⟩

end Go.Proofs.Ythiegfcgbfhmmaa
