/- laws.eqInt64S, spec.l01Amounts, impl.areAmounts .. over slices that read as lists. -/
import Derived.Test.YtjcklmhgjdmjoaaBase
namespace Go.Proofs.Ytjcklmhgjdmjoaa
open Go.ChangeShapes Go.WideShapes Go.ChangeAt Go.RowKit
set_option linter.unusedVariables false

theorem eq_snoc {xs ys : List Int} {k : Nat} {x : Int} (h : xs.take k = ys.take k) (hx : xs[k]? = some x) (hy : ys[k]? = some x) : xs.take (k + 1) = ys.take (k + 1) := by
  rw [snoc_of hx, snoc_of hy, h]
theorem eq_not {xs ys : List Int} {k : Nat} {x y : Int} (hx : xs[k]? = some x) (hy : ys[k]? = some y) (h : x ≠ y) : xs ≠ ys := by
  rintro rfl; exact h (Option.some.inj (hx.symm.trans hy))

set_option maxHeartbeats 400000 in
theorem eqInts (A B : Option Addr) (c d : Nat) (xs ys : List Int) (w : World) (hx : Ir w A xs) (hy : Ir w B ys) (hn : xs.length ≤ 1000000000) :
    Calls Try.prog 62 #[.slice A xs.length c, .slice B ys.length d] w fun e w' => e = .returned (.bool (decide (xs = ys))) ∧ ∃ n, w' = w.drewN n := by
  by_cases hl : xs.length = ys.length
  · have hl1 : ((xs.length : Int) != ys.length) = false := by simp [hl]
    have HL := Lib.hid hl; clear hl
    go_enter Try.func62, Try.ntmps62
    go_wp2_with fail
    go_loopw [5] (fun i wr => ∃ k : Nat, k ≤ xs.length ∧ i = .int .i64 k ∧ Hid (xs.take k = ys.take k) ∧ ∃ n, wr = w.drewN n) (fun i _ => xs.length - (intOf i).toNat)
    case atStart => exact ⟨0, Nat.zero_le _, rfl, Lib.hid rfl, 0, rfl⟩
    case round =>
      obtain ⟨k, hk, rfl, ht, n, rfl⟩ := hrel
      by_cases hlt : k < xs.length
      · have hlt2 : k < ys.length := by rw [← HL.out]; exact hlt
        obtain ⟨b, off, x, rfl, hc, hxk⟩ := hx.at hlt
        obtain ⟨b2, off2, y, rfl, hc2, hyk⟩ := hy.at hlt2
        clear hx hy hl1
        by_cases he : x = y
        · subst he
          have HT : Hid (xs.take (k + 1) = ys.take (k + 1)) := Lib.hid (eq_snoc ht.out hxk.out hyk.out)
          clear ht
          go_wp2_with fail
          go_quiet (fail)
          go_wp2_with fail
          go_roundw
          case rel => exact ⟨k + 1, by omega, by go_num, HT, _, rfl⟩
          case measure => simp [intOf]; omega
        · have hne : (x != y) = true := by simpa using he
          have HT : Hid (decide (xs = ys) = false) := Lib.hid (by simpa using eq_not hxk.out hyk.out he)
          clear he ht
          go_wp2_with fail
          go_quiet (fail)
          go_wp2_with fail
          go_ret
          exact ⟨by rw [HT.out] <;> rfl, _, by rw [World.drewN_drewN]⟩
      · have HT : Hid (decide (xs = ys) = true) := Lib.hid (by
          have := ht.out; rw [take_all hk hlt, List.take_of_length_le (by have := HL.out; omega)] at this; simpa using this)
        clear ht
        go_wp2_with fail
        go_ret
        exact ⟨by rw [HT.out] <;> rfl, _, rfl⟩
  · have hl1 : ((xs.length : Int) != ys.length) = true := by simp; omega
    have HT : Hid (decide (xs = ys) = false) := Lib.hid (by simp; rintro rfl; exact hl rfl)
    clear hl
    go_enter Try.func62, Try.ntmps62
    go_wp2_with fail
    go_ret
    exact ⟨by rw [HT.out] <;> rfl, 0, rfl⟩

theorem isAmount_i (n : Int) (w : World) : Calls Try.prog 115 #[.int .i64 n] w fun e w' => e = .returned (.bool (amt n)) ∧ w = w' := by
  rcases (by omega : (0 ≤ n ∧ n ≤ 1000000000) ∨ n < 0 ∨ (0 ≤ n ∧ 1000000000 < n)) with ⟨a, b⟩ | a | ⟨a, b⟩
  · have E : Hid (amt n = true) := Lib.hid (amt_iff.2 ⟨a, b⟩)
    go_enter Try.func115, Try.ntmps115
    go_wp2
    go_ret
    exact ⟨by rw [E.out] <;> rfl, rfl⟩
  · have E : Hid (amt n = false) := Lib.hid (amt_no.2 (.inl a))
    go_enter Try.func115, Try.ntmps115
    go_wp2
    go_ret
    exact ⟨by rw [E.out] <;> rfl, rfl⟩
  · have E : Hid (amt n = false) := Lib.hid (amt_no.2 (.inr b))
    have d : decide (n ≤ 1000000000) = false := by simp; omega
    go_enter Try.func115, Try.ntmps115
    go_wp2
    go_ret
    exact ⟨by rw [E.out] <;> rfl, rfl⟩
theorem isAmount_s (n : Int) (w : World) : Calls Try.prog 121 #[.int .i64 n] w fun e w' => e = .returned (.bool (amt n)) ∧ w = w' := by
  rcases (by omega : (0 ≤ n ∧ n ≤ 1000000000) ∨ n < 0 ∨ (0 ≤ n ∧ 1000000000 < n)) with ⟨a, b⟩ | a | ⟨a, b⟩
  · have E : Hid (amt n = true) := Lib.hid (amt_iff.2 ⟨a, b⟩)
    go_enter Try.func121, Try.ntmps121
    go_wp2
    go_ret
    exact ⟨by rw [E.out] <;> rfl, rfl⟩
  · have E : Hid (amt n = false) := Lib.hid (amt_no.2 (.inl a))
    go_enter Try.func121, Try.ntmps121
    go_wp2
    go_ret
    exact ⟨by rw [E.out] <;> rfl, rfl⟩
  · have E : Hid (amt n = false) := Lib.hid (amt_no.2 (.inr b))
    have d : decide (n ≤ 1000000000) = false := by simp; omega
    go_enter Try.func121, Try.ntmps121
    go_wp2
    go_ret
    exact ⟨by rw [E.out] <;> rfl, rfl⟩

end Go.Proofs.Ytjcklmhgjdmjoaa
