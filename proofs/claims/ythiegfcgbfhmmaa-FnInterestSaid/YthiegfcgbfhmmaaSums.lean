/- impl.SumAmounts and spec.SumAmounts. -/
import Derived.Test.YthiegfcgbfhmmaaCopy
namespace Go.Proofs.Ythiegfcgbfhmmaa
open Go.ChangeShapes Go.WideShapes Go.ChangeAt Go.RowKit
set_option linter.unusedVariables false

theorem sum_i (A : Option Addr) (c : Nat) (xs : List Int) (w : World) (hx : Ir w A xs) (ha : amts xs = true) (hn : xs.length ≤ 1048576) :
    Calls Try.prog 77 #[.slice A xs.length c] w fun e w' => e = .returned (.int .i64 (isum xs)) ∧ w = w' := by
  have HA := Lib.hid ha; clear ha
  go_enter Try.func77, Try.ntmps77
  go_wp2_with fail
  go_loop [3, 8] (fun s i => ∃ (k : Nat) (t : Int), k ≤ xs.length ∧ i = .int .i64 k ∧ s = .int .i64 t ∧ Hid (isum (xs.take k) = t)) (fun _ i => xs.length - (intOf i).toNat)
  case atStart => exact ⟨0, 0, Nat.zero_le _, rfl, rfl, Lib.hid rfl⟩
  case round =>
    obtain ⟨k, t, hk, rfl, rfl, ht⟩ := hrel
    by_cases hlt : k < xs.length
    · obtain ⟨b, off, x, rfl, hc, hxk⟩ := hx.at hlt
      obtain ⟨h0, h1⟩ := amts_at HA.out hxk.out
      have hb : 0 ≤ t ∧ t ≤ 1000000000 * 1048576 := by
        have h2 := isum_bd (amts_take HA.out k)
        rw [ht.out] at h2
        have h3 : (xs.take k).length ≤ 1048576 := by simp; omega
        exact ⟨h2.1, by omega⟩
      obtain ⟨hb0, hb1⟩ := hb
      have HT : Hid (isum (xs.take (k + 1)) = t + x) := Lib.hid (by rw [snoc_of hxk.out, isum_snoc, ht.out])
      clear ht hx
      go_wp2_with fail
      go_round
      case rel => exact ⟨k + 1, t + x, by omega, by go_num, rfl, HT⟩
      case measure => simp [intOf]; omega
    · have HT : Hid (isum xs = t) := Lib.hid (by have := ht.out; rwa [take_all hk hlt] at this)
      clear ht
      go_wp2_with fail
      go_ret
      exact ⟨by rw [HT.out] <;> rfl, rfl⟩

/-- What SumAmounts answers. -/
def sumR (xs : List Int) : Int × Int := if amts xs = true then if amt (isum xs) = true then (isum xs, 0) else (0, 3) else (0, 2)
theorem sumR_bad {xs : List Int} (h : amts xs = false) : sumR xs = (0, 2) := by simp [sumR, h]
theorem sumR_big {xs : List Int} (h : amts xs = true) (hn : amt (isum xs) = false) : sumR xs = (0, 3) := by simp [sumR, h, hn]
theorem sumR_ok {xs : List Int} (h : amts xs = true) (hn : amt (isum xs) = true) : sumR xs = (isum xs, 0) := by simp [sumR, h, hn]
theorem isum_take_le {xs : List Int} (h : amts xs = true) (k : Nat) : isum (xs.take k) ≤ isum xs := by
  have h1 : isum (xs.take k ++ xs.drop k) = isum (xs.take k) + isum (xs.drop k) := isum_app _ _
  rw [List.take_append_drop] at h1
  have h2 : amts (xs.drop k) = true := by
    unfold amts at h ⊢; rw [List.all_eq_true] at h ⊢; exact fun x hx => h x (List.mem_of_mem_drop hx)
  have := (isum_bd h2).1
  omega

theorem sums_i (A : Option Addr) (c : Nat) (xs : List Int) (w : World) (hx : Ir w A xs) (hn : xs.length ≤ 1048576) :
    Calls Try.prog 65 #[.slice A xs.length c] w fun e w' => e = .returned (.tuple #[.int .i64 (sumR xs).1, .int .i64 (sumR xs).2]) ∧ w = w' := by
  have H1 := Lib.hid (amts_i A c xs w hx (by omega))
  rcases Bool.eq_false_or_eq_true (amts xs) with h | h
  · have H2 := Lib.hid (sum_i A c xs w hx h hn)
    rcases Bool.eq_false_or_eq_true (amt (isum xs)) with h2 | h2
    · have E := Lib.hid (sumR_ok h h2)
      go_enter Try.func65, Try.ntmps65
      go_wp2_with (first | (go_at_call 76; refine H1.out.mono ?_; rintro e w' ⟨rfl, rfl⟩) | (go_at_call 77; refine H2.out.mono ?_; rintro e w' ⟨rfl, rfl⟩) | (go_at_call 43; refine (isAmount_i _ _).mono ?_; rintro e w' ⟨rfl, rfl⟩))
      go_ret2
      exact ⟨by rw [E.out] <;> rfl, rfl⟩
    · have E := Lib.hid (sumR_big h h2)
      go_enter Try.func65, Try.ntmps65
      go_wp2_with (first | (go_at_call 76; refine H1.out.mono ?_; rintro e w' ⟨rfl, rfl⟩) | (go_at_call 77; refine H2.out.mono ?_; rintro e w' ⟨rfl, rfl⟩) | (go_at_call 43; refine (isAmount_i _ _).mono ?_; rintro e w' ⟨rfl, rfl⟩))
      go_ret2
      exact ⟨by rw [E.out] <;> rfl, rfl⟩
  · have E := Lib.hid (sumR_bad h)
    go_enter Try.func65, Try.ntmps65
    go_wp2_with (go_at_call 76; refine H1.out.mono ?_; rintro e w' ⟨rfl, rfl⟩)
    go_ret2
    exact ⟨by rw [E.out] <;> rfl, rfl⟩

end Go.Proofs.Ythiegfcgbfhmmaa
