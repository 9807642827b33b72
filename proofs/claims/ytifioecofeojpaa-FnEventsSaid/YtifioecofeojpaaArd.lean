/- impl.areDays: all numbers of a list are numbers of dates. -/
import Derived.Test.YtifioecofeojpaaDayp
import Derived.Test.YtifioecofeojpaaMHeld
namespace Go.Proofs.Ytifioecofeojpaa
open Go.ChangeShapes Go.WideShapes Go.ChangeAt Go.RowKit
set_option linter.unusedVariables false

def daysB (ds : List Int) : Bool := ds.all fun d => inr d 0 36524
theorem daysB_no {ds : List Int} {k : Nat} {d : Int} (h : ds[k]? = some d) (hd : inr d 0 36524 = false) : daysB ds = false := by
  unfold daysB; rw [List.all_eq_false]; exact ⟨d, List.mem_of_getElem? h, by simp [hd]⟩
theorem daysB_snoc (ds : List Int) (d : Int) : daysB (ds ++ [d]) = (daysB ds && inr d 0 36524) := by simp [daysB]
theorem daysB_2 (a b : Int) : daysB [a, b] = (inr a 0 36524 && inr b 0 36524) := by simp [daysB]
theorem daysB_1 (a : Int) : daysB [a] = inr a 0 36524 := by simp [daysB]
theorem Ir.new1 (w : World) (d : Int) (t : TypeId) : Ir (w.alloc (.cells #[.int .i64 d] t)) (some ⟨w.heap.size, 0, none⟩) [d] := Rw.new w [.int .i64 d] t (0, 0)
theorem Ir.new2 (w : World) (d e : Int) (t : TypeId) : Ir (w.alloc (.cells #[.int .i64 d, .int .i64 e] t)) (some ⟨w.heap.size, 0, none⟩) [d, e] := Rw.new w [.int .i64 d, .int .i64 e] t (0, 0)
set_option maxRecDepth 100000 in
set_option maxHeartbeats 1000000 in
theorem areDays_i (D : Option Addr) (e : Nat) (ds : List Int) (w : World) (hD : Ir w D ds) (hn : ds.length ≤ 10) :
    Calls Try.prog 54 #[.slice D ds.length e] w fun e w' => e = .returned (.bool (daysB ds)) ∧ w = w' := by
  go_enter Try.func54, Try.ntmps54
  go_wp2_with fail
  go_loop [7] (fun i => ∃ k : Nat, k ≤ ds.length ∧ i = .int .i64 k ∧ Hid (daysB (ds.take k) = true)) (fun i => ds.length - (intOf i).toNat)
  case atStart => exact ⟨0, Nat.zero_le _, rfl, Lib.hid rfl⟩
  case round =>
    obtain ⟨k, hk, rfl, hok⟩ := hrel
    by_cases hlt : k < ds.length
    · obtain ⟨b, off, d, rfl, hc, hd⟩ := hD.at hlt
      rcases Bool.eq_false_or_eq_true (inr d 0 36524) with h1 | h1
      · have HT : Hid (daysB (ds.take (k + 1)) = true) := Lib.hid (by rw [snoc_of hd.out, daysB_snoc, hok.out, h1]; rfl)
        clear hok hd hD
        go_wp2_with (go_at_call 71; refine (isDay_q h1 _).mono ?_; rintro e w' ⟨rfl, rfl⟩)
        go_round
        case rel => exact ⟨k + 1, by omega, by go_num, HT⟩
        case measure => simp [intOf]; omega
      · have HT : Hid (daysB ds = false) := Lib.hid (daysB_no hd.out h1)
        clear hok hd hD
        go_wp2_with (go_at_call 71; refine (isDay_q h1 _).mono ?_; rintro e w' ⟨rfl, rfl⟩)
        go_ret
        exact ⟨by rw [HT.out] <;> rfl, rfl⟩
    · have HT : Hid (daysB ds = true) := Lib.hid (by
        have := hok.out; rw [take_all hk hlt] at this; exact this)
      clear hok hD
      go_wp2_with fail
      go_ret
      exact ⟨by rw [HT.out] <;> rfl, rfl⟩
theorem areDays_q {D : Option Addr} {e n : Nat} {ds : List Int} {w : World} {b : Bool} (hD : Ir w D ds) (hn : ds.length = n) (hn2 : n ≤ 10) (hb : daysB ds = b) :
    Calls Try.prog 54 #[.slice D n e] w fun e w' => e = .returned (.bool b) ∧ w = w' := by
  subst hn hb; exact areDays_i D e ds w hD hn2
theorem areDays_two (W : World) (a b : Int) (n : Nat) {v : Bool} (h : daysB [a, b] = v) (hn : n = W.heap.size) :
    Calls Try.prog 54 #[.slice (some ⟨n, 0, none⟩) 2 2] (W.alloc (.cells #[.int .i64 a, .int .i64 b] 2)) fun e w' => e = .returned (.bool v) ∧ W.alloc (.cells #[.int .i64 a, .int .i64 b] 2) = w' := by
  subst hn; exact areDays_q (Ir.new2 W a b 2) rfl (by decide) h
theorem areDays_one (W : World) (a : Int) (n : Nat) {v : Bool} (h : daysB [a] = v) (hn : n = W.heap.size) :
    Calls Try.prog 54 #[.slice (some ⟨n, 0, none⟩) 1 1] (W.alloc (.cells #[.int .i64 a] 2)) fun e w' => e = .returned (.bool v) ∧ W.alloc (.cells #[.int .i64 a] 2) = w' := by
  subst hn; exact areDays_q (Ir.new1 W a 2) rfl (by decide) h
end Go.Proofs.Ytifioecofeojpaa
