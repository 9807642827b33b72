/- impl.greatestDivisor. -/
import Derived.Test.YtmeglhmlhdaacaaDay
namespace Go.Proofs.Ytmeglhmlhdaacaa
open Go.ChangeShapes Go.WideShapes Go.ChangeAt Go.RowKit
set_option linter.unusedVariables false

set_option maxRecDepth 100000 in
set_option maxHeartbeats 1000000 in
theorem gcd_i (x y : Nat) (w : World) (hx : x ≤ 1000000000000) (hy : y ≤ 1000000000000) :
    Calls Try.prog 96 #[.int .i64 x, .int .i64 y] w fun e w' => e = .returned (.int .i64 (Nat.gcd x y : Nat)) ∧ Below w.heap.size w w' := by
  obtain ⟨G, hG⟩ : ∃ G, G = Nat.gcd x y := ⟨_, rfl⟩
  rw [← hG]
  go_enter Try.func96, Try.ntmps96
  go_wp2_with fail
  go_loopw [0, 1] (fun a b wr => ∃ p q : Nat, a = .int .i64 p ∧ b = .int .i64 q ∧ p ≤ 1000000000000 ∧ q ≤ 1000000000000 ∧ Hid (Nat.gcd p q = G) ∧ Below w.heap.size w wr) (fun _ b _ => (intOf b).toNat)
  case atStart => exact ⟨x, y, rfl, rfl, hx, hy, Lib.hid hG.symm, Below.refl _ _⟩
  case round =>
    obtain ⟨p, q, rfl, rfl, hp, hq, hg, hb⟩ := hrel
    by_cases h0 : 0 < q
    · have hg2 : Hid (Nat.gcd q (p % q) = G) := Lib.hid (by rw [← hg.out, Nat.gcd_comm p q, Nat.gcd_rec q p, Nat.gcd_comm])
      have hlt : p % q < q := Nat.mod_lt _ h0
      have hz : ((q : Int) == 0) = false := by rw [beq_eq_false_iff_ne]; omega
      clear hg
      go_wp2_with fail
      go_quiet (fail)
      go_wp2_with fail
      exact ⟨⟨q, p % q, rfl, by rw [Int.natCast_emod], hq, by omega, hg2, belowGo hb (below_drewN _ _)⟩, by rw [← Int.natCast_emod]; simp only [intOf, Int.toNat_natCast]; exact hlt⟩
    · obtain rfl : q = 0 := by omega
      have E : Hid (p = G) := Lib.hid (by rw [← hg.out, Nat.gcd_zero_right])
      clear hg
      go_wp2_with fail
      go_ret
      rw [← E.out]
      exact ⟨rfl, hb⟩
end Go.Proofs.Ytmeglhmlhdaacaa
