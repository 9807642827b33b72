/- spec.l03Cross, spec.CrossRate. -/
import Derived.Test.YtmeglhmlhdaacaaCro
namespace Go.Proofs.Ytmeglhmlhdaacaa
open Go.ChangeShapes Go.WideShapes Go.ChangeAt Go.RowKit
set_option linter.unusedVariables false

theorem rate_good {rs : List Rt} (ht : tabB rs = true) {c : List UInt8} {day : Int} (h : 0 < (rateL c day rs).2) : 1 ≤ (rateL c day rs).1 ∧ (rateL c day rs).1 ≤ 1000000 ∧ (rateL c day rs).2 ≤ 1000000 := by
  revert h
  unfold rateL
  split
  · intro _; decide
  · split
    · intro h; exact absurd h (by decide)
    · rename_i r hr
      obtain ⟨k, hk, _⟩ := lastOn_some hr
      have := Rt.ok_iff.1 (tab_ok ht hk)
      intro h
      show 1 ≤ r.num ∧ r.num ≤ 1000000 ∧ r.den ≤ 1000000
      omega
theorem l03Rate_q {A : Option Addr} {d : Nat} {rs : List Rt} {c : List UInt8} {day n m : Int} {b : Bool} {w : World} (h : Tbl w A rs) (hr : rateL c day rs = (n, m)) (hb : decide (0 < m) = b) :
    Calls Try.prog 94 #[.slice A rs.length d, .string ⟨c.toArray⟩, .int .i64 day] w fun e w' => e = .returned (.tuple #[.int .i64 n, .int .i64 m, .bool b]) ∧ w = w' := by
  have := l03Rate_s A d rs c day w h
  rw [hr, hb] at this
  exact this
def crossS (rs : List Rt) (f t : List UInt8) (day : Int) : Int × Int × Bool :=
  if 0 < (rateL f day rs).2 ∧ 0 < (rateL t day rs).2 then ((crossL (rateL f day rs) (rateL t day rs)).1, (crossL (rateL f day rs) (rateL t day rs)).2, true) else (0, 0, false)

set_option maxRecDepth 100000 in
set_option maxHeartbeats 4000000 in
theorem l03Cross_s (A : Option Addr) (d : Nat) (rs : List Rt) (f t : List UInt8) (day : Int) (w : World) (h : Tbl w A rs) (ht : tabB rs = true) :
    Calls Try.prog 86 #[.slice A rs.length d, .string ⟨f.toArray⟩, .string ⟨t.toArray⟩, .int .i64 day] w (Gives w (.tuple #[.int .i64 (crossS rs f t day).1, .int .i64 (crossS rs f t day).2.1, .bool (crossS rs f t day).2.2])) := by
  have G1 := Lib.hid (@rate_good rs ht f day)
  have G2 := Lib.hid (@rate_good rs ht t day)
  have E0 : Hid (0 < (rateL f day rs).2 → 0 < (rateL t day rs).2 → crossS rs f t day = ((crossL (rateL f day rs) (rateL t day rs)).1, (crossL (rateL f day rs) (rateL t day rs)).2, true)) := Lib.hid fun h1 h2 => if_pos ⟨h1, h2⟩
  have E1 : Hid (¬ (0 < (rateL f day rs).2 ∧ 0 < (rateL t day rs).2) → crossS rs f t day = (0, 0, false)) := Lib.hid fun h1 => if_neg h1
  generalize crossS rs f t day = R at *
  obtain ⟨⟨r1, r2⟩, hrf⟩ : ∃ p, rateL f day rs = p := ⟨_, rfl⟩
  obtain ⟨⟨s1, s2⟩, hrt⟩ : ∃ p, rateL t day rs = p := ⟨_, rfl⟩
  rw [hrf] at G1 E0 E1
  rw [hrt] at G2 E0 E1
  simp only at G1 G2 E0 E1
  clear ht
  by_cases h1 : 0 < r2
  · have hd1 : decide (0 < r2) = true := by simpa using h1
    by_cases h2 : 0 < s2
    · have hd2 : decide (0 < s2) = true := by simpa using h2
      have E := Lib.hid (E0.out h1 h2)
      obtain ⟨a1, a2, a3⟩ := G1.out h1
      obtain ⟨e1, e2, e3⟩ := G2.out h2
      obtain ⟨m1, m2⟩ := mul_bd a1 a2 (show 1 ≤ s2 by omega) e3
      obtain ⟨m3, m4⟩ := mul_bd (show 1 ≤ r2 by omega) a3 e1 e2
      unfold crossL at E
      simp only at E
      clear E0 E1 G1 G2 a1 a2 a3 e1 e2 e3 h1 h2
      go_enter Try.func86, Try.ntmps86
      go_wp2_with (go_at_call 94; refine (l03Rate_q h (by assumption) (by assumption)).mono ?_; rintro e w' ⟨rfl, rfl⟩)
      generalize r1 * s2 = P at *
      generalize r2 * s1 = Q at *
      obtain ⟨X, rfl⟩ : ∃ X : Nat, P = X := ⟨P.toNat, by omega⟩
      obtain ⟨Y, rfl⟩ : ∃ Y : Nat, Q = Y := ⟨Q.toNat, by omega⟩
      rw [Int.toNat_natCast, Int.toNat_natCast] at E
      have hpos : 0 < Nat.gcd X Y := Nat.gcd_pos_of_pos_left _ (by omega)
      obtain ⟨G, hG⟩ : ∃ G, G = Nat.gcd X Y := ⟨_, rfl⟩
      rw [← hG] at hpos E
      go_loopw [19, 20] (fun a b wr => ∃ p q : Nat, a = .int .i64 p ∧ b = .int .i64 q ∧ p ≤ 1000000000000 ∧ q ≤ 1000000000000 ∧ Hid (Nat.gcd p q = G) ∧ Below w.heap.size w wr) (fun _ b _ => (intOf b).toNat)
      case atStart => exact ⟨X, Y, rfl, rfl, by omega, by omega, Lib.hid hG.symm, Below.refl _ _⟩
      case round =>
        obtain ⟨p, q, rfl, rfl, hp, hq, hg, hb⟩ := hrel
        by_cases h0 : 0 < q
        · have hg2 : Hid (Nat.gcd q (p % q) = G) := Lib.hid (by rw [← hg.out, Nat.gcd_comm p q, Nat.gcd_rec q p, Nat.gcd_comm])
          have hlt : p % q < q := Nat.mod_lt _ h0
          have hz : ((q : Int) == 0) = false := by rw [beq_eq_false_iff_ne]; omega
          have hz2 : ((q : Int) != 0) = true := by rw [bne_iff_ne]; omega
          clear hg
          go_wp2_with fail
          go_quiet (fail)
          go_wp2_with fail
          exact ⟨⟨q, p % q, rfl, by rw [Int.natCast_emod], hq, by omega, hg2, belowGo hb (below_drewN _ _)⟩, by rw [← Int.natCast_emod]; simp only [intOf, Int.toNat_natCast]; exact hlt⟩
        · obtain rfl : q = 0 := by omega
          obtain rfl : p = G := by rw [← hg.out, Nat.gcd_zero_right]
          have hz : ((p : Int) == 0) = false := by rw [beq_eq_false_iff_ne]; omega
          have hz2 : ((p : Int) == -1) = false := by rw [beq_eq_false_iff_ne]; omega
          have q1 := quot_bd X p
          have q2 := quot_bd Y p
          clear hg hG
          go_wp2_with fail
          go_quiet (fail)
          go_wp2_with fail
          go_ret3
          rw [E.out]
          exact ⟨rfl, belowGo hb (below_drewN _ _)⟩
    · have hd2 : decide (0 < s2) = false := by simpa using h2
      have E := Lib.hid (E1.out fun h => h2 h.2)
      clear E0 E1 G1 G2
      go_enter Try.func86, Try.ntmps86
      go_wp2_with (go_at_call 94; refine (l03Rate_q h (by assumption) (by assumption)).mono ?_; rintro e w' ⟨rfl, rfl⟩)
      go_ret3
      rw [E.out]
      exact ⟨rfl, Below.refl _ _⟩
  · have hd1 : decide (0 < r2) = false := by simpa using h1
    obtain ⟨b2, hd2⟩ : ∃ b, decide (0 < s2) = b := ⟨_, rfl⟩
    have E := Lib.hid (E1.out fun h => h1 h.1)
    clear E0 E1 G1 G2
    go_enter Try.func86, Try.ntmps86
    go_wp2_with (go_at_call 94; refine (l03Rate_q h (by assumption) (by assumption)).mono ?_; rintro e w' ⟨rfl, rfl⟩)
    go_ret3
    rw [E.out]
    exact ⟨rfl, Below.refl _ _⟩
end Go.Proofs.Ytmeglhmlhdaacaa
