/- impl.CrossRate. -/
import Derived.Test.YtmeglhmlhdaacaaRol
import Derived.Test.YtmeglhmlhdaacaaGcd
namespace Go.Proofs.Ytmeglhmlhdaacaa
open Go.ChangeShapes Go.WideShapes Go.ChangeAt Go.RowKit
set_option linter.unusedVariables false

/-- p divided by q, in lowest terms. -/
def crossL (p q : Int × Int) : Int × Int := ((p.1 * q.2) / (Nat.gcd (p.1 * q.2).toNat (p.2 * q.1).toNat : Nat), (p.2 * q.1) / (Nat.gcd (p.1 * q.2).toNat (p.2 * q.1).toNat : Nat))
def crossR (rs : List Rt) (f t : List UInt8) (day : Int) : Int × Int × Int :=
  if ratesC rs day [f, t] = 0 then ((crossL (rateL f day rs) (rateL t day rs)).1, (crossL (rateL f day rs) (rateL t day rs)).2, 0) else (0, 0, ratesC rs day [f, t])
theorem rates_two {w : World} {rs : List Rt} {day : Int} {f t : List UInt8} {e : Ending} {w' : World} (h : RatesP w rs day [f, t] e w') :
    (∃ b off q r s, e = .returned (.tuple #[.slice (some ⟨b, off, none⟩) 2 q, .int .i64 0]) ∧ ratesC rs day [f, t] = 0 ∧ Cells4 w' b off r ∧ Cells4 w' b (off + 4) s ∧ GoodR rs day f r ∧ GoodR rs day t s ∧ Below w.heap.size w w') ∨
    (∃ A n q k, e = .returned (.tuple #[.slice A n q, .int .i64 k]) ∧ ratesC rs day [f, t] = k ∧ k ≠ 0 ∧ Below w.heap.size w w') := by
  obtain ⟨A, q, ys, rfl, ho, hg, hb⟩ := h
  by_cases hk : ratesC rs day [f, t] = 0
  · left
    have hg := hg hk
    obtain ⟨r, h1, h2⟩ := hg.2 0 f rfl
    obtain ⟨s, h5, h6⟩ := hg.2 1 t rfl
    have hl : ys.length = 2 := hg.1
    rw [hl] at ho
    obtain ⟨b, off, r', rfl, _, hr, h4⟩ := ho.rr.four (k := 0) (by omega)
    obtain ⟨b', off', s', e2, _, hs, h4'⟩ := ho.rr.four (k := 1) (by omega)
    obtain ⟨rfl, rfl⟩ : b = b' ∧ off = off' := by injection e2 with e2; injection e2 with e3 e4; exact ⟨e3, e4⟩
    rw [hr.out] at h1
    rw [hs.out] at h5
    obtain rfl := Option.some.inj h1
    obtain rfl := Option.some.inj h5
    refine ⟨b, off, q, r', s', by rw [hl, hk], hk, by simpa using h4, by simpa using h4', h2, h6, hb⟩
  · exact .inr ⟨A, _, q, _, rfl, rfl, hk, hb⟩
theorem sr_two (w : World) (c d : List UInt8) : Sr (w.alloc (.cells #[.string ⟨c.toArray⟩, .string ⟨d.toArray⟩] 9)) (some ⟨w.heap.size, 0, none⟩) [c, d] := fun _ =>
  ⟨w.heap.size, 0, rfl, by simp, fun j v hj => by
    rw [Nat.zero_add, cell_of_row _ _ _ _ _ _ (heap_alloc_new _ _)]
    simpa [encStr] using hj⟩
theorem mul_bd {a b : Int} (ha : 1 ≤ a) (ha2 : a ≤ 1000000) (hb : 1 ≤ b) (hb2 : b ≤ 1000000) : 1 ≤ a * b ∧ a * b ≤ 1000000000000 := by
  have h1 := Int.mul_le_mul ha hb (by omega) (by omega)
  have h2 := Int.mul_le_mul ha2 hb2 (by omega) (by omega)
  omega

theorem quot_bd (X G : Nat) : 0 ≤ (X : Int) / (G : Int) ∧ (X : Int) / (G : Int) ≤ X :=
  ⟨Int.ediv_nonneg (Int.natCast_nonneg _) (Int.natCast_nonneg _), Int.ediv_le_self _ (Int.natCast_nonneg _)⟩
set_option maxRecDepth 100000 in
set_option maxHeartbeats 4000000 in
theorem crossRate_i (A : Option Addr) (d : Nat) (rs : List Rt) (f t : List UInt8) (day : Int) (w : World) (h : Tbl w A rs) (hf : f.length ≤ 9223372036854775807) (ht : t.length ≤ 9223372036854775807) :
    Calls Try.prog 41 #[.slice A rs.length d, .string ⟨f.toArray⟩, .string ⟨t.toArray⟩, .int .i64 day] w (Gives w (.tuple #[.int .i64 (crossR rs f t day).1, .int .i64 (crossR rs f t day).2.1, .int .i64 (crossR rs f t day).2.2])) := by
  have b0 := below_alloc w (.cells #[.string ⟨f.toArray⟩, .string ⟨t.toArray⟩] 9)
  have HR := Lib.hid (ratesOn_i A d rs day (some ⟨w.heap.size, 0, none⟩) 2 [f, t] _ (h.below b0) (sr_two w f t) (by simp; exact ⟨hf, ht⟩) (by simp))
  have E0 : Hid (∀ (r s : Rt), ratesC rs day [f, t] = 0 → GoodR rs day f r → GoodR rs day t s → crossR rs f t day = ((crossL (r.num, r.den) (s.num, s.den)).1, (crossL (r.num, r.den) (s.num, s.den)).2, 0)) := Lib.hid fun r s h1 h2 h3 => by unfold crossR; rw [if_pos h1, h2.1, h3.1]
  have E1 : Hid (∀ k, ratesC rs day [f, t] = k → k ≠ 0 → crossR rs f t day = (0, 0, k)) := Lib.hid fun k h1 h2 => by subst h1; unfold crossR; rw [if_neg h2]
  go_enter Try.func41, Try.ntmps41
  go_wp2_with (go_at_call 93; refine HR.out.mono ?_; rintro e w1 hp
               rcases rates_two hp with ⟨b, off, q, r, s, rfl, hk, h4, h4', hg, hg', b1⟩ | ⟨G, n, q, k, rfl, hk, hk0, b1⟩)
  · have E := Lib.hid (E0.out r s hk hg hg')
    have c2 := h4.c2
    have c3 := h4.c3
    have c6 := h4'.c2
    have c7 := h4'.c3
    have t1 := belowGo b0 b1
    obtain ⟨_, ha1, ha2, ha3, ha4⟩ := hg
    obtain ⟨_, hb1, hb2, hb3, hb4⟩ := hg'
    obtain ⟨m1, m2⟩ := mul_bd ha1 ha2 hb3 hb4
    obtain ⟨m3, m4⟩ := mul_bd ha3 ha4 hb1 hb2
    unfold crossL at E
    simp only at E
    clear HR E0 E1 hp hk h4 h4' h b0 b1 ha1 ha2 ha3 ha4 hb1 hb2 hb3 hb4
    generalize r.num = r1 at *
    generalize r.den = r2 at *
    generalize s.num = s1 at *
    generalize s.den = s2 at *
    go_quiet (fail)
    go_wp2_with fail
    go_quiet (fail)
    have hbd : ∀ n, Below w.heap.size w (w1.drewN n) := fun n => belowGo t1 (below_drewN w1 n)
    generalize r1 * s2 = P at *
    generalize r2 * s1 = Q at *
    obtain ⟨X, rfl⟩ : ∃ X : Nat, P = X := ⟨P.toNat, by omega⟩
    obtain ⟨Y, rfl⟩ : ∃ Y : Nat, Q = Y := ⟨Q.toNat, by omega⟩
    rw [Int.toNat_natCast, Int.toNat_natCast] at E
    have hpos : 0 < Nat.gcd X Y := Nat.gcd_pos_of_pos_left _ (by omega)
    have HG := Lib.hid (fun w => gcd_i X Y w (by omega) (by omega))
    generalize Nat.gcd X Y = G at *
    have hz : ((G : Int) == 0) = false := by rw [beq_eq_false_iff_ne]; omega
    have hz2 : ((G : Int) == -1) = false := by rw [beq_eq_false_iff_ne]; omega
    have q1 := quot_bd X G
    have q2 := quot_bd Y G
    clear c2 c3 c6 c7 t1
    go_wp2_with (go_at_call 96; refine (HG.out _).mono ?_; rintro e w3 ⟨rfl, b3⟩)
    go_quiet (fail)
    go_wp2_with fail
    go_ret3
    rw [E.out]
    exact ⟨rfl, belowGo (belowGo (hbd _) b3) (below_drewN _ _)⟩
  · go_ret3
    rw [E1.out k hk hk0]
    exact ⟨rfl, belowGo b0 b1⟩
end Go.Proofs.Ytmeglhmlhdaacaa
