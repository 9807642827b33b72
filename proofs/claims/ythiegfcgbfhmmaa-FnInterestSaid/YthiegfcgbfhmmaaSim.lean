/- SimpleInterest and CommissionOf on both sides; the laws of IsSchedule, SimpleInterest, CommissionOf. -/
import Derived.Test.YthiegfcgbfhmmaaWgs
namespace Go.Proofs.Ythiegfcgbfhmmaa
open Go.ChangeShapes Go.WideShapes Go.ChangeAt Go.RowKit
set_option linter.unusedVariables false

/-- What a function leaves that answers a number and a code. -/
def GivP (w : World) (r : Int × Int) (e : Ending) (w' : World) : Prop := e = .returned (.tuple #[.int .i64 r.1, .int .i64 r.2]) ∧ Below w.heap.size w w'
theorem resR_near (a b c : Int) : resR (nearest (a * b) c) = nearR a b c := rfl
def simR (a p d : Int) : Int × Int := if (amt a && inr p 0 10000 && inr d 0 36524) = true then nearR a (p * d) 3650000 else (0, 2)
def comR (a p : Int) : Int × Int := if (amt a && inr p 0 10000) = true then nearR a p 10000 else (0, 2)
inductive MWay (a p d : Int) : Int × Int → Prop where
  | amt (h : amt a = false) : MWay a p d (0, 2)
  | pts (h : amt a = true) (h1 : inr p 0 10000 = false) : MWay a p d (0, 2)
  | day (h : amt a = true) (h1 : inr p 0 10000 = true) (h2 : inr d 0 36524 = false) : MWay a p d (0, 2)
  | ok (h : amt a = true) (h1 : inr p 0 10000 = true) (h2 : inr d 0 36524 = true) : MWay a p d (nearR a (p * d) 3650000)
theorem mway (a p d : Int) : MWay a p d (simR a p d) := by
  unfold simR
  rcases Bool.eq_false_or_eq_true (amt a) with h | h
  · rcases Bool.eq_false_or_eq_true (inr p 0 10000) with h1 | h1
    · rcases Bool.eq_false_or_eq_true (inr d 0 36524) with h2 | h2
      · rw [if_pos (by rw [h, h1, h2]; rfl)]; exact .ok h h1 h2
      · rw [if_neg (by rw [h, h1, h2]; decide)]; exact .day h h1 h2
    · rw [if_neg (by rw [h, h1]; simp)]; exact .pts h h1
  · rw [if_neg (by rw [h]; simp)]; exact .amt h
inductive NWay (a p : Int) : Int × Int → Prop where
  | amt (h : amt a = false) : NWay a p (0, 2)
  | pts (h : amt a = true) (h1 : inr p 0 10000 = false) : NWay a p (0, 2)
  | ok (h : amt a = true) (h1 : inr p 0 10000 = true) : NWay a p (nearR a p 10000)
theorem nway (a p : Int) : NWay a p (comR a p) := by
  unfold comR
  rcases Bool.eq_false_or_eq_true (amt a) with h | h
  · rcases Bool.eq_false_or_eq_true (inr p 0 10000) with h1 | h1
    · rw [if_pos (by rw [h, h1]; rfl)]; exact .ok h h1
    · rw [if_neg (by rw [h, h1]; decide)]; exact .pts h h1
  · rw [if_neg (by rw [h]; simp)]; exact .amt h
theorem near_iq (a b c : Int) (w : World) (a0 : 0 ≤ a) (a1 : a ≤ 1000000000) (b0 : 0 ≤ b) (b1 : b ≤ 1000000000) (c0 : 1 ≤ c) (c1 : c ≤ 1000000000) :
    Calls Try.prog 44 #[.int .i64 a, .int .i64 b, .int .i64 c] w fun e w' => e = .returned (.tuple #[.int .i64 (nearR a b c).1, .int .i64 (nearR a b c).2]) ∧ Below w.heap.size w w' :=
  (near_small a b c w a0 a1 b0 b1 c0 c1).mono fun e w' ⟨h, n, hn⟩ => ⟨h, hn ▸ below_drewN w n⟩

set_option maxHeartbeats 1000000 in
theorem simple_i (a p d : Int) (w : World) : Calls Try.prog 15 #[.int .i64 a, .int .i64 p, .int .i64 d] w (GivP w (simR a p d)) := by
  have W := mway a p d
  generalize simR a p d = r at W
  cases W with
  | ok h h1 h2 =>
    obtain ⟨a0, a1⟩ := amt_iff.1 h
    obtain ⟨p0, p1⟩ := inr_iff.1 h1
    obtain ⟨d0, d1⟩ := inr_iff.1 h2
    have hm := mul_pts p0 p1 d0 (by omega)
    have hm0 := hm.1; have hm1 := hm.2
    have HN := Lib.hid (fun w => near_iq a (p * d) 3650000 w a0 a1 hm0 (by omega) (by omega) (by omega))
    clear hm
    generalize nearR a (p * d) 3650000 = r at *
    go_enter Try.func15, Try.ntmps15
    go_wp2_with (first
      | (go_at_call 43; refine (amtI_q (by assumption) _).mono ?_; rintro e w' ⟨rfl, rfl⟩)
      | (go_at_call 52; refine (pts_iq (by assumption) _).mono ?_; rintro e w' ⟨rfl, rfl⟩)
      | (go_at_call 53; refine (within_q (by assumption) _).mono ?_; rintro e w' ⟨rfl, rfl⟩)
      | (go_at_call 44; refine (HN.out _).mono ?_; rintro e w1 ⟨rfl, b1⟩))
    go_ret2
    exact ⟨rfl, b1⟩
  | _ =>
    go_enter Try.func15, Try.ntmps15
    go_wp2_with (first
      | (go_at_call 43; refine (amtI_q (by assumption) _).mono ?_; rintro e w' ⟨rfl, rfl⟩)
      | (go_at_call 52; refine (pts_iq (by assumption) _).mono ?_; rintro e w' ⟨rfl, rfl⟩)
      | (go_at_call 53; refine (within_q (by assumption) _).mono ?_; rintro e w' ⟨rfl, rfl⟩))
    go_ret2
    exact ⟨rfl, Below.refl _ _⟩
set_option maxHeartbeats 1000000 in
theorem simple_s (a p d : Int) (w : World) : Calls Try.prog 16 #[.int .i64 a, .int .i64 p, .int .i64 d] w (GivP w (simR a p d)) := by
  have W := mway a p d
  generalize simR a p d = r at W
  cases W with
  | ok h h1 h2 =>
    obtain ⟨a0, a1⟩ := amt_iff.1 h
    obtain ⟨p0, p1⟩ := inr_iff.1 h1
    obtain ⟨d0, d1⟩ := inr_iff.1 h2
    have hm := mul_pts p0 p1 d0 (by omega)
    have hm0 := hm.1; have hm1 := hm.2
    have HN := Lib.hid (fun w => interest_s a (p * d) w a0 a1 hm0 hm1)
    rw [← resR_near]
    clear hm
    generalize nearest (a * (p * d)) 3650000 = r at *
    go_enter Try.func16, Try.ntmps16
    go_wp2_with (first
      | (go_at_call 54; refine (amtS_q (by assumption) _).mono ?_; rintro e w' ⟨rfl, rfl⟩)
      | (go_at_call 55; refine (pts_sq (by assumption) _).mono ?_; rintro e w' ⟨rfl, rfl⟩)
      | (go_at_call 56; refine (is_q (by assumption) _).mono ?_; rintro e w' ⟨rfl, rfl⟩)
      | (go_at_call 47; refine (HN.out _).mono ?_; rintro e w1 ⟨rfl, n, rfl⟩)
      | (go_at_call 46; refine (result_s _ _).mono ?_; rintro e w' ⟨rfl, rfl⟩))
    go_ret2
    exact ⟨rfl, below_drewN _ _⟩
  | _ =>
    go_enter Try.func16, Try.ntmps16
    go_wp2_with (first
      | (go_at_call 54; refine (amtS_q (by assumption) _).mono ?_; rintro e w' ⟨rfl, rfl⟩)
      | (go_at_call 55; refine (pts_sq (by assumption) _).mono ?_; rintro e w' ⟨rfl, rfl⟩)
      | (go_at_call 56; refine (is_q (by assumption) _).mono ?_; rintro e w' ⟨rfl, rfl⟩))
    go_ret2
    exact ⟨rfl, Below.refl _ _⟩
theorem commission_i (a p : Int) (w : World) : Calls Try.prog 28 #[.int .i64 a, .int .i64 p] w (GivP w (comR a p)) := by
  have W := nway a p
  generalize comR a p = r at W
  cases W with
  | ok h h1 =>
    obtain ⟨a0, a1⟩ := amt_iff.1 h
    obtain ⟨p0, p1⟩ := inr_iff.1 h1
    have HN := Lib.hid (fun w => near_iq a p 10000 w a0 a1 p0 (by omega) (by omega) (by omega))
    generalize nearR a p 10000 = r at *
    go_enter Try.func28, Try.ntmps28
    go_wp2_with (first
      | (go_at_call 43; refine (amtI_q (by assumption) _).mono ?_; rintro e w' ⟨rfl, rfl⟩)
      | (go_at_call 52; refine (pts_iq (by assumption) _).mono ?_; rintro e w' ⟨rfl, rfl⟩)
      | (go_at_call 44; refine (HN.out _).mono ?_; rintro e w1 ⟨rfl, b1⟩))
    go_ret2
    exact ⟨rfl, b1⟩
  | _ =>
    go_enter Try.func28, Try.ntmps28
    go_wp2_with (first
      | (go_at_call 43; refine (amtI_q (by assumption) _).mono ?_; rintro e w' ⟨rfl, rfl⟩)
      | (go_at_call 52; refine (pts_iq (by assumption) _).mono ?_; rintro e w' ⟨rfl, rfl⟩))
    go_ret2
    exact ⟨rfl, Below.refl _ _⟩
theorem commissionOf_s (a p : Int) (w : World) : Calls Try.prog 29 #[.int .i64 a, .int .i64 p] w (GivP w (comR a p)) := by
  have W := nway a p
  generalize comR a p = r at W
  cases W with
  | ok h h1 =>
    obtain ⟨a0, a1⟩ := amt_iff.1 h
    obtain ⟨p0, p1⟩ := inr_iff.1 h1
    have HN := Lib.hid (fun w => commission_s a p w a0 a1 p0 p1)
    rw [← resR_near]
    generalize nearest (a * p) 10000 = r at *
    go_enter Try.func29, Try.ntmps29
    go_wp2_with (first
      | (go_at_call 54; refine (amtS_q (by assumption) _).mono ?_; rintro e w' ⟨rfl, rfl⟩)
      | (go_at_call 55; refine (pts_sq (by assumption) _).mono ?_; rintro e w' ⟨rfl, rfl⟩)
      | (go_at_call 63; refine (HN.out _).mono ?_; rintro e w1 ⟨rfl, n, rfl⟩)
      | (go_at_call 46; refine (result_s _ _).mono ?_; rintro e w' ⟨rfl, rfl⟩))
    go_ret2
    exact ⟨rfl, below_drewN _ _⟩
  | _ =>
    go_enter Try.func29, Try.ntmps29
    go_wp2_with (first
      | (go_at_call 54; refine (amtS_q (by assumption) _).mono ?_; rintro e w' ⟨rfl, rfl⟩)
      | (go_at_call 55; refine (pts_sq (by assumption) _).mono ?_; rintro e w' ⟨rfl, rfl⟩))
    go_ret2
    exact ⟨rfl, Below.refl _ _⟩

/-! ### laws -/
end Go.Proofs.Ythiegfcgbfhmmaa
