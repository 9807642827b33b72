/- spec.l04On, l04Weight, l04Interest, l04Result, l04Commission, l04Code. -/
import Derived.Test.YthiegfcgbfhmmaaWgt
import Derived.Test.YthiegfcgbfhmmaaProp
namespace Go.Proofs.Ythiegfcgbfhmmaa
open Go.ChangeShapes Go.WideShapes Go.ChangeAt Go.RowKit
set_option linter.unusedVariables false

set_option maxRecDepth 100000 in
set_option maxHeartbeats 2000000 in
theorem on_s (A : Option Addr) (c : Nat) (rs : List St) (d : Int) (w : World) (hR : Rs w A rs) (hn : rs.length ≤ 1048576) :
    Calls Try.prog 64 #[.slice A rs.length c, .int .i64 d] w (Gives w (.int .i64 (onL rs d))) := by
  go_enter Try.func64, Try.ntmps64
  go_wp2_with fail
  go_loopw [5, 6] (fun o i wr => ∃ k : Nat, k ≤ rs.length ∧ i = .int .i64 k ∧ o = .int .i64 (onT rs d k) ∧ Below w.heap.size w wr) (fun _ i _ => rs.length - (intOf i).toNat)
  case atStart => exact ⟨0, Nat.zero_le _, rfl, rfl, Below.refl _ _⟩
  case round =>
    obtain ⟨k, hk, rfl, rfl, hb⟩ := hrel
    by_cases hlt : k < rs.length
    · obtain ⟨b, off, r, rfl, hl, hr, c0, c1⟩ := (hR.below hb).at hlt
      by_cases hd : r.day ≤ d
      · have HT := Lib.hid (onT_yes hr.out hd)
        clear hR hr
        generalize onT rs d k = o at *
        go_wp2_with fail
        go_roundw
        case rel => exact ⟨k + 1, by omega, by go_num, by rw [HT.out], hb⟩
        case measure => simp [intOf]; omega
      · have HT := Lib.hid (onT_no hr.out hd)
        clear hR hr
        have hd' : d < r.day := by omega
        clear hd
        go_wp2_with fail
        go_roundw
        case rel => exact ⟨k + 1, by omega, by go_num, by rw [HT.out], hb⟩
        case measure => simp [intOf]; omega
    · obtain rfl : k = rs.length := by omega
      clear hR
      go_wp2_with fail
      go_ret
      exact ⟨rfl, hb⟩

set_option maxRecDepth 100000 in
set_option maxHeartbeats 4000000 in
theorem weight_s (A : Option Addr) (c : Nat) (rs : List St) (f t : Int) (w : World) (hR : Rs w A rs) (hs : schB rs = true) (f0 : 0 ≤ f) (f1 : f ≤ 36525) (t0 : 0 ≤ t) (t1 : t ≤ 36525) :
    Calls Try.prog 48 #[.slice A rs.length c, .int .i64 f, .int .i64 t] w (Gives w (.int .i64 (wgt rs f t))) := by
  have hn := (sch_iff.1 hs).2.2
  go_enter Try.func48, Try.ntmps48
  go_wp2_with fail
  go_loopw [7, 8] (fun o i wr => ∃ k : Nat, k ≤ rs.length ∧ i = .int .i64 k ∧ o = .int .i64 (wT rs f t k) ∧ Below w.heap.size w wr) (fun _ i _ => rs.length - (intOf i).toNat)
  case atStart => exact ⟨0, Nat.zero_le _, rfl, rfl, Below.refl _ _⟩
  case round =>
    obtain ⟨k, hk, rfl, rfl, hb⟩ := hrel
    have hbd := wT_bd hs f0 t1 k
    by_cases hlt : k < rs.length
    · obtain ⟨b, off, r, rfl, hl, hr, c0, c1⟩ := (hR.below hb).at hlt
      obtain ⟨⟨hd0, hd1⟩, hp0, hp1⟩ := sch_ok hs hr.out
      have HT := Lib.hid (wT_succ (f := f) (t := t) hr.out)
      generalize wT rs f t k = o at *
      by_cases hnx : k + 1 < rs.length
      · obtain ⟨b', off', q, e2, hl', hq, d0, d1⟩ := (hR.below hb).at hnx
        obtain ⟨rfl, rfl⟩ : b = b' ∧ off = off' := by injection e2 with e2; injection e2 with e3 e4; exact ⟨e3, e4⟩
        obtain ⟨⟨hq0, hq1⟩, _, _⟩ := sch_ok hs hq.out
        rw [endD_next hq.out] at HT
        have hk1 : decide (((k : Int) + 1) < (rs.length : Int)) = true := by simp; omega
        have hm := mul_pts hp0 hp1 (x := max 0 (min t q.day - max f r.day)) (by omega) (by omega)
        have hm0 := hm.1; have hm1 := hm.2
        clear hR hr hq e2 hs hm
        go_wp2_with fail
        go_roundw
        case rel => exact ⟨k + 1, by omega, by go_num, by rw [HT.out], hb⟩
        case measure => simp [intOf]; omega
      · rw [endD_last hnx] at HT
        have hk1 : decide (((k : Int) + 1) < (rs.length : Int)) = false := by simp; omega
        have hm := mul_pts hp0 hp1 (x := max 0 (t - max f r.day)) (by omega) (by omega)
        have hm0 := hm.1; have hm1 := hm.2
        clear hR hr hs hm
        go_wp2_with fail
        go_roundw
        case rel => exact ⟨k + 1, by omega, by go_num, by rw [HT.out], hb⟩
        case measure => simp [intOf]; omega
    · obtain rfl : k = rs.length := by omega
      clear hR
      go_wp2_with fail
      go_ret
      exact ⟨rfl, hb⟩

theorem mul_bw {a b : Int} (a0 : 0 ≤ a) (a1 : a ≤ 1000000000) (b0 : 0 ≤ b) (b1 : b ≤ 365250000) : 0 ≤ a * b ∧ a * b ≤ 365250000000000000 :=
  ⟨Int.mul_nonneg a0 b0, by have := Int.mul_le_mul a1 b1 b0 (by omega : (0 : Int) ≤ 1000000000); omega⟩
theorem interest_s (a b : Int) (w : World) (a0 : 0 ≤ a) (a1 : a ≤ 1000000000) (b0 : 0 ≤ b) (b1 : b ≤ 365250000) :
    Calls Try.prog 47 #[.int .i64 a, .int .i64 b] w fun e w' => e = .returned (.int .i64 (nearest (a * b) 3650000)) ∧ ∃ n, w' = w.drewN n := by
  obtain ⟨m0, m1⟩ := mul_bw a0 a1 b0 b1
  have q0 : 0 ≤ a * b / 3650000 := Int.ediv_nonneg m0 (by omega)
  have q1 : a * b / 3650000 ≤ 365250000000000000 := Int.le_trans (Int.ediv_le_self _ m0) m1
  have r0 : 0 ≤ a * b % 3650000 := Int.emod_nonneg _ (by omega)
  have r1 : a * b % 3650000 < 3650000 := Int.emod_lt_of_pos _ (by omega)
  by_cases h : 3650000 ≤ 2 * (a * b % 3650000)
  · have E := Lib.hid (nearest_up m0 (by omega) h)
    go_enter Try.func47, Try.ntmps47
    go_wp2_with fail
    go_quiet (fail)
    go_wp2_with fail
    go_ret
    exact ⟨by rw [E.out] <;> rfl, _, rfl⟩
  · have h : 2 * (a * b % 3650000) < 3650000 := by omega
    have E := Lib.hid (nearest_down m0 (by omega) h)
    go_enter Try.func47, Try.ntmps47
    go_wp2_with fail
    go_quiet (fail)
    go_wp2_with fail
    go_ret
    exact ⟨by rw [E.out] <;> rfl, _, rfl⟩
/-- An amount, or the code that there is none. -/
def resR (n : Int) : Int × Int := if amt n = true then (n, 0) else (0, 3)
theorem amtS_q {n : Int} {b : Bool} (h : amt n = b) (w : World) : Calls Try.prog 54 #[.int .i64 n] w fun e w' => e = .returned (.bool b) ∧ w = w' := h ▸ isAmount_s n w
theorem amtI_q {n : Int} {b : Bool} (h : amt n = b) (w : World) : Calls Try.prog 43 #[.int .i64 n] w fun e w' => e = .returned (.bool b) ∧ w = w' := h ▸ isAmount_i n w
theorem result_s (n : Int) (w : World) : Calls Try.prog 46 #[.int .i64 n] w fun e w' => e = .returned (.tuple #[.int .i64 (resR n).1, .int .i64 (resR n).2]) ∧ w = w' := by
  unfold resR
  rcases Bool.eq_false_or_eq_true (amt n) with h | h
  · rw [if_pos h]
    go_enter Try.func46, Try.ntmps46
    go_wp2_with (go_at_call 54; refine (amtS_q h _).mono ?_; rintro e w' ⟨rfl, rfl⟩)
    go_ret2
    exact ⟨rfl, rfl⟩
  · rw [if_neg (by rw [h]; exact Bool.false_ne_true)]
    go_enter Try.func46, Try.ntmps46
    go_wp2_with (go_at_call 54; refine (amtS_q h _).mono ?_; rintro e w' ⟨rfl, rfl⟩)
    go_ret2
    exact ⟨rfl, rfl⟩
theorem commission_s (a b : Int) (w : World) (a0 : 0 ≤ a) (a1 : a ≤ 1000000000) (b0 : 0 ≤ b) (b1 : b ≤ 10000) :
    Calls Try.prog 63 #[.int .i64 a, .int .i64 b] w fun e w' => e = .returned (.int .i64 (nearest (a * b) 10000)) ∧ ∃ n, w' = w.drewN n := by
  go_enter Try.func63, Try.ntmps63
  go_wp2_with (go_at_call 75; refine (l01Prop a b 10000 _ a0 a1 b0 (by omega) (by omega) (by omega)).mono ?_; rintro e w' ⟨rfl, n, rfl⟩)
  go_ret
  exact ⟨rfl, _, rfl⟩
/-- The code of a schedule, an amount and two days. -/
def codeR (rs : List St) (a f t : Int) : Int := if schB rs = true then if (amt a && inr f 0 36524 && inr t 0 36524) = true then 0 else 2 else 1
inductive CWay (rs : List St) (a f t : Int) : Int → Prop where
  | sch (h : schB rs = false) : CWay rs a f t 1
  | amt (h : schB rs = true) (h1 : amt a = false) : CWay rs a f t 2
  | from_ (h : schB rs = true) (h1 : amt a = true) (h2 : inr f 0 36524 = false) : CWay rs a f t 2
  | to_ (h : schB rs = true) (h1 : amt a = true) (h2 : inr f 0 36524 = true) (h3 : inr t 0 36524 = false) : CWay rs a f t 2
  | ok (h : schB rs = true) (h1 : amt a = true) (h2 : inr f 0 36524 = true) (h3 : inr t 0 36524 = true) : CWay rs a f t 0
theorem cway (rs : List St) (a f t : Int) : CWay rs a f t (codeR rs a f t) := by
  unfold codeR
  rcases Bool.eq_false_or_eq_true (schB rs) with h | h
  · rw [if_pos h]
    rcases Bool.eq_false_or_eq_true (amt a) with h1 | h1
    · rcases Bool.eq_false_or_eq_true (inr f 0 36524) with h2 | h2
      · rcases Bool.eq_false_or_eq_true (inr t 0 36524) with h3 | h3
        · rw [if_pos (by rw [h1, h2, h3]; rfl)]; exact .ok h h1 h2 h3
        · rw [if_neg (by rw [h1, h2, h3]; decide)]; exact .to_ h h1 h2 h3
      · rw [if_neg (by rw [h1, h2]; simp)]; exact .from_ h h1 h2
    · rw [if_neg (by rw [h1]; simp)]; exact .amt h h1
  · rw [if_neg (by rw [h]; decide)]; exact .sch h
theorem schS_q {A : Option Addr} {c : Nat} {rs : List St} {b : Bool} (h : schB rs = b) (w : World) (hR : Rs w A rs) (hn : rs.length ≤ 1048576) :
    Calls Try.prog 21 #[.slice A rs.length c] w (Gives w (.bool b)) := h ▸ sch_s A c rs w hR hn
theorem schI_q {A : Option Addr} {c : Nat} {rs : List St} {b : Bool} (h : schB rs = b) (w : World) (hR : Rs w A rs) :
    Calls Try.prog 20 #[.slice A rs.length c] w (Gives w (.bool b)) := h ▸ sch_i A c rs w hR
theorem code_s (A : Option Addr) (c : Nat) (rs : List St) (a f t : Int) (w : World) (hR : Rs w A rs) (hn : rs.length ≤ 1048576) :
    Calls Try.prog 45 #[.slice A rs.length c, .int .i64 a, .int .i64 f, .int .i64 t] w (Gives w (.int .i64 (codeR rs a f t))) := by
  have W := cway rs a f t
  obtain ⟨v, hv⟩ : ∃ v, v = codeR rs a f t := ⟨_, rfl⟩
  rw [← hv] at W ⊢
  clear hv
  cases W
  all_goals
    go_enter Try.func45, Try.ntmps45
    go_wp2_with (first
      | (go_at_call 21; refine (schS_q (by assumption) _ hR hn).mono ?_; rintro e w1 ⟨rfl, b1⟩)
      | (go_at_call 54; refine (amtS_q (by assumption) _).mono ?_; rintro e w' ⟨rfl, rfl⟩)
      | (go_at_call 56; refine (is_q (by assumption) _).mono ?_; rintro e w' ⟨rfl, rfl⟩))
    go_ret
    exact ⟨rfl, b1⟩
end Go.Proofs.Ythiegfcgbfhmmaa
