/- Weekdays and business days. -/
import Derived.Test.YtpnkjpfhmiaffaaDay
import Derived.RegionTactic
import Derived.Deep.RegionWith
namespace Go.Proofs.Ytpnkjpfhmiaffaa
open Go.ChangeShapes Go.WideShapes Go.ChangeAt Go.RowKit
set_option linter.unusedVariables false

theorem isDay_q {n : Int} {b : Bool} (h : inr n 0 36524 = b) (w : World) : Calls Try.prog 34 #[.int .i64 n] w fun e w' => e = .returned (.bool b) ∧ w = w' :=
  (isDay_i n w).mono fun e w' k => ⟨by rw [← h]; exact k.1, k.2⟩
theorem is_q {n : Int} {b : Bool} (h : inr n 0 36524 = b) (w : World) : Calls Try.prog 37 #[.int .i64 n] w fun e w' => e = .returned (.bool b) ∧ w = w' :=
  (is_s n w).mono fun e w' k => ⟨by rw [← h]; exact k.1, k.2⟩
theorem within_q {n lo hi : Int} {b : Bool} (h : inr n lo hi = b) (w : World) : Calls Try.prog 41 #[.int .i64 n, .int .i64 lo, .int .i64 hi] w fun e w' => e = .returned (.bool b) ∧ w = w' :=
  (within_i n lo hi w).mono fun e w' k => ⟨by rw [← h]; exact k.1, k.2⟩
theorem inn_q {n lo hi : Int} {b : Bool} (h : inr n lo hi = b) (w : World) : Calls Try.prog 42 #[.int .i64 n, .int .i64 lo, .int .i64 hi] w fun e w' => e = .returned (.bool b) ∧ w = w' :=
  (in_s n lo hi w).mono fun e w' k => ⟨by rw [← h]; exact k.1, k.2⟩

def wdR (n : Int) : Int × Int := if inr n 0 36524 = true then ((n + 3) % 7, 0) else (0, 2)
theorem wdR_ok {n : Int} (h : inr n 0 36524 = true) : wdR n = ((n + 3) % 7, 0) := by simp [wdR, h]
theorem wdR_no {n : Int} (h : inr n 0 36524 = false) : wdR n = (0, 2) := by simp [wdR, h]
theorem wd_i (n : Int) (w : World) : Calls Try.prog 21 #[.int .i64 n] w fun e w' => e = .returned (.tuple #[.int .i64 (wdR n).1, .int .i64 (wdR n).2]) ∧ w = w' := by
  rcases Bool.eq_false_or_eq_true (inr n 0 36524) with h | h
  · have E := Lib.hid (wdR_ok h)
    have hb := inr_iff.1 h
    go_enter Try.func21, Try.ntmps21
    go_wp2_with (go_at_call 34; refine (isDay_q (by assumption) _).mono ?_; rintro e w' ⟨rfl, rfl⟩)
    go_ret2
    exact ⟨by rw [E.out] <;> rfl, rfl⟩
  · have E := Lib.hid (wdR_no h)
    go_enter Try.func21, Try.ntmps21
    go_wp2_with (go_at_call 34; refine (isDay_q (by assumption) _).mono ?_; rintro e w' ⟨rfl, rfl⟩)
    go_ret2
    exact ⟨by rw [E.out] <;> rfl, rfl⟩
theorem wdof_s (n : Int) (w : World) : Calls Try.prog 22 #[.int .i64 n] w fun e w' => e = .returned (.tuple #[.int .i64 (wdR n).1, .int .i64 (wdR n).2]) ∧ w = w' := by
  rcases Bool.eq_false_or_eq_true (inr n 0 36524) with h | h
  · have E := Lib.hid (wdR_ok h)
    have hb := inr_iff.1 h
    go_enter Try.func22, Try.ntmps22
    go_wp2_with (first | (go_at_call 37; refine (is_q (by assumption) _).mono ?_; rintro e w' ⟨rfl, rfl⟩) | (go_at_call 44; refine (wd_s _ _ (by omega) (by omega)).mono ?_; rintro e w' ⟨rfl, rfl⟩))
    go_ret2
    exact ⟨by rw [E.out] <;> rfl, rfl⟩
  · have E := Lib.hid (wdR_no h)
    go_enter Try.func22, Try.ntmps22
    go_wp2_with (first | (go_at_call 37; refine (is_q (by assumption) _).mono ?_; rintro e w' ⟨rfl, rfl⟩))
    go_ret2
    exact ⟨by rw [E.out] <;> rfl, rfl⟩

/-! ### the next business days -/
def busA (n : Int) : Int := if 5 ≤ (n + 3) % 7 then 0 else (n + 3) % 7
def busM (n : Int) : Int := if 5 ≤ (n + 3) % 7 then n - (n + 3) % 7 + 7 else n - (n + 3) % 7
theorem bus_facts (n : Int) : (busM n + 3) % 7 = 0 ∧ 0 ≤ busA n ∧ busA n ≤ 4 ∧ n ≤ busM n + busA n ∧ busM n + busA n ≤ n + 2 ∧ (n < busM n + busA n → busA n = 0) := by
  unfold busM busA; split <;> omega
theorem bday_0 {m a : Int} (h0 : 0 ≤ a) (h : a ≤ 4) : bday m a = m + a := by unfold bday; omega
def busR (n k : Int) : Int := bday (busM n) (busA n + k)
theorem busR_in {n k : Int} (h0 : 0 ≤ n) (h1 : n ≤ 36524) (k0 : 0 ≤ k) (k1 : k ≤ 1000) : n + k ≤ busR n k ∧ busR n k ≤ 100000 := by
  obtain ⟨_, a, b, c, d, _⟩ := bus_facts n
  unfold busR bday; omega
theorem busR_wd {n k : Int} (k0 : 0 ≤ k) : (busR n k + 3) % 7 ≤ 4 := by
  obtain ⟨e, a, b, c, d, _⟩ := bus_facts n
  unfold busR; rw [bday_wd e (by omega)]; omega
theorem busR_0 (n : Int) : n ≤ busR n 0 ∧ busR n 0 ≤ n + 2 ∧ (n < busR n 0 → (busR n 0 + 3) % 7 = 0) := by
  obtain ⟨e, a, b, c, d, f⟩ := bus_facts n
  have h : busR n 0 = busM n + busA n := by unfold busR; rw [Int.add_zero, bday_0 a b]
  rw [h]; omega
theorem busR_step {n k : Int} (k0 : 0 ≤ k) : busR n k + 1 ≤ busR n (k + 1) ∧ busR n (k + 1) ≤ busR n k + 1 + 2 ∧ (busR n k + 1 < busR n (k + 1) → (busR n (k + 1) + 3) % 7 = 0) := by
  obtain ⟨e, a, b, c, d, f⟩ := bus_facts n
  have h1 := bday_wd (mon := busM n) (a := busA n + (k + 1)) e (by omega)
  unfold busR
  unfold bday at *
  omega

set_option maxHeartbeats 1000000 in
theorem bus_s (n k : Int) (w : World) (h0 : 0 ≤ n) (h1 : n ≤ 36524) (k0 : 0 ≤ k) (k1 : k ≤ 1000) :
    Calls Try.prog 43 #[.int .i64 n, .int .i64 k] w fun e w' => e = .returned (.int .i64 (busR n k)) ∧ w = w' := by
  have HB := Lib.hid (fun j (j0 : 0 ≤ j) (j1 : j ≤ 1000) => busR_in (n := n) (k := j) h0 h1 j0 j1)
  have HW := Lib.hid (fun j (j0 : 0 ≤ j) => busR_wd (n := n) (k := j) j0)
  have H0 := Lib.hid (busR_0 n)
  have HS := Lib.hid (fun j (j0 : 0 ≤ j) => busR_step (n := n) (k := j) j0)
  generalize busR n = T at *
  go_enter Try.func43, Try.ntmps43
  go_wp2_with fail
  go_loopw [0] (fun v wr => ∃ i : Int, v = .int .i64 i ∧ n ≤ i ∧ i ≤ T 0 ∧ w = wr) (fun v _ => (T 0 - intOf v).toNat)
  case atStart => exact ⟨n, rfl, by omega, H0.out.1, rfl⟩
  case round =>
    obtain ⟨i, rfl, i0, i1, rfl⟩ := hrel
    have hb := HB.out 0 (by omega) (by omega)
    have hw := HW.out 0 (by omega)
    have hz := H0.out
    by_cases hi : (i + 3) % 7 ≤ 4
    · have hT : i = T 0 := by
        by_cases h : i < T 0
        · have := hz.2.2 (by omega); omega
        · omega
      clear hz hw
      go_wp2_with (go_at_call 44; refine (wd_s _ _ (by omega) (by omega)).mono ?_; rintro e w' ⟨rfl, rfl⟩)
      subst hT
      go_loopw [0, 1] (fun v u wr => ∃ j : Int, v = .int .i64 (T j) ∧ u = .int .i64 (k - j) ∧ 0 ≤ j ∧ j ≤ k ∧ w = wr) (fun _ u _ => (intOf u).toNat)
      case atStart => exact ⟨0, rfl, by simp, by omega, k0, rfl⟩
      case round =>
        obtain ⟨j, rfl, rfl, j0, j1, rfl⟩ := hrel
        have hb := HB.out j j0 (by omega)
        by_cases hj : j < k
        · have hb2 := HB.out (j + 1) (by omega) (by omega)
          have hs := Lib.hid (HS.out j j0)
          have hs1 := hs.out.1
          have hw := Lib.hid (HW.out (j + 1) (by omega))
          go_wp2_with fail
          go_loopw [0] (fun v wr => ∃ i : Int, v = .int .i64 i ∧ T j + 1 ≤ i ∧ i ≤ T (j + 1) ∧ w = wr) (fun v _ => (T (j + 1) - intOf v).toNat)
          case atStart => exact ⟨_, rfl, by omega, by omega, rfl⟩
          case round =>
            obtain ⟨i, rfl, i0, i1, rfl⟩ := hrel
            by_cases hi : (i + 3) % 7 ≤ 4
            · have hT : i = T (j + 1) := by
                by_cases h : i < T (j + 1)
                · have := hs.out.2.2 (by omega); have := hs.out; omega
                · omega
              go_wp2_with (go_at_call 44; refine (wd_s _ _ (by omega) (by omega)).mono ?_; rintro e w' ⟨rfl, rfl⟩)
              go_roundw
              case rel => exact ⟨j + 1, by first | rfl | rw [hT], by congr 1; omega, by omega, by omega, by simp⟩
              case measure => simp [intOf]; omega
            · have hi' : i < T (j + 1) := by
                rcases Int.lt_or_eq_of_le i1 with h | h
                · exact h
                · subst h; exact absurd hw.out hi
              go_wp2_with (go_at_call 44; refine (wd_s _ _ (by omega) (by omega)).mono ?_; rintro e w' ⟨rfl, rfl⟩)
              go_roundw
              case rel => exact ⟨i + 1, rfl, by omega, by omega, by simp⟩
              case measure => simp [intOf]; omega
        · obtain rfl : k = j := by omega
          go_wp2_with fail
          go_ret
          exact ⟨rfl, rfl⟩
    · have hi' : i < T 0 := by
        rcases Int.lt_or_eq_of_le i1 with h | h
        · exact h
        · subst h; exact absurd hw hi
      clear hz hw
      go_wp2_with (go_at_call 44; refine (wd_s _ _ (by omega) (by omega)).mono ?_; rintro e w' ⟨rfl, rfl⟩)
      go_roundw
      case rel => exact ⟨i + 1, rfl, by omega, by omega, by simp⟩
      case measure => simp [intOf]; omega

/-- What NextBusinessDay answers. -/
def nbdR (n k : Int) : Int × Int := if inr n 0 36524 = true ∧ inr k 0 1000 = true then if inr (busR n k) 0 36524 = true then (busR n k, 0) else (0, 3) else (0, 2)
theorem nbdR_n {n k : Int} (h : inr n 0 36524 = false) : nbdR n k = (0, 2) := by simp [nbdR, h]
theorem nbdR_k {n k : Int} (h : inr k 0 1000 = false) : nbdR n k = (0, 2) := by simp [nbdR, h]
theorem nbdR_ok {n k : Int} (h : inr n 0 36524 = true) (h' : inr k 0 1000 = true) (g : inr (busR n k) 0 36524 = true) : nbdR n k = (busR n k, 0) := by simp [nbdR, h, h', g]
theorem nbdR_big {n k : Int} (h : inr n 0 36524 = true) (h' : inr k 0 1000 = true) (g : inr (busR n k) 0 36524 = false) : nbdR n k = (0, 3) := by simp [nbdR, h, h', g]
theorem busR_lo {n k : Int} (h : 5 ≤ (n + 3) % 7) : n - (n + 3) % 7 + 7 + k / 5 * 7 + k % 5 = busR n k := by
  unfold busR busM busA bday; rw [if_pos h, if_pos h]; simp
theorem busR_hi {n k : Int} (h : ¬ 5 ≤ (n + 3) % 7) : n - (n + 3) % 7 + ((n + 3) % 7 + k) / 5 * 7 + ((n + 3) % 7 + k) % 5 = busR n k := by
  unfold busR busM busA bday; rw [if_neg h, if_neg h]

theorem nbd_s (n k : Int) (w : World) : Calls Try.prog 19 #[.int .i64 n, .int .i64 k] w fun e w' => e = .returned (.tuple #[.int .i64 (nbdR n k).1, .int .i64 (nbdR n k).2]) ∧ w = w' := by
  rcases Bool.eq_false_or_eq_true (inr n 0 36524) with h | h
  · rcases Bool.eq_false_or_eq_true (inr k 0 1000) with h' | h'
    · have hn := inr_iff.1 h
      have hk := inr_iff.1 h'
      have HB := Lib.hid (fun w => bus_s n k w hn.1 hn.2 hk.1 hk.2)
      rcases Bool.eq_false_or_eq_true (inr (busR n k) 0 36524) with g | g
      · have E := Lib.hid (nbdR_ok h h' g)
        go_enter Try.func19, Try.ntmps19
        go_wp2_with (first | (go_at_call 37; refine (is_q (by assumption) _).mono ?_; rintro e w' ⟨rfl, rfl⟩) | (go_at_call 42; refine (inn_q (by assumption) _).mono ?_; rintro e w' ⟨rfl, rfl⟩) | (go_at_call 43; refine (HB.out _).mono ?_; rintro e w' ⟨rfl, rfl⟩))
        go_ret2
        exact ⟨by rw [E.out] <;> rfl, rfl⟩
      · have E := Lib.hid (nbdR_big h h' g)
        go_enter Try.func19, Try.ntmps19
        go_wp2_with (first | (go_at_call 37; refine (is_q (by assumption) _).mono ?_; rintro e w' ⟨rfl, rfl⟩) | (go_at_call 42; refine (inn_q (by assumption) _).mono ?_; rintro e w' ⟨rfl, rfl⟩) | (go_at_call 43; refine (HB.out _).mono ?_; rintro e w' ⟨rfl, rfl⟩))
        go_ret2
        exact ⟨by rw [E.out] <;> rfl, rfl⟩
    · have E := Lib.hid (nbdR_k (n := n) h')
      go_enter Try.func19, Try.ntmps19
      go_wp2_with (first | (go_at_call 37; refine (is_q (by assumption) _).mono ?_; rintro e w' ⟨rfl, rfl⟩) | (go_at_call 42; refine (inn_q (by assumption) _).mono ?_; rintro e w' ⟨rfl, rfl⟩))
      go_ret2
      exact ⟨by rw [E.out] <;> rfl, rfl⟩
  · have E := Lib.hid (nbdR_n (k := k) h)
    go_enter Try.func19, Try.ntmps19
    go_wp2_with (first | (go_at_call 37; refine (is_q (by assumption) _).mono ?_; rintro e w' ⟨rfl, rfl⟩) | (go_at_call 42; refine (inn_q (by assumption) _).mono ?_; rintro e w' ⟨rfl, rfl⟩))
    go_ret2
    exact ⟨by rw [E.out] <;> rfl, rfl⟩

theorem wd_q {n a b : Int} (h : wdR n = (a, b)) (w : World) : Calls Try.prog 21 #[.int .i64 n] w fun e w' => e = .returned (.tuple #[.int .i64 a, .int .i64 b]) ∧ w = w' :=
  (wd_i n w).mono fun e w' k => ⟨by have := k.1; rw [h] at this; exact this, k.2⟩
theorem nbd_i (n k : Int) (w : World) : Calls Try.prog 18 #[.int .i64 n, .int .i64 k] w fun e w' => e = .returned (.tuple #[.int .i64 (nbdR n k).1, .int .i64 (nbdR n k).2]) ∧ w = w' := by
  rcases Bool.eq_false_or_eq_true (inr n 0 36524) with h | h
  · have hw := wdR_ok h
    rcases Bool.eq_false_or_eq_true (inr k 0 1000) with h' | h'
    · have hn := inr_iff.1 h
      have hk := inr_iff.1 h'
      have HB := busR_in hn.1 hn.2 hk.1 hk.2
      have hm : 0 ≤ (n + 3) % 7 ∧ (n + 3) % 7 ≤ 6 := by omega
      by_cases h5 : 5 ≤ (n + 3) % 7
      · have HE := Lib.hid (busR_lo (k := k) h5)
        generalize (n + 3) % 7 = wd at *
        rcases Bool.eq_false_or_eq_true (inr (busR n k) 0 36524) with g | g
        · have E := Lib.hid (nbdR_ok h h' g)
          generalize busR n k = R at *
          go_enter Try.func18, Try.ntmps18
          go_wp2_with (first | (go_at_call 21; refine (wd_q (by assumption) _).mono ?_; rintro e w' ⟨rfl, rfl⟩) | (go_at_call 41; refine (within_q (by assumption) _).mono ?_; rintro e w' ⟨rfl, rfl⟩) | (go_at_call 34; rw [HE.out]; refine (isDay_q (by assumption) _).mono ?_; rintro e w' ⟨rfl, rfl⟩))
          go_ret2
          exact ⟨by rw [E.out] <;> rfl, rfl⟩
        · have E := Lib.hid (nbdR_big h h' g)
          generalize busR n k = R at *
          go_enter Try.func18, Try.ntmps18
          go_wp2_with (first | (go_at_call 21; refine (wd_q (by assumption) _).mono ?_; rintro e w' ⟨rfl, rfl⟩) | (go_at_call 41; refine (within_q (by assumption) _).mono ?_; rintro e w' ⟨rfl, rfl⟩) | (go_at_call 34; rw [HE.out]; refine (isDay_q (by assumption) _).mono ?_; rintro e w' ⟨rfl, rfl⟩))
          go_ret2
          exact ⟨by rw [E.out] <;> rfl, rfl⟩
      · have HE := Lib.hid (busR_hi (k := k) h5)
        generalize (n + 3) % 7 = wd at *
        rcases Bool.eq_false_or_eq_true (inr (busR n k) 0 36524) with g | g
        · have E := Lib.hid (nbdR_ok h h' g)
          generalize busR n k = R at *
          go_enter Try.func18, Try.ntmps18
          go_wp2_with (first | (go_at_call 21; refine (wd_q (by assumption) _).mono ?_; rintro e w' ⟨rfl, rfl⟩) | (go_at_call 41; refine (within_q (by assumption) _).mono ?_; rintro e w' ⟨rfl, rfl⟩) | (go_at_call 34; rw [HE.out]; refine (isDay_q (by assumption) _).mono ?_; rintro e w' ⟨rfl, rfl⟩))
          go_ret2
          exact ⟨by rw [E.out] <;> rfl, rfl⟩
        · have E := Lib.hid (nbdR_big h h' g)
          generalize busR n k = R at *
          go_enter Try.func18, Try.ntmps18
          go_wp2_with (first | (go_at_call 21; refine (wd_q (by assumption) _).mono ?_; rintro e w' ⟨rfl, rfl⟩) | (go_at_call 41; refine (within_q (by assumption) _).mono ?_; rintro e w' ⟨rfl, rfl⟩) | (go_at_call 34; rw [HE.out]; refine (isDay_q (by assumption) _).mono ?_; rintro e w' ⟨rfl, rfl⟩))
          go_ret2
          exact ⟨by rw [E.out] <;> rfl, rfl⟩
    · have E := Lib.hid (nbdR_k (n := n) h')
      go_enter Try.func18, Try.ntmps18
      go_wp2_with (first | (go_at_call 21; refine (wd_q (by assumption) _).mono ?_; rintro e w' ⟨rfl, rfl⟩) | (go_at_call 41; refine (within_q (by assumption) _).mono ?_; rintro e w' ⟨rfl, rfl⟩))
      go_ret2
      exact ⟨by rw [E.out] <;> rfl, rfl⟩
  · have hw := wdR_no h
    have E := Lib.hid (nbdR_n (k := k) h)
    go_enter Try.func18, Try.ntmps18
    go_wp2_with (first | (go_at_call 21; refine (wd_q (by assumption) _).mono ?_; rintro e w' ⟨rfl, rfl⟩))
    go_ret2
    exact ⟨by rw [E.out] <;> rfl, rfl⟩

theorem law_FnExactWeekdayOf (n : Int) (w : World) (_ : (Lit.int .i64 n).wf = true) :
    Calls Try.prog 7 #[.int .i64 n] w fun e w' => e = .returned (.bool true) ∧ Below w.heap.size w w' := by
  go_enter Try.func7, Try.ntmps7
  go_wp2_with (first | (go_at_call 21; refine (wd_i _ _).mono ?_; rintro e w' ⟨rfl, rfl⟩) | (go_at_call 22; refine (wdof_s _ _).mono ?_; rintro e w' ⟨rfl, rfl⟩))
  go_ret
  exact ⟨rfl, Below.refl _ _⟩
theorem law_FnExactNextBusinessDay (n k : Int) (w : World) (_ : (Lit.int .i64 n).wf = true) (_ : (Lit.int .i64 k).wf = true) :
    Calls Try.prog 8 #[.int .i64 n, .int .i64 k] w fun e w' => e = .returned (.bool true) ∧ Below w.heap.size w w' := by
  go_enter Try.func8, Try.ntmps8
  go_wp2_with (first | (go_at_call 18; refine (nbd_i _ _ _).mono ?_; rintro e w' ⟨rfl, rfl⟩) | (go_at_call 19; refine (nbd_s _ _ _).mono ?_; rintro e w' ⟨rfl, rfl⟩))
  go_ret
  exact ⟨rfl, Below.refl _ _⟩
end Go.Proofs.Ytpnkjpfhmiaffaa
