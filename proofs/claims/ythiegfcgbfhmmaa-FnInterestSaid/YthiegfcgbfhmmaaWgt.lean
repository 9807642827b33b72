/- Weights of schedules in plain numbers. No program. -/
import Derived.Test.YthiegfcgbfhmmaaSch
namespace Go.Proofs.Ythiegfcgbfhmmaa
set_option linter.unusedVariables false

/-- The points on a day, told by the first k steps. -/
def onT (rs : List St) (d : Int) : Nat → Int
  | 0 => 0
  | k + 1 => match rs[k]? with | some r => if r.day ≤ d then r.pts else onT rs d k | none => onT rs d k
def onL (rs : List St) (d : Int) : Int := onT rs d rs.length
def endD (rs : List St) (t : Int) (i : Nat) : Int := match rs[i + 1]? with | some q => min t q.day | none => t
def wT (rs : List St) (f t : Int) : Nat → Int
  | 0 => 0
  | i + 1 => wT rs f t i + (match rs[i]? with | some r => r.pts * max 0 (endD rs t i - max f r.day) | none => 0)
def wgt (rs : List St) (f t : Int) : Int := wT rs f t rs.length
theorem onT_yes {rs : List St} {d : Int} {k : Nat} {r : St} (h : rs[k]? = some r) (hd : r.day ≤ d) : onT rs d (k + 1) = r.pts := by unfold onT; simp only [h]; rw [if_pos hd]
theorem onT_no {rs : List St} {d : Int} {k : Nat} {r : St} (h : rs[k]? = some r) (hd : ¬ r.day ≤ d) : onT rs d (k + 1) = onT rs d k := by rw [onT]; simp only [h]; rw [if_neg hd]
theorem endD_last {rs : List St} {t : Int} {i : Nat} (h : ¬ i + 1 < rs.length) : endD rs t i = t := by unfold endD; rw [List.getElem?_eq_none (by omega)]
theorem endD_next {rs : List St} {t : Int} {i : Nat} {q : St} (h : rs[i + 1]? = some q) : endD rs t i = min t q.day := by unfold endD; simp only [h]
theorem wT_succ {rs : List St} {f t : Int} {i : Nat} {r : St} (h : rs[i]? = some r) : wT rs f t (i + 1) = wT rs f t i + r.pts * max 0 (endD rs t i - max f r.day) := by rw [wT]; simp only [h]
theorem mul_pts {p x : Int} (p0 : 0 ≤ p) (p1 : p ≤ 10000) (x0 : 0 ≤ x) (x1 : x ≤ 36525) : 0 ≤ p * x ∧ p * x ≤ 365250000 :=
  ⟨Int.mul_nonneg p0 x0, by have := Int.mul_le_mul p1 x1 x0 (by omega : (0 : Int) ≤ 10000); omega⟩
theorem endD_le (rs : List St) (t : Int) (i : Nat) : endD rs t i ≤ t := by
  unfold endD; split
  · omega
  · exact Int.le_refl _
theorem wT_bd {rs : List St} (h : schB rs = true) {f t : Int} (f0 : 0 ≤ f) (t1 : t ≤ 36525) : ∀ k, 0 ≤ wT rs f t k ∧ wT rs f t k ≤ 365250000 * k := by
  intro k
  induction k with
  | zero => simp [wT]
  | succ k ih =>
    cases hr : rs[k]? with
    | none => rw [wT]; simp only [hr]; omega
    | some r =>
      rw [wT_succ hr]
      obtain ⟨_, hp0, hp1⟩ := sch_ok h hr
      have := mul_pts hp0 hp1 (x := max 0 (endD rs t k - max f r.day)) (by omega) (by have := endD_le rs t k; omega)
      generalize r.pts * max 0 (endD rs t k - max f r.day) = m at *
      omega
theorem onT_bd {rs : List St} (h : schB rs = true) (d : Int) : ∀ k, 0 ≤ onT rs d k ∧ onT rs d k ≤ 10000 := by
  intro k
  induction k with
  | zero => simp [onT]
  | succ k ih =>
    cases hr : rs[k]? with
    | none => rw [onT]; simp only [hr]; exact ih
    | some r =>
      by_cases hd : r.day ≤ d
      · rw [onT_yes hr hd]; exact (sch_ok h hr).2
      · rw [onT_no hr hd]; exact ih
theorem onL_bd {rs : List St} (h : schB rs = true) (d : Int) : 0 ≤ onL rs d ∧ onL rs d ≤ 10000 := onT_bd h d _
theorem wgt_none {rs : List St} {f t : Int} (h : t ≤ f) : wgt rs f t = 0 := by
  have : ∀ k, wT rs f t k = 0 := by
    intro k
    induction k with
    | zero => rfl
    | succ k ih =>
      cases hr : rs[k]? with
      | none => rw [wT]; simp only [hr]; omega
      | some r =>
        rw [wT_succ hr, ih]
        have e := endD_le rs t k
        rw [show max 0 (endD rs t k - max f r.day) = 0 by omega]
        simp
  exact this _
/-- One day more. -/
theorem wT_day {rs : List St} (h : schB rs = true) {f t : Int} (hft : f ≤ t) : ∀ k, k ≤ rs.length →
    wT rs f (t + 1) k - wT rs f t k = (match rs[k]? with | some q => if q.day ≤ t then 0 else onT rs t k | none => onT rs t k) := by
  intro k
  induction k with
  | zero => intro _; simp only [wT, onT]; split <;> simp
  | succ k ih =>
    intro hk
    have ih := ih (by omega)
    have hr : rs[k]? = some rs[k] := List.getElem?_eq_getElem (by omega)
    generalize rs[k] = r at hr
    simp only [hr] at ih
    rw [wT_succ hr, wT_succ hr]
    by_cases hlast : k + 1 < rs.length
    · have hq : rs[k + 1]? = some rs[k + 1] := List.getElem?_eq_getElem hlast
      generalize rs[k + 1] = q at hq
      have hlt := sch_lt h hr hq
      rw [endD_next hq, endD_next hq]
      simp only [hq]
      by_cases hd : r.day ≤ t
      · rw [if_pos hd] at ih
        rw [onT_yes hr hd]
        by_cases hqd : q.day ≤ t
        · rw [if_pos hqd, show min (t + 1) q.day = min t q.day by omega]; omega
        · rw [if_neg hqd, show max 0 (min (t + 1) q.day - max f r.day) = max 0 (min t q.day - max f r.day) + 1 by omega, Int.mul_add]; omega
      · rw [if_neg hd] at ih
        rw [onT_no hr hd, if_neg (by omega), show max 0 (min (t + 1) q.day - max f r.day) = 0 by omega, show max 0 (min t q.day - max f r.day) = 0 by omega]
        omega
    · rw [endD_last hlast, endD_last hlast]
      simp only [List.getElem?_eq_none (show rs.length ≤ k + 1 by omega)]
      by_cases hd : r.day ≤ t
      · rw [if_pos hd] at ih
        rw [onT_yes hr hd, show max 0 (t + 1 - max f r.day) = max 0 (t - max f r.day) + 1 by omega, Int.mul_add]; omega
      · rw [if_neg hd] at ih
        rw [onT_no hr hd, show max 0 (t + 1 - max f r.day) = 0 by omega, show max 0 (t - max f r.day) = 0 by omega]
        omega
theorem wgt_succ {rs : List St} (h : schB rs = true) {f t : Int} (hft : f ≤ t) : wgt rs f (t + 1) = wgt rs f t + onL rs t := by
  have := wT_day h hft rs.length (Nat.le_refl _)
  simp only [List.getElem?_eq_none (Nat.le_refl rs.length)] at this
  unfold wgt onL
  omega
theorem wgt_bd {rs : List St} (h : schB rs = true) {f : Int} : ∀ n : Nat, 0 ≤ wgt rs f (f + n) ∧ wgt rs f (f + n) ≤ 10000 * n := by
  intro n
  induction n with
  | zero => rw [wgt_none (by omega)]; omega
  | succ n ih =>
    have := wgt_succ h (f := f) (t := f + n) (by omega)
    have ho := onL_bd h (f + n)
    rw [show f + ((n + 1 : Nat) : Int) = f + n + 1 by omega]
    omega
theorem wgt_bd2 {rs : List St} (h : schB rs = true) {f t : Int} (h0 : 0 ≤ f) (h1 : t ≤ 36525) : 0 ≤ wgt rs f t ∧ wgt rs f t ≤ 365250000 := by
  by_cases hft : f ≤ t
  · have := wgt_bd h (f := f) (t - f).toNat
    rw [show f + ((t - f).toNat : Int) = t by omega] at this
    omega
  · rw [wgt_none (by omega)]; omega
/-- Weights add up. -/
theorem wgt_add {rs : List St} (h : schB rs = true) {f m : Int} (hfm : f ≤ m) : ∀ n : Nat, wgt rs f m + wgt rs m (m + n) = wgt rs f (m + n) := by
  intro n
  induction n with
  | zero => rw [wgt_none (t := m + ((0 : Nat) : Int)) (f := m) (by omega)]; simp
  | succ n ih =>
    have h1 := wgt_succ h (f := m) (t := m + n) (by omega)
    have h2 := wgt_succ h (f := f) (t := m + n) (by omega)
    rw [show m + ((n + 1 : Nat) : Int) = m + n + 1 by omega]
    omega
/-- The points on a day: those of the last step that has begun. -/
theorem onT_all {rs : List St} {d : Int} (k : Nat) : ∀ n : Nat, (∀ (i : Nat) (r : St), k ≤ i → rs[i]? = some r → d < r.day) → onT rs d (k + n) = onT rs d k := by
  intro n hn
  induction n with
  | zero => rfl
  | succ n ih =>
    rw [show k + (n + 1) = (k + n) + 1 by omega]
    cases hr : rs[k + n]? with
    | none => rw [onT]; simp only [hr]; exact ih
    | some r => rw [onT_no hr (by have := hn (k + n) r (by omega) hr; omega)]; exact ih
theorem onL_at {rs : List St} {d : Int} {k : Nat} {q : St} (hq : rs[k]? = some q) (hd : q.day ≤ d) (hn : ∀ (i : Nat) (r : St), k < i → rs[i]? = some r → d < r.day) : onL rs d = q.pts := by
  have hk : k < rs.length := (List.getElem?_eq_some_iff.1 hq).1
  have := onT_all (rs := rs) (d := d) (k + 1) (rs.length - (k + 1)) (fun i r hi hr => hn i r (by omega) hr)
  rw [show k + 1 + (rs.length - (k + 1)) = rs.length by omega] at this
  unfold onL
  rw [this, onT_yes hq hd]
theorem onL_zero {rs : List St} {d : Int} (hn : ∀ (i : Nat) (r : St), rs[i]? = some r → d < r.day) : onL rs d = 0 := by
  have := onT_all (rs := rs) (d := d) 0 rs.length (fun i r _ hr => hn i r hr)
  rw [Nat.zero_add] at this
  unfold onL
  rw [this]; rfl
end Go.Proofs.Ythiegfcgbfhmmaa
