/- Voyages in plain lists: places of days, ports, legs, days at sea, further stops, delays. -/
import Derived.Test.YtklhcofonkmiiaaVoy
namespace Go.Proofs.Ytklhcofonkmiiaa
open Go.ChangeShapes Go.WideShapes Go.ChangeAt Go.RowKit
set_option linter.unusedVariables false

/-! ### the place of a day -/
def plcV (rs : List Sto) (d : Int) : Nat := rs.findIdx (fun q => decide (d ≤ q.o))
theorem plc_leV (rs : List Sto) (d : Int) : plcV rs d ≤ rs.length := List.findIdx_le_length
theorem plc_eqV {rs : List Sto} {d : Int} {p : Nat} (hp : p ≤ rs.length) (h1 : ∀ (i : Nat) (q : Sto), i < p → rs[i]? = some q → q.o < d) (h2 : ∀ (i : Nat) (q : Sto), p ≤ i → rs[i]? = some q → d ≤ q.o) : plcV rs d = p := by
  unfold plcV
  rcases Nat.lt_or_ge p rs.length with hlt | hge
  · rw [List.findIdx_eq hlt]
    refine ⟨decide_eq_true (h2 p _ (Nat.le_refl _) (List.getElem?_eq_getElem hlt)), fun j hj => ?_⟩
    have := h1 j _ hj (List.getElem?_eq_getElem (by omega))
    rw [decide_eq_false_iff_not]; omega
  · obtain rfl : p = rs.length := by omega
    rw [List.findIdx_eq_length]
    intro x hx
    obtain ⟨j, hj⟩ := List.getElem?_of_mem hx
    have := h1 j x (List.getElem?_eq_some_iff.1 hj).1 hj
    rw [decide_eq_false_iff_not]; omega
theorem plc_lessV {rs : List Sto} {d : Int} {i : Nat} {q : Sto} (hi : i < plcV rs d) (hq : rs[i]? = some q) : q.o < d := by
  obtain ⟨h, e⟩ := List.getElem?_eq_some_iff.1 hq
  have := List.not_of_lt_findIdx hi
  rw [e] at this
  simp only [decide_eq_false_iff_not] at this
  omega
theorem plc_atV {rs : List Sto} {d : Int} {q : Sto} (hq : rs[plcV rs d]? = some q) : d ≤ q.o := by
  obtain ⟨hp, e⟩ := List.getElem?_eq_some_iff.1 hq
  have h1 := List.findIdx_getElem (p := fun q : Sto => decide (d ≤ q.o)) (w := hp)
  have h2 : d ≤ (rs[plcV rs d]'hp).o := of_decide_eq_true h1
  rw [e] at h2; exact h2
theorem plc_notV {rs : List Sto} (h : voyB rs = true) {d : Int} {i : Nat} {q : Sto} (hi : plcV rs d ≤ i) (hq : rs[i]? = some q) : d ≤ q.o := by
  have hl := (List.getElem?_eq_some_iff.1 hq).1
  have hp := List.getElem?_eq_getElem (l := rs) (i := plcV rs d) (by omega)
  rcases Nat.lt_or_ge (plcV rs d) i with h3 | h3
  · have a := plc_atV hp
    have b := voy_before h h3 hp hq
    have c := (voy_ok h hq).2.2.2
    omega
  · have : plcV rs d = i := by omega
    subst this; exact plc_atV hq
/-- Days of order: what is before one that is before the day is before it. -/
theorem ord_outV {rs : List Sto} (h : voyB rs = true) {i j : Nat} {q r : Sto} (hij : i < j) (hq : rs[i]? = some q) (hr : rs[j]? = some r) : q.o < r.o := by
  have b := voy_before h hij hq hr
  have c := (voy_ok h hr).2.2.2
  omega
/-- The place of a day and the code. -/
def plR (rs : List Sto) (d : Int) : Nat × Int :=
  if voyB rs = true then if inr d 0 36524 = true then match rs[0]? with
    | some f => if d < f.i ∨ plcV rs d = rs.length then (0, 4) else (plcV rs d, 0)
    | none => (0, 1)
  else (0, 2) else (0, 1)
inductive PWay (rs : List Sto) (d : Int) : Nat × Int → Prop where
  | bad (h : voyB rs = false) : PWay rs d (0, 1)
  | day (h : voyB rs = true) (h1 : inr d 0 36524 = false) : PWay rs d (0, 2)
  | early (f l : Sto) (h : voyB rs = true) (h1 : inr d 0 36524 = true) (h0 : rs[0]? = some f) (hl : rs[rs.length - 1]? = some l) (h2 : d < f.i) : PWay rs d (0, 4)
  | late (f l : Sto) (h : voyB rs = true) (h1 : inr d 0 36524 = true) (h0 : rs[0]? = some f) (hl : rs[rs.length - 1]? = some l) (h2 : f.i ≤ d) (h3 : plcV rs d = rs.length) (h4 : l.o < d) : PWay rs d (0, 4)
  | ok (f l r : Sto) (h : voyB rs = true) (h1 : inr d 0 36524 = true) (h0 : rs[0]? = some f) (hl : rs[rs.length - 1]? = some l) (h2 : f.i ≤ d) (hk : plcV rs d < rs.length) (hr : rs[plcV rs d]? = some r) (h3 : d ≤ r.o) (h4 : d ≤ l.o) : PWay rs d (plcV rs d, 0)
theorem voy_ends {rs : List Sto} (h : voyB rs = true) : ∃ f l, rs[0]? = some f ∧ rs[rs.length - 1]? = some l := by
  have := (voy_iff.1 h).2.1
  exact ⟨_, _, List.getElem?_eq_getElem (by omega), List.getElem?_eq_getElem (by omega)⟩
theorem pway (rs : List Sto) (d : Int) : PWay rs d (plR rs d) := by
  unfold plR
  rcases Bool.eq_false_or_eq_true (voyB rs) with h | h
  · rw [if_pos h]
    rcases Bool.eq_false_or_eq_true (inr d 0 36524) with h1 | h1
    · rw [if_pos h1]
      obtain ⟨f, l, h0, hl⟩ := voy_ends h
      rw [h0]
      have hn := (voy_iff.1 h).2.1
      by_cases h2 : d < f.i
      · simp only [h2, true_or, if_true]; exact .early f l h h1 h0 hl h2
      · have hle := plc_leV rs d
        by_cases h3 : plcV rs d = rs.length
        · simp only [h3, or_true, if_true]
          exact .late f l h h1 h0 hl (by omega) h3 (plc_lessV (by omega) hl)
        · simp only [h2, h3, or_self, if_false]
          have hk : plcV rs d < rs.length := by omega
          have hr := List.getElem?_eq_getElem hk
          exact .ok f l _ h h1 h0 hl (by omega) hk hr (plc_atV hr) (plc_notV h (by omega) hl)
    · rw [if_neg (by rw [h1]; decide)]; exact .day h h1
  · rw [if_neg (by rw [h]; decide)]; exact .bad h
theorem plR_ok {rs : List Sto} {d : Int} (h : (plR rs d).2 = 0) : ∃ f r, voyB rs = true ∧ (0 ≤ d ∧ d ≤ 36524) ∧ rs[0]? = some f ∧ f.i ≤ d ∧ (plR rs d).1 = plcV rs d ∧ plcV rs d < rs.length ∧ rs[plcV rs d]? = some r ∧ d ≤ r.o := by
  have W := pway rs d
  revert h
  generalize plR rs d = u at W
  intro h
  cases W with
  | bad _ => cases h
  | day _ _ => cases h
  | early => cases h
  | late => cases h
  | ok f l r a b c hl e hk hr g => exact ⟨f, r, a, inr_iff.1 b, c, e, rfl, hk, hr, g⟩
/-! ### ports and legs -/
def portR (rs : List Sto) (d : Int) : List UInt8 × Int :=
  if (plR rs d).2 = 0 then match rs[plcV rs d]? with | some r => if r.i ≤ d then (r.p, 0) else ([], 0) | none => ([], 0) else ([], (plR rs d).2)
def legR (rs : List Sto) (d : Int) : Int × Int :=
  if (plR rs d).2 = 0 then match rs[plcV rs d]? with | some r => if r.i ≤ d then (0, 5) else ((plcV rs d : Int) - 1, 0) | none => (0, 5) else (0, (plR rs d).2)
theorem portR_no {rs : List Sto} {d : Int} {u : Nat × Int} (h : plR rs d = u) (hu : u.2 ≠ 0) : portR rs d = ([], u.2) := by unfold portR; rw [h, if_neg hu]
theorem legR_no {rs : List Sto} {d : Int} {u : Nat × Int} (h : plR rs d = u) (hu : u.2 ≠ 0) : legR rs d = (0, u.2) := by unfold legR; rw [h, if_neg hu]
theorem portR_in {rs : List Sto} {d : Int} {k : Nat} {r : Sto} (h : plR rs d = (k, 0)) (hr : rs[plcV rs d]? = some r) (hi : r.i ≤ d) : portR rs d = (r.p, 0) := by unfold portR; rw [h, if_pos rfl, hr]; simp [hi]
theorem portR_sea {rs : List Sto} {d : Int} {k : Nat} {r : Sto} (h : plR rs d = (k, 0)) (hr : rs[plcV rs d]? = some r) (hi : d < r.i) : portR rs d = ([], 0) := by unfold portR; rw [h, if_pos rfl, hr]; simp only [if_neg (show ¬ r.i ≤ d by omega)]
theorem legR_in {rs : List Sto} {d : Int} {k : Nat} {r : Sto} (h : plR rs d = (k, 0)) (hr : rs[plcV rs d]? = some r) (hi : r.i ≤ d) : legR rs d = (0, 5) := by unfold legR; rw [h, if_pos rfl, hr]; simp [hi]
theorem legR_sea {rs : List Sto} {d : Int} {k : Nat} {r : Sto} (h : plR rs d = (k, 0)) (hr : rs[plcV rs d]? = some r) (hi : d < r.i) : legR rs d = ((plcV rs d : Int) - 1, 0) := by unfold legR; rw [h, if_pos rfl, hr]; simp only [if_neg (show ¬ r.i ≤ d by omega)]
/-- The index of the stop at a day, or -1. -/
def prtI (rs : List Sto) (d : Int) : Int := match rs.findIdx? (fun r => inr d r.i r.o) with | none => -1 | some k => k
theorem prt_none {rs : List Sto} {d : Int} (h : ∀ (j : Nat) (q : Sto), rs[j]? = some q → inr d q.i q.o = false) : prtI rs d = -1 := by
  unfold prtI
  rw [show rs.findIdx? (fun r => inr d r.i r.o) = none from by
    rw [List.findIdx?_eq_none_iff]
    intro x hx
    obtain ⟨j, hj⟩ := List.getElem?_of_mem hx
    exact h j x hj]
theorem prt_some {rs : List Sto} {d : Int} {k : Nat} {p : Sto} (hk : rs[k]? = some p) (hc : inr d p.i p.o = true) (h : ∀ (j : Nat) (q : Sto), j < k → rs[j]? = some q → inr d q.i q.o = false) : prtI rs d = k := by
  unfold prtI
  rw [show rs.findIdx? (fun r => inr d r.i r.o) = some k from by
    rw [List.findIdx?_eq_some_iff_getElem]
    obtain ⟨hl, e⟩ := List.getElem?_eq_some_iff.1 hk
    refine ⟨hl, by rw [e]; exact hc, fun j hj => ?_⟩
    rw [h j _ hj (List.getElem?_eq_getElem (by omega))]; exact Bool.false_ne_true]
theorem prt_in {rs : List Sto} {d : Int} {r : Sto} (hr : rs[plcV rs d]? = some r) (hi : r.i ≤ d) : prtI rs d = (plcV rs d : Int) :=
  prt_some hr (inr_iff.2 ⟨hi, plc_atV hr⟩) fun j q hj hq => inr_no.2 (.inr (plc_lessV hj hq))
theorem prt_sea {rs : List Sto} (h : voyB rs = true) {d : Int} {r : Sto} (hr : rs[plcV rs d]? = some r) (hi : d < r.i) : prtI rs d = -1 :=
  prt_none fun j q hq => by
    rw [inr_no]
    rcases Nat.lt_trichotomy j (plcV rs d) with h1 | h1 | h1
    · exact .inr (plc_lessV h1 hq)
    · subst h1; rw [hr] at hq; rw [← Option.some.inj hq]; exact .inl hi
    · have a := voy_before h h1 hr hq; have b := (voy_ok h hr).2.2.2; exact .inl (by omega)
/-- How many of the first ones end before a day. -/
def cntO (rs : List Sto) (d : Int) : Nat := (rs.filter (fun r => decide (r.o < d))).length
theorem cntO_snoc (rs : List Sto) (d : Int) (r : Sto) : cntO (rs ++ [r]) d = cntO rs d + (if r.o < d then 1 else 0) := by
  unfold cntO; rw [List.filter_append, List.length_append]; by_cases h : r.o < d <;> simp [h]
theorem cntO_plc {rs : List Sto} (h : voyB rs = true) (d : Int) : ∀ k, k ≤ rs.length → cntO (rs.take k) d = min k (plcV rs d) := by
  intro k
  induction k with
  | zero => intro _; simp [cntO]
  | succ k ih =>
    intro hk
    have hr := List.getElem?_eq_getElem (l := rs) (i := k) (by omega)
    rw [snoc_of hr, cntO_snoc, ih (by omega)]
    rcases Nat.lt_or_ge k (plcV rs d) with h1 | h1
    · rw [if_pos (plc_lessV h1 hr)]; omega
    · have := plc_notV h h1 hr
      rw [if_neg (by omega)]; omega
theorem cntO_le (rs : List Sto) (d : Int) : cntO rs d ≤ rs.length := List.length_filter_le _ _
/-! ### days at sea -/
def gapV (f t : Int) (q r : Sto) : Int := max 0 (min t (r.i - 1) - max f (q.o + 1) + 1)
def dasV (f t : Int) : List Sto → Int
  | q :: r :: rs => gapV f t q r + dasV f t (r :: rs)
  | [_] => 0
  | [] => 0
theorem dasV_step {f t : Int} {rs : List Sto} {k : Nat} {q r : Sto} (hq : rs[k]? = some q) (hr : rs[k + 1]? = some r) : dasV f t (rs.drop k) = gapV f t q r + dasV f t (rs.drop (k + 1)) := by
  rw [drop_of hq, drop_of hr]; rfl
theorem dasV_end {f t : Int} {rs : List Sto} {k : Nat} (hk : rs.length ≤ k + 1) : dasV f t (rs.drop k) = 0 := by
  have hl : (rs.drop k).length ≤ 1 := by rw [List.length_drop]; omega
  match rs.drop k, hl with
  | [], _ => rfl
  | [_], _ => rfl
  | a :: b :: l, h => simp at h
def dasR (rs : List Sto) (f t : Int) : Int × Int := if voyB rs = true then if daysB [f, t] = true then (dasV f t rs, 0) else (0, 2) else (0, 1)
theorem gapV_bd {f t : Int} {q r : Sto} (h0 : 0 ≤ f) (h1 : t ≤ 36524) : 0 ≤ gapV f t q r ∧ gapV f t q r ≤ 36525 := by unfold gapV; omega
/-! ### the last day -/
def lastR (rs : List Sto) : Int × Int := if voyB rs = true then match rs[rs.length - 1]? with | some l => (l.o, 0) | none => (0, 1) else (0, 1)
theorem lastR_ok {rs : List Sto} {l : Sto} (h : voyB rs = true) (hl : rs[rs.length - 1]? = some l) : lastR rs = (l.o, 0) := by unfold lastR; rw [if_pos h, hl]
theorem lastR_no {rs : List Sto} (h : voyB rs = false) : lastR rs = (0, 1) := by unfold lastR; rw [if_neg (by rw [h]; decide)]
/-! ### a further stop -/
def insAt (rs : List Sto) (k : Nat) (s : Sto) : List Sto := rs.take k ++ [s] ++ rs.drop k
theorem insAt_len {rs : List Sto} {k : Nat} (s : Sto) (hk : k ≤ rs.length) : (insAt rs k s).length = rs.length + 1 := by
  unfold insAt; simp only [List.length_append, List.length_take, List.length_drop, List.length_singleton]; omega
theorem insAt_lt {rs : List Sto} {k j : Nat} {s : Sto} (hk : k ≤ rs.length) (hj : j < k) : (insAt rs k s)[j]? = rs[j]? := by
  unfold insAt
  rw [List.append_assoc, List.getElem?_append_left (by rw [List.length_take]; omega), List.getElem?_take, if_pos hj]
theorem insAt_eq {rs : List Sto} {k : Nat} {s : Sto} (hk : k ≤ rs.length) : (insAt rs k s)[k]? = some s := by
  unfold insAt
  have hl : (rs.take k).length = k := by rw [List.length_take]; omega
  rw [List.append_assoc, List.getElem?_append_right (by omega), hl, Nat.sub_self]; rfl
theorem insAt_gt {rs : List Sto} {k j : Nat} {s : Sto} (hk : k ≤ rs.length) (hj : k ≤ j) : (insAt rs k s)[j + 1]? = rs[j]? := by
  unfold insAt
  have hl : (rs.take k).length = k := by rw [List.length_take]; omega
  rw [List.append_assoc, List.getElem?_append_right (by omega), hl, List.getElem?_append_right (by simp; omega), List.getElem?_drop, List.length_singleton]
  congr 1; omega
/-- The place of a stop by its In. -/
def plcN (rs : List Sto) (d : Int) : Nat := rs.findIdx (fun q => decide (d ≤ q.i))
theorem plcN_le (rs : List Sto) (d : Int) : plcN rs d ≤ rs.length := List.findIdx_le_length
theorem plcN_eq {rs : List Sto} {d : Int} {p : Nat} (hp : p ≤ rs.length) (h1 : ∀ (i : Nat) (q : Sto), i < p → rs[i]? = some q → q.i < d) (h2 : ∀ q : Sto, rs[p]? = some q → d ≤ q.i) : plcN rs d = p := by
  unfold plcN
  rcases Nat.lt_or_ge p rs.length with hlt | hge
  · rw [List.findIdx_eq hlt]
    refine ⟨decide_eq_true (h2 _ (List.getElem?_eq_getElem hlt)), fun j hj => ?_⟩
    have := h1 j _ hj (List.getElem?_eq_getElem (by omega))
    rw [decide_eq_false_iff_not]; omega
  · obtain rfl : p = rs.length := by omega
    rw [List.findIdx_eq_length]
    intro x hx
    obtain ⟨j, hj⟩ := List.getElem?_of_mem hx
    have := h1 j x (List.getElem?_eq_some_iff.1 hj).1 hj
    rw [decide_eq_false_iff_not]; omega
def insR (rs : List Sto) (s : Sto) : List Sto × Int :=
  if voyB rs = true then if plcN rs s.i = 0 ∨ plcN rs s.i = rs.length then ([], 5) else if voyB (insAt rs (plcN rs s.i) s) = true then (insAt rs (plcN rs s.i) s, 0) else ([], 5) else ([], 1)
theorem insR_no {rs : List Sto} {s : Sto} (h : voyB rs = false) : insR rs s = ([], 1) := by unfold insR; rw [if_neg (by rw [h]; decide)]
theorem insR_end {rs : List Sto} {s : Sto} (h : voyB rs = true) (he : plcN rs s.i = 0 ∨ plcN rs s.i = rs.length) : insR rs s = ([], 5) := by unfold insR; rw [if_pos h, if_pos he]
theorem insR_bad {rs : List Sto} {s : Sto} (h : voyB rs = true) (hb : voyB (insAt rs (plcN rs s.i) s) = false) : insR rs s = ([], 5) := by
  unfold insR; rw [if_pos h]; split
  · rfl
  · rw [if_neg (by rw [hb]; decide)]
theorem insR_ok {rs : List Sto} {s : Sto} (h : voyB rs = true) (he : ¬ (plcN rs s.i = 0 ∨ plcN rs s.i = rs.length)) (hb : voyB (insAt rs (plcN rs s.i) s) = true) : insR rs s = (insAt rs (plcN rs s.i) s, 0) := by unfold insR; rw [if_pos h, if_neg he, if_pos hb]
/-- The same by its Out. -/
theorem plcN_cases {rs : List Sto} (h : voyB rs = true) (s : Sto) : plcN rs s.i = plcV rs s.i ∨ (∃ r, rs[plcV rs s.i]? = some r ∧ r.i < s.i ∧ s.i ≤ r.o ∧ plcN rs s.i = plcV rs s.i + 1) := by
  have hle := plc_leV rs s.i
  obtain ⟨k, hk⟩ : ∃ k, k = plcV rs s.i := ⟨_, rfl⟩
  have hlo : ∀ (i : Nat) (q : Sto), i < k → rs[i]? = some q → q.i < s.i := fun i q hi hq => by
    have a := plc_lessV (rs := rs) (d := s.i) (by omega) hq; have b := (voy_ok h hq).2.2.2; omega
  rcases Nat.lt_or_ge k rs.length with hlt | hge
  · have hr := List.getElem?_eq_getElem hlt
    by_cases hi : s.i ≤ (rs[k]'hlt).i
    · left; rw [← hk]
      exact plcN_eq (by omega) hlo (fun q hq => by rw [hr] at hq; rw [← Option.some.inj hq]; exact hi)
    · right
      refine ⟨_, by rw [← hk]; exact hr, by omega, plc_notV h (by omega) hr, ?_⟩
      rw [← hk]
      refine plcN_eq (by omega) (fun i q hi' hq => ?_) (fun q hq => ?_)
      · rcases Nat.lt_or_ge i k with h1 | h1
        · exact hlo i q h1 hq
        · obtain rfl : i = k := by omega
          rw [hr] at hq; rw [← Option.some.inj hq]; omega
      · have a := voy_before h (Nat.lt_succ_self k) hr hq
        have b := plc_notV (d := s.i) h (by omega) hr
        omega
  · left; rw [← hk]
    obtain rfl : k = rs.length := by omega
    exact plcN_eq (by omega) hlo (fun q hq => by rw [List.getElem?_eq_none (by omega)] at hq; cases hq)
theorem insV_end {rs : List Sto} {s : Sto} (h : voyB rs = true) (he : plcV rs s.i = 0 ∨ plcV rs s.i = rs.length) : insR rs s = ([], 5) := by
  rcases plcN_cases h s with e | ⟨r, hr, h1, h2, e⟩
  · exact insR_end h (by rw [e]; exact he)
  · rcases he with he | he
    · rcases Nat.eq_or_lt_of_le (Nat.succ_le_of_lt (List.getElem?_eq_some_iff.1 hr).1) with h3 | h3
      · exact insR_end h (.inr (by rw [e]; exact h3))
      · refine insR_bad h ?_
        rw [← Bool.not_eq_true]
        intro hv
        have hle := plcN_le rs s.i
        have a := insAt_eq (s := s) hle
        rw [e] at a hv hle
        have b := (insAt_lt (s := s) hle (Nat.lt_succ_self _)).trans hr
        have := voy_lt hv b a
        omega
    · rw [he, List.getElem?_eq_none (Nat.le_refl _)] at hr; cases hr
theorem insV_mid {rs : List Sto} {s : Sto} (h : voyB rs = true) (h0 : plcV rs s.i ≠ 0) (hn : plcV rs s.i ≠ rs.length) : insR rs s = if voyB (insAt rs (plcV rs s.i) s) = true then (insAt rs (plcV rs s.i) s, 0) else ([], 5) := by
  rcases plcN_cases h s with e | ⟨r, hr, h1, h2, e⟩
  · rcases Bool.eq_false_or_eq_true (voyB (insAt rs (plcV rs s.i) s)) with hv | hv
    · rw [if_pos hv, ← e]; rw [← e] at hv h0 hn; exact insR_ok h (by omega) hv
    · rw [if_neg (by rw [hv]; decide)]; rw [← e] at hv; exact insR_bad h hv
  · have hle := plc_leV rs s.i
    have no : voyB (insAt rs (plcV rs s.i) s) = false := by
      rw [← Bool.not_eq_true]
      intro hv
      have a := insAt_eq (s := s) hle
      have b := (insAt_gt (s := s) hle (Nat.le_refl _)).trans hr
      have c := voy_lt hv a b
      have d := (voy_ok hv a).2.2.2
      omega
    rw [if_neg (by rw [no]; decide)]
    have hle2 := plcN_le rs s.i
    by_cases he : plcN rs s.i = rs.length
    · exact insR_end h (.inr he)
    · refine insR_bad h ?_
      rw [← Bool.not_eq_true]
      intro hv
      have a := insAt_eq (s := s) hle2
      rw [e] at a hv hle2
      have b := (insAt_lt (s := s) hle2 (Nat.lt_succ_self _)).trans hr
      have := voy_lt hv b a
      omega
theorem insR_len (rs : List Sto) (s : Sto) : (insR rs s).1.length ≤ 11 := by
  unfold insR
  split
  · rename_i hv
    have := (voy_iff.1 hv).2.2
    split
    · exact Nat.zero_le _
    · split
      · rw [insAt_len s (plcN_le _ _)]; omega
      · exact Nat.zero_le _
  · exact Nat.zero_le _
/-! ### delays -/
def shf (d : Int) (r : Sto) : Sto := ⟨r.p, r.i + d, r.o + d⟩
def dlyV (rs : List Sto) (k : Nat) (d : Int) (j : Nat) : List Sto := rs.mapIdx (fun i r => if i = k then ⟨r.p, r.i, r.o + d⟩ else if k < i ∧ i < j then shf d r else r)
theorem dly_len (rs : List Sto) (k : Nat) (d : Int) (j : Nat) : (dlyV rs k d j).length = rs.length := by unfold dlyV; simp
theorem dly_at {rs : List Sto} {k : Nat} {d : Int} {j i : Nat} {r : Sto} (h : rs[i]? = some r) : (dlyV rs k d j)[i]? = some (if i = k then ⟨r.p, r.i, r.o + d⟩ else if k < i ∧ i < j then shf d r else r) := by unfold dlyV; simp [h]
theorem dly_0 {rs : List Sto} {k : Nat} {d : Int} {r : Sto} (h : rs[k]? = some r) : rs.set k ⟨r.p, r.i, r.o + d⟩ = dlyV rs k d (k + 1) := by
  apply List.ext_getElem?
  intro i
  unfold dlyV
  rw [List.getElem?_set, List.getElem?_mapIdx]
  by_cases e : k = i
  · subst e; rw [if_pos rfl, if_pos (List.getElem?_eq_some_iff.1 h).1, h]; simp
  · rw [if_neg e]
    cases hr : rs[i]? with
    | none => rfl
    | some x => simp only [Option.map_some]; rw [if_neg (by omega), if_neg (by omega)]
theorem dly_s {rs : List Sto} {k : Nat} {d : Int} {j : Nat} {r : Sto} (hj : k < j) (h : rs[j]? = some r) : (dlyV rs k d j).set j (shf d r) = dlyV rs k d (j + 1) := by
  apply List.ext_getElem?
  intro i
  have hl : j < rs.length := (List.getElem?_eq_some_iff.1 h).1
  unfold dlyV
  rw [List.getElem?_set, List.getElem?_mapIdx, List.getElem?_mapIdx]
  by_cases e : j = i
  · subst e
    rw [if_pos rfl, if_pos (by simpa using hl), h]
    simp only [Option.map_some]
    rw [if_neg (by omega), if_pos (by omega)]
  · rw [if_neg e]
    cases hr : rs[i]? with
    | none => rfl
    | some x =>
      simp only [Option.map_some]
      by_cases h1 : i = k
      · rw [if_pos h1, if_pos h1]
      · rw [if_neg h1, if_neg h1]
        by_cases h2 : k < i ∧ i < j
        · rw [if_pos h2, if_pos (by omega)]
        · rw [if_neg h2, if_neg (by omega)]
def dlyR (rs : List Sto) (x d : Int) : List Sto × Int :=
  if voyB rs = true then if inr d 0 1000 = true ∧ inr x 0 ((rs.length : Int) - 1) = true then
    if voyB (dlyV rs x.toNat d rs.length) = true then (dlyV rs x.toNat d rs.length, 0) else ([], 3) else ([], 2) else ([], 1)
theorem dlyR_len (rs : List Sto) (x d : Int) : (dlyR rs x d).1.length ≤ rs.length := by
  unfold dlyR
  split
  · split
    · split
      · rw [dly_len]; exact Nat.le_refl _
      · exact Nat.zero_le _
    · exact Nat.zero_le _
  · exact Nat.zero_le _
inductive DWay (rs : List Sto) (x d : Int) : List Sto × Int → Prop where
  | bad (h : voyB rs = false) : DWay rs x d ([], 1)
  | days (h : voyB rs = true) (h1 : inr d 0 1000 = false) : DWay rs x d ([], 2)
  | idx (h : voyB rs = true) (h1 : inr d 0 1000 = true) (h2 : inr x 0 ((rs.length : Int) - 1) = false) : DWay rs x d ([], 2)
  | lim (k : Nat) (r : Sto) (h : voyB rs = true) (h1 : inr d 0 1000 = true) (h2 : inr x 0 ((rs.length : Int) - 1) = true) (e : x = (k : Int)) (hk : k < rs.length) (hr : rs[k]? = some r) (h3 : voyB (dlyV rs k d rs.length) = false) : DWay rs x d ([], 3)
  | ok (k : Nat) (r : Sto) (h : voyB rs = true) (h1 : inr d 0 1000 = true) (h2 : inr x 0 ((rs.length : Int) - 1) = true) (e : x = (k : Int)) (hk : k < rs.length) (hr : rs[k]? = some r) (h3 : voyB (dlyV rs k d rs.length) = true) : DWay rs x d (dlyV rs k d rs.length, 0)
theorem dway (rs : List Sto) (x d : Int) : DWay rs x d (dlyR rs x d) := by
  unfold dlyR
  rcases Bool.eq_false_or_eq_true (voyB rs) with h | h
  · rw [if_pos h]
    rcases Bool.eq_false_or_eq_true (inr d 0 1000) with h1 | h1
    · rcases Bool.eq_false_or_eq_true (inr x 0 ((rs.length : Int) - 1)) with h2 | h2
      · rw [if_pos ⟨h1, h2⟩]
        obtain ⟨ha, hb⟩ := inr_iff.1 h2
        have e : x = (x.toNat : Int) := by omega
        have hk : x.toNat < rs.length := by omega
        have hr := List.getElem?_eq_getElem hk
        rcases Bool.eq_false_or_eq_true (voyB (dlyV rs x.toNat d rs.length)) with h3 | h3
        · rw [if_pos h3]; exact .ok _ _ h h1 h2 e hk hr h3
        · rw [if_neg (by rw [h3]; decide)]; exact .lim _ _ h h1 h2 e hk hr h3
      · rw [if_neg (by rw [h2]; simp)]; exact .idx h h1 h2
    · rw [if_neg (by rw [h1]; simp)]; exact .days h h1
  · rw [if_neg (by rw [h]; decide)]; exact .bad h
theorem dly_i {rs : List Sto} {k : Nat} {d : Int} {j i : Nat} {r : Sto} (h : (dlyV rs k d j)[i]? = some r) : ∃ q, rs[i]? = some q ∧ r.p = q.p := by
  unfold dlyV at h
  rw [List.getElem?_mapIdx] at h
  cases hq : rs[i]? with
  | none => rw [hq] at h; cases h
  | some q =>
    rw [hq] at h
    refine ⟨q, rfl, ?_⟩
    have := Option.some.inj h
    rw [← this]
    split
    · rfl
    · split <;> rfl
theorem dly_sz {rs : List Sto} {k : Nat} {d : Int} {j n : Nat} (h : ∀ p ∈ rs, p.sz ≤ n) : ∀ p ∈ dlyV rs k d j, p.sz ≤ n := fun p hp => by
  obtain ⟨i, hi⟩ := List.getElem?_of_mem hp
  obtain ⟨q, hq, e⟩ := dly_i hi
  have := h q (List.mem_of_getElem? hq)
  unfold Sto.sz at *; rw [e]; exact this
theorem insAt_sz {rs : List Sto} {k : Nat} {s : Sto} {n : Nat} (h : ∀ p ∈ rs, p.sz ≤ n) (hs : s.sz ≤ n) : ∀ p ∈ insAt rs k s, p.sz ≤ n := fun p hp => by
  unfold insAt at hp
  simp only [List.mem_append, List.mem_singleton] at hp
  rcases hp with (hp | rfl) | hp
  · exact h p (List.mem_of_mem_take hp)
  · exact hs
  · exact h p (List.mem_of_mem_drop hp)
end Go.Proofs.Ytklhcofonkmiiaa
