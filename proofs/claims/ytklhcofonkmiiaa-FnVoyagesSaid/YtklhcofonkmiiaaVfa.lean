/- What the law FnVoyages needs in plain lists: last days, and the days of ports, legs and at sea. -/
import Derived.Test.YtklhcofonkmiiaaVol
namespace Go.Proofs.Ytklhcofonkmiiaa
open Go.ChangeShapes Go.WideShapes Go.ChangeAt Go.RowKit
set_option linter.unusedVariables false

theorem insR_last {rs L : List Sto} {s : Sto} (h : insR rs s = (L, 0)) : ∃ z, lastR rs = (z, 0) ∧ lastR L = (z, 0) ∧ L.length = rs.length + 1 := by
  unfold insR at h
  rcases Bool.eq_false_or_eq_true (voyB rs) with hv | hv
  · rw [if_pos hv] at h
    by_cases he : plcN rs s.i = 0 ∨ plcN rs s.i = rs.length
    · rw [if_pos he] at h; cases h
    · rw [if_neg he] at h
      rcases Bool.eq_false_or_eq_true (voyB (insAt rs (plcN rs s.i) s)) with hb | hb
      · rw [if_pos hb] at h
        obtain rfl : insAt rs (plcN rs s.i) s = L := (Prod.mk.inj h).1
        have hle := plcN_le rs s.i
        obtain ⟨f, l, h0, hl⟩ := voy_ends hv
        have hn : rs.length ≠ 0 := by have := (voy_iff.1 hv).2.1; omega
        have hlen := insAt_len s hle
        refine ⟨l.o, lastR_ok hv hl, lastR_ok hb ?_, hlen⟩
        rw [hlen, show rs.length + 1 - 1 = (rs.length - 1) + 1 by omega, insAt_gt hle (by omega)]
        exact hl
      · rw [if_neg (by rw [hb]; decide)] at h; cases h
  · rw [if_neg (by rw [hv]; decide)] at h; cases h
theorem dlyR_last {rs L : List Sto} {x d : Int} (h : dlyR rs x d = (L, 0)) : ∃ z, lastR rs = (z, 0) ∧ lastR L = (z + d, 0) ∧ (0 ≤ z ∧ z ≤ 36524) ∧ (0 ≤ d ∧ d ≤ 1000) := by
  have W := dway rs x d
  rw [h] at W
  generalize hq : (L, (0 : Int)) = q at W
  cases W with
  | bad _ => cases hq
  | days _ _ => cases hq
  | idx _ _ _ => cases hq
  | lim _ _ _ _ _ _ _ _ _ => cases hq
  | ok k r hv h1 h2 e hk hr h3 =>
    obtain rfl : L = dlyV rs k d rs.length := (Prod.mk.inj hq).1
    obtain ⟨f, l, h0, hl⟩ := voy_ends hv
    have hz := (voy_ok hv hl).2.2.1
    refine ⟨l.o, lastR_ok hv hl, ?_, hz, inr_iff.1 h1⟩
    have ha := dly_at (k := k) (d := d) (j := rs.length) hl
    by_cases e1 : rs.length - 1 = k
    · rw [if_pos e1] at ha
      exact lastR_ok h3 (by rw [dly_len]; exact ha)
    · rw [if_neg e1, if_pos ⟨by omega, by omega⟩] at ha
      exact lastR_ok h3 (by rw [dly_len]; exact ha)
theorem insR_sz {rs : List Sto} {s : Sto} {n : Nat} (h : ∀ p ∈ rs, p.sz ≤ n) (hs : s.sz ≤ n) : ∀ p ∈ (insR rs s).1, p.sz ≤ n := by
  unfold insR
  split
  · split
    · intro p hp; simp at hp
    · split
      · exact insAt_sz h hs
      · intro p hp; simp at hp
  · intro p hp; simp at hp
theorem dlyR_sz {rs : List Sto} {x d : Int} {n : Nat} (h : ∀ p ∈ rs, p.sz ≤ n) : ∀ p ∈ (dlyR rs x d).1, p.sz ≤ n := by
  unfold dlyR
  split
  · split
    · split
      · exact dly_sz h
      · intro p hp; simp at hp
    · intro p hp; simp at hp
  · intro p hp; simp at hp
theorem insR_found (rs : List Sto) (s : Sto) (h : (insR rs s).2 = 0) : ∃ z, lastR rs = (z, 0) ∧ lastR (insR rs s).1 = (z, 0) ∧ (insR rs s).1.length = rs.length + 1 := insR_last (Prod.ext rfl h)
theorem dlyR_found (rs : List Sto) (x d : Int) (h : (dlyR rs x d).2 = 0) : ∃ z, lastR rs = (z, 0) ∧ lastR (dlyR rs x d).1 = (z + d, 0) ∧ (0 ≤ z ∧ z ≤ 36524) ∧ (0 ≤ d ∧ d ≤ 1000) := dlyR_last (Prod.ext rfl h)
/-! ### days -/
theorem das_from {f t : Int} {rs : List Sto} : ∀ (n j : Nat), (∀ (i : Nat) (q r : Sto), j ≤ i → i < j + n → rs[i]? = some q → rs[i + 1]? = some r → gapV f t q r = 0) → dasV f t (rs.drop j) = dasV f t (rs.drop (j + n)) := by
  intro n
  induction n with
  | zero => intro j _; rfl
  | succ n ih =>
    intro j hg
    have e : dasV f t (rs.drop j) = dasV f t (rs.drop (j + 1)) := by
      rcases Nat.lt_or_ge (j + 1) rs.length with h1 | h1
      · have hq : rs[j]? = some rs[j] := List.getElem?_eq_getElem (by omega)
        have hr := List.getElem?_eq_getElem h1
        rw [dasV_step hq hr, hg j _ _ (Nat.le_refl _) (by omega) hq hr, Int.zero_add]
      · rw [dasV_end (by omega), dasV_end (by omega)]
    rw [e, ih (j + 1) (fun i q r h1 h2 => hg i q r (by omega) (by omega))]
    congr 2; omega
/-- On one day: in a port, at sea, or told by one code. -/
inductive OneDay (rs : List Sto) (d : Int) : List UInt8 × Int → Int × Int → Prop where
  | no (c : Int) (h : c ≠ 0) : OneDay rs d ([], c) (0, c)
  | port (p : List UInt8) (h : p ≠ []) (h1 : dasR rs d d = (0, 0)) : OneDay rs d (p, 0) (0, 5)
  | sea (k : Int) (h1 : dasR rs d d = (1, 0)) : OneDay rs d ([], 0) (k, 0)
theorem one_day (rs : List Sto) (d : Int) : OneDay rs d (portR rs d) (legR rs d) := by
  obtain ⟨u, hu⟩ : ∃ u, u = plR rs d := ⟨_, rfl⟩
  have W := pway rs d
  rw [← hu] at W
  have hu := hu.symm
  cases W with
  | bad _ => rw [portR_no hu (by decide), legR_no hu (by decide)]; exact .no _ (by decide)
  | day _ _ => rw [portR_no hu (by decide), legR_no hu (by decide)]; exact .no _ (by decide)
  | early => rw [portR_no hu (by decide), legR_no hu (by decide)]; exact .no _ (by decide)
  | late => rw [portR_no hu (by decide), legR_no hu (by decide)]; exact .no _ (by decide)
  | ok f l r hv h1 h0 hl h2 hk hr h3 h4 =>
    have hd := inr_iff.1 h1
    have hdd : daysB [d, d] = true := by rw [daysB_2, h1]; rfl
    have ed : dasR rs d d = (dasV d d rs, 0) := by unfold dasR; rw [if_pos hv, if_pos hdd]
    obtain ⟨k, hkk⟩ : ∃ k, k = plcV rs d := ⟨_, rfl⟩
    have lo : ∀ (i : Nat) (q : Sto), i < k → rs[i]? = some q → q.o < d := fun i q hi hq => plc_lessV (by omega) hq
    have hi : ∀ (i : Nat) (q : Sto), k ≤ i → rs[i]? = some q → d ≤ q.o := fun i q hi hq => plc_notV hv (by omega) hq
    have late : dasV d d (rs.drop k) = 0 := by
      rw [das_from (rs.length - k) k (fun i q s a b hq hs => by have := hi i q a hq; unfold gapV; omega), show k + (rs.length - k) = rs.length by omega]
      exact dasV_end (by omega)
    by_cases hin : r.i ≤ d
    · rw [portR_in hu hr hin, legR_in hu hr hin]
      refine .port _ ?_ ?_
      · have hp := (voy_ok hv hr).1
        intro e
        rw [e] at hp
        exact absurd hp (by decide)
      · rw [ed]
        have hz := das_from (f := d) (t := d) (rs := rs) k 0 (fun i q s a b hq hs => by
          have hsi : s.i ≤ d := by
            rcases Nat.lt_or_ge (i + 1) k with h5 | h5
            · have a := lo (i + 1) s h5 hs; have b := (voy_ok hv hs).2.2.2; omega
            · obtain rfl : k = i + 1 := by omega
              rw [hkk, hr] at hs
              rw [← Option.some.inj hs]; exact hin
          unfold gapV; omega)
        rw [Nat.zero_add, List.drop_zero] at hz
        rw [hz, late]
    · rw [portR_sea hu hr (by omega), legR_sea hu hr (by omega)]
      refine .sea _ ?_
      rw [ed]
      have hk0 : k ≠ 0 := by
        intro e
        rw [← hkk, e, h0] at hr
        have := Option.some.inj hr
        subst this
        omega
      obtain ⟨m, rfl⟩ : ∃ m, k = m + 1 := ⟨k - 1, by omega⟩
      have hz := das_from (f := d) (t := d) (rs := rs) m 0 (fun i q s a b hq hs => by
        have a := lo (i + 1) s (by omega) hs; have b := (voy_ok hv hs).2.2.2
        unfold gapV; omega)
      rw [Nat.zero_add, List.drop_zero] at hz
      have hq : rs[m]? = some rs[m] := List.getElem?_eq_getElem (by omega)
      have hr' : rs[m + 1]? = some r := by rw [hkk]; exact hr
      have hqo := lo m _ (by omega) hq
      rw [hz, dasV_step hq hr', late]
      have : gapV d d rs[m] r = 1 := by unfold gapV; omega
      rw [this]; rfl
end Go.Proofs.Ytklhcofonkmiiaa
