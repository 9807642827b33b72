/- impl.AddRate. -/
import Derived.Test.YtaehkkcaoniphaaCcu
namespace Go.Proofs.Ytaehkkcaoniphaa
open Go.ChangeShapes Go.WideShapes Go.ChangeAt Go.RowKit
set_option linter.unusedVariables false

theorem ordR_zero (q r : Rt) : (ordR q r == 0) = sameR q r := by
  have h : ∀ x y : List UInt8, (ordS x y = 0) ↔ x = y := fun x y => by
    unfold ordS
    by_cases e : x = y
    · subst e; rw [less_irr]; simp
    · rcases Bool.eq_false_or_eq_true (Op.bytesLess x y) with h | h <;> simp [h, e]
  have h2 : ∀ x y : Int, (ordI x y = 0) ↔ x = y := fun x y => by
    unfold ordI
    by_cases e : x = y
    · subst e; simp
    · by_cases k : x < y <;> simp [k, e]
  unfold ordR orI sameR
  by_cases e : ordS q.c r.c = 0
  · rw [if_pos e, show (q.c == r.c) = true from by simpa using (h _ _).1 e, Bool.true_and]
    by_cases k : q.day = r.day
    · rw [(h2 _ _).2 k]; simpa using k
    · rw [show (q.day == r.day) = false from by simpa using k, beq_eq_false_iff_ne]; exact fun h3 => k ((h2 _ _).1 h3)
  · rw [if_neg e, show (q.c == r.c) = false from by simpa using fun h3 => e ((h _ _).2 h3), Bool.false_and, beq_eq_false_iff_ne]; exact e

/-- The table with the rate at place p. -/
def putAt (rs : List Rt) (r : Rt) (p : Nat) (b : Bool) : List Rt := rs.take p ++ [r] ++ rs.drop (if b = true then p + 1 else p)
theorem addS_before {r : Rt} (rs : List Rt) : (∀ q ∈ rs, bef q r = true) → addS r rs = (rs, false) := by
  refine rev_ind (P := fun rs => (∀ q ∈ rs, bef q r = true) → addS r rs = (rs, false)) ?_ ?_ rs
  · intro _; rfl
  · intro rs q ih h
    rw [addS_snoc, ih fun x hx => h x (by simp [hx])]
    have hq := h q (by simp)
    have h1 : sameR q r = false := by
      rw [← ordR_zero, beq_eq_false_iff_ne]
      intro e
      have := ordR_neg q r
      rw [hq, e] at this; simp at this
    have h2 : bef r q = false := by
      cases e : bef r q with
      | false => rfl
      | true =>
        have := bef_trans hq e
        unfold bef at this; rw [less_irr] at this; simp at this
    unfold stepA
    simp [h1, h2]
theorem addS_after {r : Rt} (rs xs : List Rt) (o : List Rt) : (∀ q ∈ xs, sameR q r = false) → addS r rs = (o, true) → addS r (rs ++ xs) = (o ++ xs, true) := by
  refine rev_ind (P := fun xs => (∀ q ∈ xs, sameR q r = false) → addS r rs = (o, true) → addS r (rs ++ xs) = (o ++ xs, true)) ?_ ?_ xs
  · intro _ h; simpa using h
  · intro xs q ih h ho
    rw [← List.append_assoc, addS_snoc, ih (fun x hx => h x (by simp [hx])) ho]
    have h1 := h q (by simp)
    unfold stepA
    simp [h1]
theorem same_bef {q x r : Rt} (h : sameR x r = true) : bef q x = bef q r := by
  unfold sameR at h
  rw [Bool.and_eq_true, beq_iff_eq, beq_iff_eq] at h
  unfold bef
  rw [h.1, h.2]
theorem bef_or {q r : Rt} (h : bef q r = false) (h2 : sameR q r = false) : bef r q = true := by
  cases e : bef r q with
  | true => rfl
  | false =>
    have e1 : Op.bytesLess q.c r.c = false := by unfold bef at h; rw [Bool.or_eq_false_iff] at h; exact h.1
    have e2 : Op.bytesLess r.c q.c = false := by unfold bef at e; rw [Bool.or_eq_false_iff] at e; exact e.1
    have e3 := less_tot e1 e2
    unfold bef at h e
    unfold sameR at h2
    rw [e3] at h e h2
    simp [less_irr] at h e h2
    omega
theorem addL_put {rs : List Rt} {r : Rt} (ht : tabB rs = true) {p : Nat} {b : Bool} (hp : p ≤ rs.length) (hlo : ∀ (i : Nat) (q : Rt), i < p → rs[i]? = some q → bef q r = true) (hhi : ∀ (i : Nat) (q : Rt), p ≤ i → rs[i]? = some q → bef q r = false)
    (hb : ∀ q : Rt, rs[p]? = some q → b = (ordR q r == 0)) (hb2 : p = rs.length → b = false) : addL rs r = putAt rs r p b := by
  have h1 : addS r (rs.take p) = (rs.take p, false) := addS_before _ fun q hq => by
    obtain ⟨i, hi⟩ := List.getElem?_of_mem hq
    rw [List.getElem?_take] at hi
    split at hi
    · rename_i hlt; exact hlo i q hlt hi
    · cases hi
  rcases Nat.lt_or_ge p rs.length with hlt | hge
  · have hq : rs[p]? = some rs[p] := List.getElem?_eq_getElem hlt
    generalize rs[p] = q at hq
    have hbq := hb q hq
    rw [ordR_zero] at hbq
    have hqr := hhi p q (Nat.le_refl _) hq
    have hsplit : rs = rs.take (p + 1) ++ rs.drop (p + 1) := (List.take_append_drop _ _).symm
    have hdrop : rs.drop p = q :: rs.drop (p + 1) := by
      rw [List.drop_eq_getElem_cons hlt]; congr 1
      rw [List.getElem?_eq_getElem hlt] at hq; exact Option.some.inj hq
    have hrest : ∀ x ∈ rs.drop (p + 1), sameR x r = false := fun x hx => by
      obtain ⟨i, hi⟩ := List.getElem?_of_mem hx
      rw [List.getElem?_drop] at hi
      cases e : sameR x r with
      | false => rfl
      | true =>
        have h2 := tab_before ht (show p < p + 1 + i by omega) hq hi
        rw [same_bef e, hqr] at h2; cases h2
    have hstep : addS r (rs.take (p + 1)) = (if b = true then rs.take p ++ [r] else rs.take p ++ [r] ++ [q], true) := by
      rw [snoc_of hq, addS_snoc, h1]
      unfold stepA
      cases hs : sameR q r with
      | true => rw [hs] at hbq; subst hbq; simp
      | false =>
        rw [hs] at hbq; subst hbq
        simp [bef_or hqr hs]
    have hall := addS_after _ _ _ hrest hstep
    rw [← hsplit] at hall
    unfold addL putAt
    rw [hall, if_pos rfl]
    cases b
    · simp [hdrop]
    · simp
  · have hpl : p = rs.length := by omega
    have hbf := hb2 hpl
    subst hbf
    rw [hpl, List.take_length] at h1
    unfold addL putAt
    rw [h1, hpl]
    simp
end Go.Proofs.Ytaehkkcaoniphaa
