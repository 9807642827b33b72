/- Changed clauses as the two lists of what only one rulebook has: the same as what is asked. -/
import Derived.Test.YtjcklmhgjdmjoaaChg
namespace Go.Proofs.Ytjcklmhgjdmjoaa
open Go.ChangeShapes Go.WideShapes Go.ChangeAt Go.RowKit
set_option linter.unusedVariables false

theorem clB_iff {p q : Cls} : clB p q = true ↔ p = q := by
  constructor
  · intro h
    unfold clB at h
    simp only [Bool.and_eq_true, beq_iff_eq] at h
    obtain ⟨h1, h2, h3, h4, h5, h6, h7⟩ := h
    cases p; cases q
    simp only at h1 h2 h3 h4 h5 h6 h7
    subst h1 h2 h3 h4 h5 h6 h7
    rfl
  · rintro rfl; exact clB_same p
/-- The other list does not have the clause. -/
def outC (qs : List Cls) (p : Cls) : Bool := !(qs.any (fun q => clB p q))
theorem outC_t {qs : List Cls} {p : Cls} : outC qs p = true ↔ p ∉ qs := by
  unfold outC
  rw [Bool.not_eq_true', List.any_eq_false]
  constructor
  · intro h hp; exact h p hp (clB_same p)
  · intro h q hq e; rw [clB_iff.1 e] at h; exact h hq
def onlyC (ps qs : List Cls) : List (List UInt8) := (ps.filter (outC qs)).map Cls.c
theorem only_len (ps qs : List Cls) : (onlyC ps qs).length ≤ ps.length := fil_len _ _
theorem fnd_at {ps : List Cls} {s : List UInt8} (h : ¬ fndIC ps s < 0) : ∃ (k : Nat) (p : Cls), fndIC ps s = (k : Int) ∧ ps[k]? = some p ∧ p.c = s := by
  unfold fndIC at h ⊢
  cases hf : fndC ps s with
  | none => rw [hf] at h; simp at h
  | some k =>
    have hl := fnd_ltC hf
    refine ⟨k, ps[k], rfl, List.getElem?_eq_getElem hl, ?_⟩
    unfold fndC at hf
    rw [List.findIdx?_eq_some_iff_getElem] at hf
    obtain ⟨_, h2, _⟩ := hf
    simpa using h2
theorem fnd_not {ps : List Cls} {s : List UInt8} (h : fndIC ps s < 0) {p : Cls} (hp : p ∈ ps) : p.c ≠ s := by
  intro e
  unfold fndIC at h
  cases hf : fndC ps s with
  | some k => rw [hf] at h; simp at h; omega
  | none =>
    unfold fndC at hf
    rw [List.findIdx?_eq_none_iff] at hf
    have := hf p hp
    simp [e] at this
/-- A code stands for one clause. -/
theorem RB.one {ps : List Cls} (h : RB ps) {p q : Cls} (hp : p ∈ ps) (hq : q ∈ ps) (e : p.c = q.c) : p = q := by
  obtain ⟨i, hi⟩ := List.getElem?_of_mem hp
  obtain ⟨j, hj⟩ := List.getElem?_of_mem hq
  have h1 := h.own i p hi
  have h2 := h.own j q hj
  rw [e, h2] at h1
  obtain rfl : j = i := by omega
  rw [hi] at hj; exact Option.some.inj hj
theorem chg_out {qs : List Cls} (h : RB qs) (p : Cls) : chgB qs p = outC qs p := by
  by_cases hf : fndIC qs p.c < 0
  · unfold chgB
    rw [if_pos hf]
    exact (outC_t.2 fun hp => fnd_not hf hp rfl).symm
  · obtain ⟨k, q, hk, hq, hc⟩ := fnd_at hf
    have : chgB qs p = !clB p q := by
      unfold chgB
      rw [if_neg hf, hk]
      simp [hq]
    rw [this]
    have hqm := List.mem_of_getElem? hq
    cases hb : clB p q with
    | true =>
      rw [clB_iff.1 hb]
      have : outC qs q = false := by
        rw [Bool.eq_false_iff]; intro e; exact outC_t.1 e hqm
      rw [this]; rfl
    | false =>
      refine (outC_t.2 fun hp => ?_).symm
      rw [h.one hp hqm hc.symm, clB_same] at hb
      cases hb
theorem only_eq {ps qs : List Cls} (h : RB ps) (h1 : RB qs) : ownU (onlyC ps qs ++ onlyC qs ps) = ownU (chgL ps qs) := by
  refine strict_eq (ownU_strict _) (ownU_strict _) fun x => ?_
  rw [ownU_mem, ownU_mem]
  unfold chgL onlyC
  rw [List.mem_append, List.mem_append, show ps.filter (chgB qs) = ps.filter (outC qs) from List.filter_congr fun p _ => chg_out h1 p]
  constructor
  · rintro (hx | hx)
    · exact .inl hx
    · obtain ⟨q, hq, rfl⟩ := List.mem_map.1 hx
      obtain ⟨hq1, hq2⟩ := List.mem_filter.1 hq
      by_cases hf : fndIC ps q.c < 0
      · exact .inr (List.mem_map.2 ⟨q, List.mem_filter.2 ⟨hq1, by unfold newB; exact decide_eq_true hf⟩, rfl⟩)
      · obtain ⟨k, p, hk, hp, hc⟩ := fnd_at hf
        have hpm := List.mem_of_getElem? hp
        refine .inl (List.mem_map.2 ⟨p, List.mem_filter.2 ⟨hpm, outC_t.2 fun hpq => ?_⟩, hc⟩)
        rw [h1.one hpq hq1 hc] at hpm
        exact outC_t.1 hq2 hpm
  · rintro (hx | hx)
    · exact .inl hx
    · obtain ⟨q, hq, rfl⟩ := List.mem_map.1 hx
      obtain ⟨hq1, hq2⟩ := List.mem_filter.1 hq
      refine .inr (List.mem_map.2 ⟨q, List.mem_filter.2 ⟨hq1, outC_t.2 fun hqp => ?_⟩, rfl⟩)
      unfold newB at hq2
      exact fnd_not (of_decide_eq_true hq2) hqp rfl
theorem out_snoc (ps qs : List Cls) (p : Cls) : onlyC (ps ++ [p]) qs = if outC qs p = true then onlyC ps qs ++ [p.c] else onlyC ps qs := fil_snoc (outC qs) ps p
end Go.Proofs.Ytjcklmhgjdmjoaa
