/- Decisions in plain lists: codes of a chain, results, what an index of a chain says. -/
import Derived.Test.YtjcklmhgjdmjoaaDcn
import Derived.Test.YtjcklmhgjdmjoaaDif
namespace Go.Proofs.Ytjcklmhgjdmjoaa
open Go.ChangeShapes Go.WideShapes Go.ChangeAt Go.RowKit
set_option linter.unusedVariables false

/-- The code at an index. -/
def cdOf (ps : List Cls) (x : Int) : List UInt8 := match ps[x.toNat]? with | some p => p.c | none => []
theorem cdOf_at {ps : List Cls} {j : Nat} {p : Cls} (h : ps[j]? = some p) : cdOf ps (j : Int) = p.c := by unfold cdOf; simp [h]
def decL (ps : List Cls) (q : Evt) : List (List UInt8) := (chainL ps q).map (cdOf ps)
def decE (ps : List Cls) (q : Evt) : Dcn := ⟨resC ps q, decL ps q⟩
theorem decL_len (ps : List Cls) (q : Evt) : (decL ps q).length = (chainL ps q).length := by simp [decL]
theorem chain_bd {ps : List Cls} (h : RB ps) (e : Evt) : ∀ (n k : Nat) (x : Int), k < ps.length → x ∈ chainC ps e n k → ∃ j : Nat, x = (j : Int) ∧ j < ps.length ∧ k ≤ j
  | 0, k, x, hk, hx => by simp [chainC] at hx
  | n + 1, k, x, hk, hx => by
    have hf := h.first hk e
    have hge := first_ge ps k e
    have hp : ps[firstC ps k e]? = some ps[firstC ps k e] := List.getElem?_eq_getElem hf
    rcases Bool.eq_false_or_eq_true (ps[firstC ps k e].e == 3) with he | he
    · rw [chain_go hp he, List.mem_cons] at hx
      rcases hx with hx | hx
      · exact ⟨_, hx, hf, hge⟩
      · have hto := h.to _ _ hp (by simpa using he)
        have hb := (fndIC_bd ps ps[firstC ps k e].t).2
        obtain ⟨j, h1, h2, h3⟩ := chain_bd h e n (fndIC ps ps[firstC ps k e].t).toNat x (by omega) hx
        exact ⟨j, h1, h2, by omega⟩
    · rw [chain_stop hp he, List.mem_singleton] at hx
      exact ⟨_, hx, hf, hge⟩
theorem chainL_bd {ps : List Cls} (h : RB ps) {e : Evt} {x : Int} (hx : x ∈ chainL ps e) : ∃ j : Nat, x = (j : Int) ∧ j < ps.length := by
  obtain ⟨j, h1, h2, _⟩ := chain_bd h e 13 0 x h.lo hx
  exact ⟨j, h1, h2⟩
theorem chainL_at {ps : List Cls} (h : RB ps) {e : Evt} {i : Nat} (hi : i < (chainL ps e).length) : ∃ (j : Nat) (p : Cls), (chainL ps e)[i]? = some (j : Int) ∧ ps[j]? = some p ∧ (decL ps e)[i]? = some p.c ∧ j < ps.length ∧ fndIC ps p.c = (j : Int) := by
  have h1 : (chainL ps e)[i]? = some (chainL ps e)[i] := List.getElem?_eq_getElem hi
  obtain ⟨j, h2, h3⟩ := chainL_bd h (List.mem_of_getElem? h1)
  have h4 : ps[j]? = some ps[j] := List.getElem?_eq_getElem h3
  rw [h2] at h1
  exact ⟨j, ps[j], h1, h4, by simp [decL, h1, cdOf_at h4], h3, h.own _ _ h4⟩
theorem dec_has {ps : List Cls} (h : RB ps) (e : Evt) {k : Nat} {s : List UInt8} (hk : fndIC ps s = (k : Int)) : (decL ps e).contains s = (chainL ps e).contains (k : Int) := by
  rw [Bool.eq_iff_iff, List.contains_iff_exists_mem_beq, List.contains_iff_exists_mem_beq]
  constructor
  · rintro ⟨x, hx, he⟩
    rw [beq_iff_eq] at he
    subst he
    obtain ⟨i, hi⟩ := List.getElem?_of_mem hx
    have hl : i < (chainL ps e).length := by rw [← decL_len]; exact (List.getElem?_eq_some_iff.1 hi).1
    obtain ⟨j, p, h1, h2, h3, h4, h5⟩ := chainL_at h hl
    rw [hi] at h3
    have h6 := Option.some.inj h3
    subst h6
    rw [hk] at h5
    exact ⟨_, List.mem_of_getElem? h1, by rw [beq_iff_eq]; exact h5⟩
  · rintro ⟨x, hx, he⟩
    rw [beq_iff_eq] at he
    subst he
    obtain ⟨i, hi⟩ := List.getElem?_of_mem hx
    obtain ⟨j, p, h1, h2, h3, h4, h5⟩ := chainL_at h (List.getElem?_eq_some_iff.1 hi).1
    rw [hi] at h1
    have h6 := Option.some.inj h1
    have h7 : k = j := by omega
    subst h7
    have h8 : p.c = s := by
      have hf : fndC ps s = some k := by
        unfold fndIC at hk
        cases hq : fndC ps s with
        | none => rw [hq] at hk; simp at hk
        | some m => rw [hq] at hk; simp at hk; exact congrArg some (by omega)
      unfold fndC at hf
      obtain ⟨hl, hc, _⟩ := List.findIdx?_eq_some_iff_getElem.1 hf
      have h9 := (List.getElem?_eq_some_iff.1 h2).2
      rw [h9] at hc
      simpa using hc
    exact ⟨_, List.mem_of_getElem? h3, by rw [h8]; simp⟩
theorem chainL_pos {ps : List Cls} (h : RB ps) (e : Evt) : 0 < (chainL ps e).length ∧ (chainL ps e).length ≤ 13 := by
  have h1 := h.lo
  obtain ⟨xs, j, p, h2, _⟩ := chain_last h e 13 0 (by omega) (by omega)
  have h3 := chain_len ps e 13 0
  exact ⟨by unfold chainL; rw [h2]; simp, h3⟩
theorem resC_bd {ps : List Cls} (h : RB ps) (e : Evt) : ∃ k : Nat, resC ps e = (k : Int) ∧ k < 3 := by
  have h1 := h.lo
  obtain ⟨xs, j, p, h2, h3, h4⟩ := chain_last h e 13 0 (by omega) (by omega)
  have h5 := cok (h.ok _ _ h3)
  have h6 : p.e ≠ 3 := by simpa using h4
  have h7 := resC_of (e := e) h2 h3
  have h8 := h5.2.2.2.2.2.1
  exact ⟨p.e.toNat, by omega, by omega⟩
end Go.Proofs.Ytjcklmhgjdmjoaa
