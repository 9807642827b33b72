/- What the law FnParties needs, in plain lists. -/
import Derived.Test.YtjgagiigpijaiaaDoorPtx
import Derived.Test.YtjgagiigpijaiaaDoorAdpp
namespace Go.Proofs.YtjgagiigpijaiaaDoor
open Go.ChangeShapes Go.WideShapes Go.ChangeAt Go.RowKit
set_option linter.unusedVariables false

theorem act_code (ps : List Pty) (s : List UInt8) : (actR ps s).2 = (plcR ps s).2 := by
  unfold actR; split
  · rename_i h; exact h.symm
  · rfl
theorem cli_code (ps : List Pty) (s : List UInt8) : (cliR ps s).2 = (plcR ps s).2 := by
  unfold cliR; split
  · rename_i h; exact h.symm
  · rfl
theorem pof_reg (ps : List Pty) (k : Int) : ((pofR ps k).2 = 0 ∧ regB ps = true) ∨ ((pofR ps k).2 = 1 ∧ regB ps = false) := by
  unfold pofR
  rcases Bool.eq_false_or_eq_true (regB ps) with h | h
  · rw [if_pos h]; exact .inl ⟨rfl, h⟩
  · rw [if_neg (by rw [h]; exact Bool.false_ne_true)]; exact .inr ⟨rfl, h⟩
theorem plc_zero {ps : List Pty} {s : List UInt8} (h : (plcR ps s).2 = 0) : ∃ (k : Nat) (p : Pty), plcR ps s = ((k : Int), 0) ∧ k < ps.length ∧ ps[k]? = some p ∧ p.c = s ∧ regB ps = true := by
  have W := sway ps s
  generalize plcR ps s = r at *
  cases W with
  | reg h0 => cases h
  | code h0 h2 => cases h
  | none h0 h2 h3 h4 => cases h
  | ok k p h0 h2 h3 h4 h5 hk hp hc => exact ⟨k, p, rfl, hk, hp, hc, h0⟩
theorem plc_of {ps : List Pty} {p : Pty} {k : Nat} (h : regB ps = true) (hp : ps[k]? = some p) : plcR ps p.c = ((k : Int), 0) := by
  obtain ⟨_, ho, _⟩ := regB_iff.1 h
  have hf := fnd_key ho hp rfl
  have hc := (pok (ord_ok ho hp)).1
  unfold plcR
  rw [if_pos ⟨h, hc⟩, if_pos (by unfold hasP; rw [hf]; rfl), fnd_plc ho hf]
theorem act_again {ps : List Pty} {s : List UInt8} (h : (plcR ps s).2 = 0) : actR ps (actR ps s).1 = ((actR ps s).1, 0) := by
  obtain ⟨k, p, e, hk, hp, hc, hr⟩ := plc_zero h
  have e1 := actR_ok e hp
  rw [e1]
  show actR ps (orS p.a s) = (orS p.a s, 0)
  rcases Bool.eq_false_or_eq_true (p.a == []) with ha | ha
  · have : orS p.a s = s := by unfold orS; rw [if_pos ha]
    rw [this] at e1 ⊢; exact e1
  · have e2 : orS p.a s = p.a := by unfold orS; rw [if_neg (by rw [ha]; exact Bool.false_ne_true)]
    rw [e2]
    obtain ⟨_, ho, hag⟩ := regB_iff.1 hr
    have h1 : agAt ps k = true := rto_at hag hk
    rw [agAt_eq hp, ha, Bool.false_or] at h1
    unfold agB at h1
    cases hf : fnd ps p.a with
    | none => rw [hf] at h1; cases h1
    | some j =>
      rw [hf] at h1
      obtain ⟨q, hq, hqc⟩ := fnd_at hf
      simp only [hq] at h1
      have e3 := plc_of hr hq
      rw [hqc] at e3
      rw [actR_ok e3 hq]
      unfold orS
      rw [if_pos h1]
theorem addp_found {ps : List Pty} {x : Pty} (h : (addPR ps x).2 = 0) : ∃ k : Nat, plcR (addPR ps x).1 x.c = ((k : Int), 0) ∧ k < (addPR ps x).1.length ∧ (addPR ps x).1[k]? = some x ∧ (addPR ps x).1.length = ps.length + 1 := by
  rcases Bool.eq_false_or_eq_true (regB ps) with h1 | h1
  · rcases Bool.eq_false_or_eq_true x.ok with h2 | h2
    · rcases Bool.eq_false_or_eq_true (regB (addP ps x)) with h3 | h3
      · rw [addPR_0 h1 h2 h3]
        have hm : x ∈ addP ps x := by unfold addP; simp
        obtain ⟨k, hk⟩ := List.getElem?_of_mem hm
        exact ⟨k, plc_of h3 hk, (List.getElem?_eq_some_iff.1 hk).1, hk, addP_len ps x⟩
      · rw [addPR_5 h1 h2 h3] at h; cases h
    · rw [addPR_no (.inr h2)] at h; cases h
  · rw [addPR_no (.inl h1)] at h; cases h
theorem act_len {ps : List Pty} {s : List UInt8} {n : Nat} (h : ∀ p ∈ ps, p.a.length ≤ n) (hs : s.length ≤ n) : (actR ps s).1.length ≤ n := by
  unfold actR
  split
  · show (match ps[(plcR ps s).1.toNat]? with | none => s | some p => orS p.a s).length ≤ n
    cases he : ps[(plcR ps s).1.toNat]? with
    | none => exact hs
    | some p =>
      show (orS p.a s).length ≤ n
      unfold orS; split
      · exact hs
      · exact h p (List.mem_of_getElem? he)
  · exact Nat.zero_le _
end Go.Proofs.YtjgagiigpijaiaaDoor
