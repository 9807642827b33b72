/- Results of decisions, the first event that is decided differently: plain lists; spec.l10Result. -/
import Derived.Test.YtjcklmhgjdmjoabCln
namespace Go.Proofs.Ytjcklmhgjdmjoab
open Go.ChangeShapes Go.WideShapes Go.ChangeAt Go.RowKit
set_option linter.unusedVariables false

theorem chain_last {ps : List Cls} (h : RB ps) (e : Evt) : ∀ (n k : Nat), k < ps.length → 13 ≤ n + k → ∃ xs j p, chainC ps e n k = xs ++ [((j : Nat) : Int)] ∧ ps[j]? = some p ∧ (p.e == 3) = false
  | 0, k, hk, hn => by have := h.hi; omega
  | n + 1, k, hk, hn => by
    have hj := h.first hk e
    have hge := first_ge ps k e
    have hp : ps[firstC ps k e]? = some ps[firstC ps k e] := List.getElem?_eq_getElem hj
    rcases Bool.eq_false_or_eq_true (ps[firstC ps k e].e == 3) with he | he
    · have hbd := h.to _ _ hp (by simpa using he)
      have hbd2 := (fndIC_bd ps ps[firstC ps k e].t).2
      obtain ⟨xs, j, p, h1, h2, h3⟩ := chain_last h e n (fndIC ps ps[firstC ps k e].t).toNat (by omega) (by omega)
      exact ⟨(firstC ps k e : Int) :: xs, j, p, by rw [chain_go hp he, h1]; rfl, h2, h3⟩
    · exact ⟨[], _, _, by rw [chain_stop hp he]; rfl, hp, he⟩
/-- The result of a decision. -/
def resC (ps : List Cls) (e : Evt) : Int :=
  match (chainL ps e).getLast? with
  | some j => match ps[j.toNat]? with
    | some p => p.e
    | none => 0
  | none => 0
theorem resC_of {ps : List Cls} {e : Evt} {xs : List Int} {j : Nat} {p : Cls} (h : chainL ps e = xs ++ [(j : Int)]) (hp : ps[j]? = some p) : resC ps e = p.e := by
  unfold resC; rw [h]; simp [hp]
end Go.Proofs.Ytjcklmhgjdmjoab
