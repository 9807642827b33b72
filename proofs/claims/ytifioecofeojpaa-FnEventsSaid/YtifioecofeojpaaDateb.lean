/- Dates: what is valid. -/
import Derived.Test.YtifioecofeojpaaDate
namespace Go.Proofs.Ytifioecofeojpaa
open Go.ChangeShapes Go.WideShapes Go.ChangeAt Go.RowKit
set_option linter.unusedVariables false

theorem keep3 {W0 w' : World} {g : Nat} {a b c : Value} {t : TypeId} (hb : Below W0.heap.size W0 w') (h : W0.heap[g]? = some (.cells #[a, b, c] t (0, 0))) :
    w'.cell? ⟨g, 0, none⟩ = some a ∧ w'.cell? ⟨g, 1, none⟩ = some b ∧ w'.cell? ⟨g, 2, none⟩ = some c := by
  have hl : g < W0.heap.size := by
    rcases Nat.lt_or_ge g W0.heap.size with hlt | hge
    · exact hlt
    · rw [Array.getElem?_eq_none hge] at h; cases h
  have hh := fun (k : Nat) => hb.cell (p := ⟨g, k, none⟩) hl
  refine ⟨(hh 0).trans ?_, (hh 1).trans ?_, (hh 2).trans ?_⟩ <;> (rw [cell_of_row _ _ _ _ _ _ h]; rfl)

def okD (y m d : Int) : Bool := decide (okd y m d)
theorem okD_iff {y m d : Int} : okD y m d = true ↔ okd y m d := by simp [okD]
theorem okD_made (y m d : Int) : (y == clamp y 1970 2069 && (m == clamp m 1 12 && d == clamp d 1 (dlen (clamp y 1970 2069) (clamp m 1 12)))) = okD y m d := by
  rw [Bool.eq_iff_iff, okD_iff, ← made_iff]; simp
theorem okD_eq {y m d : Int} (a : inr y 1970 2069 = true) (b : inr m 1 12 = true) : inr d 1 (dlen y m) = okD y m d := by
  have ha := inr_iff.1 a
  have hb := inr_iff.1 b
  rw [Bool.eq_iff_iff, okD_iff, inr_iff]
  unfold okd; omega
theorem okD_y {y m d : Int} (a : inr y 1970 2069 = false) : okD y m d = false := by
  have := inr_no.1 a
  rw [Bool.eq_false_iff]; intro h
  have h := okD_iff.1 h
  unfold okd at h; omega
theorem okD_m {y m d : Int} (a : inr m 1 12 = false) : okD y m d = false := by
  have := inr_no.1 a
  rw [Bool.eq_false_iff]; intro h
  have h := okD_iff.1 h
  unfold okd at h; omega
end Go.Proofs.Ytifioecofeojpaa
