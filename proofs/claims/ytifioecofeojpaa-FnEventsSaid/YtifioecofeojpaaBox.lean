/- A block of three cells. -/
import Derived.Test.YtifioecofeojpaaDateb
namespace Go.Proofs.Ytifioecofeojpaa
open Go.ChangeShapes Go.WideShapes Go.ChangeAt Go.RowKit
set_option linter.unusedVariables false

theorem lt_of_some {wr : World} {g : Nat} {o : Obj} (h : wr.heap[g]? = some o) : g < wr.heap.size := by
  rcases Nat.lt_or_ge g wr.heap.size with hlt | hge
  · exact hlt
  · rw [Array.getElem?_eq_none hge] at h; cases h
theorem keep6 {W0 w' : World} {g : Nat} {a b c : Value} {t : TypeId} (hb : Below W0.heap.size W0 w') (h : W0.heap[g]? = some (.cells #[a, b, c] t (0, 0))) :
    w'.heap[g]? = some (.cells #[a, b, c] t (0, 0)) ∧ w'.cell? ⟨g, 0, none⟩ = some a ∧ w'.cell? ⟨g, 1, none⟩ = some b ∧ w'.cell? ⟨g, 2, none⟩ = some c ∧
    w'.frozen? ⟨g, 0, none⟩ = false ∧ w'.frozen? ⟨g, 1, none⟩ = false ∧ w'.frozen? ⟨g, 2, none⟩ = false := by
  have h1 := (hb.block _ (lt_of_some h)).trans h
  obtain ⟨c0, c1, c2⟩ := keep3 hb h
  exact ⟨h1, c0, c1, c2, frozen_of_row w' _ 0 _ _ h1, frozen_of_row w' _ 1 _ _ h1, frozen_of_row w' _ 2 _ _ h1⟩
theorem done3 {w1 : World} {g : Nat} {x y z : Value} {t : TypeId} (h : w1.heap[g]? = some (.cells #[x, y, z] t (0, 0))) (a b c : Value) :
    ∃ W, (((w1.setCell ⟨g, 0, none⟩ a).setCell ⟨g, 1, none⟩ b).setCell ⟨g, 2, none⟩ c) = W ∧
      W.cell? ⟨g, 0, none⟩ = some a ∧ W.cell? ⟨g, 1, none⟩ = some b ∧ W.cell? ⟨g, 2, none⟩ = some c ∧ ∀ (B : Nat) (w : World), B ≤ g → Below B w w1 → Below B w W := by
  refine ⟨_, rfl, ?_⟩
  have h2 : (w1.setCell ⟨g, 0, none⟩ a).heap[g]? = some (.cells #[a, y, z] t (0, 0)) := by
    rw [heap_setCell_same _ _ _ _ _ _ h]; rfl
  have h3 : ((w1.setCell ⟨g, 0, none⟩ a).setCell ⟨g, 1, none⟩ b).heap[g]? = some (.cells #[a, b, z] t (0, 0)) := by
    rw [heap_setCell_same _ _ _ _ _ _ h2]; rfl
  have h4 : (((w1.setCell ⟨g, 0, none⟩ a).setCell ⟨g, 1, none⟩ b).setCell ⟨g, 2, none⟩ c).heap[g]? = some (.cells #[a, b, c] t (0, 0)) := by
    rw [heap_setCell_same _ _ _ _ _ _ h3]; rfl
  refine ⟨?_, ?_, ?_, fun B w hB hb => ((hb.setCell (by simpa using hB) _).setCell (by simpa using hB) _).setCell (by simpa using hB) _⟩ <;>
    (rw [cell_of_row _ _ _ _ _ _ h4]; rfl)

end Go.Proofs.Ytifioecofeojpaa
