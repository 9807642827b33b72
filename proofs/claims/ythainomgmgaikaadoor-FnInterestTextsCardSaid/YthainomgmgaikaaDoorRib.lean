/- Boxes of five cells; what ReadInterest gives. (by gen_rii.py) -/
import Derived.Test.YthainomgmgaikaaDoorRit
import Derived.Test.YthainomgmgaikaaDoorRin
namespace Go.Proofs.YthainomgmgaikaaDoor
open Go.ChangeShapes Go.WideShapes Go.ChangeAt Go.RowKit
set_option linter.unusedVariables false

def GivRI (w : World) (r : Ist × Int) (e : Ending) (w' : World) : Prop :=
  e = .returned (.tuple #[.agg #[.string ⟨r.1.c.toArray⟩, .int .i64 r.1.k, .string ⟨r.1.o.toArray⟩, .int .i64 r.1.v, .int .i64 r.1.a], .int .i64 r.2]) ∧ Below w.heap.size w w'
theorem keep5 {W0 w' : World} {g : Nat} {v0 v1 v2 v3 v4 : Value} {t : TypeId} (hb : Below W0.heap.size W0 w') (h : W0.heap[g]? = some (.cells #[v0, v1, v2, v3, v4] t (0, 0))) : w'.heap[g]? = some (.cells #[v0, v1, v2, v3, v4] t (0, 0)) := (hb.block _ (lt_some h)).trans h
structure Cel5 (W : World) (g : Nat) (v0 v1 v2 v3 v4 : Value) : Prop where
  c0 : W.cell? ⟨g, 0, none⟩ = some v0
  c1 : W.cell? ⟨g, 1, none⟩ = some v1
  c2 : W.cell? ⟨g, 2, none⟩ = some v2
  c3 : W.cell? ⟨g, 3, none⟩ = some v3
  c4 : W.cell? ⟨g, 4, none⟩ = some v4
  f0 : W.frozen? ⟨g, 0, none⟩ = false
  f1 : W.frozen? ⟨g, 1, none⟩ = false
  f2 : W.frozen? ⟨g, 2, none⟩ = false
  f3 : W.frozen? ⟨g, 3, none⟩ = false
  f4 : W.frozen? ⟨g, 4, none⟩ = false
theorem cel5 {W : World} {g : Nat} {v0 v1 v2 v3 v4 : Value} {t : TypeId} (h : W.heap[g]? = some (.cells #[v0, v1, v2, v3, v4] t (0, 0))) : Cel5 W g v0 v1 v2 v3 v4 :=
  ⟨by rw [cell_of_row _ _ _ _ _ _ h]; rfl, by rw [cell_of_row _ _ _ _ _ _ h]; rfl, by rw [cell_of_row _ _ _ _ _ _ h]; rfl, by rw [cell_of_row _ _ _ _ _ _ h]; rfl, by rw [cell_of_row _ _ _ _ _ _ h]; rfl, frozen_of_row W _ 0 _ _ h, frozen_of_row W _ 1 _ _ h, frozen_of_row W _ 2 _ _ h, frozen_of_row W _ 3 _ _ h, frozen_of_row W _ 4 _ _ h⟩
theorem done5 {w1 : World} {g : Nat} {v0 v1 v2 v3 v4 : Value} {t : TypeId} (h : w1.heap[g]? = some (.cells #[v0, v1, v2, v3, v4] t (0, 0))) (a b c d e : Value) :
    ∃ W, (((((w1.setCell ⟨g, 0, none⟩ a).setCell ⟨g, 1, none⟩ b).setCell ⟨g, 2, none⟩ c).setCell ⟨g, 3, none⟩ d).setCell ⟨g, 4, none⟩ e) = W ∧ W.heap[g]? = some (.cells #[a, b, c, d, e] t (0, 0)) ∧ ∀ (B : Nat) (w : World), B ≤ g → Below B w w1 → Below B w W := by
  refine ⟨_, rfl, ?_, fun B w hB hb => ((((hb.setCell (by simpa using hB) _).setCell (by simpa using hB) _).setCell (by simpa using hB) _).setCell (by simpa using hB) _).setCell (by simpa using hB) _⟩
  have h1 : (w1.setCell ⟨g, 0, none⟩ a).heap[g]? = some (.cells #[a, v1, v2, v3, v4] t (0, 0)) := by rw [heap_setCell_same _ _ _ _ _ _ h]; rfl
  have h2 : ((w1.setCell ⟨g, 0, none⟩ a).setCell ⟨g, 1, none⟩ b).heap[g]? = some (.cells #[a, b, v2, v3, v4] t (0, 0)) := by rw [heap_setCell_same _ _ _ _ _ _ h1]; rfl
  have h3 : (((w1.setCell ⟨g, 0, none⟩ a).setCell ⟨g, 1, none⟩ b).setCell ⟨g, 2, none⟩ c).heap[g]? = some (.cells #[a, b, c, v3, v4] t (0, 0)) := by rw [heap_setCell_same _ _ _ _ _ _ h2]; rfl
  have h4 : ((((w1.setCell ⟨g, 0, none⟩ a).setCell ⟨g, 1, none⟩ b).setCell ⟨g, 2, none⟩ c).setCell ⟨g, 3, none⟩ d).heap[g]? = some (.cells #[a, b, c, d, v4] t (0, 0)) := by rw [heap_setCell_same _ _ _ _ _ _ h3]; rfl
  rw [heap_setCell_same _ _ _ _ _ _ h4]; rfl
def updB (us : Nat → Value) (j : Nat) (v : Value) : Nat → Value := fun n => if n = j then v else us n
theorem updB_same (us : Nat → Value) (j : Nat) (v : Value) : updB us j v j = v := by unfold updB; rw [if_pos rfl]
theorem updB_other {us : Nat → Value} {j n : Nat} {v : Value} (h : n ≠ j) : updB us j v n = us n := by unfold updB; rw [if_neg h]
theorem setB_same {d : Array Bool} {i : Nat} (h : d.getD i true = false) : (d.setIfInBounds i true).getD i false = true := by
  have hi : i < d.size := by
    rcases Nat.lt_or_ge i d.size with h2 | h2
    · exact h2
    · simp [Array.getElem?_eq_none h2] at h
  simp [hi]
theorem getB_f {d : Array Bool} {i : Nat} (h : d.getD i true = false) : d.getD i false = false := by
  cases h2 : d.getD i false with
  | false => rfl
  | true => have := getD_ft h2; rw [h] at this; cases this
end Go.Proofs.YthainomgmgaikaaDoor
