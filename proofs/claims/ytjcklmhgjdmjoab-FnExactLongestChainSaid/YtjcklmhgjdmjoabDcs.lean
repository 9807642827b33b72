/- spec.l11Decide: a decision out of its chain. -/
import Derived.Test.YtjcklmhgjdmjoabDec
import Derived.Test.YtjcklmhgjdmjoabMRate
namespace Go.Proofs.Ytjcklmhgjdmjoab
open Go.ChangeShapes Go.WideShapes Go.ChangeAt Go.RowKit
set_option linter.unusedVariables false

/-- A decision of the call's own. -/
def NewDec (w : World) (x : Dcn) (e : Ending) (w' : World) : Prop :=
  ∃ A c, e = .returned (.agg #[.int .i64 x.y, .slice A x.cs.length c]) ∧ Ost w' w.heap.size A x.cs.length c x.cs ∧ Below w.heap.size w w'
/-- The result's box is written. -/
theorem dbox_done {W : World} {k : Nat} {a b : Value} {t : TypeId} (h : W.heap[k]? = some (.cells #[a, b] t (0, 0))) (u v : Value) :
    ∃ W', ((W.setCell ⟨k, 0, none⟩ u).setCell ⟨k, 1, none⟩ v) = W' ∧ W'.cell? ⟨k, 0, none⟩ = some u ∧ W'.cell? ⟨k, 1, none⟩ = some v ∧ (∀ M, M ≤ k → Below M W W') ∧
      ∀ (base : Nat) (A : Option Addr) (n c : Nat) (ws : List (List UInt8)), k < base → Ost W base A n c ws → Ost W' base A n c ws := by
  have h1 : (W.setCell ⟨k, 0, none⟩ u).heap[k]? = some (.cells #[u, b] t (0, 0)) := by simp [World.setCell, Array.getElem?_modify, h]
  have h2 : ((W.setCell ⟨k, 0, none⟩ u).setCell ⟨k, 1, none⟩ v).heap[k]? = some (.cells #[u, v] t (0, 0)) := by
    generalize W.setCell ⟨k, 0, none⟩ u = W1 at h1 ⊢
    simp [World.setCell, Array.getElem?_modify, h1]
  exact ⟨_, rfl, by rw [cell_of_row _ _ _ _ _ _ h2]; rfl, by rw [cell_of_row _ _ _ _ _ _ h2]; rfl, fun M hM => ((Below.refl M W).setCell hM _).setCell hM _, fun base A n c ws hk ho => ownsRow_setCell_below (ownsRow_setCell_below ho (a := ⟨k, 0, none⟩) hk _) (a := ⟨k, 1, none⟩) hk _⟩
end Go.Proofs.Ytjcklmhgjdmjoab
