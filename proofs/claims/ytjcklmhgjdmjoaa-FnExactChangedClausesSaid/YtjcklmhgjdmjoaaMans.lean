/- spec.IsManifest. -/
import Derived.Test.YtjcklmhgjdmjoaaMani
namespace Go.Proofs.Ytjcklmhgjdmjoaa
open Go.ChangeShapes Go.WideShapes Go.ChangeAt Go.RowKit
set_option linter.unusedVariables false

theorem rowI_at {W : World} {C : Nat} {x0 x1 x2 x3 : Value} {t : TypeId} (h : W.heap[C]? = some (.cells #[x0, x1, x2, x3] t (0, 0))) :
    W.cell? ⟨C, 0, none⟩ = some x0 ∧ W.cell? ⟨C, 1, none⟩ = some x1 ∧ W.cell? ⟨C, 2, none⟩ = some x2 ∧ W.cell? ⟨C, 3, none⟩ = some x3 ∧ W.frozen? ⟨C, 0, none⟩ = false ∧ W.frozen? ⟨C, 1, none⟩ = false ∧ W.frozen? ⟨C, 2, none⟩ = false ∧ W.frozen? ⟨C, 3, none⟩ = false :=
  ⟨by rw [cell_of_row _ _ _ _ _ _ h]; rfl, by rw [cell_of_row _ _ _ _ _ _ h]; rfl, by rw [cell_of_row _ _ _ _ _ _ h]; rfl, by rw [cell_of_row _ _ _ _ _ _ h]; rfl,
   frozen_of_row W C 0 _ _ h, frozen_of_row W C 1 _ _ h, frozen_of_row W C 2 _ _ h, frozen_of_row W C 3 _ _ h⟩
def InvC (ps : List Ist) (k n0 n1 n2 n3 : Nat) : Prop := n0 = cntK 0 (ps.take k) ∧ n1 = cntK 1 (ps.take k) ∧ n2 = cntK 2 (ps.take k) ∧ n3 = cntK 3 (ps.take k)
theorem InvC.next {ps : List Ist} {k n0 n1 n2 n3 : Nat} (h : InvC ps k n0 n1 n2 n3) {p : Ist} (hp : ps[k]? = some p) :
    InvC ps (k + 1) (n0 + if p.k = 0 then 1 else 0) (n1 + if p.k = 1 then 1 else 0) (n2 + if p.k = 2 then 1 else 0) (n3 + if p.k = 3 then 1 else 0) := by
  obtain ⟨h0, h1, h2, h3⟩ := h
  subst h0 h1 h2 h3
  exact ⟨(cntK_next 0 hp).symm, (cntK_next 1 hp).symm, (cntK_next 2 hp).symm, (cntK_next 3 hp).symm⟩
theorem InvC.le {ps : List Ist} {k n0 n1 n2 n3 : Nat} (h : InvC ps k n0 n1 n2 n3) : n0 ≤ ps.length ∧ n1 ≤ ps.length ∧ n2 ≤ ps.length ∧ n3 ≤ ps.length := by
  obtain ⟨h0, h1, h2, h3⟩ := h
  subst h0 h1 h2 h3
  have hl : (ps.take k).length ≤ ps.length := by rw [List.length_take]; omega
  exact ⟨Nat.le_trans (cntK_le _ _) hl, Nat.le_trans (cntK_le _ _) hl, Nat.le_trans (cntK_le _ _) hl, Nat.le_trans (cntK_le _ _) hl⟩

end Go.Proofs.Ytjcklmhgjdmjoaa
