/- impl.haveKindsOfManifest, impl.IsManifest, spec.IsManifest. -/
import Derived.Test.YtjcklmhgjdmjoaaSpl
namespace Go.Proofs.Ytjcklmhgjdmjoaa
open Go.ChangeShapes Go.WideShapes Go.ChangeAt Go.RowKit
set_option linter.unusedVariables false

theorem kinds_3 {ps : List Ist} (h : ordToM ps ps.length = true) {k : Nat} {p : Ist} (hp : ps[k]? = some p) : p.k = 0 ∨ p.k = 1 ∨ p.k = 2 ∨ p.k = 3 := by
  have := (iok (ord_okM h hp)).2.2.1; omega
theorem cntK_next (j : Int) {ps : List Ist} {k : Nat} {p : Ist} (hp : ps[k]? = some p) : cntK j (ps.take (k + 1)) = cntK j (ps.take k) + (if p.k = j then 1 else 0) := by rw [snoc_of hp, cntK_snoc]
theorem old_alloc {W : World} {g : Nat} {o u : Obj} (h : W.heap[g]? = some u) : (W.alloc o).heap[g]? = some u := ((below_alloc W o).block _ (lt_some h)).trans h
theorem rowB_at {W : World} {C : Nat} {x0 x1 x2 : Value} {t : TypeId} (h : W.heap[C]? = some (.cells #[x0, x1, x2] t (0, 0))) :
    W.cell? ⟨C, 0, none⟩ = some x0 ∧ W.cell? ⟨C, 1, none⟩ = some x1 ∧ W.cell? ⟨C, 2, none⟩ = some x2 ∧ W.frozen? ⟨C, 0, none⟩ = false ∧ W.frozen? ⟨C, 1, none⟩ = false ∧ W.frozen? ⟨C, 2, none⟩ = false :=
  ⟨by rw [cell_of_row _ _ _ _ _ _ h]; rfl, by rw [cell_of_row _ _ _ _ _ _ h]; rfl, by rw [cell_of_row _ _ _ _ _ _ h]; rfl,
   frozen_of_row W C 0 _ _ h, frozen_of_row W C 1 _ _ h, frozen_of_row W C 2 _ _ h⟩

end Go.Proofs.Ytjcklmhgjdmjoaa
