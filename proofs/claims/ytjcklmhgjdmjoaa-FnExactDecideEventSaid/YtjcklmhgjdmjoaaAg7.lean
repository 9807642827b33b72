/- A struct of 7 one-cell fields, by value, opened (for the frames). (by gen_ag.py) -/
import Derived.Test.YtjcklmhgjdmjoaaMEvt
namespace Go.Proofs.Ytjcklmhgjdmjoaa
open Go.ChangeShapes Go.WideShapes Go.ChangeAt Go.RowKit
set_option linter.unusedVariables false

set_option maxRecDepth 100000 in
theorem open_agg7 {H : Type} {enc : TypeId × Value → H} {w : World} {spare : Nat → Bool} {held : Bool} {r : Reach} {b0 base : Nat} {t : TypeId} {f0 f1 f2 f3 f4 f5 f6 : Field} {v : Value} {d : DataW H} {p : List MemPlace}
    (hs : Try.prog.underlying t = some (.struct #[f0, f1, f2, f3, f4, f5, f6])) (hone : Go.Deep.oneCellFields Try.prog #[f0, f1, f2, f3, f4, f5, f6] = true) (hC : Try.prog.cellsOf t = 7)
    (hv : Value.okWide Try.prog w r b0 t v) (h : DataW.Trod enc Try.prog w base spare held t v d p) :
    ∃ (v0 v1 v2 v3 v4 v5 v6 : Value) (y0 y1 y2 y3 y4 y5 y6 : DataW H × List MemPlace) (n : Nat), v = .agg #[v0, v1, v2, v3, v4, v5, v6] ∧ True ∧ True ∧ DataW.trod enc Try.prog w base spare held n f0.type [v0] = some y0 ∧ DataW.trod enc Try.prog w base spare held n f1.type [v1] = some y1 ∧ DataW.trod enc Try.prog w base spare held n f2.type [v2] = some y2 ∧ DataW.trod enc Try.prog w base spare held n f3.type [v3] = some y3 ∧ DataW.trod enc Try.prog w base spare held n f4.type [v4] = some y4 ∧ DataW.trod enc Try.prog w base spare held n f5.type [v5] = some y5 ∧ DataW.trod enc Try.prog w base spare held n f6.type [v6] = some y6 := by
  obtain ⟨cs, rfl, hsz⟩ := okWide_struct hs hv
  obtain ⟨fuel, hf⟩ := h
  obtain ⟨l⟩ := cs
  have hl : l.length = 7 := by have := hsz.trans hC; simpa using this
  obtain ⟨c0, c1, c2, c3, c4, c5, c6, rfl⟩ := list_evt hl
  obtain ⟨ys, n', _, _, _, hyl, hg⟩ := DataW.trod_struct hs hf
  obtain ⟨o0, k0⟩ := Go.Deep.hone_of hone 0 f0 rfl
  obtain ⟨o1, k1⟩ := Go.Deep.hone_of hone 1 f1 rfl
  obtain ⟨o2, k2⟩ := Go.Deep.hone_of hone 2 f2 rfl
  obtain ⟨o3, k3⟩ := Go.Deep.hone_of hone 3 f3 rfl
  obtain ⟨o4, k4⟩ := Go.Deep.hone_of hone 4 f4 rfl
  obtain ⟨o5, k5⟩ := Go.Deep.hone_of hone 5 f5 rfl
  obtain ⟨o6, k6⟩ := Go.Deep.hone_of hone 6 f6 rfl
  have g0 := hg 0 f0 rfl
  rw [o0, k0] at g0
  have g1 := hg 1 f1 rfl
  rw [o1, k1] at g1
  have g2 := hg 2 f2 rfl
  rw [o2, k2] at g2
  have g3 := hg 3 f3 rfl
  rw [o3, k3] at g3
  have g4 := hg 4 f4 rfl
  rw [o4, k4] at g4
  have g5 := hg 5 f5 rfl
  rw [o5, k5] at g5
  have g6 := hg 6 f6 rfl
  rw [o6, k6] at g6
  have hys : ∀ j, j < 7 → ∃ y, ys[j]? = some y := fun j hj => by
    have : ys.length = 7 := hyl.trans rfl
    exact ⟨_, List.getElem?_eq_getElem (by omega)⟩
  obtain ⟨y0, e0⟩ := hys 0 (by omega); rw [e0] at g0
  obtain ⟨y1, e1⟩ := hys 1 (by omega); rw [e1] at g1
  obtain ⟨y2, e2⟩ := hys 2 (by omega); rw [e2] at g2
  obtain ⟨y3, e3⟩ := hys 3 (by omega); rw [e3] at g3
  obtain ⟨y4, e4⟩ := hys 4 (by omega); rw [e4] at g4
  obtain ⟨y5, e5⟩ := hys 5 (by omega); rw [e5] at g5
  obtain ⟨y6, e6⟩ := hys 6 (by omega); rw [e6] at g6
  exact ⟨c0, c1, c2, c3, c4, c5, c6, y0, y1, y2, y3, y4, y5, y6, n', rfl, trivial, trivial, by simpa [Value.cells] using g0, by simpa [Value.cells] using g1, by simpa [Value.cells] using g2, by simpa [Value.cells] using g3, by simpa [Value.cells] using g4, by simpa [Value.cells] using g5, by simpa [Value.cells] using g6⟩
end Go.Proofs.Ytjcklmhgjdmjoaa
