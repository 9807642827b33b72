/- region_inv with the closure of what has come up: an operation that is done has all that it waits for behind it. -/
import Derived.Test.YtmhlkbocejnpoaaDoorRin
namespace Go.Proofs.YtmhlkbocejnpoaaDoor
open Go.ChangeShapes Go.WideShapes Go.ChangeAt Go.RowKit
set_option linter.unusedVariables false
section
variable {P : Program} {ops : Array Oper} {Q : Exit → Act → World → Prop}
/-- What is done has all behind it that it waits for. -/
def ClosedD (ops : Array Oper) (d : Array Bool) : Prop := ∀ j o, ops[j]? = some o → d.getD j false = true → ∀ e ∈ o.after, Region.binds .any e = true → d.getD e.on false = true
theorem getD_keep {d : Array Bool} {i n : Nat} (h : d.getD n false = true) : (d.setIfInBounds i true).getD n false = true := by
  by_cases e : i = n
  · subst e
    have hi : i < d.size := by
      rcases Nat.lt_or_ge i d.size with h2 | h2
      · exact h2
      · simp [Array.getElem?_eq_none h2] at h
    simp [hi]
  · rw [getD_set_ne false e]; exact h
theorem region_inv2 {id : Nat} {a : Act} {w : World} (hm : P.follows .mixedOrders = true) (hb : backB ops = true) (Inv : Array Bool → Act → World → Prop) (h0 : Inv (Array.replicate ops.size false) a w.drew)
    (hstep : ∀ i d a w, i ∈ Region.ready .any ops d → ClosedD ops d → Inv d a w → wpOp P ops Q i (fun a' w' => Inv (d.setIfInBounds i true) a' w') a w)
    (hend : ∀ d a w, d.size = ops.size → (∀ i, i < ops.size → d.getD i true = true) → Inv d a w → Q .normal a w) : (Code.region id ops true).wp P Q a w := by
  refine region_inv hm hb (fun d a w => ClosedD ops d ∧ Inv d a w) ⟨?_, h0⟩ ?_ (fun d a w hs ha hI => hend d a w hs ha hI.2)
  · intro j o ho hd
    exfalso
    rcases Nat.lt_or_ge j ops.size with h | h
    · simp [h] at hd
    · simp [Array.getElem?_eq_none, h] at hd
  · intro i d a w hi hI
    refine wpOp_mono (fun a' w' h => ⟨?_, h⟩) (hstep i d a w hi hI.1 hI.2)
    obtain ⟨hun, oi, hoi, hall⟩ := mem_ready.1 hi
    intro j o ho hd e he hbd
    by_cases hij : i = j
    · subst hij
      rw [hoi] at ho
      obtain rfl := Option.some.inj ho
      exact getD_keep (hall e he hbd)
    · rw [getD_set_ne false hij] at hd
      exact getD_keep (hI.1 j o ho hd e he hbd)
theorem undoneF {d : Array Bool} {i : Nat} (h : d.getD i true = false) : d.getD i false = false := by
  cases h2 : d.getD i false with
  | false => rfl
  | true => have := getD_ft h2; rw [h] at this; cases this
/-- One step back: what waits for an undone operation is undone. -/
theorem ClosedD.back {d : Array Bool} (h : ClosedD ops d) (j : Nat) (o : Oper) (e : Edge) (ho : ops[j]? = some o) (he : e ∈ o.after) (hb : Region.binds .any e = true) (hd : d.getD e.on false = false) : d.getD j false = false := by
  cases h2 : d.getD j false with
  | false => rfl
  | true => have := h j o ho h2 e he hb; rw [hd] at this; cases this
end
end Go.Proofs.YtmhlkbocejnpoaaDoor
