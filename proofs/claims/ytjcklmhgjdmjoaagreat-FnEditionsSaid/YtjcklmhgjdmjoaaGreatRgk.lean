import Derived.Test.YtjcklmhgjdmjoaaGreatRin
import Derived.Test.YtjcklmhgjdmjoaaGreatMHeld
import Derived.Test.YtjcklmhgjdmjoaaGreatMRate
import Derived.Maps.AppendAt
namespace Go.Proofs.YtjcklmhgjdmjoaaGreat
open Go.ChangeShapes Go.WideShapes Go.ChangeAt Go.RowKit
set_option linter.unusedVariables false
def updG (us : Nat -> Value) (j : Nat) (v : Value) : Nat -> Value := fun n => if n = j then v else us n
theorem upd_sameG (us : Nat -> Value) (j : Nat) (v : Value) : updG us j v j = v := by unfold updG; rw [if_pos rfl]
theorem upd_otherG {us : Nat -> Value} {j n : Nat} {v : Value} (h : n ≠ j) : updG us j v n = us n := by unfold updG; rw [if_neg h]
theorem getD_setG {d : Array Bool} {i : Nat} (h : d.getD i true = false) : (d.setIfInBounds i true).getD i false = true := by
 have hi : i < d.size := by
  rcases Nat.lt_or_ge i d.size with h1 | h1
  ·
   exact h1
  ·
   simp [Array.getElem?_eq_none h1] at h
 simp [hi]
theorem getD_tfG {d : Array Bool} {i : Nat} (h : d.getD i true = false) : d.getD i false = false := by
 have hi : i < d.size := by
  rcases Nat.lt_or_ge i d.size with h1 | h1
  ·
   exact h1
  ·
   simp [Array.getElem?_eq_none h1] at h
 simp [hi] at h ⊢; exact h
def RowG (lo : Nat) (v : Value) (L : List (List UInt8)) (W : World) : Prop := ∃ O q, v = .slice O L.length q /\ Ost W lo O L.length q L
theorem RowG.below {lo : Nat} {v : Value} {L : List (List UInt8)} {W W' : World} (h : RowG lo v L W) (hb : Below W.heap.size W W') : RowG lo v L W' := by
 obtain ⟨O, q, e, ho⟩ := h; exact ⟨O, q, e, own_below ho hb⟩
end Go.Proofs.YtjcklmhgjdmjoaaGreat
