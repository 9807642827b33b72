/- strings.Join of five; lengths of texts of amounts. (out of XItx) -/
import Derived.Test.YtmhlkbocejnpoaaDoorMoney
import Derived.Test.YtmhlkbocejnpoaaDoorCmp
import Derived.Test.YtmhlkbocejnpoaaDoorShelf
namespace Go.Proofs.YtmhlkbocejnpoaaDoor
open Go.ChangeShapes Go.WideShapes Go.ChangeAt Go.RowKit
set_option linter.unusedVariables false

theorem itext_str (c d o m a : List UInt8) : (⟨c.toArray⟩ ++ ⟨#[47]⟩ ++ ⟨d.toArray⟩ ++ ⟨#[47]⟩ ++ ⟨o.toArray⟩ ++ ⟨#[47]⟩ ++ ⟨m.toArray⟩ ++ ⟨#[47]⟩ ++ ⟨a.toArray⟩ : ByteArray) = ⟨(c ++ 47 :: (d ++ 47 :: (o ++ 47 :: (m ++ 47 :: a)))).toArray⟩ := by
  apply ByteArray.ext; simp [ByteArray.data_append]
theorem moneyI_len {v : Int} (h0 : 0 ≤ v) (h1 : v ≤ 1000000000) : (money v).length ≤ 24 := by
  rw [money_pos (by omega)]
  unfold digitsOf
  have := dec_len 18 (v.natAbs / 100) (by omega)
  simp [two]; omega
theorem amt_val {v : Int} (h0 : 0 ≤ v) (h1 : v ≤ 1000000000) : isVal v = true := by unfold isVal; simp; omega
theorem join5 (a b c d e : List UInt8) (g : Nat) (w : World) (h : w.heap[g]? = some (.cells #[.string ⟨a.toArray⟩, .string ⟨b.toArray⟩, .string ⟨c.toArray⟩, .string ⟨d.toArray⟩, .string ⟨e.toArray⟩] 9 (0, 0))) (hl : a.length + b.length + c.length + d.length + e.length ≤ 1000000) :
    Calls Tryd.prog 20 #[.slice (some ⟨g, 0, none⟩) 5 5, .string ⟨#[47]⟩] w (Gives1 w (a ++ 47 :: (b ++ 47 :: (c ++ 47 :: (d ++ 47 :: e))))) := by
  have hj : Lib.join (([⟨a.toArray⟩, ⟨b.toArray⟩, ⟨c.toArray⟩, ⟨d.toArray⟩, ⟨e.toArray⟩] : List ByteArray).map (·.data.toList)) (⟨#[47]⟩ : ByteArray).data.toList = a ++ 47 :: (b ++ 47 :: (c ++ 47 :: (d ++ 47 :: e))) := by
    show Lib.join [a, b, c, d, e] [47] = _
    rw [Lib.join_cons]; simp [Lib.joinTail]
  have H := Tryd.strings_Join g 0 5 [⟨a.toArray⟩, ⟨b.toArray⟩, ⟨c.toArray⟩, ⟨d.toArray⟩, ⟨e.toArray⟩] ⟨#[47]⟩ w
    (fun j x hx => by
      have hc : w.cell? ⟨g, 0 + j, none⟩ = (#[Value.string ⟨a.toArray⟩, .string ⟨b.toArray⟩, .string ⟨c.toArray⟩, .string ⟨d.toArray⟩, .string ⟨e.toArray⟩] : Array Value)[0 + j]? := cell_of_row _ _ _ _ _ _ h
      rw [hc]
      rcases (by have := (List.getElem?_eq_some_iff.1 hx).1; simp at this; omega : j = 0 ∨ j = 1 ∨ j = 2 ∨ j = 3 ∨ j = 4) with rfl | rfl | rfl | rfl | rfl <;> (simp at hx ⊢; exact hx))
    (lt_some h) (by simp) (by simp) (by rw [hj]; simp; omega)
  rw [hj] at H
  exact H
end Go.Proofs.YtmhlkbocejnpoaaDoor
