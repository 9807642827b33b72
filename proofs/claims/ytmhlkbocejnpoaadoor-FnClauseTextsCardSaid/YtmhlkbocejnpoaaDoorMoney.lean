/- impl.AmountText and spec.AmountText write an amount alike. -/
import Derived.Test.YtmhlkbocejnpoaaDoorTwo
import Derived.Lib.ItoaMem
import Derived.Lib.AppendIntMem
import Derived.Lib.LaidTab
import Derived.LaidLaws
namespace Go.Proofs.YtmhlkbocejnpoaaDoor
open Go.ChangeShapes Go.WideShapes Go.ChangeAt Go.RowKit
set_option linter.unusedVariables false

def digitsOf (u : Nat) : List UInt8 := Lib.decDigits (u / 100) ++ 46 :: two (u % 100)
def money (n : Int) : List UInt8 := if n < 0 then 45 :: digitsOf n.natAbs else digitsOf n.natAbs
theorem money_neg {n : Int} (h : n < 0) : money n = 45 :: digitsOf n.natAbs := by simp [money, h]
theorem money_pos {n : Int} (h : ¬ n < 0) : money n = digitsOf n.natAbs := by simp [money, h]
def isVal (n : Int) : Bool := decide (-1000000000000 ≤ n ∧ n ≤ 1000000000000)

/-- What AmountText answers. -/
def textR (n : Int) : List UInt8 × Int := if isVal n = true then (money n, 0) else ([], 2)
theorem textR_ok {n : Int} (h : isVal n = true) : textR n = (money n, 0) := by simp [textR, h]
theorem textR_no {n : Int} (h : isVal n = false) : textR n = ([], 2) := by simp [textR, h]

theorem str_lo (s : List UInt8) {u : Nat} (h : u % 100 < 10) :
    (⟨s.toArray⟩ ++ ⟨(Lib.decDigits (u / 100)).toArray⟩ ++ ⟨#[46]⟩ ++ (⟨#[48]⟩ ++ ⟨(Lib.decDigits (u % 100)).toArray⟩) : ByteArray) = ⟨(s ++ digitsOf u).toArray⟩ := by
  have e : digitsOf u = Lib.decDigits (u / 100) ++ 46 :: 48 :: Lib.decDigits (u % 100) := by unfold digitsOf; rw [← two_lo h]
  rw [e, str_app, str_app, str_app, str_app]; simp
theorem str_hi (s : List UInt8) {u : Nat} (h : ¬ u % 100 < 10) :
    (⟨s.toArray⟩ ++ ⟨(Lib.decDigits (u / 100)).toArray⟩ ++ ⟨#[46]⟩ ++ ⟨(Lib.decDigits (u % 100)).toArray⟩ : ByteArray) = ⟨(s ++ digitsOf u).toArray⟩ := by
  have e : digitsOf u = Lib.decDigits (u / 100) ++ 46 :: Lib.decDigits (u % 100) := by unfold digitsOf; rw [two_hi h (by omega)]
  rw [e, str_app, str_app, str_app]; simp

theorem str_two (s : List UInt8) (u : Nat) :
    (⟨s.toArray⟩ ++ ⟨(Lib.decDigits (u / 100)).toArray⟩ ++ ⟨#[46]⟩ ++ (⟨(two (u % 100)).toArray⟩ : ByteArray) : ByteArray) = ⟨(s ++ digitsOf u).toArray⟩ := by
  rw [str_app, str_app, str_app]
  unfold digitsOf; simp

end Go.Proofs.YtmhlkbocejnpoaaDoor
