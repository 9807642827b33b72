/- DateOf: the date with a number. -/
import Derived.Test.YtifioecofeojpaaDofs
import Derived.Test.YtifioecofeojpaaBus
import Derived.Test.YtifioecofeojpaaDatq
namespace Go.Proofs.Ytifioecofeojpaa
open Go.ChangeShapes Go.WideShapes Go.ChangeAt Go.RowKit
set_option linter.unusedVariables false

/-- What DateOf answers: the date with this number, or none. -/
def DN (n y m d c : Int) : Prop := (inr n 0 36524 = true ∧ c = 0 ∧ okd y m d ∧ numd y m d = n) ∨ (inr n 0 36524 = false ∧ c = 2 ∧ y = 0 ∧ m = 0 ∧ d = 0)
theorem DN.same {n y m d c y' m' d' c' : Int} (h : DN n y m d c) (h' : DN n y' m' d' c') : y' = y ∧ m' = m ∧ d' = d ∧ c' = c := by
  rcases h with ⟨a1, rfl, a3, a4⟩ | ⟨a1, rfl, rfl, rfl, rfl⟩
  · rcases h' with ⟨_, rfl, a3', a4'⟩ | ⟨a1', _⟩
    · obtain ⟨rfl, rfl, rfl⟩ := numd_inj a3 a3' (a4.trans a4'.symm)
      exact ⟨rfl, rfl, rfl, rfl⟩
    · rw [a1] at a1'; cases a1'
  · rcases h' with ⟨a1', _⟩ | ⟨_, rfl, rfl, rfl, rfl⟩
    · rw [a1] at a1'; cases a1'
    · exact ⟨rfl, rfl, rfl, rfl⟩
def GiveDN (w : World) (n : Int) (e : Ending) (w' : World) : Prop :=
  ∃ y m d c : Int, e = .returned (.tuple #[.agg #[.int .i64 y, .int .i64 m, .int .i64 d], .int .i64 c]) ∧ Below w.heap.size w w' ∧
    DN n y m d c
def boxI (w : World) (g : Nat) : Int := match w.cell? ⟨g, 0, none⟩ with
  | some v => intOf v
  | none => 0
theorem okd_of2 {y m r n : Int} (y0 : 1970 ≤ y) (y1 : y ≤ 2069) (m0 : 1 ≤ m) (m1 : m ≤ 12) (hr : n = start y + cum y m + r) (r0 : 0 ≤ r) (r1 : r < dlen y m) : okd y m (1 + r) ∧ numd y m (1 + r) = n := by
  rw [Int.add_comm]; exact okd_of y0 y1 m0 m1 hr r0 r1

end Go.Proofs.Ytifioecofeojpaa
