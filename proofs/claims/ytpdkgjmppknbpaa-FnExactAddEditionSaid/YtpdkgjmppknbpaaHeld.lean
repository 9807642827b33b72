/- A region that draws its order, with calls that make memory and guards: one walk in the order of the text, over a class of worlds. -/
import Derived.Test.YtpdkgjmppknbpaaBase
import Derived.BigQuiet
namespace Go.Proofs.Ytpdkgjmppknbpaa
open Go.ChangeShapes Go.WideShapes Go.ChangeAt Go.RowKit
set_option linter.unusedVariables false

/-- A world of which S holds. -/
structure Sub (S : World → Prop) where
  w : World
  h : S w
/-- A region that draws its order, each of whose operations yields one value in all worlds of S and leaves such a world. -/
theorem region_held {P : Program} {id : Nat} {Q : Exit → Act → World → Prop} {a : Act} {w : World} {l : List Oper} (S : World → Prop) (hm : P.follows .mixedOrders = true) (hB : Region.lexB .any l.toArray = true) (h0 : S w.drew)
    (h : wpQuiet P l.toArray (fun W => ∃ y : Sub S, W = y.w) (fun a' => ∀ w', (∃ y : Sub S, w' = y.w) → Q .normal a' w') l a) : (Code.region id l.toArray true).wp P Q a w :=
  wp_region_quiet (C := fun W => ∃ y : Sub S, W = y.w) hm hB ⟨⟨_, h0⟩, rfl⟩ (by rw [List.toList_toArray]; exact h)

/-- The class 'nothing below is written'. -/
def Bel (w : World) (W : World) : Prop := Below w.heap.size w W
theorem Bel.drew (w : World) : Bel w w.drew := (Below.refl _ _).drew
theorem Bel.step {w w' : World} (y : Sub (Bel w)) (b : Below y.w.heap.size y.w w') : Bel w w' := belowGo y.h b
end Go.Proofs.Ytpdkgjmppknbpaa
