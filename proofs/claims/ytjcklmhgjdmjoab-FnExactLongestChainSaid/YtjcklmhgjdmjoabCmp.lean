/- Comparisons: cmp.Compare, cmp.Or, impl.compareRates; spec.l03Before. -/
import Derived.Test.YtjcklmhgjdmjoabMRate
import Derived.Test.YtjcklmhgjdmjoabCode
import Derived.Test.YtjcklmhgjdmjoabMCal
import Derived.StillTailTactics
namespace Go.Proofs.Ytjcklmhgjdmjoab
open Go.ChangeShapes Go.WideShapes Go.ChangeAt Go.RowKit
set_option linter.unusedVariables false

def ordS (x y : List UInt8) : Int := if Op.bytesLess x y = true then -1 else if x = y then 0 else 1
def ordI (x y : Int) : Int := if x < y then -1 else if x = y then 0 else 1
def orI (a b : Int) : Int := if a = 0 then b else a
/-! ### rates -/
def ordR (a b : Rt) : Int := orI (ordS a.c b.c) (ordI a.day b.day)
theorem ordR_neg (a b : Rt) : decide (ordR a b < 0) = bef a b := by
  unfold ordR bef orI ordS
  rcases Bool.eq_false_or_eq_true (Op.bytesLess a.c b.c) with h | h
  · simp [h]
  · by_cases h2 : a.c = b.c
    · simp [h2, less_irr, ordI]
      by_cases h3 : a.day < b.day
      · simp [h3]
      · by_cases h4 : a.day = b.day <;> simp [h3, h4]
    · simp [h, h2]
/-- Two boxes stand as they were laid; nothing below is written. -/
structure Keep2 (w0 : World) (x y : Array Value) (t : TypeId) (W : World) : Prop where
  a : W.heap[w0.heap.size]? = some (.cells x t (0, 0))
  b : W.heap[w0.heap.size + 1]? = some (.cells y t (0, 0))
  bel : Below w0.heap.size w0 W
theorem lt_some {wr : World} {g : Nat} {o : Obj} (h : wr.heap[g]? = some o) : g < wr.heap.size := by
  rcases Nat.lt_or_ge g wr.heap.size with hlt | hge
  · exact hlt
  · rw [Array.getElem?_eq_none hge] at h; cases h
theorem Keep2.step {w0 W w' : World} {x y : Array Value} {t : TypeId} (k : Keep2 w0 x y t W) (b : Below W.heap.size W w') : Keep2 w0 x y t w' :=
  ⟨(b.block _ (lt_some k.a)).trans k.a, (b.block _ (lt_some k.b)).trans k.b, belowGo k.bel b⟩
theorem Keep2.drew {w0 W : World} {x y : Array Value} {t : TypeId} (k : Keep2 w0 x y t W) : Keep2 w0 x y t W.drew := ⟨k.a, k.b, k.bel.drew⟩
theorem Keep2.new (w : World) (x y : Array Value) (t : TypeId) : Keep2 w x y t ((w.alloc (.cells x t)).alloc (.cells y t)) :=
  ⟨heap_alloc2_old _ _ _, heap_alloc2_new _ _ _, ((Below.refl _ _).alloc (Nat.le_refl _) _).alloc (by simp) _⟩
theorem Keep2.all {w0 W : World} {a b c d e f g h : Value} {t : TypeId} (k : Keep2 w0 #[a, b, c, d] #[e, f, g, h] t W) :
    W.cell? ⟨w0.heap.size, 0, none⟩ = some a ∧ W.cell? ⟨w0.heap.size, 1, none⟩ = some b ∧ W.cell? ⟨w0.heap.size + 1, 0, none⟩ = some e ∧ W.cell? ⟨w0.heap.size + 1, 1, none⟩ = some f ∧ Keep2 w0 #[a, b, c, d] #[e, f, g, h] t W :=
  ⟨by rw [cell_of_row _ _ _ _ _ _ k.a]; rfl, by rw [cell_of_row _ _ _ _ _ _ k.a]; rfl, by rw [cell_of_row _ _ _ _ _ _ k.b]; rfl, by rw [cell_of_row _ _ _ _ _ _ k.b]; rfl, k⟩
theorem Keep2.alloc {w0 W : World} {x y : Array Value} {t : TypeId} (k : Keep2 w0 x y t W) (o : Obj) : Keep2 w0 x y t (W.alloc o) := k.step ((Below.refl _ _).alloc (Nat.le_refl _) _)

theorem still_tail {P : Program} {id : Nat} {Q : Exit → Act → World → Prop} {a : Act} {w : World} {l : List Oper} (n : Nat) (hm : P.follows .mixedOrders = true) (hB : Region.lexTailB .any l.toArray n = true)
    (h : wpStill P l.toArray w.drew (fun a' => wpList P l.toArray Q (l.drop n) a' w.drew) (l.take n) a) : (Code.region id l.toArray true).wp P Q a w := wp_region_still_tail n hm hB h
theorem bef_lt {a b : Rt} (h : Op.bytesLess a.c b.c = true) : bef a b = true := by simp [bef, h]
theorem bef_no {a b : Rt} (h : Op.bytesLess a.c b.c = false) (h2 : (a.c == b.c) = false) : bef a b = false := by simp [bef, h, h2]
theorem bef_day {a b : Rt} (h : Op.bytesLess a.c b.c = false) (h2 : (a.c == b.c) = true) : bef a b = decide (a.day < b.day) := by simp [bef, h, h2]
end Go.Proofs.Ytjcklmhgjdmjoab
