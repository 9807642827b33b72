/- TotalByKind of both sides. -/
import Derived.Test.YtjcklmhgjdmjoaaEvw
import Derived.Lib.Overlaps
import Derived.StillTailTactics
namespace Go.Proofs.Ytjcklmhgjdmjoaa
open Go.ChangeShapes Go.WideShapes Go.ChangeAt Go.RowKit
set_option linter.unusedVariables false

theorem totL_len (rs : List Evt) : (totL rs).length = 7 := rfl
theorem totL_at {rs : List Evt} {j : Int} (h0 : 0 ≤ j) (h6 : j ≤ 6) : (totL rs)[j.toNat]? = some (totE j rs) := by
  rcases (by omega : j = 0 ∨ j = 1 ∨ j = 2 ∨ j = 3 ∨ j = 4 ∨ j = 5 ∨ j = 6) with rfl | rfl | rfl | rfl | rfl | rfl | rfl <;> rfl
theorem totL_next {rs : List Evt} {k : Nat} {r : Evt} (h : rs[k]? = some r) (h0 : 0 ≤ r.k) (h6 : r.k ≤ 6) : totL (rs.take (k + 1)) = (totL (rs.take k)).set r.k.toNat (totE r.k (rs.take k) + r.a) := by
  rw [snoc_of h]
  rcases (by omega : r.k = 0 ∨ r.k = 1 ∨ r.k = 2 ∨ r.k = 3 ∨ r.k = 4 ∨ r.k = 5 ∨ r.k = 6) with e | e | e | e | e | e | e <;> simp [totL, totE_snoc, e]
theorem tot_bd {rs : List Evt} (h : logB rs = true) (k : Nat) (j : Int) : 0 ≤ totE j (rs.take k) ∧ totE j (rs.take k) ≤ 15000000000 := by
  have h1 := totE_bd (rs := rs.take k) j fun q hq => by
    obtain ⟨i, hi⟩ := List.getElem?_of_mem (List.mem_of_mem_take hq)
    exact log_ok h hi
  have h2 := (log_iff.1 h).2
  have h3 : (rs.take k).length ≤ rs.length := by rw [List.length_take]; omega
  omega
theorem still_tailE {P : Program} {id : Nat} {Q : Exit → Act → World → Prop} {a : Act} {w : World} {l : List Oper} (n : Nat) (hm : P.follows .mixedOrders = true) (hB : Region.lexTailB .any l.toArray n = true)
    (h : wpStill P l.toArray w.drew (fun a' => wpList P l.toArray Q (l.drop n) a' w.drew) (l.take n) a) : (Code.region id l.toArray true).wp P Q a w := wp_region_still_tail n hm hB h

end Go.Proofs.Ytjcklmhgjdmjoaa
