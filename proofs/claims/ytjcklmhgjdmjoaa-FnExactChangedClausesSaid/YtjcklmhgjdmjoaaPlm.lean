/- FindInterest, TotalValue, CodesOf on both sides. -/
import Derived.Test.YtjcklmhgjdmjoaaMans
import Derived.Test.YtjcklmhgjdmjoaaSums
namespace Go.Proofs.Ytjcklmhgjdmjoaa
open Go.ChangeShapes Go.WideShapes Go.ChangeAt Go.RowKit
set_option linter.unusedVariables false

theorem made0i (w : World) (base : Nat) (e : TypeId) (size : Nat) (hb : base ≤ w.heap.size) : (w.alloc (Obj.cells #[] e)).ownsRow base e size (.slice (some ⟨w.heap.size, 0, none⟩) 0 0) 0 [] :=
  World.ownsRow_made w #[] 0 hb (by decide) (by simp)
theorem own_monoI {w : World} {base base' : Nat} {e : TypeId} {size n : Nat} {v : Value} {xs : List Value} (h : w.ownsRow base e size v n xs) (hb : base' ≤ base) : w.ownsRow base' e size v n xs := by
  refine ⟨h.1, h.2.imp id ?_⟩
  rintro ⟨g, cap, cur, h1, h2, h3⟩
  exact ⟨g, cap, cur, h1, by omega, h3⟩
/-! ### FindInterest -/
/-! ### TotalValue -/
def valsI (ps : List Ist) : List Int := ps.map Ist.v
theorem valsI_snoc (ps : List Ist) (p : Ist) : valsI (ps ++ [p]) = valsI ps ++ [p.v] := by simp [valsI]
theorem vals_amts {ps : List Ist} (h : ordToM ps ps.length = true) : amts (valsI ps) = true := by
  unfold amts valsI
  rw [List.all_eq_true]
  intro x hx
  obtain ⟨p, hp, rfl⟩ := List.mem_map.1 hx
  exact amt_iff.2 (iok ((ord_iffM.1 h).1 p hp)).2.2.2.1
theorem vals_at {ps : List Ist} {k : Nat} {p : Ist} (hp : ps[k]? = some p) : (valsI ps)[k]? = some p.v := by unfold valsI; rw [List.getElem?_map, hp]; rfl
theorem vals_bd {ps : List Ist} (h : ordToM ps ps.length = true) (k : Nat) : 0 ≤ isum (valsI (ps.take k)) ∧ isum (valsI (ps.take k)) ≤ 1000000000 * ps.length := by
  have e : valsI (ps.take k) = (valsI ps).take k := by unfold valsI; rw [List.map_take]
  rw [e]
  have ha := amts_take (vals_amts h) k
  have hb := isum_bd ha
  refine ⟨hb.1, Int.le_trans hb.2 ?_⟩
  have : ((valsI ps).take k).length ≤ ps.length := by rw [List.length_take]; unfold valsI; rw [List.length_map]; omega
  omega
/-! ### CodesOf -/
end Go.Proofs.Ytjcklmhgjdmjoaa
