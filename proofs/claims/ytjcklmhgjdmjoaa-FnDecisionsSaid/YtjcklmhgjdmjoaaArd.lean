/- impl.areDays: all numbers of a list are numbers of dates. -/
import Derived.Test.YtjcklmhgjdmjoaaMCal
import Derived.Test.YtjcklmhgjdmjoaaMHeld
namespace Go.Proofs.Ytjcklmhgjdmjoaa
open Go.ChangeShapes Go.WideShapes Go.ChangeAt Go.RowKit
set_option linter.unusedVariables false

def daysB (ds : List Int) : Bool := ds.all fun d => inr d 0 36524
theorem daysB_no {ds : List Int} {k : Nat} {d : Int} (h : ds[k]? = some d) (hd : inr d 0 36524 = false) : daysB ds = false := by
  unfold daysB; rw [List.all_eq_false]; exact ⟨d, List.mem_of_getElem? h, by simp [hd]⟩
theorem daysB_snoc (ds : List Int) (d : Int) : daysB (ds ++ [d]) = (daysB ds && inr d 0 36524) := by simp [daysB]
theorem daysB_2 (a b : Int) : daysB [a, b] = (inr a 0 36524 && inr b 0 36524) := by simp [daysB]
theorem daysB_1 (a : Int) : daysB [a] = inr a 0 36524 := by simp [daysB]
theorem Ir.new1 (w : World) (d : Int) (t : TypeId) : Ir (w.alloc (.cells #[.int .i64 d] t)) (some ⟨w.heap.size, 0, none⟩) [d] := Rw.new w [.int .i64 d] t (0, 0)
theorem Ir.new2 (w : World) (d e : Int) (t : TypeId) : Ir (w.alloc (.cells #[.int .i64 d, .int .i64 e] t)) (some ⟨w.heap.size, 0, none⟩) [d, e] := Rw.new w [.int .i64 d, .int .i64 e] t (0, 0)
end Go.Proofs.Ytjcklmhgjdmjoaa
