import Derived.Test.YtjcklmhgjdmjoaaGreatMMan
import Derived.Test.YtjcklmhgjdmjoaaGreatMCopy
namespace Go.Proofs.YtjcklmhgjdmjoaaGreat
open Go.ChangeShapes Go.WideShapes Go.ChangeAt Go.RowKit
set_option linter.unusedVariables false
end Go.Proofs.YtjcklmhgjdmjoaaGreat

namespace Go.Proofs.YtjcklmhgjdmjoaaGreat
open Go.ChangeShapes Go.WideShapes Go.ChangeAt Go.RowKit
set_option linter.unusedVariables false
def InvC (ps : List Ist) (k n0 n1 n2 n3 : Nat) : Prop := n0 = cntK 0 (ps.take k) /\ n1 = cntK 1 (ps.take k) /\ n2 = cntK 2 (ps.take k) /\ n3 = cntK 3 (ps.take k)
theorem InvC.le {ps : List Ist} {k n0 n1 n2 n3 : Nat} (h : InvC ps k n0 n1 n2 n3) : n0 <= ps.length /\ n1 <= ps.length /\ n2 <= ps.length /\ n3 <= ps.length := by
 obtain ⟨h0, h1, h2, h3⟩ := h
 subst h0 h1 h2 h3
 have hl : (ps.take k).length <= ps.length := by rw [List.length_take]; omega
 exact ⟨Nat.le_trans (cntK_le _ _) hl, Nat.le_trans (cntK_le _ _) hl, Nat.le_trans (cntK_le _ _) hl, Nat.le_trans (cntK_le _ _) hl⟩
end Go.Proofs.YtjcklmhgjdmjoaaGreat

namespace Go.Proofs.YtjcklmhgjdmjoaaGreat
open Go.ChangeShapes Go.WideShapes Go.ChangeAt Go.RowKit
set_option linter.unusedVariables false
theorem made0i (w : World) (base : Nat) (e : TypeId) (size : Nat) (hb : base <= w.heap.size) : (w.alloc (Obj.cells #[] e)).ownsRow base e size (.slice (some ⟨w.heap.size, 0, none⟩) 0 0) 0 [] :=
 World.ownsRow_made w #[] 0 hb (by decide) (by simp)
theorem own_monoI {w : World} {base base' : Nat} {e : TypeId} {size n : Nat} {v : Value} {xs : List Value} (h : w.ownsRow base e size v n xs) (hb : base' <= base) : w.ownsRow base' e size v n xs := by
 refine ⟨h.1, h.2.imp id ?_⟩
 rintro ⟨g, cap, cur, h1, h2, h3⟩
 exact ⟨g, cap, cur, h1, by omega, h3⟩
end Go.Proofs.YtjcklmhgjdmjoaaGreat

