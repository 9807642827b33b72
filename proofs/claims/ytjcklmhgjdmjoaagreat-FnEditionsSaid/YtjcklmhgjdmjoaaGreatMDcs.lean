import Derived.Test.YtjcklmhgjdmjoaaGreatMDcn
import Derived.Test.YtjcklmhgjdmjoaaGreatMRate
import Derived.Test.YtjcklmhgjdmjoaaGreatWlk
namespace Go.Proofs.YtjcklmhgjdmjoaaGreat
open Go.ChangeShapes Go.WideShapes Go.ChangeAt Go.RowKit
set_option linter.unusedVariables false
def NewDec (w : World) (x : Dcn) (e : Ending) (w' : World) : Prop :=
 ∃ A c, e = .returned (.agg #[.int .i64 x.y, .slice A x.cs.length c]) /\ Ost w' w.heap.size A x.cs.length c x.cs /\ Below w.heap.size w w'
theorem dbox_done {W : World} {k : Nat} {a b : Value} {t : TypeId} (h : W.heap[k]? = some (.cells #[a, b] t (0, 0))) (u v : Value) :
  ∃ W', ((W.setCell ⟨k, 0, none⟩ u).setCell ⟨k, 1, none⟩ v) = W' /\ W'.cell? ⟨k, 0, none⟩ = some u /\ W'.cell? ⟨k, 1, none⟩ = some v /\ (∀ M, M <= k -> Below M W W') /\
   ∀ (base : Nat) (A : Option Addr) (n c : Nat) (ws : List (List UInt8)), k < base -> Ost W base A n c ws -> Ost W' base A n c ws := by
 have h1 : (W.setCell ⟨k, 0, none⟩ u).heap[k]? = some (.cells #[u, b] t (0, 0)) := by simp [World.setCell, Array.getElem?_modify, h]
 have h2 : ((W.setCell ⟨k, 0, none⟩ u).setCell ⟨k, 1, none⟩ v).heap[k]? = some (.cells #[u, v] t (0, 0)) := by
  generalize W.setCell ⟨k, 0, none⟩ u = W1 at h1 ⊢
  simp [World.setCell, Array.getElem?_modify, h1]
 exact ⟨_, rfl, by rw [cell_of_row _ _ _ _ _ _ h2]; rfl, by rw [cell_of_row _ _ _ _ _ _ h2]; rfl, fun M hM => ((Below.refl M W).setCell hM _).setCell hM _, fun base A n c ws hk ho => ownsRow_setCell_below (ownsRow_setCell_below ho (a := ⟨k, 0, none⟩) hk _) (a := ⟨k, 1, none⟩) hk _⟩
end Go.Proofs.YtjcklmhgjdmjoaaGreat

namespace Go.Proofs.YtjcklmhgjdmjoaaGreat
open Go.ChangeShapes Go.WideShapes Go.ChangeAt Go.RowKit
set_option linter.unusedVariables false
set_option maxRecDepth 100000 in
set_option maxHeartbeats 8000000 in
theorem decide_i (A : Option Addr) (c : Nat) (ps : List Cls) (q : Evt) (w : World) (h : CTbl w A ps) (hrb : RB ps) (hc : ps.length <= c) :
  Calls Tryz.prog 34 #[.slice A ps.length c, .agg #[.int .i64 q.d, .int .i64 q.k, .string ⟨q.c.toArray⟩, .int .i64 q.a, .bool q.p, .bool q.v, .bool q.r]] w (NewDec w (decE ps q)) := by
 have hmf : ∀ (fn : Fn) (first cap : Array Value) (w : World), (Instr.makeFunc fn first cap).run Tryz.prog w = .ok (.func fn first cap) w := fun _ _ _ _ => rfl
 have h1 := hrb.lo
 have ke := KeepE.new w q
 obtain ⟨w0, hw0⟩ : ∃ x, w.alloc (.cells #[.int .i64 q.d, .int .i64 q.k, .string ⟨q.c.toArray⟩, .int .i64 q.a, .bool q.p, .bool q.v, .bool q.r] 30) = x := ⟨_, rfl⟩
 rw [hw0] at ke
 have hs0 : w0.heap.size = w.heap.size + 1 := by rw [<- hw0]; simp
 have rz := heap_alloc_new w0 (.cells #[.int .i64 0, .slice none 0 0] 67)
 have k1 := ke.step (below_alloc w0 (.cells #[.int .i64 0, .slice none 0 0] 67))
 obtain ⟨w1, hw1⟩ : ∃ x, w0.alloc (.cells #[.int .i64 0, .slice none 0 0] 67) = x := ⟨_, rfl⟩
 rw [hw1] at rz k1
 have hs1 : w1.heap.size = w.heap.size + 1 + 1 := by rw [<- hw1]; simp [hs0]
 have ry := heap_alloc_new w1 (.cells #[.int .i64 0, .slice none 0 0] 67)
 have b2 := below_alloc w1 (.cells #[.int .i64 0, .slice none 0 0] 67)
 have k2 := k1.step b2
 obtain ⟨w2, hw2⟩ : ∃ x, w1.alloc (.cells #[.int .i64 0, .slice none 0 0] 67) = x := ⟨_, rfl⟩
 rw [hw2] at ry b2 k2
 have hs2 : w2.heap.size = w.heap.size + 1 + 1 + 1 := by rw [<- hw2]; simp [hs1]
 rw [hs0] at rz
 rw [hs1] at ry
 have rz2 : w2.heap[w.heap.size + 1]? = _ := (b2.block _ (by omega)).trans rz
 have HW := Lib.hid (fun W (b : Below w2.heap.size w2 W) => walk_i A c ps q (w.heap.size + 1 + 1) w.heap.size W (by omega) (h.bdA h1) ((b.block _ (lt_some ry)).trans ry) (h.below (belowGo k2.bel b)) hrb hc)
 have HW2 := Lib.hid (show ((w.alloc (.cells #[.int .i64 q.d, .int .i64 q.k, .string ⟨q.c.toArray⟩, .int .i64 q.a, .bool q.p, .bool q.v, .bool q.r] 30)).alloc (.cells #[.int .i64 0, .slice none 0 0] 67)).alloc (.cells #[.int .i64 0, .slice none 0 0] 67) = w2 by rw [hw0, hw1, hw2])
 have c0 := k2.cells.c0; have c1 := k2.cells.c1; have c2 := k2.cells.c2; have c3 := k2.cells.c3; have c4 := k2.cells.c4; have c5 := k2.cells.c5; have c6 := k2.cells.c6
 have HB := Lib.hid k2.bel
 have HRZ := Lib.hid rz2
 have HS := Lib.hid hs2
 clear h hrb ke rz k1 ry b2 k2 rz2 hw0 hw1 hw2 hs0 hs1 hs2
 go_enter Tryz.func34, Tryz.ntmps34
 go_wp2_with fail
 rw [HW2.out]
 refine (HW.out _ (Below.refl _ _)).mono ?_
 rintro e w3 ⟨rfl, B, d, hbx, ho, ht⟩
 have z0 : w3.cell? ⟨w.heap.size + 1 + 1, 0, none⟩ = some (.int .i64 (resC ps q)) := by rw [cell_of_row _ _ _ _ _ _ hbx]; rfl
 have z1 : w3.cell? ⟨w.heap.size + 1 + 1, 1, none⟩ = some (.slice B (decL ps q).length d) := by rw [cell_of_row _ _ _ _ _ _ hbx]; rfl
 have ra : w3.heap[w.heap.size + 1]? = _ := (ht.block _ (by have := HS.out; omega) (by omega)).trans HRZ.out
 have y0 : w3.cell? ⟨w.heap.size + 1, 0, none⟩ = some (.int .i64 0) := by rw [cell_of_row _ _ _ _ _ _ ra]; rfl
 have y1 : w3.cell? ⟨w.heap.size + 1, 1, none⟩ = some (.slice none 0 0) := by rw [cell_of_row _ _ _ _ _ _ ra]; rfl
 have f0 := frozen_of_row w3 _ 0 _ _ ra
 have f1 := frozen_of_row w3 _ 1 _ _ ra
 have HD := Lib.hid (dbox_done ra (.int .i64 (resC ps q)) (.slice B (decL ps q).length d))
 have HO := Lib.hid ho
 have HT := Lib.hid ht
 clear ho ht hbx ra c0 c1 c2 c3 c4 c5 c6 HW
 go_wp2_with fail
 obtain ⟨W', hW, x0, x1, hbw, hoo⟩ := HD.out
 rw [hW]
 have hs := HS.out
 refine bodyPost_ret (v := .agg #[.int .i64 (resC ps q), .slice B (decL ps q).length d]) (by simp [results, Tryz.results34, go_sem, x0, x1]) rfl ⟨B, d, rfl, (hoo _ _ _ _ _ (by omega) HO.out).mono (by omega), ?_⟩
 have hb3 : Below w.heap.size w w3 := ⟨HT.out.os.trans HB.out.os, HT.out.tape.trans HB.out.tape, HT.out.output.trans HB.out.output, Nat.le_trans HB.out.size HT.out.size, fun k hk => (HT.out.block k (by omega) (by omega)).trans (HB.out.block k hk)⟩
 exact hb3.trans (hbw _ (by omega))
end Go.Proofs.YtjcklmhgjdmjoaaGreat

