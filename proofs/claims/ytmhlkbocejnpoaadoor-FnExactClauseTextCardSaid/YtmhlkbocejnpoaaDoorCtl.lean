/- The law of ClauseText. (by gen_ctl.py) -/
import Derived.Test.YtmhlkbocejnpoaaDoorCts
import Derived.Test.YtmhlkbocejnpoaaDoorCti
import Derived.Deep.CutRange
import Derived.Test.YtmhlkbocejnpoaaDoorAg7c
namespace Go.Proofs.YtmhlkbocejnpoaaDoor
open Go.ChangeShapes Go.WideShapes Go.ChangeAt Go.RowKit
set_option linter.unusedVariables false

/-- The law's own box of a struct that came in. -/
structure BoxCls (g : Nat) (p : Cls) (W : World) : Prop where
  a : W.heap[g]? = some (.cells #[.string ⟨p.c.toArray⟩, .int .i64 p.k, .int .i64 p.p, .int .i64 p.v, .int .i64 p.r, .int .i64 p.e, .string ⟨p.t.toArray⟩] 33 (0, 0))
theorem BoxCls.new (w : World) (p : Cls) : BoxCls w.heap.size p (w.alloc (.cells #[.string ⟨p.c.toArray⟩, .int .i64 p.k, .int .i64 p.p, .int .i64 p.v, .int .i64 p.r, .int .i64 p.e, .string ⟨p.t.toArray⟩] 33)) := ⟨heap_alloc_new _ _⟩
theorem BoxCls.lt {g : Nat} {p : Cls} {W : World} (h : BoxCls g p W) : g < W.heap.size := lt_some h.a
theorem BoxCls.below {g : Nat} {p : Cls} {W W' : World} (h : BoxCls g p W) (b : Below W.heap.size W W') : BoxCls g p W' := ⟨(b.block _ h.lt).trans h.a⟩
theorem BoxCls.drew {g : Nat} {p : Cls} {W : World} (h : BoxCls g p W) : BoxCls g p W.drew := ⟨h.a⟩
theorem BoxCls.belowB {g B : Nat} {p : Cls} {W W' : World} (h : BoxCls g p W) (hB : g < B) (b : Below B W W') : BoxCls g p W' := ⟨(b.block _ hB).trans h.a⟩
theorem BoxCls.cells {g : Nat} {p : Cls} {W : World} (h : BoxCls g p W) : ClsC W g 0 p :=
  ⟨by rw [cell_of_row _ _ _ _ _ _ h.a]; rfl, by rw [cell_of_row _ _ _ _ _ _ h.a]; rfl, by rw [cell_of_row _ _ _ _ _ _ h.a]; rfl, by rw [cell_of_row _ _ _ _ _ _ h.a]; rfl, by rw [cell_of_row _ _ _ _ _ _ h.a]; rfl, by rw [cell_of_row _ _ _ _ _ _ h.a]; rfl, by rw [cell_of_row _ _ _ _ _ _ h.a]; rfl⟩
set_option maxRecDepth 100000 in
set_option maxHeartbeats 2000000 in
theorem law_FnExactClauseText (p : Cls) (w : World) (v : p.wf) (ht : Tab w) :
    Calls Tryd.prog 4 #[.agg #[.string ⟨p.c.toArray⟩, .int .i64 p.k, .int .i64 p.p, .int .i64 p.v, .int .i64 p.r, .int .i64 p.e, .string ⟨p.t.toArray⟩]] w fun e w' => e = .returned (.bool true) ∧ Below w.heap.size w w' := by
  have bB : Below w.heap.size w (w.alloc (.cells #[.string ⟨p.c.toArray⟩, .int .i64 p.k, .int .i64 p.p, .int .i64 p.v, .int .i64 p.r, .int .i64 p.e, .string ⟨p.t.toArray⟩] 33)) := (Below.refl _ _).alloc (Nat.le_refl _) _
  have X := BoxCls.new w p
  have HZ := Lib.hid (fun w => szClause_l p 1048576 w (by omega) (by omega) v)
  have c0 := X.cells.c0; have c1 := X.cells.c1; have c2 := X.cells.c2; have c3 := X.cells.c3; have c4 := X.cells.c4; have c5 := X.cells.c5; have c6 := X.cells.c6
  by_cases hneg : (1048576 : Int) - (p.sz : Int) < 0
  · rw [if_pos hneg] at HZ
    clear hneg
    go_enter Tryd.func4, Tryd.ntmps4
    go_wp2_with fail
    refine (HZ.out _).mono ?_
    rintro e w1 ⟨rfl, b1⟩
    go_wp2_with fail
    go_ret
    exact ⟨rfl, belowGo bB b1⟩
  · rw [if_neg hneg] at HZ
    have hs : p.sz ≤ 1048600 := by omega
    obtain ⟨m, hm⟩ : ∃ m, m = (1048576 : Int) - (p.sz : Int) := ⟨_, rfl⟩
    rw [← hm] at HZ
    have hm0 : 0 ≤ m := by omega
    have HI := Lib.hid (fun w ht => ctext_i p w hs ht)
    have HS := Lib.hid (fun w => ctext_s p w hs)
    generalize ctR p = r at *
    have e1 : (r.1 == r.1) = true := by simp
    have e2 : (r.2 != r.2) = false := by simp
    clear hneg hm
    go_enter Tryd.func4, Tryd.ntmps4
    go_wp2_with fail
    refine (HZ.out _).mono ?_
    rintro e w1 ⟨rfl, b1⟩
    replace X := X.below b1
    have t1 := belowGo bB b1
    clear c0 c1 c2 c3 c4 c5 c6
    have c0 := X.cells.c0; have c1 := X.cells.c1; have c2 := X.cells.c2; have c3 := X.cells.c3; have c4 := X.cells.c4; have c5 := X.cells.c5; have c6 := X.cells.c6
    go_wp2_with fail
    refine (toClause_l p _).mono ?_
    rintro e w2 ⟨rfl, b2⟩
    replace X := X.below b2
    have t2 := belowGo t1 b2
    clear c0 c1 c2 c3 c4 c5 c6
    go_wp2_with fail
    refine (HS.out _).mono ?_
    rintro e w3 ⟨rfl, b3⟩
    replace X := X.below b3
    have t3 := belowGo t2 b3
    have c0 := X.cells.c0; have c1 := X.cells.c1; have c2 := X.cells.c2; have c3 := X.cells.c3; have c4 := X.cells.c4; have c5 := X.cells.c5; have c6 := X.cells.c6
    go_wp2_with fail
    refine (toClause_l p _).mono ?_
    rintro e w4 ⟨rfl, b4⟩
    have t4 := belowGo t3 b4
    clear c0 c1 c2 c3 c4 c5 c6
    go_wp2_with fail
    refine (HI.out _ (ht.below t4)).mono ?_
    rintro e w5 ⟨rfl, b5⟩
    go_wp2_with fail
    go_ret
    exact ⟨rfl, belowGo t4 b5⟩
end Go.Proofs.YtmhlkbocejnpoaaDoor
