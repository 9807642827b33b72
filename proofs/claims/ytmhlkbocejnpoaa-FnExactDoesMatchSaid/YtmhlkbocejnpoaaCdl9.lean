/- The law of DoesMatch. (by laws9.py) -/
import Derived.Test.YtmhlkbocejnpoaaCld
import Derived.Deep.CutRange
import Derived.Test.YtmhlkbocejnpoaaAg7
import Derived.Test.YtmhlkbocejnpoaaEvtf
namespace Go.Proofs.Ytmhlkbocejnpoaa
open Go.ChangeShapes Go.WideShapes Go.ChangeAt Go.RowKit
set_option linter.unusedVariables false

/-- The law's own box of a struct that came in. -/
structure BoxCls (g : Nat) (p : Cls) (W : World) : Prop where
  a : W.heap[g]? = some (.cells #[.string ⟨p.c.toArray⟩, .int .i64 p.k, .int .i64 p.p, .int .i64 p.v, .int .i64 p.r, .int .i64 p.e, .string ⟨p.t.toArray⟩] 23 (0, 0))
theorem BoxCls.new (w : World) (p : Cls) : BoxCls w.heap.size p (w.alloc (.cells #[.string ⟨p.c.toArray⟩, .int .i64 p.k, .int .i64 p.p, .int .i64 p.v, .int .i64 p.r, .int .i64 p.e, .string ⟨p.t.toArray⟩] 23)) := ⟨heap_alloc_new _ _⟩
theorem BoxCls.lt {g : Nat} {p : Cls} {W : World} (h : BoxCls g p W) : g < W.heap.size := lt_some h.a
theorem BoxCls.below {g : Nat} {p : Cls} {W W' : World} (h : BoxCls g p W) (b : Below W.heap.size W W') : BoxCls g p W' := ⟨(b.block _ h.lt).trans h.a⟩
theorem BoxCls.drew {g : Nat} {p : Cls} {W : World} (h : BoxCls g p W) : BoxCls g p W.drew := ⟨h.a⟩
theorem BoxCls.belowB {g B : Nat} {p : Cls} {W W' : World} (h : BoxCls g p W) (hB : g < B) (b : Below B W W') : BoxCls g p W' := ⟨(b.block _ hB).trans h.a⟩
theorem BoxCls.cells {g : Nat} {p : Cls} {W : World} (h : BoxCls g p W) : ClsC W g 0 p :=
  ⟨by rw [cell_of_row _ _ _ _ _ _ h.a]; rfl, by rw [cell_of_row _ _ _ _ _ _ h.a]; rfl, by rw [cell_of_row _ _ _ _ _ _ h.a]; rfl, by rw [cell_of_row _ _ _ _ _ _ h.a]; rfl, by rw [cell_of_row _ _ _ _ _ _ h.a]; rfl, by rw [cell_of_row _ _ _ _ _ _ h.a]; rfl, by rw [cell_of_row _ _ _ _ _ _ h.a]; rfl⟩
/-- The law's own box of a struct that came in. -/
structure BoxEvt (g : Nat) (p : Evt) (W : World) : Prop where
  a : W.heap[g]? = some (.cells #[.int .i64 p.d, .int .i64 p.k, .string ⟨p.c.toArray⟩, .int .i64 p.a, .bool p.p, .bool p.v, .bool p.r] 37 (0, 0))
theorem BoxEvt.new (w : World) (p : Evt) : BoxEvt w.heap.size p (w.alloc (.cells #[.int .i64 p.d, .int .i64 p.k, .string ⟨p.c.toArray⟩, .int .i64 p.a, .bool p.p, .bool p.v, .bool p.r] 37)) := ⟨heap_alloc_new _ _⟩
theorem BoxEvt.lt {g : Nat} {p : Evt} {W : World} (h : BoxEvt g p W) : g < W.heap.size := lt_some h.a
theorem BoxEvt.below {g : Nat} {p : Evt} {W W' : World} (h : BoxEvt g p W) (b : Below W.heap.size W W') : BoxEvt g p W' := ⟨(b.block _ h.lt).trans h.a⟩
theorem BoxEvt.drew {g : Nat} {p : Evt} {W : World} (h : BoxEvt g p W) : BoxEvt g p W.drew := ⟨h.a⟩
theorem BoxEvt.belowB {g B : Nat} {p : Evt} {W W' : World} (h : BoxEvt g p W) (hB : g < B) (b : Below B W W') : BoxEvt g p W' := ⟨(b.block _ hB).trans h.a⟩
theorem BoxEvt.cells {g : Nat} {p : Evt} {W : World} (h : BoxEvt g p W) : EvtC W g 0 p :=
  ⟨by rw [cell_of_row _ _ _ _ _ _ h.a]; rfl, by rw [cell_of_row _ _ _ _ _ _ h.a]; rfl, by rw [cell_of_row _ _ _ _ _ _ h.a]; rfl, by rw [cell_of_row _ _ _ _ _ _ h.a]; rfl, by rw [cell_of_row _ _ _ _ _ _ h.a]; rfl, by rw [cell_of_row _ _ _ _ _ _ h.a]; rfl, by rw [cell_of_row _ _ _ _ _ _ h.a]; rfl⟩
set_option maxRecDepth 100000 in
set_option maxHeartbeats 2000000 in
theorem law_FnExactDoesMatch (p : Cls) (q : Evt) (w : World) (v : p.wf) (vq : q.wf) :
    Calls Try.prog 5 #[.agg #[.string ⟨p.c.toArray⟩, .int .i64 p.k, .int .i64 p.p, .int .i64 p.v, .int .i64 p.r, .int .i64 p.e, .string ⟨p.t.toArray⟩], .agg #[.int .i64 q.d, .int .i64 q.k, .string ⟨q.c.toArray⟩, .int .i64 q.a, .bool q.p, .bool q.v, .bool q.r]] w fun e w' => e = .returned (.bool true) ∧ Below w.heap.size w w' := by
  have bB : Below w.heap.size w ((w.alloc (.cells #[.string ⟨p.c.toArray⟩, .int .i64 p.k, .int .i64 p.p, .int .i64 p.v, .int .i64 p.r, .int .i64 p.e, .string ⟨p.t.toArray⟩] 23)).alloc (.cells #[.int .i64 q.d, .int .i64 q.k, .string ⟨q.c.toArray⟩, .int .i64 q.a, .bool q.p, .bool q.v, .bool q.r] 37)) := belowGo (below_alloc _ _) (below_alloc _ _)
  have X := (BoxCls.new w p).below (below_alloc _ (.cells #[.int .i64 q.d, .int .i64 q.k, .string ⟨q.c.toArray⟩, .int .i64 q.a, .bool q.p, .bool q.v, .bool q.r] 37))
  have Y := BoxEvt.new (w.alloc (.cells #[.string ⟨p.c.toArray⟩, .int .i64 p.k, .int .i64 p.p, .int .i64 p.v, .int .i64 p.r, .int .i64 p.e, .string ⟨p.t.toArray⟩] 23)) q
  have hsz1 : (w.alloc (.cells #[.string ⟨p.c.toArray⟩, .int .i64 p.k, .int .i64 p.p, .int .i64 p.v, .int .i64 p.r, .int .i64 p.e, .string ⟨p.t.toArray⟩] 23)).heap.size = w.heap.size + 1 := by simp
  rw [hsz1] at Y
  have HZ := Lib.hid (fun w => szClause_l p 1048576 w (by omega) (by omega) v)
  have HI := Lib.hid (fun (hp : p.sz ≤ 1048576) (hq : q.sz ≤ 1048576) w => dm_i p q w (by omega) (by omega))
  have HS := Lib.hid (fun (hp : p.sz ≤ 1048576) (hq : q.sz ≤ 1048576) w => dm_s p q w (by omega) (by omega))
  have c0 := X.cells.c0; have c1 := X.cells.c1; have c2 := X.cells.c2; have c3 := X.cells.c3; have c4 := X.cells.c4; have c5 := X.cells.c5; have c6 := X.cells.c6
  by_cases hneg : (1048576 : Int) - (p.sz : Int) < 0
  · rw [if_pos hneg] at HZ
    clear hneg
    go_enter Try.func5, Try.ntmps5
    go_wp2_with fail
    refine (HZ.out _).mono ?_
    rintro e w1 ⟨rfl, b1⟩
    go_wp2_with fail
    go_ret
    exact ⟨rfl, belowGo bB b1⟩
  rw [if_neg hneg] at HZ
  have hps : p.sz ≤ 1048576 := by omega
  obtain ⟨m, hm⟩ : ∃ m, m = (1048576 : Int) - (p.sz : Int) := ⟨_, rfl⟩
  rw [← hm] at HZ
  have hm0 : 0 ≤ m := by omega
  have HZ2 := Lib.hid (fun w => szEvent_l q m w (by omega) (by omega) vq)
  have hm1 : m ≤ 1048576 := by omega
  clear hneg hm
  go_enter Try.func5, Try.ntmps5
  go_wp2_with fail
  refine (HZ.out _).mono ?_
  rintro e w1 ⟨rfl, b1⟩
  replace X := X.below b1
  replace Y := Y.below b1
  have t1 := belowGo bB b1
  clear c0 c1 c2 c3 c4 c5 c6
  have d0 := Y.cells.c0; have d1 := Y.cells.c1; have d2 := Y.cells.c2; have d3 := Y.cells.c3; have d4 := Y.cells.c4; have d5 := Y.cells.c5; have d6 := Y.cells.c6
  by_cases hneg : m - (q.sz : Int) < 0
  · rw [if_pos hneg] at HZ2
    clear hneg
    go_wp2_with fail
    refine (HZ2.out _).mono ?_
    rintro e w2 ⟨rfl, b2⟩
    go_wp2_with fail
    go_ret
    exact ⟨rfl, belowGo t1 b2⟩
  rw [if_neg hneg] at HZ2
  have HI := Lib.hid (HI.out hps (by omega))
  have HS := Lib.hid (HS.out hps (by omega))
  obtain ⟨n, hn⟩ : ∃ n, n = m - (q.sz : Int) := ⟨_, rfl⟩
  rw [← hn] at HZ2
  have hn0 : 0 ≤ n := by omega
  have HTC := Lib.hid (fun w => toClause_l p w)
  have HTE := Lib.hid (fun w => toEvent_l q w)
  generalize dmR p q = r at *
  clear hneg hn hm1
  go_wp2_with fail
  refine (HZ2.out _).mono ?_
  rintro e w2 ⟨rfl, b2⟩
  replace X := X.below b2
  replace Y := Y.below b2
  have t2 := belowGo t1 b2
  clear d0 d1 d2 d3 d4 d5 d6 HZ HZ2 b1 b2
  go_wp2_with fail
  have a0 := fun z : Sub (Bel w2) => (X.below z.h).cells.c0
  have a1 := fun z : Sub (Bel w2) => (X.below z.h).cells.c1
  have a2 := fun z : Sub (Bel w2) => (X.below z.h).cells.c2
  have a3 := fun z : Sub (Bel w2) => (X.below z.h).cells.c3
  have a4 := fun z : Sub (Bel w2) => (X.below z.h).cells.c4
  have a5 := fun z : Sub (Bel w2) => (X.below z.h).cells.c5
  have a6 := fun z : Sub (Bel w2) => (X.below z.h).cells.c6
  have b0 := fun z : Sub (Bel w2) => (Y.below z.h).cells.c0
  have b1 := fun z : Sub (Bel w2) => (Y.below z.h).cells.c1
  have b2 := fun z : Sub (Bel w2) => (Y.below z.h).cells.c2
  have b3 := fun z : Sub (Bel w2) => (Y.below z.h).cells.c3
  have b4 := fun z : Sub (Bel w2) => (Y.below z.h).cells.c4
  have b5 := fun z : Sub (Bel w2) => (Y.below z.h).cells.c5
  have b6 := fun z : Sub (Bel w2) => (Y.below z.h).cells.c6
  have QC := Lib.hid (fun z : Sub (Bel w2) => (HTC.out z.w).mono fun e w' h => (⟨h.1, ⟨w', Bel.step z h.2⟩, rfl⟩ : e = .returned (.agg #[.string ⟨p.c.toArray⟩, .int .i64 p.k, .int .i64 p.p, .int .i64 p.v, .int .i64 p.r, .int .i64 p.e, .string ⟨p.t.toArray⟩]) ∧ ∃ z2 : Sub (Bel w2), w' = z2.w))
  have QE := Lib.hid (fun z : Sub (Bel w2) => (HTE.out z.w).mono fun e w' h => (⟨h.1, ⟨w', Bel.step z h.2⟩, rfl⟩ : e = .returned (.agg #[.int .i64 q.d, .int .i64 q.k, .string ⟨q.c.toArray⟩, .int .i64 q.a, .bool q.p, .bool q.v, .bool q.r]) ∧ ∃ z2 : Sub (Bel w2), w' = z2.w))
  have QM := Lib.hid (fun z : Sub (Bel w2) => (HS.out z.w).mono fun e w' h => (⟨h.1, ⟨w', Bel.step z h.2⟩, rfl⟩ : e = .returned (.tuple #[.bool r.1, .int .i64 r.2]) ∧ ∃ z2 : Sub (Bel w2), w' = z2.w))
  refine region_held (Bel w2) (by kernel_rfl) (by kernel_rfl) (Bel.drew w2) ?_
  repeat (go_big_quiet_step ((first | rfl | (go_at_call 11; exact QC.out _) | (go_at_call 20; exact QE.out _) | (go_at_call 19; exact QM.out _))))
  refine wpQuiet_nil ?_
  rintro _ ⟨y, rfl⟩
  clear QC QE QM a0 a1 a2 a3 a4 a5 a6 b0 b1 b2 b3 b4 b5 b6
  have X3 := X.below y.h
  have Y3 := Y.below y.h
  have t3 := belowGo t2 y.h
  go_wp2_with fail
  have a0 := fun z : Sub (Bel y.w) => (X3.below z.h).cells.c0
  have a1 := fun z : Sub (Bel y.w) => (X3.below z.h).cells.c1
  have a2 := fun z : Sub (Bel y.w) => (X3.below z.h).cells.c2
  have a3 := fun z : Sub (Bel y.w) => (X3.below z.h).cells.c3
  have a4 := fun z : Sub (Bel y.w) => (X3.below z.h).cells.c4
  have a5 := fun z : Sub (Bel y.w) => (X3.below z.h).cells.c5
  have a6 := fun z : Sub (Bel y.w) => (X3.below z.h).cells.c6
  have b0 := fun z : Sub (Bel y.w) => (Y3.below z.h).cells.c0
  have b1 := fun z : Sub (Bel y.w) => (Y3.below z.h).cells.c1
  have b2 := fun z : Sub (Bel y.w) => (Y3.below z.h).cells.c2
  have b3 := fun z : Sub (Bel y.w) => (Y3.below z.h).cells.c3
  have b4 := fun z : Sub (Bel y.w) => (Y3.below z.h).cells.c4
  have b5 := fun z : Sub (Bel y.w) => (Y3.below z.h).cells.c5
  have b6 := fun z : Sub (Bel y.w) => (Y3.below z.h).cells.c6
  have QC := Lib.hid (fun z : Sub (Bel y.w) => (HTC.out z.w).mono fun e w' h => (⟨h.1, ⟨w', Bel.step z h.2⟩, rfl⟩ : e = .returned (.agg #[.string ⟨p.c.toArray⟩, .int .i64 p.k, .int .i64 p.p, .int .i64 p.v, .int .i64 p.r, .int .i64 p.e, .string ⟨p.t.toArray⟩]) ∧ ∃ z2 : Sub (Bel y.w), w' = z2.w))
  have QE := Lib.hid (fun z : Sub (Bel y.w) => (HTE.out z.w).mono fun e w' h => (⟨h.1, ⟨w', Bel.step z h.2⟩, rfl⟩ : e = .returned (.agg #[.int .i64 q.d, .int .i64 q.k, .string ⟨q.c.toArray⟩, .int .i64 q.a, .bool q.p, .bool q.v, .bool q.r]) ∧ ∃ z2 : Sub (Bel y.w), w' = z2.w))
  have QM := Lib.hid (fun z : Sub (Bel y.w) => (HI.out z.w).mono fun e w' h => (⟨h.1, ⟨w', Bel.step z h.2⟩, rfl⟩ : e = .returned (.tuple #[.bool r.1, .int .i64 r.2]) ∧ ∃ z2 : Sub (Bel y.w), w' = z2.w))
  refine region_held (Bel y.w) (by kernel_rfl) (by kernel_rfl) (Bel.drew y.w) ?_
  repeat (go_big_quiet_step ((first | rfl | (go_at_call 11; exact QC.out _) | (go_at_call 20; exact QE.out _) | (go_at_call 21; exact QM.out _))))
  refine wpQuiet_nil ?_
  rintro _ ⟨y2, rfl⟩
  clear QC QE QM a0 a1 a2 a3 a4 a5 a6 b0 b1 b2 b3 b4 b5 b6
  have e0 : (r.1 != r.1) = false := by simp
  have e1 : (r.2 != r.2) = false := by simp
  have t4 := belowGo t3 y2.h
  go_wp2_with fail
  go_ret
  exact ⟨rfl, t4⟩
end Go.Proofs.Ytmhlkbocejnpoaa
