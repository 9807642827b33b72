/- The law of FirstMatch. (by laws9.py) -/
import Derived.Test.YtmhlkbocejnpoaaCld
import Derived.Deep.CutRange
import Derived.Test.YtmhlkbocejnpoaaAg7
import Derived.Test.YtmhlkbocejnpoaaEvtf
namespace Go.Proofs.Ytmhlkbocejnpoaa
open Go.ChangeShapes Go.WideShapes Go.ChangeAt Go.RowKit
set_option linter.unusedVariables false

theorem fm_il (A : Option Addr) (c : Nat) (ps : List Cls) (f : Int) (q : Evt) (w : World) (h : CTblC w A c ps) (hq : q.sz ≤ 1048576) : Calls Try.prog 25 #[.slice A ps.length c, .int .i64 f, .agg #[.int .i64 q.d, .int .i64 q.k, .string ⟨q.c.toArray⟩, .int .i64 q.a, .bool q.p, .bool q.v, .bool q.r]] w (Gives w (.tuple #[.int .i64 (fmR ps f q).1, .int .i64 (fmR ps f q).2])) := fm_i A c ps f q w h (by omega)
theorem fm_sl (A : Option Addr) (c : Nat) (ps : List Cls) (f : Int) (q : Evt) (w : World) (h : CTblC w A c ps) (hq : q.sz ≤ 1048576) : Calls Try.prog 24 #[.slice A ps.length c, .int .i64 f, .agg #[.int .i64 q.d, .int .i64 q.k, .string ⟨q.c.toArray⟩, .int .i64 q.a, .bool q.p, .bool q.v, .bool q.r]] w (Gives w (.tuple #[.int .i64 (fmR ps f q).1, .int .i64 (fmR ps f q).2])) := fm_s A c ps f q w h.tbl (by omega)
/-- The law's own box of a struct that came in. -/
structure BoxEvt (g : Nat) (p : Evt) (W : World) : Prop where
  a : W.heap[g]? = some (.cells #[.int .i64 p.d, .int .i64 p.k, .string ⟨p.c.toArray⟩, .int .i64 p.a, .bool p.p, .bool p.v, .bool p.r] 37 (0, 0))
theorem BoxEvt.new (w : World) (p : Evt) : BoxEvt w.heap.size p (w.alloc (.cells #[.int .i64 p.d, .int .i64 p.k, .string ⟨p.c.toArray⟩, .int .i64 p.a, .bool p.p, .bool p.v, .bool p.r] 37)) := ⟨heap_alloc_new _ _⟩
theorem BoxEvt.lt {g : Nat} {p : Evt} {W : World} (h : BoxEvt g p W) : g < W.heap.size := lt_some h.a
theorem BoxEvt.below {g : Nat} {p : Evt} {W W' : World} (h : BoxEvt g p W) (b : Below W.heap.size W W') : BoxEvt g p W' := ⟨(b.block _ h.lt).trans h.a⟩
theorem BoxEvt.drew {g : Nat} {p : Evt} {W : World} (h : BoxEvt g p W) : BoxEvt g p W.drew := ⟨h.a⟩
theorem BoxEvt.belowB {g B : Nat} {p : Evt} {W W' : World} (h : BoxEvt g p W) (hB : g < B) (b : Below B W W') : BoxEvt g p W' := ⟨(b.block _ hB).trans h.a⟩
theorem BoxEvt.cells {g : Nat} {p : Evt} {W : World} (h : BoxEvt g p W) : EvtC W g 0 p :=
  ⟨by rw [cell_of_row _ _ _ _ _ _ h.a]; rfl, by rw [cell_of_row _ _ _ _ _ _ h.a]; rfl, by rw [cell_of_row _ _ _ _ _ _ h.a]; rfl, by rw [cell_of_row _ _ _ _ _ _ h.a]; rfl, by rw [cell_of_row _ _ _ _ _ _ h.a]; rfl, by rw [cell_of_row _ _ _ _ _ _ h.a]; rfl, by rw [cell_of_row _ _ _ _ _ _ h.a]; rfl⟩
set_option maxRecDepth 100000 in
set_option maxHeartbeats 4000000 in
theorem law_FnExactFirstMatch (A : Option Addr) (c : Nat) (ps : List Cls) (n1 : Int) (p2 : Evt) (w : World) (hR : ClsR w A ps) (hm : ps.length ≤ maxLen) (hw : ∀ r ∈ ps, r.wf) (v1 : (Lit.int .i64 n1).wf = true) (v2 : p2.wf) :
    Calls Try.prog 7 #[.slice A ps.length c, .int .i64 n1, .agg #[.int .i64 p2.d, .int .i64 p2.k, .string ⟨p2.c.toArray⟩, .int .i64 p2.a, .bool p2.p, .bool p2.v, .bool p2.r]] w fun e w' => e = .returned (.bool true) ∧ Below w.heap.size w w' := by
  have bB : Below w.heap.size w (w.alloc (.cells #[.int .i64 p2.d, .int .i64 p2.k, .string ⟨p2.c.toArray⟩, .int .i64 p2.a, .bool p2.p, .bool p2.v, .bool p2.r] 37)) := (Below.refl _ _).alloc (Nat.le_refl _) _
  have hXl : w.heap.size < (w.alloc (.cells #[.int .i64 p2.d, .int .i64 p2.k, .string ⟨p2.c.toArray⟩, .int .i64 p2.a, .bool p2.p, .bool p2.v, .bool p2.r] 37)).heap.size := by simp
  have X := BoxEvt.new w p2
  have HZ := Lib.hid (fun w1 (b : Below w.heap.size w w1) => szClauseS_l A c ps 1048576 w1 (hR.below b) hw hm (by omega) (by omega))
  have HO := Lib.hid (@Cls.szT_ok ps)
  generalize Cls.szT ps 1048576 = m at *
  go_enter Try.func7, Try.ntmps7
  go_wp2_with fail
  refine (HZ.out _ bB).mono ?_
  rintro e w0 ⟨rfl, b0⟩
  replace X := X.below b0
  have hXl2 := Nat.lt_of_lt_of_le hXl b0.size
  replace b0 := belowGo bB b0
  by_cases hneg : m < 0
  · go_wp2_with fail
    go_ret
    exact ⟨rfl, b0⟩
  obtain ⟨hn, htx, hmm⟩ := HO.out (by omega)
  have hm0 : 0 ≤ m := by omega
  clear HO HZ hm hw hneg
  have HZ2 := Lib.hid (fun w => szEvent_l p2 m w (by omega) (by omega) v2)
  by_cases hneg2 : m - (p2.sz : Int) < 0
  · rw [if_pos hneg2] at HZ2
    clear hneg2
    have c0 := X.cells.c0; have c1 := X.cells.c1; have c2 := X.cells.c2; have c3 := X.cells.c3; have c4 := X.cells.c4; have c5 := X.cells.c5; have c6 := X.cells.c6
    go_wp2_with fail
    refine (HZ2.out _).mono ?_
    rintro e wz2 ⟨rfl, bz2⟩
    go_wp2_with fail
    go_ret
    exact ⟨rfl, belowGo b0 bz2⟩
  rw [if_neg hneg2] at HZ2
  have hps2 : p2.sz ≤ 1048576 := by omega
  obtain ⟨m2, hm2⟩ : ∃ m2, m2 = m - (p2.sz : Int) := ⟨_, rfl⟩
  rw [← hm2] at HZ2
  have hm02 : 0 ≤ m2 := by omega
  clear hneg2 hm2
  have c0 := X.cells.c0; have c1 := X.cells.c1; have c2 := X.cells.c2; have c3 := X.cells.c3; have c4 := X.cells.c4; have c5 := X.cells.c5; have c6 := X.cells.c6
  go_wp2_with fail
  refine (HZ2.out _).mono ?_
  rintro e wz2 ⟨rfl, bz2⟩
  clear c0 c1 c2 c3 c4 c5 c6
  replace X := X.below bz2
  have tz2 := belowGo b0 bz2
  have HI := Lib.hid (fun A d w (h : CTblC w A d ps) => fm_il A d ps n1 p2 w h hps2)
  have HS := Lib.hid (fun A d w (h : CTblC w A d ps) => fm_sl A d ps n1 p2 w h hps2)
  generalize fmR ps n1 p2 = r at *
  have hbw := Below.drew tz2
  have kd := X.drew
  have c0 := kd.cells.c0; have c1 := kd.cells.c1; have c2 := kd.cells.c2; have c3 := kd.cells.c3; have c4 := kd.cells.c4; have c5 := kd.cells.c5; have c6 := kd.cells.c6
  go_wp2_with fail
  go_cut [8, 9] from 23 to 31 (fun u v wx => u = .int .i64 r.1 ∧ v = .int .i64 r.2 ∧ BoxEvt w.heap.size p2 wx ∧ Below w.heap.size w wx)
  case first =>
    go_region_with (first
      | (go_at_call 15; refine (toClauseS_l A c ps _ (hR.below hbw) hn).mono ?_; rintro e wS ⟨AS, cS, rfl, oS, bS⟩; have hbw := belowGo hbw bS; have kd := kd.below bS; have c0 := kd.cells.c0; have c1 := kd.cells.c1; have c2 := kd.cells.c2; have c3 := kd.cells.c3; have c4 := kd.cells.c4; have c5 := kd.cells.c5; have c6 := kd.cells.c6)
      | (go_at_call 20; refine (toEvent_l p2 _).mono ?_; rintro e wT ⟨rfl, bT⟩; have hbw := belowGo hbw bT; have kd := kd.below bT; have c0 := kd.cells.c0; have c1 := kd.cells.c1; have c2 := kd.cells.c2; have c3 := kd.cells.c3; have c4 := kd.cells.c4; have c5 := kd.cells.c5; have c6 := kd.cells.c6)
      | (go_at_call 24; refine (HS.out AS cS _ (by first | exact ctblC_of oS htx hn | exact ctblC_of (oS.below bT) htx hn)).mono ?_; rintro e wA ⟨rfl, bA⟩))
    all_goals
      go_wp2_with fail
      go_meet
      exact ⟨rfl, rfl, kd.below bA, belowGo hbw bA⟩
  case rest =>
    obtain ⟨rfl, rfl, X, t3⟩ := hcut
    obtain ⟨w3, hw3⟩ : ∃ x, x = wc := ⟨_, rfl⟩
    subst hw3
    clear kd hbw c0 c1 c2 c3 c4 c5 c6
    go_wp2_with fail
    refine (toClauseS_l A c ps _ (hR.below t3) hn).mono ?_
    rintro e w4 ⟨B4, c4, rfl, o4, b4⟩
    replace X := X.below b4
    have t4 := belowGo t3 b4
    have c0 := X.cells.c0; have c1 := X.cells.c1; have c2 := X.cells.c2; have c3 := X.cells.c3; have c4 := X.cells.c4; have c5 := X.cells.c5; have c6 := X.cells.c6
    go_wp2_with fail
    refine (toEvent_l p2 _).mono ?_
    rintro e w5 ⟨rfl, b5⟩
    replace X := X.below b5
    have t5 := belowGo t4 b5
    clear c0 c1 c2 c3 c4 c5 c6
    go_wp2_with fail
    refine (HI.out B4 c4 _ (ctblC_of (o4.below b5) htx hn)).mono ?_
    rintro e w6 ⟨rfl, b6⟩
    replace X := X.below b6
    have t6 := belowGo t5 b6
    have e0 : (r.1 != r.1) = false := by simp
    have e1 : (r.2 != r.2) = false := by simp
    go_wp2_with fail
    refine (toClauseS_l A c ps _ (hR.below t6) hn).mono ?_
    rintro e w7 ⟨B7, c7, rfl, o7, b7⟩
    replace X := X.below b7
    have t7 := belowGo t6 b7
    go_wp2_with fail
    refine (eqClauseS_l B4 B7 _ _ c4 c7 ps _ (((o4.below b5).below b6).below b7).row o7.row rfl rfl (by omega)).mono ?_
    rintro e w8 ⟨rfl, b8⟩
    replace X := X.below b8
    go_wp2_with fail
    go_ret
    exact ⟨rfl, belowGo t7 b8⟩
end Go.Proofs.Ytmhlkbocejnpoaa
