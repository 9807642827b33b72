/- The law of AddEvent. (by laws8.py) -/
import Derived.Test.YtifioecofeojpaaEvj
import Derived.Deep.CutRange
import Derived.Test.YtifioecofeojpaaAg7
namespace Go.Proofs.Ytifioecofeojpaa
open Go.ChangeShapes Go.WideShapes Go.ChangeAt Go.RowKit
set_option linter.unusedVariables false

theorem addR_15 (ps : List Evt) (x : Evt) : (addR ps x).1.length ≤ 15 := by
  unfold addR
  split
  · rename_i h
    split
    · exact Nat.zero_le _
    · rename_i h2
      have := (log_iff.1 h.1).2
      show (addE ps x).length ≤ 15
      rw [addE_len]; omega
  · exact Nat.zero_le _
theorem adde_il (A : Option Addr) (c : Nat) (ps : List Evt) (x : Evt) (w : World) (h : ETblC w A c ps) (hx : x.sz ≤ 1048576) : Calls Try.prog 13 #[.slice A ps.length c, .agg #[.int .i64 x.d, .int .i64 x.k, .string ⟨x.c.toArray⟩, .int .i64 x.a, .bool x.p, .bool x.v, .bool x.r]] w (NewEvtsC w (addR ps x)) := adde_i A c ps x w h (by omega)
theorem adde_sl (A : Option Addr) (c : Nat) (ps : List Evt) (x : Evt) (w : World) (h : ETblC w A c ps) (hx : x.sz ≤ 1048576) : Calls Try.prog 14 #[.slice A ps.length c, .agg #[.int .i64 x.d, .int .i64 x.k, .string ⟨x.c.toArray⟩, .int .i64 x.a, .bool x.p, .bool x.v, .bool x.r]] w (NewEvtsC w (addR ps x)) := adde_s A c ps x w h (by omega)
/-- The law's own box of a struct that came in. -/
structure BoxEvt (g : Nat) (p : Evt) (W : World) : Prop where
  a : W.heap[g]? = some (.cells #[.int .i64 p.d, .int .i64 p.k, .string ⟨p.c.toArray⟩, .int .i64 p.a, .bool p.p, .bool p.v, .bool p.r] 50 (0, 0))
theorem BoxEvt.new (w : World) (p : Evt) : BoxEvt w.heap.size p (w.alloc (.cells #[.int .i64 p.d, .int .i64 p.k, .string ⟨p.c.toArray⟩, .int .i64 p.a, .bool p.p, .bool p.v, .bool p.r] 50)) := ⟨heap_alloc_new _ _⟩
theorem BoxEvt.lt {g : Nat} {p : Evt} {W : World} (h : BoxEvt g p W) : g < W.heap.size := lt_some h.a
theorem BoxEvt.below {g : Nat} {p : Evt} {W W' : World} (h : BoxEvt g p W) (b : Below W.heap.size W W') : BoxEvt g p W' := ⟨(b.block _ h.lt).trans h.a⟩
theorem BoxEvt.drew {g : Nat} {p : Evt} {W : World} (h : BoxEvt g p W) : BoxEvt g p W.drew := ⟨h.a⟩
theorem BoxEvt.belowB {g B : Nat} {p : Evt} {W W' : World} (h : BoxEvt g p W) (hB : g < B) (b : Below B W W') : BoxEvt g p W' := ⟨(b.block _ hB).trans h.a⟩
theorem BoxEvt.cells {g : Nat} {p : Evt} {W : World} (h : BoxEvt g p W) : EvtC W g 0 p :=
  ⟨by rw [cell_of_row _ _ _ _ _ _ h.a]; rfl, by rw [cell_of_row _ _ _ _ _ _ h.a]; rfl, by rw [cell_of_row _ _ _ _ _ _ h.a]; rfl, by rw [cell_of_row _ _ _ _ _ _ h.a]; rfl, by rw [cell_of_row _ _ _ _ _ _ h.a]; rfl, by rw [cell_of_row _ _ _ _ _ _ h.a]; rfl, by rw [cell_of_row _ _ _ _ _ _ h.a]; rfl⟩
set_option maxRecDepth 100000 in
set_option maxHeartbeats 4000000 in
theorem law_FnExactAddEvent (A : Option Addr) (c : Nat) (ps : List Evt) (p1 : Evt) (w : World) (hR : EvtR w A ps) (hm : ps.length ≤ maxLen) (hw : ∀ r ∈ ps, r.wf) (v1 : p1.wf) :
    Calls Try.prog 7 #[.slice A ps.length c, .agg #[.int .i64 p1.d, .int .i64 p1.k, .string ⟨p1.c.toArray⟩, .int .i64 p1.a, .bool p1.p, .bool p1.v, .bool p1.r]] w fun e w' => e = .returned (.bool true) ∧ Below w.heap.size w w' := by
  have bB : Below w.heap.size w (w.alloc (.cells #[.int .i64 p1.d, .int .i64 p1.k, .string ⟨p1.c.toArray⟩, .int .i64 p1.a, .bool p1.p, .bool p1.v, .bool p1.r] 50)) := (Below.refl _ _).alloc (Nat.le_refl _) _
  have hXl : w.heap.size < (w.alloc (.cells #[.int .i64 p1.d, .int .i64 p1.k, .string ⟨p1.c.toArray⟩, .int .i64 p1.a, .bool p1.p, .bool p1.v, .bool p1.r] 50)).heap.size := by simp
  have X := BoxEvt.new w p1
  have HZ := Lib.hid (fun w1 (b : Below w.heap.size w w1) => szEventS_l A c ps 1048576 w1 (hR.below b) hw hm (by omega) (by omega))
  have HO := Lib.hid (@Evt.szT_ok ps)
  generalize Evt.szT ps 1048576 = m at *
  go_enter Try.func7, Try.ntmps7
  go_wp2_with fail
  refine (HZ.out _ bB).mono ?_
  rintro e w0 ⟨rfl, b0⟩
  replace X := X.below b0
  have hXl2 := Nat.lt_of_lt_of_le hXl b0.size
  replace b0 := belowGo bB b0
  by_cases hneg : m < 0
  · go_wp2_with fail
    go_ret
    exact ⟨rfl, b0⟩
  obtain ⟨hn, htx, hmm⟩ := HO.out (by omega)
  have hm0 : 0 ≤ m := by omega
  clear HO HZ hm hw hneg
  have HZ1 := Lib.hid (fun w => szEvent_l p1 m w (by omega) (by omega) v1)
  by_cases hneg1 : m - (p1.sz : Int) < 0
  · rw [if_pos hneg1] at HZ1
    clear hneg1
    have c0 := X.cells.c0; have c1 := X.cells.c1; have c2 := X.cells.c2; have c3 := X.cells.c3; have c4 := X.cells.c4; have c5 := X.cells.c5; have c6 := X.cells.c6
    go_wp2_with fail
    refine (HZ1.out _).mono ?_
    rintro e wz1 ⟨rfl, bz1⟩
    go_wp2_with fail
    go_ret
    exact ⟨rfl, belowGo b0 bz1⟩
  rw [if_neg hneg1] at HZ1
  have hps1 : p1.sz ≤ 1048576 := by omega
  obtain ⟨m1, hm1⟩ : ∃ m2, m2 = m - (p1.sz : Int) := ⟨_, rfl⟩
  rw [← hm1] at HZ1
  have hm01 : 0 ≤ m1 := by omega
  clear hneg1 hm1
  have c0 := X.cells.c0; have c1 := X.cells.c1; have c2 := X.cells.c2; have c3 := X.cells.c3; have c4 := X.cells.c4; have c5 := X.cells.c5; have c6 := X.cells.c6
  go_wp2_with fail
  refine (HZ1.out _).mono ?_
  rintro e wz1 ⟨rfl, bz1⟩
  clear c0 c1 c2 c3 c4 c5 c6
  replace X := X.below bz1
  have tz1 := belowGo b0 bz1
  have HI := Lib.hid (fun A d w (h : ETblC w A d ps) => adde_il A d ps p1 w h hps1)
  have HS := Lib.hid (fun A d w (h : ETblC w A d ps) => adde_sl A d ps p1 w h hps1)
  have hrl := addR_15 ps p1
  generalize addR ps p1 = r at *
  have hbw := Below.drew tz1
  have kd := X.drew
  have c0 := kd.cells.c0; have c1 := kd.cells.c1; have c2 := kd.cells.c2; have c3 := kd.cells.c3; have c4 := kd.cells.c4; have c5 := kd.cells.c5; have c6 := kd.cells.c6
  go_wp2_with fail
  go_cut [6, 7] from 26 to 33 (fun u v wx => ∃ C q, u = .slice C r.1.length q ∧ v = .int .i64 r.2 ∧ EvtO wx w.heap.size C r.1.length q r.1 ∧ BoxEvt w.heap.size p1 wx ∧ Below w.heap.size w wx)
  case first =>
    go_region_with (first
      | (go_at_call 37; refine (toEventS_l A c ps _ (hR.below hbw) hn).mono ?_; rintro e wS ⟨AS, cS, rfl, oS, bS⟩; have hbw := belowGo hbw bS; have kd := kd.below bS; have c0 := kd.cells.c0; have c1 := kd.cells.c1; have c2 := kd.cells.c2; have c3 := kd.cells.c3; have c4 := kd.cells.c4; have c5 := kd.cells.c5; have c6 := kd.cells.c6)
      | (go_at_call 33; refine (toEvent_l p1 _).mono ?_; rintro e wT ⟨rfl, bT⟩; have hbw := belowGo hbw bT; have kd := kd.below bT; have c0 := kd.cells.c0; have c1 := kd.cells.c1; have c2 := kd.cells.c2; have c3 := kd.cells.c3; have c4 := kd.cells.c4; have c5 := kd.cells.c5; have c6 := kd.cells.c6)
      | (go_at_call 14; refine (HS.out AS cS _ (by first | exact etbl_of oS htx hn | exact etbl_of (oS.below bT) htx hn)).mono ?_; rintro e wA ⟨AA, cA, rfl, oA, bA⟩))
    all_goals
      go_wp2_with fail
      go_meet
      exact ⟨AA, cA, rfl, rfl, oA.mono hbw.size, kd.below bA, belowGo hbw bA⟩
  case rest =>
    obtain ⟨C2, d2, rfl, rfl, o3, X, t3⟩ := hcut
    obtain ⟨w3, hw3⟩ : ∃ x, x = wc := ⟨_, rfl⟩
    subst hw3
    clear kd hbw c0 c1 c2 c3 c4 c5 c6
    have bd2 := o3.bd
    have hX2 := X.lt
    have s2 := Nat.le_refl w3.heap.size
    go_wp2_with fail
    refine (toEventS_l A c ps _ (hR.below t3) hn).mono ?_
    rintro e w4 ⟨B4, c4, rfl, o4, b4⟩
    replace X := X.below b4
    have t4 := belowGo t3 b4
    have c0 := X.cells.c0; have c1 := X.cells.c1; have c2 := X.cells.c2; have c3 := X.cells.c3; have c4 := X.cells.c4; have c5 := X.cells.c5; have c6 := X.cells.c6
    go_wp2_with fail
    refine (toEvent_l p1 _).mono ?_
    rintro e w5 ⟨rfl, b5⟩
    replace X := X.below b5
    have t5 := belowGo t4 b5
    clear c0 c1 c2 c3 c4 c5 c6
    have bx := o4.bd
    have s23 : w3.heap.size ≤ w4.heap.size := b4.size
    go_wp2_with fail
    refine (HI.out B4 c4 _ (etbl_of (o4.below b5) htx hn)).mono ?_
    rintro e w6 ⟨G4, d4, rfl, o6, b6⟩
    replace X := X.below b6
    have t6 := belowGo t5 b6
    have s3b : w4.heap.size ≤ w5.heap.size := b5.size
    have i4 := (((o3.below b4).below b5).below b6)
    have x4 := ((o4.below b5).below b6)
    go_wp2_with fail
    refine (eqEventS_l G4 C2 _ _ d4 d2 r.1 _ o6.row i4.row rfl rfl (by omega)).mono ?_
    rintro e w7 ⟨rfl, b7⟩
    replace X := X.below b7
    have t7 := belowGo t6 b7
    go_wp2_with fail
    refine (toEventS_l A c ps _ (hR.below t7) hn).mono ?_
    rintro e w8 ⟨B8, c8, rfl, o8, b8⟩
    replace X := X.below b8
    have t8 := belowGo t7 b8
    go_wp2_with fail
    refine (eqEventS_l B4 B8 _ _ c4 c8 ps _ ((x4.below b7).below b8).row o8.row rfl rfl (by omega)).mono ?_
    rintro e w9 ⟨rfl, b9⟩
    replace X := X.below b9
    have t9 := belowGo t8 b9
    have x7 := (((x4.below b7).below b8).below b9)
    go_wp2_with fail
    refine (markEventS_l B4 _ c4 1 ps _ w9 x7 hn (by omega) (by omega)).mono ?_
    rintro e w10 ⟨rfl, o10, g8⟩
    have s37 : w4.heap.size ≤ w9.heap.size := Nat.le_trans b5.size (Nat.le_trans b6.size (Nat.le_trans b7.size (Nat.le_trans b8.size (b9.size))))
    have f8 : Below w3.heap.size w9 w10 := x7.far g8 (by omega) (by omega)
    replace X := X.belowB hX2 f8
    have t10 : Below w.heap.size w w10 := EvtO.wrote t9 x7 g8 (Nat.le_trans t3.size (by omega)) t9.size
    have g8' := (((o6.below b7).below b8).below b9).kept g8 (bx.mono s3b)
    have i8 := (((i4.below b7).below b8).below b9).row.keepB bd2 f8
    have hk : decide (((1 + 7 * ps.length : Nat) : Int) < 0) = false := by simp; omega
    clear o10 f8
    go_wp2_with fail
    refine (eqEventS_l G4 C2 _ _ d4 d2 r.1 _ g8'.row i8 rfl rfl (by omega)).mono ?_
    rintro e w11 ⟨rfl, b11⟩
    replace X := X.below b11
    have t11 := belowGo t10 b11
    have g9 := g8'.below b11
    have i9 := i8.below b11
    clear g8'
    have s9 : w4.heap.size ≤ w11.heap.size := Nat.le_trans s37 (Nat.le_trans g8.size b11.size)
    go_wp2_with fail
    refine (markEventS_l G4 _ d4 1 r.1 _ _ g9 (by omega) (by omega) (by omega)).mono ?_
    rintro e w12 ⟨rfl, o12, g10⟩
    have f10 : Below w3.heap.size w11 w12 := g9.far g10 (by omega) (by omega)
    replace X := X.belowB hX2 f10
    have t12 : Below w.heap.size w w12 := EvtO.wrote t11 g9 g10 (Nat.le_trans t3.size (by omega)) t11.size
    have i10 := i9.keepB bd2 f10
    clear f10 g9
    go_wp2_with fail
    refine (heldEventS_l G4 _ d4 1 _ o12.row (by omega) (by omega) (by omega)).mono ?_
    rintro e w13 ⟨rfl, b13⟩
    replace X := X.below b13
    have t13 := belowGo t12 b13
    have hk2 : decide (((1 + 7 * r.1.length : Nat) : Int) < 0) = false := by simp; omega
    have hk3 : (((1 + 7 * r.1.length : Nat) : Int) != ((1 + 7 * r.1.length : Nat) : Int)) = false := by simp
    have hbw := Below.drew t13
    have hbx := (Below.refl w13.heap.size w13).drew
    have kd := X.drew
    have c0 := kd.cells.c0; have c1 := kd.cells.c1; have c2 := kd.cells.c2; have c3 := kd.cells.c3; have c4 := kd.cells.c4; have c5 := kd.cells.c5; have c6 := kd.cells.c6
    go_wp2_with fail
    go_cut [14, 15] from 84 to 91 (fun u v wx => ∃ C q, u = .slice C r.1.length q ∧ v = .int .i64 r.2 ∧ EvtO wx w13.heap.size C r.1.length q r.1 ∧ Below w13.heap.size w13 wx)
    case first =>
      go_region_with (first
        | (go_at_call 37; refine (toEventS_l A c ps _ (hR.below hbw) hn).mono ?_; rintro e wS ⟨AS, cS, rfl, oS, bS⟩; have hbw := belowGo hbw bS; have hbx := belowGo hbx bS; have kd := kd.below bS; have c0 := kd.cells.c0; have c1 := kd.cells.c1; have c2 := kd.cells.c2; have c3 := kd.cells.c3; have c4 := kd.cells.c4; have c5 := kd.cells.c5; have c6 := kd.cells.c6)
        | (go_at_call 33; refine (toEvent_l p1 _).mono ?_; rintro e wT ⟨rfl, bT⟩; have hbw := belowGo hbw bT; have hbx := belowGo hbx bT; have kd := kd.below bT; have c0 := kd.cells.c0; have c1 := kd.cells.c1; have c2 := kd.cells.c2; have c3 := kd.cells.c3; have c4 := kd.cells.c4; have c5 := kd.cells.c5; have c6 := kd.cells.c6)
        | (go_at_call 13; refine (HI.out AS cS _ (by first | exact etbl_of oS htx hn | exact etbl_of (oS.below bT) htx hn)).mono ?_; rintro e wA ⟨AA, cA, rfl, oA, bA⟩))
      all_goals
        go_wp2_with fail
        go_meet
        exact ⟨AA, cA, rfl, rfl, oA.mono hbx.size, belowGo hbx bA⟩
    case rest =>
      obtain ⟨H12, d12, rfl, rfl, o16, b16⟩ := hcut
      have b14 := Below.refl w13.heap.size w13
      have b15 := Below.refl w13.heap.size w13
      have t16 := belowGo t13 b16
      clear kd hbw hbx c0 c1 c2 c3 c4 c5 c6
      go_wp2_with fail
      refine (eqEventS_l H12 C2 _ _ d12 d2 r.1 _ o16.row ((((i10.below b13).below b14).below b15).below b16) rfl rfl (by omega)).mono ?_
      rintro e w17 ⟨rfl, b17⟩
      have t17 := belowGo t16 b17
      go_wp2_with fail
      refine (heldEventS_l G4 _ d4 1 _ (((((o12.below b13).below b14).below b15).below b16).below b17).row (by omega) (by omega) (by omega)).mono ?_
      rintro e w18 ⟨rfl, b18⟩
      go_wp2_with fail
      go_ret
      exact ⟨rfl, belowGo t17 b18⟩
end Go.Proofs.Ytifioecofeojpaa
