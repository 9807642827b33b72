/- The law of DecideEvent. (by laws11d.py) (by laws10.py) -/
import Derived.Test.YtjcklmhgjdmjoaaDel
import Derived.Test.YtjcklmhgjdmjoaaDcnh
import Derived.Test.YtjcklmhgjdmjoaaEdw2
import Derived.Test.YtjcklmhgjdmjoaaMEvt
import Derived.Test.YtjcklmhgjdmjoaaMCls
import Derived.Test.YtjcklmhgjdmjoaaCld
import Derived.Test.YtjcklmhgjdmjoaaAg7
import Derived.Deep.CutRange
namespace Go.Proofs.Ytjcklmhgjdmjoaa
open Go.ChangeShapes Go.WideShapes Go.ChangeAt Go.RowKit
set_option linter.unusedVariables false

/-- The law's own box of an event that came in. -/
structure BoxEvt (g : Nat) (p : Evt) (W : World) : Prop where
  a : W.heap[g]? = some (.cells #[.int .i64 p.d, .int .i64 p.k, .string ⟨p.c.toArray⟩, .int .i64 p.a, .bool p.p, .bool p.v, .bool p.r] 72 (0, 0))
section
variable {g : Nat} {p : Evt} {W W' : World}
theorem BoxEvt.new (w : World) (p : Evt) : BoxEvt w.heap.size p (w.alloc (.cells #[.int .i64 p.d, .int .i64 p.k, .string ⟨p.c.toArray⟩, .int .i64 p.a, .bool p.p, .bool p.v, .bool p.r] 72)) := ⟨heap_alloc_new _ _⟩
theorem BoxEvt.lt (h : BoxEvt g p W) : g < W.heap.size := lt_some h.a
theorem BoxEvt.below (h : BoxEvt g p W) (b : Below W.heap.size W W') : BoxEvt g p W' := ⟨(b.block _ h.lt).trans h.a⟩
theorem BoxEvt.drew (h : BoxEvt g p W) : BoxEvt g p W.drew := ⟨h.a⟩
theorem BoxEvt.tou {lo hi : Nat} (h : BoxEvt g p W) (t : Tou lo hi W W') (hd : g < lo) : BoxEvt g p W' := ⟨(t.block _ h.lt (by omega)).trans h.a⟩
theorem BoxEvt.cells (h : BoxEvt g p W) : EvtC W g 0 p :=
  ⟨by rw [cell_of_row _ _ _ _ _ _ h.a]; rfl, by rw [cell_of_row _ _ _ _ _ _ h.a]; rfl, by rw [cell_of_row _ _ _ _ _ _ h.a]; rfl, by rw [cell_of_row _ _ _ _ _ _ h.a]; rfl, by rw [cell_of_row _ _ _ _ _ _ h.a]; rfl, by rw [cell_of_row _ _ _ _ _ _ h.a]; rfl, by rw [cell_of_row _ _ _ _ _ _ h.a]; rfl⟩
theorem BoxEvt.al (h : BoxEvt g p W) (o : Obj) : BoxEvt g p (W.alloc o) := h.below (below_alloc _ _)
end
theorem heap_alloc_newD (W : World) (o : Obj) : (W.drew.alloc o).heap[W.heap.size]? = some o := heap_alloc_new W.drew o
/-- A box of a decision, not yet written. -/
structure BoxZ (k : Nat) (W : World) : Prop where
  a : W.heap[k]? = some (.cells #[.int .i64 0, .slice none 0 0] 31 (0, 0))
section
variable {k : Nat} {W W' : World}
theorem BoxZ.new (W : World) : BoxZ W.heap.size (W.alloc (.cells #[.int .i64 0, .slice none 0 0] 31)) := ⟨heap_alloc_new _ _⟩
theorem BoxZ.newD (W : World) : BoxZ W.heap.size (W.drew.alloc (.cells #[.int .i64 0, .slice none 0 0] 31)) := ⟨heap_alloc_newD W _⟩
theorem BoxZ.below (h : BoxZ k W) (b : Below W.heap.size W W') : BoxZ k W' := ⟨(b.block _ (lt_some h.a)).trans h.a⟩
theorem BoxZ.c0 (h : BoxZ k W) : W.cell? ⟨k, 0, none⟩ = some (.int .i64 0) := by rw [cell_of_row _ _ _ _ _ _ h.a]; rfl
theorem BoxZ.c1 (h : BoxZ k W) : W.cell? ⟨k, 1, none⟩ = some (.slice none 0 0) := by rw [cell_of_row _ _ _ _ _ _ h.a]; rfl
theorem BoxZ.f0 (h : BoxZ k W) : W.frozen? ⟨k, 0, none⟩ = false := frozen_of_row W _ 0 _ _ h.a
theorem BoxZ.f1 (h : BoxZ k W) : W.frozen? ⟨k, 1, none⟩ = false := frozen_of_row W _ 1 _ _ h.a
end
/-- A decision in its box, the chain's row beside it, all within blocks lo..hi-1. -/
structure DcAt (lo hi k : Nat) (x : Dcn) (C : Option Addr) (d : Nat) (W : World) : Prop where
  box : W.heap[k]? = some (.cells #[.int .i64 x.y, .slice C x.cs.length d] 31 (0, 0))
  own : Own2 W lo hi 9 1 C x.cs.length d (x.cs.map encStr)
  rng : k < hi ∧ lo ≤ k
section
variable {lo hi k : Nat} {x : Dcn} {C : Option Addr} {d : Nat} {W W' : World}
theorem DcAt.below (h : DcAt lo hi k x C d W) (b : Below W.heap.size W W') : DcAt lo hi k x C d W' := ⟨(b.block _ (lt_some h.box)).trans h.box, h.own.below b, h.rng⟩
theorem DcAt.tou {lo' hi' : Nat} (h : DcAt lo hi k x C d W) (t : Tou lo' hi' W W') (hd : hi' ≤ lo ∨ hi ≤ lo') : DcAt lo hi k x C d W' := ⟨(t.block _ (lt_some h.box) (by have := h.rng; omega)).trans h.box, h.own.tou t hd, h.rng⟩
theorem DcAt.c0 (h : DcAt lo hi k x C d W) : W.cell? ⟨k, 0, none⟩ = some (.int .i64 x.y) := by rw [cell_of_row _ _ _ _ _ _ h.box]; rfl
theorem DcAt.c1 (h : DcAt lo hi k x C d W) : W.cell? ⟨k, 1, none⟩ = some (.slice C x.cs.length d) := by rw [cell_of_row _ _ _ _ _ _ h.box]; rfl
theorem DcAt.sr (h : DcAt lo hi k x C d W) : Sr W C x.cs := h.own.sr
/-- The box was made before: it is written. -/
theorem dcAt_set {w : World} {base : Nat} (kz : BoxZ k W) (ho : Ost W base C x.cs.length d x.cs) (hk : k < base) (hlo : lo ≤ k) (hb : Below lo w W) :
    ∃ W', ((W.setCell ⟨k, 0, none⟩ (.int .i64 x.y)).setCell ⟨k, 1, none⟩ (.slice C x.cs.length d)) = W' ∧ DcAt lo W'.heap.size k x C d W' ∧ Below lo w W' ∧ ∀ j, j ≠ k → W'.heap[j]? = W.heap[j]? := by
  have h1 : (W.setCell ⟨k, 0, none⟩ (.int .i64 x.y)).heap[k]? = some (.cells #[.int .i64 x.y, .slice none 0 0] 31 (0, 0)) := by simp [World.setCell, Array.getElem?_modify, kz.a]
  have h2 : ((W.setCell ⟨k, 0, none⟩ (.int .i64 x.y)).setCell ⟨k, 1, none⟩ (.slice C x.cs.length d)).heap[k]? = some (.cells #[.int .i64 x.y, .slice C x.cs.length d] 31 (0, 0)) := by
    generalize W.setCell ⟨k, 0, none⟩ (.int .i64 x.y) = W1 at h1 ⊢
    simp [World.setCell, Array.getElem?_modify, h1]
  have h3 := ownsRow_setCell_below (ownsRow_setCell_below ho (a := ⟨k, 0, none⟩) hk (.int .i64 x.y)) (a := ⟨k, 1, none⟩) hk (.slice C x.cs.length d)
  exact ⟨_, rfl, ⟨h2, Own2.of (Ost.mono h3 (by omega)), lt_some h2, hlo⟩, (hb.setCell hlo _).setCell hlo _, fun j hj => by rw [Below.heap_setCell _ _ _ _ (by simpa using hj), Below.heap_setCell _ _ _ _ (by simpa using hj)]⟩
/-- The box is made behind the call. -/
theorem dcAt_new {w : World} {base : Nat} (ho : Ost W base C x.cs.length d x.cs) (hlo : lo ≤ base) (hlw : lo ≤ W.heap.size) (hb : Below lo w W) :
    DcAt lo (W.alloc (.cells #[.int .i64 x.y, .slice C x.cs.length d] 31)).heap.size W.heap.size x C d (W.alloc (.cells #[.int .i64 x.y, .slice C x.cs.length d] 31)) ∧ Below lo w (W.alloc (.cells #[.int .i64 x.y, .slice C x.cs.length d] 31)) :=
  ⟨⟨heap_alloc_new _ _, Own2.of (Ost.mono (ho.below (below_alloc _ _)) hlo), by simp, hlw⟩, hb.alloc hlw _⟩
end
/-- A decision's box of the law. -/
structure BoxDc (k : Nat) (y : Int) (C : Option Addr) (n d : Nat) (W : World) : Prop where
  a : W.heap[k]? = some (.cells #[.int .i64 y, .slice C n d] 31 (0, 0))
theorem BoxDc.below {k : Nat} {y : Int} {C : Option Addr} {n d : Nat} {W W' : World} (h : BoxDc k y C n d W) (b : Below W.heap.size W W') : BoxDc k y C n d W' := ⟨(b.block _ (lt_some h.a)).trans h.a⟩
theorem BoxDc.c0 {k : Nat} {y : Int} {C : Option Addr} {n d : Nat} {W : World} (h : BoxDc k y C n d W) : W.cell? ⟨k, 0, none⟩ = some (.int .i64 y) := by rw [cell_of_row _ _ _ _ _ _ h.a]; rfl
theorem BoxDc.c1 {k : Nat} {y : Int} {C : Option Addr} {n d : Nat} {W : World} (h : BoxDc k y C n d W) : W.cell? ⟨k, 1, none⟩ = some (.slice C n d) := by rw [cell_of_row _ _ _ _ _ _ h.a]; rfl
theorem eqDecision_at (y : Int) (A B : Option Addr) (n m c d : Nat) (cs : List (List UInt8)) (w : World) (hx : Sr w A cs) (hy : Sr w B cs) (hn1 : cs.length = n) (hm1 : cs.length = m) (hn : n ≤ 1000000000) :
    Calls Try.prog 52 #[.agg #[.int .i64 y, .slice A n c], .agg #[.int .i64 y, .slice B m d]] w (Gives w (.bool true)) := eqDecision_same y A B n m c d cs w hx hy hn1 hm1 hn
theorem Cls.szT_ok2 {rs : List Cls} (h : ¬ Cls.szT rs 1048576 < 0) : rs.length ≤ 1048576 ∧ (∀ p ∈ rs, p.sz ≤ 1048576) ∧ Cls.szT rs 1048576 ≤ 1048576 := Cls.szT_ok h
theorem deR_len (ps : List Cls) (q : Evt) : (deR ps q).1.cs.length ≤ 13 := by
  by_cases h : rbB ps = true ∧ q.ok = true
  · rw [deR_ok h.1 h.2]; show (decL ps q).length ≤ 13; rw [decL_len]; exact (chainL_pos (rb_of h.1) q).2
  · unfold deR; rw [if_neg h]; exact Nat.zero_le _
set_option maxRecDepth 100000 in
set_option maxHeartbeats 4000000 in
theorem law_FnExactDecideEvent (A : Option Addr) (c : Nat) (ps : List Cls) (p : Evt) (w : World) (hR : ClsR w A ps) (hm : ps.length ≤ maxLen) (hw : ∀ r ∈ ps, r.wf) (v2 : p.wf) :
    Calls Try.prog 8 #[.slice A ps.length c, .agg #[.int .i64 p.d, .int .i64 p.k, .string ⟨p.c.toArray⟩, .int .i64 p.a, .bool p.p, .bool p.v, .bool p.r]] w fun e w' => e = .returned (.bool true) ∧ Below w.heap.size w w' := by
  have bB : Below w.heap.size w (w.alloc (.cells #[.int .i64 p.d, .int .i64 p.k, .string ⟨p.c.toArray⟩, .int .i64 p.a, .bool p.p, .bool p.v, .bool p.r] 72)) := (Below.refl _ _).alloc (Nat.le_refl _) _
  have X := BoxEvt.new w p
  have HZ := Lib.hid (fun w1 (b : Below w.heap.size w w1) => szClauseS_l A c ps 1048576 w1 (hR.below b) hw hm (by omega) (by omega))
  have HO := Lib.hid (@Cls.szT_ok ps)
  generalize Cls.szT ps 1048576 = m at *
  go_enter Try.func8, Try.ntmps8
  go_wp2_with fail
  refine (HZ.out _ bB).mono ?_
  rintro e w0 ⟨rfl, b0⟩
  replace X := X.below b0
  replace b0 := belowGo bB b0
  by_cases hneg : m < 0
  · go_wp2_with fail
    go_ret
    exact ⟨rfl, b0⟩
  obtain ⟨hn, htx, hmm⟩ := HO.out (by omega)
  have hm0 : 0 ≤ m := by omega
  clear HO HZ hm hw hneg bB
  have HZ2 := Lib.hid (fun w => szEvent_l p m w (by omega) (by omega) v2)
  have c0 := X.cells.c0
  have c1 := X.cells.c1
  have c2 := X.cells.c2
  have c3 := X.cells.c3
  have c4 := X.cells.c4
  have c5 := X.cells.c5
  have c6 := X.cells.c6
  by_cases hneg2 : m - (p.sz : Int) < 0
  · rw [if_pos hneg2] at HZ2
    clear hneg2
    go_wp2_with fail
    refine (HZ2.out _).mono ?_
    rintro e wz ⟨rfl, bz⟩
    go_wp2_with fail
    go_ret
    exact ⟨rfl, belowGo b0 bz⟩
  rw [if_neg hneg2] at HZ2
  have hps : p.sz ≤ 1048576 := by omega
  obtain ⟨m2, hm2⟩ : ∃ m2, m2 = m - (p.sz : Int) := ⟨_, rfl⟩
  rw [← hm2] at HZ2
  have hm02 : 0 ≤ m2 := by omega
  clear hneg2 hm2
  go_wp2_with fail
  refine (HZ2.out _).mono ?_
  rintro e w1 ⟨rfl, bz⟩
  clear c0 c1 c2 c3 c4 c5 c6
  replace X := X.below bz
  have t1 := belowGo b0 bz
  clear b0 bz HZ2
  have s1 := t1.size
  have hXl := X.lt
  have HI := Lib.hid (fun A d w (h : CTblC w A d ps) => de_i A d ps p w h (by omega))
  have HS := Lib.hid (fun A d w (h : CTbl w A ps) => de_s A d ps p w h (by omega))
  have hr13 := deR_len ps p
  generalize deR ps p = r at *
  have hbw := Below.drew t1
  have hbx := (Below.refl w1.heap.size w1).drew
  have kd := X.drew
  have c0 := kd.cells.c0
  have c1 := kd.cells.c1
  have c2 := kd.cells.c2
  have c3 := kd.cells.c3
  have c4 := kd.cells.c4
  have c5 := kd.cells.c5
  have c6 := kd.cells.c6
  have a0 := fun o => (kd.al o).cells.c0
  have a1 := fun o => (kd.al o).cells.c1
  have a2 := fun o => (kd.al o).cells.c2
  have a3 := fun o => (kd.al o).cells.c3
  have a4 := fun o => (kd.al o).cells.c4
  have a5 := fun o => (kd.al o).cells.c5
  have a6 := fun o => (kd.al o).cells.c6
  have ax0 := fun o => (X.al o).cells.c0
  have ax1 := fun o => (X.al o).cells.c1
  have ax2 := fun o => (X.al o).cells.c2
  have ax3 := fun o => (X.al o).cells.c3
  have ax4 := fun o => (X.al o).cells.c4
  have ax5 := fun o => (X.al o).cells.c5
  have ax6 := fun o => (X.al o).cells.c6
  go_wp2_with fail
  go_cut [6, 7] from 26 to 33 (fun u v wx => ∃ k C d, u = .pointer (some ⟨k, 0, none⟩) ∧ v = .int .i64 r.2 ∧ DcAt w1.heap.size wx.heap.size k r.1 C d wx ∧ BoxEvt w.heap.size p wx ∧ Below w1.heap.size w1 wx)
  case first =>
    go_region_with (first
      | (go_at_call 36; refine (toClauseS_l A c ps _ (hR.below (by first | exact hbw | exact belowGo hbw (below_alloc _ _))) hn).mono ?_; rintro e wS ⟨AS, cS, rfl, oS, bS⟩; have hqwS := hbx.size; have hbw := (by first | exact belowGo hbw bS | exact belowGo (belowGo hbw (below_alloc _ _)) bS : Below w.heap.size w wS); have hbx := (by first | exact belowGo hbx bS | exact belowGo (belowGo hbx (below_alloc _ _)) bS : Below w1.heap.size w1 wS); have kd := (by first | exact kd.below bS | exact (kd.al _).below bS : BoxEvt w.heap.size p wS); have c0 := kd.cells.c0; have c1 := kd.cells.c1; have c2 := kd.cells.c2; have c3 := kd.cells.c3; have c4 := kd.cells.c4; have c5 := kd.cells.c5; have c6 := kd.cells.c6; have a0 := fun o => (kd.al o).cells.c0; have a1 := fun o => (kd.al o).cells.c1; have a2 := fun o => (kd.al o).cells.c2; have a3 := fun o => (kd.al o).cells.c3; have a4 := fun o => (kd.al o).cells.c4; have a5 := fun o => (kd.al o).cells.c5; have a6 := fun o => (kd.al o).cells.c6; (first | (have kz := (BoxZ.newD _).below bS) | (have kz := (BoxZ.new _).below bS) | (have kz := kz.below bS) | skip); (try (have hklwS := lt_some kz.a)); (try (have z0 := kz.c0; have z1 := kz.c1; have zf0 := kz.f0; have zf1 := kz.f1)))
      | (go_at_call 51; refine (toEvent_l p _).mono ?_; rintro e wT ⟨rfl, bT⟩; have oS := (by first | exact oS.below bT | exact (oS.below (below_alloc _ _)).below bT : ClsO wT _ AS ps.length cS ps); have hqwT := hbx.size; have hbw := (by first | exact belowGo hbw bT | exact belowGo (belowGo hbw (below_alloc _ _)) bT : Below w.heap.size w wT); have hbx := (by first | exact belowGo hbx bT | exact belowGo (belowGo hbx (below_alloc _ _)) bT : Below w1.heap.size w1 wT); have kd := (by first | exact kd.below bT | exact (kd.al _).below bT : BoxEvt w.heap.size p wT); have c0 := kd.cells.c0; have c1 := kd.cells.c1; have c2 := kd.cells.c2; have c3 := kd.cells.c3; have c4 := kd.cells.c4; have c5 := kd.cells.c5; have c6 := kd.cells.c6; have a0 := fun o => (kd.al o).cells.c0; have a1 := fun o => (kd.al o).cells.c1; have a2 := fun o => (kd.al o).cells.c2; have a3 := fun o => (kd.al o).cells.c3; have a4 := fun o => (kd.al o).cells.c4; have a5 := fun o => (kd.al o).cells.c5; have a6 := fun o => (kd.al o).cells.c6; (first | (have kz := (BoxZ.newD _).below bT) | (have kz := (BoxZ.new _).below bT) | (have kz := kz.below bT) | skip); (try (have hklwT := lt_some kz.a)); (try (have z0 := kz.c0; have z1 := kz.c1; have zf0 := kz.f0; have zf1 := kz.f1)))
      | (go_at_call 16; refine (HS.out AS cS _ (by first | exact ctbl_of oS htx hn | exact ctbl_of (oS.below (below_alloc _ _)) htx hn)).mono ?_; rintro e wA ⟨C, dC, rfl, oA, bA⟩; have szA := bA.size; have hqwA := hbx.size; have hbw := (by first | exact belowGo hbw bA | exact belowGo (belowGo hbw (below_alloc _ _)) bA : Below w.heap.size w wA); have hbx := (by first | exact belowGo hbx bA | exact belowGo (belowGo hbx (below_alloc _ _)) bA : Below w1.heap.size w1 wA); have kd := (by first | exact kd.below bA | exact (kd.al _).below bA : BoxEvt w.heap.size p wA); have c0 := kd.cells.c0; have c1 := kd.cells.c1; have c2 := kd.cells.c2; have c3 := kd.cells.c3; have c4 := kd.cells.c4; have c5 := kd.cells.c5; have c6 := kd.cells.c6; have a0 := fun o => (kd.al o).cells.c0; have a1 := fun o => (kd.al o).cells.c1; have a2 := fun o => (kd.al o).cells.c2; have a3 := fun o => (kd.al o).cells.c3; have a4 := fun o => (kd.al o).cells.c4; have a5 := fun o => (kd.al o).cells.c5; have a6 := fun o => (kd.al o).cells.c6; (first | (have kz := (BoxZ.newD _).below bA) | (have kz := (BoxZ.new _).below bA) | (have kz := kz.below bA) | skip); (try (have hklwA := lt_some kz.a)); (try (have z0 := kz.c0; have z1 := kz.c1; have zf0 := kz.f0; have zf1 := kz.f1))))
    all_goals
      go_wp2_with fail
      first
        | (obtain ⟨hD, hB⟩ := dcAt_new (lo := w1.heap.size) oA (by (try simp only [World.size_alloc]); omega) hbx.size hbx
           go_meet
           exact ⟨_, C, dC, rfl, rfl, hD, kd.al _, hB⟩)
        | (obtain ⟨W', hW, hD, hB, hO⟩ := dcAt_set kz oA (by (try simp only [World.size_alloc]); omega) (by omega) hbx
           rw [hW]
           go_meet
           exact ⟨_, C, dC, rfl, rfl, hD, ⟨(hO _ (by omega)).trans kd.a⟩, hB⟩)
  case rest =>
    obtain ⟨k2, C2, d2, rfl, rfl, D2, X2, b2⟩ := hcut
    obtain ⟨w2, hw2⟩ : ∃ x, x = wc := ⟨_, rfl⟩
    subst hw2
    clear kd hbw hbx c0 c1 c2 c3 c4 c5 c6 a0 a1 a2 a3 a4 a5 a6 ax0 ax1 ax2 ax3 ax4 ax5 ax6 X
    have X := X2
    clear X2
    have t2 := belowGo t1 b2
    have s2 := b2.size
    clear b2
    go_wp2_with fail
    refine (toClauseS_l A c ps _ (hR.below t2) hn).mono ?_
    rintro e w3 ⟨B3, c3, rfl, o3, b3⟩
    have t3 := belowGo t2 b3
    have s3 := b3.size
    replace X := X.below b3
    replace D2 := D2.below b3
    clear b3
    replace o3 := Own2.of (lo := w2.heap.size) (e := 54) (size := 7) (xs := ps.flatMap Cls.cells) o3
    have c0 := X.cells.c0
    have c1 := X.cells.c1
    have c2 := X.cells.c2
    have c3 := X.cells.c3
    have c4 := X.cells.c4
    have c5 := X.cells.c5
    have c6 := X.cells.c6
    go_wp2_with fail
    refine (toEvent_l p _).mono ?_
    rintro e w4 ⟨rfl, b4⟩
    have t4 := belowGo t3 b4
    have s4 := b4.size
    replace X := X.below b4
    replace D2 := D2.below b4
    replace o3 := o3.below b4
    clear b4
    clear c0 c1 c2 c3 c4 c5 c6
    go_wp2_with fail
    refine (HI.out B3 c3 _ (ctblC_of (show ClsO _ _ _ _ _ ps from o3.1) htx hn)).mono ?_
    rintro e w5 ⟨C5, d5, rfl, q5, b5⟩
    have t5 := belowGo t4 b5
    have s5 := b5.size
    replace X := X.below b5
    replace D2 := D2.below b5
    replace o3 := o3.below b5
    clear b5
    obtain ⟨D5, bN⟩ := dcAt_new (x := r.1) (lo := w4.heap.size) q5 (Nat.le_refl _) s5 (Below.refl w4.heap.size w5)
    have hk5 : Hid (∀ y, (Value.slice C5 r.1.cs.length d5).ownBlock = some y → y < w5.heap.size) := Lib.hid (fun y e => (q5.lt y e).2)
    have bM := below_alloc w5 (.cells #[.int .i64 r.1.y, .slice C5 r.1.cs.length d5] 31)
    obtain ⟨w6, hw6⟩ : ∃ x, w5.alloc (.cells #[.int .i64 r.1.y, .slice C5 r.1.cs.length d5] 31) = x := ⟨_, rfl⟩
    rw [hw6] at D5 bM
    have t6 := belowGo t5 bM
    have s6 := bM.size
    replace X := X.below bM
    replace D2 := D2.below bM
    replace o3 := o3.below bM
    clear bM bN q5
    have e1 : (r.2 != r.2) = false := by simp
    have y0 := D5.c0; have y1 := D5.c1; have z0 := D2.c0; have z1 := D2.c1
    go_wp2_with fail
    try rw [hw6]
    go_wp2_with fail
    refine (eqDecision_at r.1.y C5 C2 _ _ d5 d2 r.1.cs _ D5.sr D2.sr rfl rfl (by omega)).mono ?_
    rintro e w7 ⟨rfl, b7⟩
    have t7 := belowGo t6 b7
    have s7 := b7.size
    replace X := X.below b7
    replace D2 := D2.below b7
    replace o3 := o3.below b7
    replace D5 := D5.below b7
    clear b7
    clear y0 y1 z0 z1
    go_wp2_with fail
    refine (toClauseS_l A c ps _ (hR.below t7) hn).mono ?_
    rintro e w8 ⟨B8, c8, rfl, o8, b8⟩
    have t8 := belowGo t7 b8
    have s8 := b8.size
    replace X := X.below b8
    replace D2 := D2.below b8
    replace o3 := o3.below b8
    replace D5 := D5.below b8
    clear b8
    replace o8 := Own2.of (lo := w7.heap.size) (e := 54) (size := 7) (xs := ps.flatMap Cls.cells) o8
    go_wp2_with fail
    refine (eqClauseS_l B3 B8 _ _ c3 c8 ps _ o3.cl o8.cl rfl rfl (by omega)).mono ?_
    rintro e w9 ⟨rfl, b9⟩
    have t9 := belowGo t8 b9
    have s9 := b9.size
    replace X := X.below b9
    replace D2 := D2.below b9
    replace o3 := o3.below b9
    replace D5 := D5.below b9
    replace o8 := o8.below b9
    clear b9
    clear o8
    go_wp2_with fail
    refine (markClauseS_l B3 _ c3 1 ps _ _ o3.1 (by omega) (by omega) (by omega)).mono ?_
    rintro e w10 ⟨rfl, n10, g10⟩
    have T10 := o3.wrote g10
    replace X := X.tou T10 (by omega)
    replace D2 := D2.tou T10 (by omega)
    replace D5 := D5.tou T10 (by omega)
    have t10 : Below w.heap.size w w10 := Tou.far t9 T10 (by have := t1.size; omega) t9.size
    have s10 := T10.size
    clear o3 n10
    have hk : decide (((1 + 7 * ps.length : Nat) : Int) < 0) = false := by simp; omega
    have y0 := D5.c0; have y1 := D5.c1; have z0 := D2.c0; have z1 := D2.c1
    go_wp2_with fail
    refine (eqDecision_at r.1.y C5 C2 _ _ d5 d2 r.1.cs _ D5.sr D2.sr rfl rfl (by omega)).mono ?_
    rintro e w11 ⟨rfl, b11⟩
    have t11 := belowGo t10 b11
    have s11 := b11.size
    replace X := X.below b11
    replace D2 := D2.below b11
    replace D5 := D5.below b11
    clear b11
    clear y0 y1 z0 z1
    clear hk
    have y0 := D5.c0; have y1 := D5.c1
    go_wp2_with fail
    refine (markDecision_l r.1.y C5 _ d5 1 r.1.cs _ _ D5.own.1 (by omega) (by omega) (by omega)).mono ?_
    rintro e w12 ⟨rfl, n12, g12⟩
    clear y0 y1
    have T12 : Tou w4.heap.size w5.heap.size w11 w12 := Tou.of_grown g12 (fun q hq => ⟨(D5.own.1.lt q hq).1, hk5.out q hq⟩)
    have bx12 : w12.heap[w5.heap.size]? = _ := (T12.block _ (lt_some D5.box) (by omega)).trans D5.box
    have y0 : w12.cell? ⟨w5.heap.size, 0, none⟩ = some (.int .i64 r.1.y) := by rw [cell_of_row _ _ _ _ _ _ bx12]; rfl
    have y1 : w12.cell? ⟨w5.heap.size, 1, none⟩ = some (.slice C5 r.1.cs.length d5) := by rw [cell_of_row _ _ _ _ _ _ bx12]; rfl
    replace X := X.tou T12 (by omega)
    replace D2 := D2.tou T12 (by omega)
    have t12 : Below w.heap.size w w12 := Tou.far t11 T12 (by have := t1.size; omega) t11.size
    have s12 := T12.size
    have m12 : Own2 w12 w4.heap.size w5.heap.size 9 1 C5 r.1.cs.length d5 ((marksS 1 r.1.cs.length).map encStr) := ⟨n12, hk5.out⟩
    clear D5 n12
    have hk2 : decide (((1 + r.1.cs.length : Nat) : Int) < 0) = false := by simp; omega
    have hk3 : (((1 + r.1.cs.length : Nat) : Int) != ((1 + r.1.cs.length : Nat) : Int)) = false := by simp
    have G : BoxDc w5.heap.size r.1.y C5 r.1.cs.length d5 w12 := ⟨bx12⟩
    clear bx12
    go_wp2_with fail
    refine (heldDecision_l r.1.y C5 _ d5 1 _ m12.sr (by omega) (by omega) (by omega)).mono ?_
    rintro e w13 ⟨rfl, b13⟩
    have t13 := belowGo t12 b13
    have s13 := b13.size
    replace X := X.below b13
    replace D2 := D2.below b13
    replace m12 := m12.below b13
    replace G := G.below b13
    clear b13
    clear y0 y1
    have hbw := Below.drew t13
    have hbx := (Below.refl w13.heap.size w13).drew
    have kd := X.drew
    have c0 := kd.cells.c0
    have c1 := kd.cells.c1
    have c2 := kd.cells.c2
    have c3 := kd.cells.c3
    have c4 := kd.cells.c4
    have c5 := kd.cells.c5
    have c6 := kd.cells.c6
    have a0 := fun o => (kd.al o).cells.c0
    have a1 := fun o => (kd.al o).cells.c1
    have a2 := fun o => (kd.al o).cells.c2
    have a3 := fun o => (kd.al o).cells.c3
    have a4 := fun o => (kd.al o).cells.c4
    have a5 := fun o => (kd.al o).cells.c5
    have a6 := fun o => (kd.al o).cells.c6
    have ax0 := fun o => (X.al o).cells.c0
    have ax1 := fun o => (X.al o).cells.c1
    have ax2 := fun o => (X.al o).cells.c2
    have ax3 := fun o => (X.al o).cells.c3
    have ax4 := fun o => (X.al o).cells.c4
    have ax5 := fun o => (X.al o).cells.c5
    have ax6 := fun o => (X.al o).cells.c6
    go_wp2_with fail
    go_cut [14, 15] from 84 to 91 (fun u v wx => ∃ k C d, u = .pointer (some ⟨k, 0, none⟩) ∧ v = .int .i64 r.2 ∧ DcAt w13.heap.size wx.heap.size k r.1 C d wx ∧ BoxEvt w.heap.size p wx ∧ Below w13.heap.size w13 wx)
    case first =>
      go_region_with (first
        | (go_at_call 36; refine (toClauseS_l A c ps _ (hR.below (by first | exact hbw | exact belowGo hbw (below_alloc _ _))) hn).mono ?_; rintro e wS ⟨AS, cS, rfl, oS, bS⟩; have hqwS := hbx.size; have hbw := (by first | exact belowGo hbw bS | exact belowGo (belowGo hbw (below_alloc _ _)) bS : Below w.heap.size w wS); have hbx := (by first | exact belowGo hbx bS | exact belowGo (belowGo hbx (below_alloc _ _)) bS : Below w13.heap.size w13 wS); have kd := (by first | exact kd.below bS | exact (kd.al _).below bS : BoxEvt w.heap.size p wS); have c0 := kd.cells.c0; have c1 := kd.cells.c1; have c2 := kd.cells.c2; have c3 := kd.cells.c3; have c4 := kd.cells.c4; have c5 := kd.cells.c5; have c6 := kd.cells.c6; have a0 := fun o => (kd.al o).cells.c0; have a1 := fun o => (kd.al o).cells.c1; have a2 := fun o => (kd.al o).cells.c2; have a3 := fun o => (kd.al o).cells.c3; have a4 := fun o => (kd.al o).cells.c4; have a5 := fun o => (kd.al o).cells.c5; have a6 := fun o => (kd.al o).cells.c6; (first | (have kz := (BoxZ.newD _).below bS) | (have kz := (BoxZ.new _).below bS) | (have kz := kz.below bS) | skip); (try (have hklwS := lt_some kz.a)); (try (have z0 := kz.c0; have z1 := kz.c1; have zf0 := kz.f0; have zf1 := kz.f1)))
        | (go_at_call 51; refine (toEvent_l p _).mono ?_; rintro e wT ⟨rfl, bT⟩; have oS := (by first | exact oS.below bT | exact (oS.below (below_alloc _ _)).below bT : ClsO wT _ AS ps.length cS ps); have hqwT := hbx.size; have hbw := (by first | exact belowGo hbw bT | exact belowGo (belowGo hbw (below_alloc _ _)) bT : Below w.heap.size w wT); have hbx := (by first | exact belowGo hbx bT | exact belowGo (belowGo hbx (below_alloc _ _)) bT : Below w13.heap.size w13 wT); have kd := (by first | exact kd.below bT | exact (kd.al _).below bT : BoxEvt w.heap.size p wT); have c0 := kd.cells.c0; have c1 := kd.cells.c1; have c2 := kd.cells.c2; have c3 := kd.cells.c3; have c4 := kd.cells.c4; have c5 := kd.cells.c5; have c6 := kd.cells.c6; have a0 := fun o => (kd.al o).cells.c0; have a1 := fun o => (kd.al o).cells.c1; have a2 := fun o => (kd.al o).cells.c2; have a3 := fun o => (kd.al o).cells.c3; have a4 := fun o => (kd.al o).cells.c4; have a5 := fun o => (kd.al o).cells.c5; have a6 := fun o => (kd.al o).cells.c6; (first | (have kz := (BoxZ.newD _).below bT) | (have kz := (BoxZ.new _).below bT) | (have kz := kz.below bT) | skip); (try (have hklwT := lt_some kz.a)); (try (have z0 := kz.c0; have z1 := kz.c1; have zf0 := kz.f0; have zf1 := kz.f1)))
        | (go_at_call 15; refine (HI.out AS cS _ (by first | exact ctblC_of oS htx hn | exact ctblC_of (oS.below (below_alloc _ _)) htx hn)).mono ?_; rintro e wA ⟨C, dC, rfl, oA, bA⟩; have szA := bA.size; have hqwA := hbx.size; have hbw := (by first | exact belowGo hbw bA | exact belowGo (belowGo hbw (below_alloc _ _)) bA : Below w.heap.size w wA); have hbx := (by first | exact belowGo hbx bA | exact belowGo (belowGo hbx (below_alloc _ _)) bA : Below w13.heap.size w13 wA); have kd := (by first | exact kd.below bA | exact (kd.al _).below bA : BoxEvt w.heap.size p wA); have c0 := kd.cells.c0; have c1 := kd.cells.c1; have c2 := kd.cells.c2; have c3 := kd.cells.c3; have c4 := kd.cells.c4; have c5 := kd.cells.c5; have c6 := kd.cells.c6; have a0 := fun o => (kd.al o).cells.c0; have a1 := fun o => (kd.al o).cells.c1; have a2 := fun o => (kd.al o).cells.c2; have a3 := fun o => (kd.al o).cells.c3; have a4 := fun o => (kd.al o).cells.c4; have a5 := fun o => (kd.al o).cells.c5; have a6 := fun o => (kd.al o).cells.c6; (first | (have kz := (BoxZ.newD _).below bA) | (have kz := (BoxZ.new _).below bA) | (have kz := kz.below bA) | skip); (try (have hklwA := lt_some kz.a)); (try (have z0 := kz.c0; have z1 := kz.c1; have zf0 := kz.f0; have zf1 := kz.f1))))
      all_goals
        go_wp2_with fail
        first
          | (obtain ⟨hD, hB⟩ := dcAt_new (lo := w13.heap.size) oA (by (try simp only [World.size_alloc]); omega) hbx.size hbx
             go_meet
             exact ⟨_, C, dC, rfl, rfl, hD, kd.al _, hB⟩)
          | (obtain ⟨W', hW, hD, hB, hO⟩ := dcAt_set kz oA (by (try simp only [World.size_alloc]); omega) (by omega) hbx
             rw [hW]
             go_meet
             exact ⟨_, C, dC, rfl, rfl, hD, ⟨(hO _ (by omega)).trans kd.a⟩, hB⟩)
    case rest =>
      obtain ⟨k14, C14, d14, rfl, rfl, D14, X2, b14⟩ := hcut
      obtain ⟨w14, hw14⟩ : ∃ x, x = wc := ⟨_, rfl⟩
      subst hw14
      clear kd hbw hbx c0 c1 c2 c3 c4 c5 c6 a0 a1 a2 a3 a4 a5 a6 ax0 ax1 ax2 ax3 ax4 ax5 ax6 X
      have X := X2
      clear X2
      have t14 := belowGo t13 b14
      have s14 := b14.size
      replace D2 := D2.below b14
      replace m12 := m12.below b14
      replace G := G.below b14
      clear b14
      have y0 := D14.c0; have y1 := D14.c1; have z0 := D2.c0; have z1 := D2.c1
      go_wp2_with fail
      refine (eqDecision_at r.1.y C14 C2 _ _ d14 d2 r.1.cs _ D14.sr D2.sr rfl rfl (by omega)).mono ?_
      rintro e w15 ⟨rfl, b15⟩
      have t15 := belowGo t14 b15
      have s15 := b15.size
      replace X := X.below b15
      replace D2 := D2.below b15
      replace m12 := m12.below b15
      replace G := G.below b15
      replace D14 := D14.below b15
      clear b15
      clear y0 y1 z0 z1
      have y0 := G.c0; have y1 := G.c1
      go_wp2_with fail
      refine (heldDecision_l r.1.y C5 _ d5 1 _ m12.sr (by omega) (by omega) (by omega)).mono ?_
      rintro e w16 ⟨rfl, b16⟩
      have t16 := belowGo t15 b16
      have s16 := b16.size
      replace X := X.below b16
      replace D2 := D2.below b16
      replace m12 := m12.below b16
      replace G := G.below b16
      replace D14 := D14.below b16
      clear b16
      go_wp2_with fail
      go_ret
      exact ⟨rfl, t16⟩
end Go.Proofs.Ytjcklmhgjdmjoaa
