/- spec.l09DrawClause, DrawClauseText, DrawReadClause. (by gen_drc.py) -/
import Derived.Test.YtmhlkbocejnpoaaDoorDrv9
import Derived.Test.YtmhlkbocejnpoaaDoorCts
namespace Go.Proofs.YtmhlkbocejnpoaaDoor
open Go.ChangeShapes Go.WideShapes Go.ChangeAt Go.RowKit
set_option linter.unusedVariables false

theorem clsSz : (Tryd.prog.info? 25).map (·.size) = some 7 := by kernel_rfl
/-- What a drawn clause keeps to. -/
def Dcl (q : Cls) : Prop := q.c.length ≤ 7 ∧ q.t.length ≤ 7
set_option maxRecDepth 100000 in
set_option maxHeartbeats 8000000 in
theorem clause_any (g : Nat) (base : Nat) (A : Option Addr) (c : Nat) (bs : List Int) (w : World) (h : Src w base g A c bs) :
    Calls Tryd.prog 17 #[.pointer (some ⟨g, 0, none⟩)] w (fun e w' => ∃ q : Cls, e = .returned (.agg #[.string ⟨q.c.toArray⟩, .int .i64 q.k, .int .i64 q.p, .int .i64 q.v, .int .i64 q.r, .int .i64 q.e, .string ⟨q.t.toArray⟩]) ∧ Dcl q ∧ Src w' base g A c bs ∧ w.grownBy w' (some g)) := by
  have hgl := h.lt
  have o0 := heap_alloc_new w (.cells #[.string ⟨#[]⟩, .int .i64 0, .int .i64 0, .int .i64 0, .int .i64 0, .int .i64 0, .string ⟨#[]⟩] 25)
  have hRg : w.heap.size ≠ g := by omega
  go_enter Tryd.func17, Tryd.ntmps17
  go_wp2_with fail
  refine (valid_c g base A c bs _ (h.alloc _)).mono ?_
  rintro e w1 ⟨B, d, ps, rfl, hp1, hp6, o1, hd, s1, g1⟩
  have hR1 := keepG g1 o0 hRg
  have G1 := (World.grownBy_alloc w _ _).trans g1
  have HD := Lib.hid hd
  clear h o0 hd
  go_wp2_with fail
  refine (next_any g _ base A c bs _ s1 (by omega)).mono ?_
  rintro e w2 ⟨r, rfl, ra, rb, s2, g2⟩
  have hgsz : g < (w.alloc (.cells #[.string ⟨#[]⟩, .int .i64 0, .int .i64 0, .int .i64 0, .int .i64 0, .int .i64 0, .string ⟨#[]⟩] 25)).heap.size := by simp; omega
  have o2 : ClsO w2 (w.alloc (.cells #[.string ⟨#[]⟩, .int .i64 0, .int .i64 0, .int .i64 0, .int .i64 0, .int .i64 0, .string ⟨#[]⟩] 25)).heap.size B ps.length d ps := own_srcC o1 g2 hgsz
  have hR2 := keepG g2 hR1 hRg
  have G2 := G1.trans g2
  obtain ⟨k, rfl⟩ := Int.eq_ofNat_of_zero_le ra
  have hk : k < ps.length := by omega
  obtain ⟨b, off, q, rfl, hbl, hq, h4⟩ := o2.row.at hk
  have hqd := HD.out q (List.mem_of_getElem? hq.out)
  have c0 := h4.c0; have c1 := h4.c1; have c2 := h4.c2; have c3 := h4.c3; have c4 := h4.c4; have c5 := h4.c5; have c6 := h4.c6
  have oC := heap_alloc_new w2 (.cells #[.string ⟨q.c.toArray⟩, .int .i64 q.k, .int .i64 q.p, .int .i64 q.v, .int .i64 q.r, .int .i64 q.e, .string ⟨q.t.toArray⟩] 25)
  have hRC := (heap_alloc_old w2 (.cells #[.string ⟨q.c.toArray⟩, .int .i64 q.k, .int .i64 q.p, .int .i64 q.v, .int .i64 q.r, .int .i64 q.e, .string ⟨q.t.toArray⟩] 25) (lt_some hR2)).trans hR2
  have s2a := s2.alloc (.cells #[.string ⟨q.c.toArray⟩, .int .i64 q.k, .int .i64 q.p, .int .i64 q.v, .int .i64 q.r, .int .i64 q.e, .string ⟨q.t.toArray⟩] 25)
  have G2a := grown_alloc G2 (.cells #[.string ⟨q.c.toArray⟩, .int .i64 q.k, .int .i64 q.p, .int .i64 q.v, .int .i64 q.r, .int .i64 q.e, .string ⟨q.t.toArray⟩] 25)
  have hCg : w2.heap.size ≠ g := by have := s2.lt; omega
  have hCw : w.heap.size < w2.heap.size := lt_some hR2
  clear s1 g1 hR1 G1 g2 o1 o2 HD h4 hq hbl rb s2 G2 hR2
  go_wp2_with fail
  refine (next_any g _ base A c bs _ s2a (by omega)).mono ?_
  rintro e w3 ⟨k2, rfl, ka, kb, s3, g3⟩
  have cC3 := keepG g3 oC hCg
  have hR3 := keepG g3 hRC hRg
  have G3 := G2a.trans g3
  obtain ⟨C, hC⟩ : ∃ n, n = w2.heap.size := ⟨_, rfl⟩
  rw [← hC] at cC3 hCg hCw ⊢
  clear g3 s2a G2a oC hRC c0 c1 c2 c3 c4 c5 c6 hC
  rcases (by omega : k2 = 0 ∨ k2 = 1 ∨ k2 = 2 ∨ 2 < k2) with rfl | rfl | rfl | hk3
  · go_wp2_with fail
    refine (next_any g _ base A c bs _ s3 (by omega)).mono ?_
    rintro e w4 ⟨y, rfl, y0, y1, s4, g4⟩
    have G4 := G3.trans g4
    have cC4 := keepG g4 cC3 hCg
    have hR4 := keepG g4 hR3 hRg
    clear s3 G3 cC3 hR3 g4
    obtain ⟨x0, x1, x2, x3, x4, x5, x6, xf0, xf1, xf2, xf3, xf4, xf5, xf6⟩ := cel7 cC4
    obtain ⟨WA, hWA⟩ : ∃ WA, w4.setCell ⟨C, 5, none⟩ (.int .i64 (y - 1)) = WA := ⟨_, rfl⟩
    have cWA : WA.heap[C]? = some (.cells #[.string ⟨q.c.toArray⟩, .int .i64 q.k, .int .i64 q.p, .int .i64 q.v, .int .i64 q.r, .int .i64 (y - 1), .string ⟨q.t.toArray⟩] 25 (0, 0)) := by rw [← hWA, heap_setCell_same _ _ _ _ _ _ cC4]; rfl
    obtain ⟨sWA, gWA⟩ := put_src (wq := w) s4 G4 (show g < C by omega) (show w.heap.size ≤ C by omega) 5 (.int .i64 (y - 1))
    have rWA : WA.heap[w.heap.size]? = some (.cells #[.string ⟨#[]⟩, .int .i64 0, .int .i64 0, .int .i64 0, .int .i64 0, .int .i64 0, .string ⟨#[]⟩] 25 (0, 0)) := by rw [← hWA]; exact (heap_setCell_other w4 ⟨C, 5, none⟩ w.heap.size (.int .i64 (y - 1)) (fun e => by simp at e; omega)).trans hR4
    rw [hWA] at sWA gWA
    clear s4 G4 hR4 cC4
    obtain ⟨c0, c1, c2, c3, c4, c5, c6, cf0, cf1, cf2, cf3, cf4, cf5, cf6⟩ := cel7 cWA
    obtain ⟨r0, r1, r2, r3, r4, r5, r6, rf0, rf1, rf2, rf3, rf4, rf5, rf6⟩ := cel7 rWA
    obtain ⟨W5, hW5, hR5, bl5⟩ := done7 rWA (.string ⟨q.c.toArray⟩) (.int .i64 q.k) (.int .i64 q.p) (.int .i64 q.v) (.int .i64 q.r) (.int .i64 (y - 1)) (.string ⟨q.t.toArray⟩)
    have s5 := sWA.keep (bl5 (g + 1) _ (by omega) (Below.refl _ _)); have G5 := grown_below gWA (bl5 w.heap.size _ (Nat.le_refl _) (Below.refl _ _))
    have HE := Lib.hid hR5; have HS := Lib.hid s5; have HG := Lib.hid G5
    clear sWA gWA hR5 s5 G5 bl5 cWA rWA
    go_wp2_with fail
    try rw [hW5]
    refine bodyPost_ret (v := .agg #[.string ⟨q.c.toArray⟩, .int .i64 q.k, .int .i64 q.p, .int .i64 q.v, .int .i64 q.r, .int .i64 (y - 1), .string ⟨q.t.toArray⟩]) ?_ ?_ ?_
    · exact results_cell_row (p := 2) rfl _ _ w.heap.size 25 _ (0, 0) _ rfl HE.out Tryd.underlying25 rfl clsSz
    · rfl
    · exact ⟨⟨q.c, q.k, q.p, q.v, q.r, (y - 1), q.t⟩, rfl, ⟨hqd.1, hqd.2.1⟩, HS.out, HG.out⟩
  · go_wp2_with fail
    refine (code_anyC g base A c bs _ s3).mono ?_
    rintro e w4 ⟨s, rfl, hsl, s4, g4⟩
    have G4 := G3.trans g4
    have cC4 := keepG g4 cC3 hCg
    have hR4 := keepG g4 hR3 hRg
    clear s3 G3 cC3 hR3 g4
    obtain ⟨x0, x1, x2, x3, x4, x5, x6, xf0, xf1, xf2, xf3, xf4, xf5, xf6⟩ := cel7 cC4
    obtain ⟨WA, hWA⟩ : ∃ WA, w4.setCell ⟨C, 0, none⟩ (.string ⟨s.toArray⟩) = WA := ⟨_, rfl⟩
    have cWA : WA.heap[C]? = some (.cells #[.string ⟨s.toArray⟩, .int .i64 q.k, .int .i64 q.p, .int .i64 q.v, .int .i64 q.r, .int .i64 q.e, .string ⟨q.t.toArray⟩] 25 (0, 0)) := by rw [← hWA, heap_setCell_same _ _ _ _ _ _ cC4]; rfl
    obtain ⟨sWA, gWA⟩ := put_src (wq := w) s4 G4 (show g < C by omega) (show w.heap.size ≤ C by omega) 0 (.string ⟨s.toArray⟩)
    have rWA : WA.heap[w.heap.size]? = some (.cells #[.string ⟨#[]⟩, .int .i64 0, .int .i64 0, .int .i64 0, .int .i64 0, .int .i64 0, .string ⟨#[]⟩] 25 (0, 0)) := by rw [← hWA]; exact (heap_setCell_other w4 ⟨C, 0, none⟩ w.heap.size (.string ⟨s.toArray⟩) (fun e => by simp at e; omega)).trans hR4
    rw [hWA] at sWA gWA
    clear s4 G4 hR4 cC4
    obtain ⟨c0, c1, c2, c3, c4, c5, c6, cf0, cf1, cf2, cf3, cf4, cf5, cf6⟩ := cel7 cWA
    obtain ⟨r0, r1, r2, r3, r4, r5, r6, rf0, rf1, rf2, rf3, rf4, rf5, rf6⟩ := cel7 rWA
    obtain ⟨W5, hW5, hR5, bl5⟩ := done7 rWA (.string ⟨s.toArray⟩) (.int .i64 q.k) (.int .i64 q.p) (.int .i64 q.v) (.int .i64 q.r) (.int .i64 q.e) (.string ⟨q.t.toArray⟩)
    have s5 := sWA.keep (bl5 (g + 1) _ (by omega) (Below.refl _ _)); have G5 := grown_below gWA (bl5 w.heap.size _ (Nat.le_refl _) (Below.refl _ _))
    have HE := Lib.hid hR5; have HS := Lib.hid s5; have HG := Lib.hid G5
    clear sWA gWA hR5 s5 G5 bl5 cWA rWA
    go_wp2_with fail
    try rw [hW5]
    refine bodyPost_ret (v := .agg #[.string ⟨s.toArray⟩, .int .i64 q.k, .int .i64 q.p, .int .i64 q.v, .int .i64 q.r, .int .i64 q.e, .string ⟨q.t.toArray⟩]) ?_ ?_ ?_
    · exact results_cell_row (p := 2) rfl _ _ w.heap.size 25 _ (0, 0) _ rfl HE.out Tryd.underlying25 rfl clsSz
    · rfl
    · exact ⟨⟨s, q.k, q.p, q.v, q.r, q.e, q.t⟩, rfl, ⟨hsl, hqd.2.1⟩, HS.out, HG.out⟩
  · go_wp2_with fail
    refine (pick_new g 2 [-1, 3] (-1) 3 base A c bs _ s3 rfl (by decide) (by decide) (by decide)).mono ?_
    rintro e w4 ⟨y, rfl, y0, y1, s4, g4⟩
    have G4 := G3.trans g4
    have cC4 := keepG g4 cC3 hCg
    have hR4 := keepG g4 hR3 hRg
    clear s3 G3 cC3 hR3 g4
    obtain ⟨x0, x1, x2, x3, x4, x5, x6, xf0, xf1, xf2, xf3, xf4, xf5, xf6⟩ := cel7 cC4
    obtain ⟨WA, hWA⟩ : ∃ WA, w4.setCell ⟨C, 3, none⟩ (.int .i64 y) = WA := ⟨_, rfl⟩
    have cWA : WA.heap[C]? = some (.cells #[.string ⟨q.c.toArray⟩, .int .i64 q.k, .int .i64 q.p, .int .i64 y, .int .i64 q.r, .int .i64 q.e, .string ⟨q.t.toArray⟩] 25 (0, 0)) := by rw [← hWA, heap_setCell_same _ _ _ _ _ _ cC4]; rfl
    obtain ⟨sWA, gWA⟩ := put_src (wq := w) s4 G4 (show g < C by omega) (show w.heap.size ≤ C by omega) 3 (.int .i64 y)
    have rWA : WA.heap[w.heap.size]? = some (.cells #[.string ⟨#[]⟩, .int .i64 0, .int .i64 0, .int .i64 0, .int .i64 0, .int .i64 0, .string ⟨#[]⟩] 25 (0, 0)) := by rw [← hWA]; exact (heap_setCell_other w4 ⟨C, 3, none⟩ w.heap.size (.int .i64 y) (fun e => by simp at e; omega)).trans hR4
    rw [hWA] at sWA gWA
    clear s4 G4 hR4 cC4
    obtain ⟨c0, c1, c2, c3, c4, c5, c6, cf0, cf1, cf2, cf3, cf4, cf5, cf6⟩ := cel7 cWA
    obtain ⟨r0, r1, r2, r3, r4, r5, r6, rf0, rf1, rf2, rf3, rf4, rf5, rf6⟩ := cel7 rWA
    obtain ⟨W5, hW5, hR5, bl5⟩ := done7 rWA (.string ⟨q.c.toArray⟩) (.int .i64 q.k) (.int .i64 q.p) (.int .i64 y) (.int .i64 q.r) (.int .i64 q.e) (.string ⟨q.t.toArray⟩)
    have s5 := sWA.keep (bl5 (g + 1) _ (by omega) (Below.refl _ _)); have G5 := grown_below gWA (bl5 w.heap.size _ (Nat.le_refl _) (Below.refl _ _))
    have HE := Lib.hid hR5; have HS := Lib.hid s5; have HG := Lib.hid G5
    clear sWA gWA hR5 s5 G5 bl5 cWA rWA
    go_wp2_with fail
    try rw [hW5]
    refine bodyPost_ret (v := .agg #[.string ⟨q.c.toArray⟩, .int .i64 q.k, .int .i64 q.p, .int .i64 y, .int .i64 q.r, .int .i64 q.e, .string ⟨q.t.toArray⟩]) ?_ ?_ ?_
    · exact results_cell_row (p := 2) rfl _ _ w.heap.size 25 _ (0, 0) _ rfl HE.out Tryd.underlying25 rfl clsSz
    · rfl
    · exact ⟨⟨q.c, q.k, q.p, y, q.r, q.e, q.t⟩, rfl, ⟨hqd.1, hqd.2.1⟩, HS.out, HG.out⟩
  · have n0 : ((k2 : Int) == 0) = false := beq_eq_false_iff_ne.2 (by omega)
    have n1 : ((k2 : Int) == 1) = false := beq_eq_false_iff_ne.2 (by omega)
    have n2 : ((k2 : Int) == 2) = false := beq_eq_false_iff_ne.2 (by omega)
    obtain ⟨c0, c1, c2, c3, c4, c5, c6, cf0, cf1, cf2, cf3, cf4, cf5, cf6⟩ := cel7 cC3
    obtain ⟨r0, r1, r2, r3, r4, r5, r6, rf0, rf1, rf2, rf3, rf4, rf5, rf6⟩ := cel7 hR3
    obtain ⟨W5, hW5, hR5, bl5⟩ := done7 hR3 (.string ⟨q.c.toArray⟩) (.int .i64 q.k) (.int .i64 q.p) (.int .i64 q.v) (.int .i64 q.r) (.int .i64 q.e) (.string ⟨q.t.toArray⟩)
    have s5 := s3.keep (bl5 (g + 1) _ (by omega) (Below.refl _ _)); have G5 := grown_below G3 (bl5 w.heap.size _ (Nat.le_refl _) (Below.refl _ _))
    have HE := Lib.hid hR5; have HS := Lib.hid s5; have HG := Lib.hid G5
    clear s3 G3 hR5 s5 G5 bl5 cC3 hR3
    go_wp2_with fail
    try rw [hW5]
    refine bodyPost_ret (v := .agg #[.string ⟨q.c.toArray⟩, .int .i64 q.k, .int .i64 q.p, .int .i64 q.v, .int .i64 q.r, .int .i64 q.e, .string ⟨q.t.toArray⟩]) ?_ ?_ ?_
    · exact results_cell_row (p := 2) rfl _ _ w.heap.size 25 _ (0, 0) _ rfl HE.out Tryd.underlying25 rfl clsSz
    · rfl
    · exact ⟨⟨q.c, q.k, q.p, q.v, q.r, q.e, q.t⟩, rfl, ⟨hqd.1, hqd.2.1⟩, HS.out, HG.out⟩
def DrawnC (w : World) (e : Ending) (w' : World) : Prop := ∃ q : Cls, e = .returned (.agg #[.string ⟨q.c.toArray⟩, .int .i64 q.k, .int .i64 q.p, .int .i64 q.v, .int .i64 q.r, .int .i64 q.e, .string ⟨q.t.toArray⟩]) ∧ Dcl q ∧ Below w.heap.size w w'
set_option maxHeartbeats 2000000 in
theorem drawClauseText (A : Option Addr) (c : Nat) (bs : List Int) (w : World) (h : Code0 w A bs) : Calls Tryd.prog 7 #[.slice A bs.length c] w (DrawnC w) := by
  have o0 := heap_alloc_new w (.cells #[.string ⟨#[]⟩, .int .i64 0, .int .i64 0, .int .i64 0, .int .i64 0, .int .i64 0, .string ⟨#[]⟩] 25)
  have b0 := below_alloc w (.cells #[.string ⟨#[]⟩, .int .i64 0, .int .i64 0, .int .i64 0, .int .i64 0, .int .i64 0, .string ⟨#[]⟩] 25)
  have hc := h.below b0
  go_enter Tryd.func7, Tryd.ntmps7
  go_wp2_with fail
  refine (code_from A c bs _ hc).mono ?_
  rintro e w1 ⟨g, rfl, s1, b1⟩
  go_wp2_with fail
  refine (clause_any g _ A c bs _ s1).mono ?_
  rintro e w2 ⟨q, rfl, hq, s2, g2⟩
  have b2 := src_below b1 g2 s1.1
  have o2 := keepR b2 o0
  have b3 := belowGo b0 b2
  obtain ⟨r0, r1, r2, r3, r4, r5, r6, t0, t1, t2, t3, t4, t5, t6⟩ := cel7 o2
  obtain ⟨W7, hW7, hR7, bW7⟩ := done7 o2 (.string ⟨q.c.toArray⟩) (.int .i64 q.k) (.int .i64 q.p) (.int .i64 q.v) (.int .i64 q.r) (.int .i64 q.e) (.string ⟨q.t.toArray⟩)
  have b7 := bW7 w.heap.size w (Nat.le_refl _) b3
  have hWb := Lib.hid hW7
  clear hW7 bW7 o2 b3 b2 b1 s1 s2 g2 o0 b0 hc h
  obtain ⟨g0, g1, g2, g3, g4, g5, g6, _⟩ := cel7 hR7
  go_wp2_with fail
  rw [hWb.out]
  exact bodyPost_ret (v := .agg #[.string ⟨q.c.toArray⟩, .int .i64 q.k, .int .i64 q.p, .int .i64 q.v, .int .i64 q.r, .int .i64 q.e, .string ⟨q.t.toArray⟩]) (by simp [results, Tryd.results7, go_sem, g0, g1, g2, g3, g4, g5, g6]) rfl ⟨q, rfl, hq, b7⟩
theorem ctext_dcv {q : Cls} (h : Dcv q) : (ctext q).length ≤ 100 ∧ (orT q.t).length ≤ 7 := by
  have hk := itoa_le h.2.2.1
  have he := itoa_le (n := q.e) (by have := h.2.2.2.2.2.2; omega)
  have ht : (orT q.t).length ≤ 7 := by
    unfold orT; split
    · simp
    · exact h.2.1
  refine ⟨?_, ht⟩
  rw [ctext_eq]
  simp only [List.length_append, List.length_cons, List.length_nil]
  have := h.1
  omega
theorem ctext_short {p : Cls} (h : p.ok = true) : (ctext p).length ≤ 90 := by
  obtain ⟨hc, hk, _, _, _, he, _⟩ := cok h
  have lc : p.c.length ≤ 6 := (pcode_iff.1 hc).1.2
  have lk := itoa_le hk
  have le := itoa_le (n := p.e) (by omega)
  have lt : (orT p.t).length ≤ 6 := toT_le h
  rw [ctext_eq]
  simp only [List.length_append, List.length_cons, List.length_nil]
  omega
set_option maxRecDepth 100000 in
set_option maxHeartbeats 4000000 in
theorem drawReadClause (A : Option Addr) (c : Nat) (bs : List Int) (w : World) (h : Code0 w A bs) : Calls Tryd.prog 10 #[.slice A bs.length c] w (DrawnS w) := by
  go_enter Tryd.func10, Tryd.ntmps10
  go_wp2_with fail
  refine (code_from A c bs _ h).mono ?_
  rintro e w1 ⟨g, rfl, s1, b1⟩
  have hg := s1.lt
  have hg1 := s1.1
  go_wp2_with fail
  refine (valid_c g _ A c bs _ s1).mono ?_
  rintro e w2 ⟨B, d, ps, rfl, hp1, hp6, o1, hd, s2, g2⟩
  have b2 := src_below b1 g2 hg1
  have HD := Lib.hid hd
  clear h hd
  go_wp2_with fail
  refine (next_any g _ _ A c bs _ s2 (by omega)).mono ?_
  rintro e w3 ⟨r, rfl, ra, rb, s3, g3⟩
  have o3 : ClsO w3 w1.heap.size B ps.length d ps := own_srcC o1 g3 hg
  have b3 := src_below b2 g3 hg1
  obtain ⟨k, rfl⟩ := Int.eq_ofNat_of_zero_le ra
  have hk : k < ps.length := by omega
  obtain ⟨b, off, q, rfl, hbl, hq, h4⟩ := o3.row.at hk
  have hqd := HD.out q (List.mem_of_getElem? hq.out)
  obtain ⟨hl100, hlo⟩ := ctext_dcv hqd
  have c0 := h4.c0; have c1 := h4.c1; have c2 := h4.c2; have c3 := h4.c3; have c4 := h4.c4; have c5 := h4.c5; have c6 := h4.c6
  have HT := Lib.hid (fun w => ltext9_g q w hqd.1 hlo hqd.2.2.1 hqd.2.2.2.1 hqd.2.2.2.2.1 hqd.2.2.2.2.2.1 hqd.2.2.2.2.2.2)
  generalize ctext q = t at *
  clear s1 g2 b1 b2 o1 o3 s2 g3 HD h4 hq hbl rb hlo
  go_wp2_with fail
  refine (HT.out _).mono ?_
  rintro e w5 ⟨rfl, b5⟩
  have s5 := s3.below b5
  have t5 := belowGo b3 b5
  clear c0 c1 c2 c3 c4 c5 c6 b5 s3 b3 HT hqd
  go_wp2_with fail
  refine (next_any g _ _ A c bs _ s5 (by omega)).mono ?_
  rintro e w6 ⟨r6, rfl, a6, c6, s6, g6⟩
  have b7 := src_below t5 g6 hg1
  by_cases h0 : r6 = 0
  · subst h0
    go_wp2_with fail
    refine (damage_any g t (by omega) _ A c bs _ s6).mono ?_
    rintro e w7 ⟨l, rfl, hl7, s7, g7⟩
    go_wp2_with fail
    go_ret
    exact ⟨l, rfl, by (try simp at hl7); omega, src_below b7 g7 hg1⟩
  · have e0 : (r6 == 0) = false := beq_eq_false_iff_ne.2 h0
    go_wp2_with fail
    go_ret
    exact ⟨t, rfl, by omega, b7⟩
end Go.Proofs.YtmhlkbocejnpoaaDoor
