import Derived.Test.YtjcklmhgjdmjoaaGreatDrvE
namespace Go.Proofs.YtjcklmhgjdmjoaaGreat
open Go.ChangeShapes Go.WideShapes Go.ChangeAt Go.RowKit
set_option linter.unusedVariables false
theorem clsSz : (Tryz.prog.info? 47).map (·.size) = some 7 := by kernel_rfl
def Dcl (q : Cls) : Prop := q.c.length <= 7 /\ q.t.length <= 7
set_option maxRecDepth 100000 in
set_option maxHeartbeats 8000000 in
theorem clause_any (g : Nat) (base : Nat) (A : Option Addr) (c : Nat) (bs : List Int) (w : World) (h : Src w base g A c bs) :
  Calls Tryz.prog 51 #[.pointer (some ⟨g, 0, none⟩)] w (fun e w' => ∃ q : Cls, e = .returned (.agg #[.string ⟨q.c.toArray⟩, .int .i64 q.k, .int .i64 q.p, .int .i64 q.v, .int .i64 q.r, .int .i64 q.e, .string ⟨q.t.toArray⟩]) /\ Dcl q /\ Src w' base g A c bs /\ w.grownBy w' (some g)) := by
 have hgl := h.lt
 have o0 := heap_alloc_new w (.cells #[.string ⟨#[]⟩, .int .i64 0, .int .i64 0, .int .i64 0, .int .i64 0, .int .i64 0, .string ⟨#[]⟩] 47)
 have hRg : w.heap.size ≠ g := by omega
 go_enter Tryz.func51, Tryz.ntmps51
 go_wp2_with fail
 refine (valid_c g base A c bs _ (h.alloc _)).mono ?_
 rintro e w1 ⟨B, d, ps, rfl, hp1, hp6, o1, hd, s1, g1⟩
 have hR1 := keepG g1 o0 hRg
 have G1 := (World.grownBy_alloc w _ _).trans g1
 have HD := Lib.hid hd
 clear h o0 hd
 go_wp2_with fail
 refine (next_any g _ base A c bs _ s1 (by omega)).mono ?_
 rintro e w2 ⟨r, rfl, ra, rb, s2, g2⟩
 have hgsz : g < (w.alloc (.cells #[.string ⟨#[]⟩, .int .i64 0, .int .i64 0, .int .i64 0, .int .i64 0, .int .i64 0, .string ⟨#[]⟩] 47)).heap.size := by simp; omega
 have o2 : ClsO w2 (w.alloc (.cells #[.string ⟨#[]⟩, .int .i64 0, .int .i64 0, .int .i64 0, .int .i64 0, .int .i64 0, .string ⟨#[]⟩] 47)).heap.size B ps.length d ps := own_srcC o1 g2 hgsz
 have hR2 := keepG g2 hR1 hRg
 have G2 := G1.trans g2
 obtain ⟨k, rfl⟩ := Int.eq_ofNat_of_zero_le ra
 have hk : k < ps.length := by omega
 obtain ⟨b, off, q, rfl, hbl, hq, h4⟩ := o2.row.at hk
 have hqd := HD.out q (List.mem_of_getElem? hq.out)
 have c0 := h4.c0; have c1 := h4.c1; have c2 := h4.c2; have c3 := h4.c3; have c4 := h4.c4; have c5 := h4.c5; have c6 := h4.c6
 have oC := heap_alloc_new w2 (.cells #[.string ⟨q.c.toArray⟩, .int .i64 q.k, .int .i64 q.p, .int .i64 q.v, .int .i64 q.r, .int .i64 q.e, .string ⟨q.t.toArray⟩] 47)
 have hRC := (heap_alloc_old w2 (.cells #[.string ⟨q.c.toArray⟩, .int .i64 q.k, .int .i64 q.p, .int .i64 q.v, .int .i64 q.r, .int .i64 q.e, .string ⟨q.t.toArray⟩] 47) (lt_some hR2)).trans hR2
 have s2a := s2.alloc (.cells #[.string ⟨q.c.toArray⟩, .int .i64 q.k, .int .i64 q.p, .int .i64 q.v, .int .i64 q.r, .int .i64 q.e, .string ⟨q.t.toArray⟩] 47)
 have G2a := grown_alloc G2 (.cells #[.string ⟨q.c.toArray⟩, .int .i64 q.k, .int .i64 q.p, .int .i64 q.v, .int .i64 q.r, .int .i64 q.e, .string ⟨q.t.toArray⟩] 47)
 have hCg : w2.heap.size ≠ g := by have := s2.lt; omega
 have hCw : w.heap.size < w2.heap.size := lt_some hR2
 clear s1 g1 hR1 G1 g2 o1 o2 HD h4 hq hbl rb s2 G2 hR2
 go_wp2_with fail
 refine (next_any g _ base A c bs _ s2a (by omega)).mono ?_
 rintro e w3 ⟨k2, rfl, ka, kb, s3, g3⟩
 have cC3 := keepG g3 oC hCg
 have hR3 := keepG g3 hRC hRg
 have G3 := G2a.trans g3
 obtain ⟨C, hC⟩ : ∃ n, n = w2.heap.size := ⟨_, rfl⟩
 rw [<- hC] at cC3 hCg hCw ⊢
 clear g3 s2a G2a oC hRC c0 c1 c2 c3 c4 c5 c6 hC
 rcases (by omega : k2 = 0 ∨ k2 = 1 ∨ k2 = 2 ∨ 2 < k2) with rfl | rfl | rfl | hk3
 ·
  go_wp2_with fail
  refine (next_any g _ base A c bs _ s3 (by omega)).mono ?_
  rintro e w4 ⟨y, rfl, y0, y1, s4, g4⟩
  have G4 := G3.trans g4
  have cC4 := keepG g4 cC3 hCg
  have hR4 := keepG g4 hR3 hRg
  clear s3 G3 cC3 hR3 g4
  obtain ⟨x0, x1, x2, x3, x4, x5, x6, xf0, xf1, xf2, xf3, xf4, xf5, xf6⟩ := cel7 cC4
  obtain ⟨WA, hWA⟩ : ∃ WA, w4.setCell ⟨C, 5, none⟩ (.int .i64 (y - 1)) = WA := ⟨_, rfl⟩
  have cWA : WA.heap[C]? = some (.cells #[.string ⟨q.c.toArray⟩, .int .i64 q.k, .int .i64 q.p, .int .i64 q.v, .int .i64 q.r, .int .i64 (y - 1), .string ⟨q.t.toArray⟩] 47 (0, 0)) := by rw [<- hWA, heap_setCell_same _ _ _ _ _ _ cC4]; rfl
  obtain ⟨sWA, gWA⟩ := put_src (wq := w) s4 G4 (show g < C by omega) (show w.heap.size <= C by omega) 5 (.int .i64 (y - 1))
  have rWA : WA.heap[w.heap.size]? = some (.cells #[.string ⟨#[]⟩, .int .i64 0, .int .i64 0, .int .i64 0, .int .i64 0, .int .i64 0, .string ⟨#[]⟩] 47 (0, 0)) := by rw [<- hWA]; exact (heap_setCell_other w4 ⟨C, 5, none⟩ w.heap.size (.int .i64 (y - 1)) (fun e => by simp at e; omega)).trans hR4
  rw [hWA] at sWA gWA
  clear s4 G4 hR4 cC4
  obtain ⟨c0, c1, c2, c3, c4, c5, c6, cf0, cf1, cf2, cf3, cf4, cf5, cf6⟩ := cel7 cWA
  obtain ⟨r0, r1, r2, r3, r4, r5, r6, rf0, rf1, rf2, rf3, rf4, rf5, rf6⟩ := cel7 rWA
  obtain ⟨W5, hW5, hR5, bl5⟩ := done7 rWA (.string ⟨q.c.toArray⟩) (.int .i64 q.k) (.int .i64 q.p) (.int .i64 q.v) (.int .i64 q.r) (.int .i64 (y - 1)) (.string ⟨q.t.toArray⟩)
  have s5 := sWA.keep (bl5 (g + 1) _ (by omega) (Below.refl _ _)); have G5 := grown_below gWA (bl5 w.heap.size _ (Nat.le_refl _) (Below.refl _ _))
  have HE := Lib.hid hR5; have HS := Lib.hid s5; have HG := Lib.hid G5
  clear sWA gWA hR5 s5 G5 bl5 cWA rWA
  go_wp2_with fail
  try rw [hW5]
  refine bodyPost_ret (v := .agg #[.string ⟨q.c.toArray⟩, .int .i64 q.k, .int .i64 q.p, .int .i64 q.v, .int .i64 q.r, .int .i64 (y - 1), .string ⟨q.t.toArray⟩]) ?_ ?_ ?_
  ·
   exact results_cell_row (p := 2) rfl _ _ w.heap.size 47 _ (0, 0) _ rfl HE.out Tryz.underlying47 rfl clsSz
  ·
   rfl
  ·
   exact ⟨⟨q.c, q.k, q.p, q.v, q.r, (y - 1), q.t⟩, rfl, ⟨hqd.1, hqd.2.1⟩, HS.out, HG.out⟩
 ·
  go_wp2_with fail
  refine (code_anyC g base A c bs _ s3).mono ?_
  rintro e w4 ⟨s, rfl, hsl, s4, g4⟩
  have G4 := G3.trans g4
  have cC4 := keepG g4 cC3 hCg
  have hR4 := keepG g4 hR3 hRg
  clear s3 G3 cC3 hR3 g4
  obtain ⟨x0, x1, x2, x3, x4, x5, x6, xf0, xf1, xf2, xf3, xf4, xf5, xf6⟩ := cel7 cC4
  obtain ⟨WA, hWA⟩ : ∃ WA, w4.setCell ⟨C, 0, none⟩ (.string ⟨s.toArray⟩) = WA := ⟨_, rfl⟩
  have cWA : WA.heap[C]? = some (.cells #[.string ⟨s.toArray⟩, .int .i64 q.k, .int .i64 q.p, .int .i64 q.v, .int .i64 q.r, .int .i64 q.e, .string ⟨q.t.toArray⟩] 47 (0, 0)) := by rw [<- hWA, heap_setCell_same _ _ _ _ _ _ cC4]; rfl
  obtain ⟨sWA, gWA⟩ := put_src (wq := w) s4 G4 (show g < C by omega) (show w.heap.size <= C by omega) 0 (.string ⟨s.toArray⟩)
  have rWA : WA.heap[w.heap.size]? = some (.cells #[.string ⟨#[]⟩, .int .i64 0, .int .i64 0, .int .i64 0, .int .i64 0, .int .i64 0, .string ⟨#[]⟩] 47 (0, 0)) := by rw [<- hWA]; exact (heap_setCell_other w4 ⟨C, 0, none⟩ w.heap.size (.string ⟨s.toArray⟩) (fun e => by simp at e; omega)).trans hR4
  rw [hWA] at sWA gWA
  clear s4 G4 hR4 cC4
  obtain ⟨c0, c1, c2, c3, c4, c5, c6, cf0, cf1, cf2, cf3, cf4, cf5, cf6⟩ := cel7 cWA
  obtain ⟨r0, r1, r2, r3, r4, r5, r6, rf0, rf1, rf2, rf3, rf4, rf5, rf6⟩ := cel7 rWA
  obtain ⟨W5, hW5, hR5, bl5⟩ := done7 rWA (.string ⟨s.toArray⟩) (.int .i64 q.k) (.int .i64 q.p) (.int .i64 q.v) (.int .i64 q.r) (.int .i64 q.e) (.string ⟨q.t.toArray⟩)
  have s5 := sWA.keep (bl5 (g + 1) _ (by omega) (Below.refl _ _)); have G5 := grown_below gWA (bl5 w.heap.size _ (Nat.le_refl _) (Below.refl _ _))
  have HE := Lib.hid hR5; have HS := Lib.hid s5; have HG := Lib.hid G5
  clear sWA gWA hR5 s5 G5 bl5 cWA rWA
  go_wp2_with fail
  try rw [hW5]
  refine bodyPost_ret (v := .agg #[.string ⟨s.toArray⟩, .int .i64 q.k, .int .i64 q.p, .int .i64 q.v, .int .i64 q.r, .int .i64 q.e, .string ⟨q.t.toArray⟩]) ?_ ?_ ?_
  ·
   exact results_cell_row (p := 2) rfl _ _ w.heap.size 47 _ (0, 0) _ rfl HE.out Tryz.underlying47 rfl clsSz
  ·
   rfl
  ·
   exact ⟨⟨s, q.k, q.p, q.v, q.r, q.e, q.t⟩, rfl, ⟨hsl, hqd.2.1⟩, HS.out, HG.out⟩
 ·
  go_wp2_with fail
  refine (pick_new g 2 [-1, 3] (-1) 3 base A c bs _ s3 rfl (by decide) (by decide) (by decide)).mono ?_
  rintro e w4 ⟨y, rfl, y0, y1, s4, g4⟩
  have G4 := G3.trans g4
  have cC4 := keepG g4 cC3 hCg
  have hR4 := keepG g4 hR3 hRg
  clear s3 G3 cC3 hR3 g4
  obtain ⟨x0, x1, x2, x3, x4, x5, x6, xf0, xf1, xf2, xf3, xf4, xf5, xf6⟩ := cel7 cC4
  obtain ⟨WA, hWA⟩ : ∃ WA, w4.setCell ⟨C, 3, none⟩ (.int .i64 y) = WA := ⟨_, rfl⟩
  have cWA : WA.heap[C]? = some (.cells #[.string ⟨q.c.toArray⟩, .int .i64 q.k, .int .i64 q.p, .int .i64 y, .int .i64 q.r, .int .i64 q.e, .string ⟨q.t.toArray⟩] 47 (0, 0)) := by rw [<- hWA, heap_setCell_same _ _ _ _ _ _ cC4]; rfl
  obtain ⟨sWA, gWA⟩ := put_src (wq := w) s4 G4 (show g < C by omega) (show w.heap.size <= C by omega) 3 (.int .i64 y)
  have rWA : WA.heap[w.heap.size]? = some (.cells #[.string ⟨#[]⟩, .int .i64 0, .int .i64 0, .int .i64 0, .int .i64 0, .int .i64 0, .string ⟨#[]⟩] 47 (0, 0)) := by rw [<- hWA]; exact (heap_setCell_other w4 ⟨C, 3, none⟩ w.heap.size (.int .i64 y) (fun e => by simp at e; omega)).trans hR4
  rw [hWA] at sWA gWA
  clear s4 G4 hR4 cC4
  obtain ⟨c0, c1, c2, c3, c4, c5, c6, cf0, cf1, cf2, cf3, cf4, cf5, cf6⟩ := cel7 cWA
  obtain ⟨r0, r1, r2, r3, r4, r5, r6, rf0, rf1, rf2, rf3, rf4, rf5, rf6⟩ := cel7 rWA
  obtain ⟨W5, hW5, hR5, bl5⟩ := done7 rWA (.string ⟨q.c.toArray⟩) (.int .i64 q.k) (.int .i64 q.p) (.int .i64 y) (.int .i64 q.r) (.int .i64 q.e) (.string ⟨q.t.toArray⟩)
  have s5 := sWA.keep (bl5 (g + 1) _ (by omega) (Below.refl _ _)); have G5 := grown_below gWA (bl5 w.heap.size _ (Nat.le_refl _) (Below.refl _ _))
  have HE := Lib.hid hR5; have HS := Lib.hid s5; have HG := Lib.hid G5
  clear sWA gWA hR5 s5 G5 bl5 cWA rWA
  go_wp2_with fail
  try rw [hW5]
  refine bodyPost_ret (v := .agg #[.string ⟨q.c.toArray⟩, .int .i64 q.k, .int .i64 q.p, .int .i64 y, .int .i64 q.r, .int .i64 q.e, .string ⟨q.t.toArray⟩]) ?_ ?_ ?_
  ·
   exact results_cell_row (p := 2) rfl _ _ w.heap.size 47 _ (0, 0) _ rfl HE.out Tryz.underlying47 rfl clsSz
  ·
   rfl
  ·
   exact ⟨⟨q.c, q.k, q.p, y, q.r, q.e, q.t⟩, rfl, ⟨hqd.1, hqd.2.1⟩, HS.out, HG.out⟩
 ·
  have n0 : ((k2 : Int) == 0) = false := beq_eq_false_iff_ne.2 (by omega)
  have n1 : ((k2 : Int) == 1) = false := beq_eq_false_iff_ne.2 (by omega)
  have n2 : ((k2 : Int) == 2) = false := beq_eq_false_iff_ne.2 (by omega)
  obtain ⟨c0, c1, c2, c3, c4, c5, c6, cf0, cf1, cf2, cf3, cf4, cf5, cf6⟩ := cel7 cC3
  obtain ⟨r0, r1, r2, r3, r4, r5, r6, rf0, rf1, rf2, rf3, rf4, rf5, rf6⟩ := cel7 hR3
  obtain ⟨W5, hW5, hR5, bl5⟩ := done7 hR3 (.string ⟨q.c.toArray⟩) (.int .i64 q.k) (.int .i64 q.p) (.int .i64 q.v) (.int .i64 q.r) (.int .i64 q.e) (.string ⟨q.t.toArray⟩)
  have s5 := s3.keep (bl5 (g + 1) _ (by omega) (Below.refl _ _)); have G5 := grown_below G3 (bl5 w.heap.size _ (Nat.le_refl _) (Below.refl _ _))
  have HE := Lib.hid hR5; have HS := Lib.hid s5; have HG := Lib.hid G5
  clear s3 G3 hR5 s5 G5 bl5 cC3 hR3
  go_wp2_with fail
  try rw [hW5]
  refine bodyPost_ret (v := .agg #[.string ⟨q.c.toArray⟩, .int .i64 q.k, .int .i64 q.p, .int .i64 q.v, .int .i64 q.r, .int .i64 q.e, .string ⟨q.t.toArray⟩]) ?_ ?_ ?_
  ·
   exact results_cell_row (p := 2) rfl _ _ w.heap.size 47 _ (0, 0) _ rfl HE.out Tryz.underlying47 rfl clsSz
  ·
   rfl
  ·
   exact ⟨⟨q.c, q.k, q.p, q.v, q.r, q.e, q.t⟩, rfl, ⟨hqd.1, hqd.2.1⟩, HS.out, HG.out⟩
end Go.Proofs.YtjcklmhgjdmjoaaGreat
