/- The draws of FnInterestTexts. -/
import Derived.Test.YthainomgmgaikaaDoorDid
import Derived.Test.YthainomgmgaikaaDoorItg
import Derived.Test.YthainomgmgaikaaDoorRib
import Derived.Test.YthainomgmgaikaaDoorDrawt
namespace Go.Proofs.YthainomgmgaikaaDoor
open Go.ChangeShapes Go.WideShapes Go.ChangeAt Go.RowKit
set_option linter.unusedVariables false

theorem keep5G {W0 w' : World} {g r : Nat} {v0 v1 v2 v3 v4 : Value} {t : TypeId} (hg : W0.grownBy w' (some g)) (h : W0.heap[r]? = some (.cells #[v0, v1, v2, v3, v4] t (0, 0))) (hne : r ≠ g) : w'.heap[r]? = some (.cells #[v0, v1, v2, v3, v4] t (0, 0)) := keepG hg h hne
def DrawnQ (w : World) (e : Ending) (w' : World) : Prop := ∃ q : Ist, e = .returned (.agg #[.string ⟨q.c.toArray⟩, .int .i64 q.k, .string ⟨q.o.toArray⟩, .int .i64 q.v, .int .i64 q.a]) ∧ q.sz ≤ 14 ∧ Below w.heap.size w w'
def OneI (w : World) (base g : Nat) (A : Option Addr) (c : Nat) (bs : List Int) (e : Ending) (w' : World) : Prop :=
  ∃ q : Ist, e = .returned (.agg #[.string ⟨q.c.toArray⟩, .int .i64 q.k, .string ⟨q.o.toArray⟩, .int .i64 q.v, .int .i64 q.a]) ∧ q.sz ≤ 14 ∧ Src w' base g A c bs ∧ w.grownBy w' (some g)
set_option maxRecDepth 100000 in
set_option maxHeartbeats 8000000 in
theorem one_any (g : Nat) (base : Nat) (A : Option Addr) (c : Nat) (bs : List Int) (w : World) (h : Src w base g A c bs) :
    Calls Tryd.prog 17 #[.pointer (some ⟨g, 0, none⟩)] w (OneI w base g A c bs) := by
  have hgl := h.lt
  have o0 := heap_alloc_new w (.cells #[.string ⟨#[]⟩, .int .i64 0, .string ⟨#[]⟩, .int .i64 0, .int .i64 0] 25)
  have s0 := h.alloc (.cells #[.string ⟨#[]⟩, .int .i64 0, .string ⟨#[]⟩, .int .i64 0, .int .i64 0] 25)
  have G0 := World.grownBy_alloc w (.cells #[.string ⟨#[]⟩, .int .i64 0, .string ⟨#[]⟩, .int .i64 0, .int .i64 0] 25) (some g)
  have hRg : w.heap.size ≠ g := by omega
  clear h
  go_enter Tryd.func17, Tryd.ntmps17
  go_wp2_with fail
  refine (draw_id g base A c bs _ s0).mono ?_
  rintro e w1 ⟨B, d, ps, rfl, D1, s1, g1⟩
  have hp0 := D1.1
  have h40 := D1.2.1
  have o1 := keep5G g1 o0 hRg
  have G1 := G0.trans g1
  have hg0 := s0.lt
  clear o0 s0 G0 g1
  go_wp2_with fail
  refine (next_any g _ base A c bs _ s1 (by omega)).mono ?_
  rintro e w2 ⟨r, rfl, r0, r1, s2, g2⟩
  obtain ⟨j, rfl⟩ := Int.eq_ofNat_of_zero_le r0
  have hj : j < ps.length := by omega
  have D2 : IstO w2 _ B ps.length d ps := own_srcI D1.2.2.1 g2 hg0
  obtain ⟨b, off, p, rfl, hl, hp, h4⟩ := D2.row.at hj
  have hpk := D1.2.2.2 p (List.mem_of_getElem? hp.out)
  have hsz : p.sz ≤ 14 := by have := hpk.1; have := hpk.2.1; unfold Ist.sz; omega
  have c0 := h4.c0; have c1 := h4.c1; have c2 := h4.c2; have c3 := h4.c3; have c4 := h4.c4
  have o2 := keep5G g2 o1 hRg
  have G2 := G1.trans g2
  have o3 := heap_alloc_new w2 (.cells #[.string ⟨p.c.toArray⟩, .int .i64 p.k, .string ⟨p.o.toArray⟩, .int .i64 p.v, .int .i64 p.a] 25)
  have s3 := s2.alloc (.cells #[.string ⟨p.c.toArray⟩, .int .i64 p.k, .string ⟨p.o.toArray⟩, .int .i64 p.v, .int .i64 p.a] 25)
  have G3 := grown_alloc G2 (.cells #[.string ⟨p.c.toArray⟩, .int .i64 p.k, .string ⟨p.o.toArray⟩, .int .i64 p.v, .int .i64 p.a] 25)
  have o2' := keep5 (below_alloc w2 (.cells #[.string ⟨p.c.toArray⟩, .int .i64 p.k, .string ⟨p.o.toArray⟩, .int .i64 p.v, .int .i64 p.a] 25)) o2
  have hg2 := s2.lt
  have hBg : w2.heap.size ≠ g := by omega
  have hRB : w.heap.size ≠ w2.heap.size := by have := lt_some o2; omega
  have hle : w.heap.size ≤ w2.heap.size := G2.size
  clear D1 D2 hp h4 hpk o1 o2 G1 G2 g2 s1
  go_wp2_with fail
  refine (next_any g _ base A c bs _ s3 (by omega)).mono ?_
  rintro e w4 ⟨r, rfl, q0, q1, s4, g4⟩
  have k4 := keep5G g4 o3 hBg
  have o4 := keep5G g4 o2' hRg
  have G4 := G3.trans g4
  clear c0 c1 c2 c3 c4 o3 o2' G3 g4 s3
  by_cases hr : r = 0
  · subst hr
    have HPK := Lib.hid (fun (W : World) (hs : Src W base g A c bs) => pick_new g 4 [-1, 1, 60, 61] (-1) 61 base A c bs W hs rfl (by omega) (by omega) (by intro x hx; simp at hx; omega))
    go_wp2_with fail
    refine (HPK.out _ s4).mono ?_
    rintro e w5 ⟨y, rfl, y0, y1, s5, g5⟩
    have k5 := keep5G g5 k4 hBg
    have o5 := keep5G g5 o4 hRg
    have G5 := G4.trans g5
    clear k4 o4 G4 g5 s4 HPK
    obtain ⟨c0, c1, c2, c3, c4, f0, f1, f2, f3, f4⟩ := cel5 k5
    have k6 : (w5.setCell ⟨w2.heap.size, 4, none⟩ (.int .i64 y)).heap[w2.heap.size]? = some (.cells #[.string ⟨p.c.toArray⟩, .int .i64 p.k, .string ⟨p.o.toArray⟩, .int .i64 p.v, .int .i64 y] 25 (0, 0)) := by rw [heap_setCell_same _ _ _ _ _ _ k5]; rfl
    have o6 : (w5.setCell ⟨w2.heap.size, 4, none⟩ (.int .i64 y)).heap[w.heap.size]? = _ := (heap_setCell_other w5 ⟨w2.heap.size, 4, none⟩ _ (.int .i64 y) (fun e => hRB (by simpa using e))).trans o5
    have bst : Below w2.heap.size w5 (w5.setCell ⟨w2.heap.size, 4, none⟩ (.int .i64 y)) := (Below.refl _ _).setCell (p := ⟨w2.heap.size, 4, none⟩) (Nat.le_refl _) _
    have s6 := s5.keep (bst.mono (by omega : g + 1 ≤ w2.heap.size))
    have G6 := grown_below G5 (bst.mono hle)
    clear k5 o5 s5 G5 bst
    obtain ⟨W6, hW6⟩ : ∃ W, W = w5.setCell ⟨w2.heap.size, 4, none⟩ (.int .i64 y) := ⟨_, rfl⟩
    rw [← hW6] at k6 o6 s6 G6
    obtain ⟨d0, d1, d2, d3, d4, _⟩ := cel5 k6
    obtain ⟨r0', r1', r2', r3', r4', t0, t1, t2, t3, t4⟩ := cel5 o6
    obtain ⟨W7, hW7, hR7, bW7⟩ := done5 o6 (.string ⟨p.c.toArray⟩) (.int .i64 p.k) (.string ⟨p.o.toArray⟩) (.int .i64 p.v) (.int .i64 y)
    have b7 := bW7 w.heap.size W6 (Nat.le_refl _) (Below.refl _ _)
    have hWa := hW6.symm
    have hWb := Lib.hid hW7
    clear hW6 hW7 bW7 k6 o6
    obtain ⟨g0, g1, g2, g3, g4, _⟩ := cel5 hR7
    go_wp2_with fail
    rw [hWb.out]
    exact bodyPost_ret (v := .agg #[.string ⟨p.c.toArray⟩, .int .i64 p.k, .string ⟨p.o.toArray⟩, .int .i64 p.v, .int .i64 y]) (by simp [results, Tryd.results17, go_sem, g0, g1, g2, g3, g4]) rfl ⟨⟨p.c, p.k, p.o, p.v, y⟩, rfl, hsz, s6.keep (b7.mono (by omega)), grown_below G6 b7⟩
  · have e0 : (r == 0) = false := beq_eq_false_iff_ne.2 hr
    obtain ⟨d0, d1, d2, d3, d4, _⟩ := cel5 k4
    obtain ⟨r0', r1', r2', r3', r4', t0, t1, t2, t3, t4⟩ := cel5 o4
    obtain ⟨W7, hW7, hR7, bW7⟩ := done5 o4 (.string ⟨p.c.toArray⟩) (.int .i64 p.k) (.string ⟨p.o.toArray⟩) (.int .i64 p.v) (.int .i64 p.a)
    have b7 := bW7 w.heap.size w4 (Nat.le_refl _) (Below.refl _ _)
    have hWb := Lib.hid hW7
    clear hW7 bW7
    obtain ⟨g0, g1, g2, g3, g4, _⟩ := cel5 hR7
    go_wp2_with fail
    rw [hWb.out]
    exact bodyPost_ret (v := .agg #[.string ⟨p.c.toArray⟩, .int .i64 p.k, .string ⟨p.o.toArray⟩, .int .i64 p.v, .int .i64 p.a]) (by simp [results, Tryd.results17, go_sem, g0, g1, g2, g3, g4]) rfl ⟨p, rfl, hsz, s4.keep (b7.mono (by omega)), grown_below G4 b7⟩
set_option maxHeartbeats 2000000 in
theorem drawInterestText (A : Option Addr) (c : Nat) (bs : List Int) (w : World) (h : Code0 w A bs) : Calls Tryd.prog 7 #[.slice A bs.length c] w (DrawnQ w) := by
  have o0 := heap_alloc_new w (.cells #[.string ⟨#[]⟩, .int .i64 0, .string ⟨#[]⟩, .int .i64 0, .int .i64 0] 25)
  have b0 := below_alloc w (.cells #[.string ⟨#[]⟩, .int .i64 0, .string ⟨#[]⟩, .int .i64 0, .int .i64 0] 25)
  have hc := h.below b0
  go_enter Tryd.func7, Tryd.ntmps7
  go_wp2_with fail
  refine (code_from A c bs _ hc).mono ?_
  rintro e w1 ⟨g, rfl, s1, b1⟩
  go_wp2_with fail
  refine (one_any g _ A c bs _ s1).mono ?_
  rintro e w2 ⟨q, rfl, hq, s2, g2⟩
  have b2 := src_below b1 g2 s1.1
  have o2 := keep5 b2 o0
  have b3 := belowGo b0 b2
  obtain ⟨r0, r1, r2, r3, r4, t0, t1, t2, t3, t4⟩ := cel5 o2
  obtain ⟨W7, hW7, hR7, bW7⟩ := done5 o2 (.string ⟨q.c.toArray⟩) (.int .i64 q.k) (.string ⟨q.o.toArray⟩) (.int .i64 q.v) (.int .i64 q.a)
  have b7 := bW7 w.heap.size w (Nat.le_refl _) b3
  have hWb := Lib.hid hW7
  clear hW7 bW7 o2 b3 b2 b1 s1 s2 g2 o0 b0 hc h
  obtain ⟨g0, g1, g2, g3, g4, _⟩ := cel5 hR7
  go_wp2_with fail
  rw [hWb.out]
  exact bodyPost_ret (v := .agg #[.string ⟨q.c.toArray⟩, .int .i64 q.k, .string ⟨q.o.toArray⟩, .int .i64 q.v, .int .i64 q.a]) (by simp [results, Tryd.results7, go_sem, g0, g1, g2, g3, g4]) rfl ⟨q, rfl, hq, b7⟩
set_option maxRecDepth 100000 in
set_option maxHeartbeats 4000000 in
theorem drawReadInterest (A : Option Addr) (c : Nat) (bs : List Int) (w : World) (h : Code0 w A bs) : Calls Tryd.prog 10 #[.slice A bs.length c] w (DrawnS w) := by
  go_enter Tryd.func10, Tryd.ntmps10
  go_wp2_with fail
  refine (code_from A c bs _ h).mono ?_
  rintro e w1 ⟨g, rfl, s1, b1⟩
  have hg := s1.lt
  go_wp2_with fail
  refine (valid_any g _ A c bs _ s1).mono ?_
  rintro e w2 ⟨B, d, ps, rfl, hp7, ⟨hp0, hp40, o2, _⟩, s2, g2, hov⟩
  go_wp2_with fail
  refine (next_any g _ _ A c bs _ s2 (by omega)).mono ?_
  rintro e w3 ⟨r, rfl, r0, r1, s3, g3⟩
  obtain ⟨j, rfl⟩ := Int.eq_ofNat_of_zero_le r0
  have hj : j < ps.length := by omega
  have o3 : IstO w3 _ B ps.length d ps := own_srcI o2 g3 hg
  obtain ⟨b, off, p, rfl, hl, hp, h4⟩ := o3.row.at hj
  obtain ⟨⟨lc, lo, v0, v1⟩, ⟨k0, k3⟩, a0, a1⟩ := hov p (List.mem_of_getElem? hp.out)
  have c0 := h4.c0; have c1 := h4.c1; have c2 := h4.c2; have c3 := h4.c3; have c4 := h4.c4
  have hv : isVal p.v = true := by unfold isVal; simp; omega
  have lm := money_short hv
  have HT := Lib.hid (fun w => ltext6_g p w lc lo k0 k3 hv lm a0 a1)
  have hlt := itext_len lc lo k0 k3 lm a0 a1
  generalize itext p = t at *
  have b3 := src_below b1 (g2.trans g3) s1.1
  clear h o2 o3 hp h4 hov lm hv
  go_wp2_with fail
  refine (HT.out _).mono ?_
  rintro e w4 ⟨rfl, b4⟩
  have s4 := s3.below b4
  have t4 := belowGo b3 b4
  clear c0 c1 c2 c3 c4 HT b4 s3 b3
  go_wp2_with fail
  refine (next_any g _ _ A c bs _ s4 (by omega)).mono ?_
  rintro e w6 ⟨r6, rfl, a6, c6, s6, g6⟩
  have b7 := src_below t4 g6 s1.1
  by_cases h0 : r6 = 0
  · subst h0
    go_wp2_with fail
    refine (damage_any g t (by omega) _ A c bs _ s6).mono ?_
    rintro e w7 ⟨l, rfl, hl7, s7, g7⟩
    go_wp2_with fail
    go_ret
    exact ⟨l, rfl, by omega, src_below b7 g7 s1.1⟩
  · have e0 : (r6 == 0) = false := beq_eq_false_iff_ne.2 h0
    go_wp2_with fail
    go_ret
    exact ⟨t, rfl, by omega, b7⟩
end Go.Proofs.YthainomgmgaikaaDoor
