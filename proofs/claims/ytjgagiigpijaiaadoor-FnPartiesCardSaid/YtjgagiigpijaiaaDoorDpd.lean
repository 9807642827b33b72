/- The draws of FnParties: the arguments of its functions. -/
import Derived.Test.YtjgagiigpijaiaaDoorDpl
import Derived.Test.YtjgagiigpijaiaaDoorPkb
namespace Go.Proofs.YtjgagiigpijaiaaDoor
open Go.ChangeShapes Go.WideShapes Go.ChangeAt Go.RowKit
set_option linter.unusedVariables false

def DrawnPC (w : World) (e : Ending) (w' : World) : Prop :=
  ∃ (B : Option Addr) (d : Nat) (ps : List Pty) (s : List UInt8), e = .returned (.tuple #[.slice B ps.length d, .string ⟨s.toArray⟩]) ∧ PDr w' w.heap.size B d ps ∧ s.length ≤ 7 ∧ Below w.heap.size w w'
def DrawnPP (w : World) (e : Ending) (w' : World) : Prop :=
  ∃ (B : Option Addr) (d : Nat) (ps : List Pty) (q : Pty), e = .returned (.tuple #[.slice B ps.length d, .agg #[.string ⟨q.c.toArray⟩, .int .i64 q.k, .string ⟨q.a.toArray⟩]]) ∧ PDr w' w.heap.size B d ps ∧ Dq q ∧ Below w.heap.size w w'
def DrawnPI (w : World) (e : Ending) (w' : World) : Prop :=
  ∃ (B : Option Addr) (d : Nat) (ps : List Pty) (k : Int), e = .returned (.tuple #[.slice B ps.length d, .int .i64 k]) ∧ PDr w' w.heap.size B d ps ∧ Below w.heap.size w w'
set_option maxHeartbeats 1000000 in
theorem drawPI (A : Option Addr) (c : Nat) (bs : List Int) (w : World) (h : Code0 w A bs) : Calls Tryd.prog 39 #[.slice A bs.length c] w (DrawnPI w) := by
  go_enter Tryd.func39, Tryd.ntmps39
  go_wp2_with fail
  refine (code_from A c bs _ h).mono ?_
  rintro e w1 ⟨g, rfl, s1, b1⟩
  have hg := s1.lt
  go_wp2_with fail
  refine (draw_pd g _ A c bs _ s1).mono ?_
  rintro e w2 ⟨B, d, ps, rfl, d2, s2, g2⟩
  go_wp2_with fail
  refine (next_any g _ _ A c bs _ s2 (by omega)).mono ?_
  rintro e w3 ⟨r, rfl, a3, e3, s3, g3⟩
  have d3 := (d2.src g3 hg).low b1.size
  go_wp2_with fail
  refine bodyPost_ret (v := .tuple #[.slice B ps.length d, .int .i64 (r - 1)]) (by simp [results, Tryd.results39, go_sem]) rfl ?_
  exact ⟨B, d, ps, r - 1, rfl, d3, src_below b1 (g2.trans g3) s1.1⟩
theorem results_tmp_cell_row {P : Program} {fn : Func} {p u : Tmp} {ty : TypeId} (h : fn.results = #[.tmp u, .cell p ty]) (tmps : Array Value) (w : World) (g : Nat) (t : TypeId) (cs : Array Value) (fr : Nat × Nat) (d : TypeDesc)
    (hp : tmps.getD p undef = .pointer (some ⟨g, 0, none⟩)) (hg : w.heap[g]? = some (.cells cs t fr))
    (hu : P.underlying ty = some d) (hd : (match d with | .struct _ | .array _ _ => true | _ => false) = true) (hi : (P.info? ty).map (·.size) = some cs.size) :
    (results fn tmps).run P w = .ok (.tuple #[tmps.getD u undef, .agg cs]) w := by
  have hp' : tmps[p]?.getD undef = .pointer (some ⟨g, 0, none⟩) := by simpa using hp
  simp [results, h, hp', asAddr, run_loadVar_row w g t ty cs fr d hg hu hd hi, Sem.run_bind, Result.andThen]
theorem PDr.put3 {w : World} {lo d R : Nat} {B : Option Addr} {ps : List Pty} (h : PDr w lo B d ps) (hR : R < lo) (a b e : Value) :
    PDr (((w.setCell ⟨R, 0, none⟩ a).setCell ⟨R, 1, none⟩ b).setCell ⟨R, 2, none⟩ e) lo B d ps :=
  ⟨h.1, ownsRow_setCell_below (ownsRow_setCell_below (ownsRow_setCell_below h.2.1 (a := ⟨R, 0, none⟩) hR a) (a := ⟨R, 1, none⟩) hR b) (a := ⟨R, 2, none⟩) hR e, h.2.2⟩
theorem below_put3 {n R : Nat} {w W : World} (h : Below n w W) (hR : n ≤ R) (a b e : Value) : Below n w (((W.setCell ⟨R, 0, none⟩ a).setCell ⟨R, 1, none⟩ b).setCell ⟨R, 2, none⟩ e) :=
  ((h.setCell (p := ⟨R, 0, none⟩) hR _).setCell (p := ⟨R, 1, none⟩) hR _).setCell (p := ⟨R, 2, none⟩) hR _
set_option maxHeartbeats 1000000 in
theorem drawPP (A : Option Addr) (c : Nat) (bs : List Int) (w : World) (h : Code0 w A bs) : Calls Tryd.prog 37 #[.slice A bs.length c] w (DrawnPP w) := by
  have h0 := heap_alloc_new w (.cells #[.string ⟨#[]⟩, .int .i64 0, .string ⟨#[]⟩] 35)
  have b0 := below_alloc w (.cells #[.string ⟨#[]⟩, .int .i64 0, .string ⟨#[]⟩] 35)
  have hsz : (w.alloc (.cells #[.string ⟨#[]⟩, .int .i64 0, .string ⟨#[]⟩] 35)).heap.size = w.heap.size + 1 := by simp
  have hc := h.below b0
  go_enter Tryd.func37, Tryd.ntmps37
  go_wp2_with fail
  refine (code_from A c bs _ hc).mono ?_
  rintro e w1 ⟨g, rfl, s1, b1⟩
  have hg := s1.lt
  have hRg : w.heap.size < g := by have := s1.1; omega
  have k1 := (b1.block _ (lt_ofs h0)).trans h0
  have t1 := belowGo b0 b1
  have hw1 : w.heap.size < w1.heap.size := by omega
  clear h0 b1 b0 hc h
  go_wp2_with fail
  refine (draw_pd g _ A c bs _ s1).mono ?_
  rintro e w2 ⟨B, d, ps, rfl, d2, s2, g2⟩
  go_wp2_with fail
  refine (party_any g _ A c bs _ s2).mono ?_
  rintro e w3 ⟨q, rfl, l3, s3, g3⟩
  have d3 := d2.src g3 hg
  have G := g2.trans g3
  have hR3 := keepG G k1 (by omega)
  have hb3 : Below w.heap.size w w3 := src_below t1 G (by omega)
  have hD := Lib.hid ((d3.put3 (R := w.heap.size) hw1 (.string ⟨q.c.toArray⟩) (.int .i64 q.k) (.string ⟨q.a.toArray⟩)).low t1.size)
  have hB := Lib.hid (below_put3 hb3 (Nat.le_refl _) (.string ⟨q.c.toArray⟩) (.int .i64 q.k) (.string ⟨q.a.toArray⟩))
  have hE := Lib.hid (store3 hR3 (.string ⟨q.c.toArray⟩) (.int .i64 q.k) (.string ⟨q.a.toArray⟩))
  obtain ⟨r0, r1, r2, f0, f1, f2⟩ := row3_at hR3
  clear d3 G hR3 hb3 k1 t1 d2 s3 g3 g2 s2 s1 hsz
  go_wp2_with fail
  refine bodyPost_ret (v := .tuple #[.slice B ps.length d, .agg #[.string ⟨q.c.toArray⟩, .int .i64 q.k, .string ⟨q.a.toArray⟩]]) ?_ ?_ ?_
  · exact results_tmp_cell_row (p := 3) (u := 2) rfl _ _ w.heap.size 35 _ (0, 0) _ rfl hE.out Tryd.underlying35 rfl ptySz
  · rfl
  · exact ⟨B, d, ps, q, rfl, hD.out, l3.dq, hB.out⟩
set_option maxRecDepth 100000 in
set_option maxHeartbeats 2000000 in
theorem drawPC (A : Option Addr) (c : Nat) (bs : List Int) (w : World) (h : Code0 w A bs) : Calls Tryd.prog 38 #[.slice A bs.length c] w (DrawnPC w) := by
  go_enter Tryd.func38, Tryd.ntmps38
  go_wp2_with fail
  refine (code_from A c bs _ h).mono ?_
  rintro e w1 ⟨g, rfl, s1, b1⟩
  have hg := s1.lt
  go_wp2_with fail
  refine (draw_pd g _ A c bs _ s1).mono ?_
  rintro e w2 ⟨B, d, ps, rfl, d2, s2, g2⟩
  have h40 : ps.length ≤ 40 := d2.1
  by_cases hp : 0 < ps.length
  · go_wp2_with fail
    refine (next_any g _ _ A c bs _ s2 (by omega)).mono ?_
    rintro e w3 ⟨r, rfl, a3, e3, s3, g3⟩
    have d3 := d2.src g3 hg
    have G3 := g2.trans g3
    by_cases hr : r = 0
    · subst hr
      obtain ⟨b, off, rfl⟩ : ∃ b off, B = some ⟨b, off, none⟩ := by
        rcases d3.tblC.adr with ⟨_, h2⟩ | h2
        · have := d3.tblC.cap; omega
        · exact h2
      have HN := Lib.hid (fun (W : World) (e : W.heap = w3.heap) => next_any g (ps.length : Int) w.heap.size A c bs W (s3.same e) (by omega))
      go_wp2_with fail
      go_region_with (go_at_call 68; (refine (HN.out _ (by rfl)).mono ?_); (rintro e w4 ⟨r4, rfl, a4, e4, s4, g4⟩); (obtain ⟨q, rfl⟩ := Int.eq_ofNat_of_zero_le a4); (have hq : q < ps.length := by omega); (have g4' : w3.grownBy w4 (some g) := ⟨g4.os, g4.tape, g4.output, g4.size, g4.block⟩); (have d4 := d3.src g4' hg); (obtain ⟨b', off', p, hbo, hl, hp, hp4⟩ := d4.tbl.row.at hq); (obtain ⟨rfl, rfl⟩ : b = b' ∧ off = off' := by injection hbo with h; injection h with h1 h2; exact ⟨h1, h2⟩); (have c0 := hp4.c0); (have hpl := d4.2.2 p (List.mem_of_getElem? hp.out)))
      all_goals
        have d5 := d4.low b1.size
        have bF := src_below b1 (G3.trans g4') s1.1
        go_wp2_with fail
        refine bodyPost_ret (v := .tuple #[.slice (some ⟨b, off, none⟩) ps.length d, .string ⟨p.c.toArray⟩]) (by simp [results, Tryd.results38, go_sem, Act.put]) rfl ?_
        exact ⟨some ⟨b, off, none⟩, d, ps, p.c, rfl, d5, hpl.1, bF⟩
    · have e0 : (r == 0) = false := beq_eq_false_iff_ne.2 hr
      go_wp2_with fail
      refine (code_any g _ A c bs _ s3).mono ?_
      rintro e w4 ⟨s, rfl, hs, s4, g4⟩
      have d4 := (d3.src g4 hg).low b1.size
      go_wp2_with fail
      refine bodyPost_ret (v := .tuple #[.slice B ps.length d, .string ⟨s.toArray⟩]) (by simp [results, Tryd.results38, go_sem]) rfl ?_
      exact ⟨B, d, ps, s, rfl, d4, hs, src_below b1 (G3.trans g4) s1.1⟩
  · go_wp2_with fail
    refine (code_any g _ A c bs _ s2).mono ?_
    rintro e w4 ⟨s, rfl, hs, s4, g4⟩
    have d4 := (d2.src g4 hg).low b1.size
    go_wp2_with fail
    refine bodyPost_ret (v := .tuple #[.slice B ps.length d, .string ⟨s.toArray⟩]) (by simp [results, Tryd.results38, go_sem]) rfl ?_
    exact ⟨B, d, ps, s, rfl, d4, hs, src_below b1 (g2.trans g4) s1.1⟩
end Go.Proofs.YtjgagiigpijaiaaDoor
