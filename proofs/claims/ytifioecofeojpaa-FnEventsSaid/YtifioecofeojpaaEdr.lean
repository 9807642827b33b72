/- The draws of FnEvents: the arguments of its functions. -/
import Derived.Test.YtifioecofeojpaaEdw
import Derived.Test.YtifioecofeojpaaMDia
import Derived.Test.YtifioecofeojpaaFit
namespace Go.Proofs.Ytifioecofeojpaa
open Go.ChangeShapes Go.WideShapes Go.ChangeAt Go.RowKit
set_option linter.unusedVariables false

theorem EDr.low {w : World} {lo lo' d : Nat} {B : Option Addr} {ps : List Evt} (h : EDr w lo B d ps) (hl : lo' ≤ lo) : EDr w lo' B d ps := ⟨h.1, EvtO.mono h.2.1 hl, h.2.2⟩
theorem EDr.src {w w' : World} {lo g d : Nat} {B : Option Addr} {ps : List Evt} (h : EDr w lo B d ps) (hg : w.grownBy w' (some g)) (hl : g < lo) : EDr w' lo B d ps := ⟨h.1, own_srcE h.2.1 hg hl, h.2.2⟩
theorem EDr.below {w w' : World} {lo d : Nat} {B : Option Addr} {ps : List Evt} (h : EDr w lo B d ps) (hb : Below w.heap.size w w') : EDr w' lo B d ps := ⟨h.1, h.2.1.below hb, h.2.2⟩
theorem EDr.tbl {w : World} {lo d : Nat} {B : Option Addr} {ps : List Evt} (h : EDr w lo B d ps) : ETblC w B d ps :=
  etbl_of h.2.1 (fun p hp => sz_deq (h.2.2 p hp)) (by have := h.1; omega)
theorem IDr.tblE {w : World} {lo d : Nat} {B : Option Addr} {ps : List Ist} (h : IDr w lo B d ps) : ITbl w B ps :=
  ⟨h.2.2.1.row, fun p hp => by have := (h.2.2.2 p hp).1; have := (h.2.2.2 p hp).2.1; unfold Ist.sz; omega, Nat.le_trans h.2.1 (by decide)⟩
theorem IDr.belowE {w w' : World} {lo d : Nat} {B : Option Addr} {ps : List Ist} (h : IDr w lo B d ps) (hb : Below w.heap.size w w') : IDr w' lo B d ps := ⟨h.1, h.2.1, h.2.2.1.below hb, h.2.2.2⟩
theorem IDr.srcE {w w' : World} {lo d g : Nat} {B : Option Addr} {ps : List Ist} (h : IDr w lo B d ps) (hg : w.grownBy w' (some g)) (hl : g < lo) : IDr w' lo B d ps := ⟨h.1, h.2.1, own_srcI h.2.2.1 hg hl, h.2.2.2⟩
theorem IDr.lowE {w : World} {lo lo' d : Nat} {B : Option Addr} {ps : List Ist} (h : IDr w lo B d ps) (hl : lo' ≤ lo) : IDr w lo' B d ps := ⟨h.1, h.2.1, h.2.2.1.mono hl, h.2.2.2⟩
theorem EDr.put7 {w : World} {lo d R : Nat} {B : Option Addr} {ps : List Evt} (h : EDr w lo B d ps) (hR : R < lo) (a b c e f x y : Value) :
    EDr (((((((w.setCell ⟨R, 0, none⟩ a).setCell ⟨R, 1, none⟩ b).setCell ⟨R, 2, none⟩ c).setCell ⟨R, 3, none⟩ e).setCell ⟨R, 4, none⟩ f).setCell ⟨R, 5, none⟩ x).setCell ⟨R, 6, none⟩ y) lo B d ps :=
  ⟨h.1, ownsRow_setCell_below (ownsRow_setCell_below (ownsRow_setCell_below (ownsRow_setCell_below (ownsRow_setCell_below (ownsRow_setCell_below (ownsRow_setCell_below h.2.1 (a := ⟨R, 0, none⟩) hR a) (a := ⟨R, 1, none⟩) hR b) (a := ⟨R, 2, none⟩) hR c) (a := ⟨R, 3, none⟩) hR e) (a := ⟨R, 4, none⟩) hR f) (a := ⟨R, 5, none⟩) hR x) (a := ⟨R, 6, none⟩) hR y, h.2.2⟩
theorem results_tmp_cell_rowE {P : Program} {fn : Func} {p u : Tmp} {ty : TypeId} (h : fn.results = #[.tmp u, .cell p ty]) (tmps : Array Value) (w : World) (g : Nat) (t : TypeId) (cs : Array Value) (fr : Nat × Nat) (d : TypeDesc)
    (hp : tmps.getD p undef = .pointer (some ⟨g, 0, none⟩)) (hg : w.heap[g]? = some (.cells cs t fr))
    (hu : P.underlying ty = some d) (hd : (match d with | .struct _ | .array _ _ => true | _ => false) = true) (hi : (P.info? ty).map (·.size) = some cs.size) :
    (results fn tmps).run P w = .ok (.tuple #[tmps.getD u undef, .agg cs]) w := by
  have hp' : tmps[p]?.getD undef = .pointer (some ⟨g, 0, none⟩) := by simpa using hp
  simp [results, h, hp', asAddr, run_loadVar_row w g t ty cs fr d hg hu hd hi, Sem.run_bind, Result.andThen]
set_option maxRecDepth 100000 in
set_option maxHeartbeats 2000000 in
theorem fitting_s (A B : Option Addr) (c d : Nat) (ps : List Evt) (ms : List Ist) (w : World) (h : ETbl w A ps) (hM : ITbl w B ms) (hn : ps.length ≤ 16) :
    Calls Try.prog 64 #[.slice A ps.length c, .slice B ms.length d] w (fun e w' => ∃ O q qs, e = .returned (.slice O (List.length qs) q) ∧ EvtO w' w.heap.size O qs.length q qs ∧ qs.length ≤ ps.length ∧ (∀ x ∈ qs, x ∈ ps) ∧ Below w.heap.size w w') := by
  obtain ⟨i0, hi, hz0, hz1, hz2⟩ := info_parts evtInfo
  have HR := Lib.hid h.row
  have HM := Lib.hid hM.row
  have hmn := hM.len
  have H0 : (w.alloc (Obj.cells #[] 26)).ownsRow w.heap.size 26 7 (.slice (some ⟨w.heap.size, 0, none⟩) 0 0) 0 [] := World.ownsRow_made w #[] 0 (Nat.le_refl _) (by decide) (by simp)
  have B0 : Below w.heap.size w (w.alloc (Obj.cells #[] 26)) := below_alloc w _
  clear h hM
  go_enter Try.func64, Try.ntmps64
  go_wp2_with fail
  go_loopw [5, 6] (fun v i wr => ∃ (k : Nat) (O : Option Addr) (q : Nat) (qs : List Evt), k ≤ ps.length ∧ i = .int .i64 k ∧ v = .slice O qs.length q ∧ qs.length ≤ k ∧ Hid (∀ x ∈ qs, x ∈ ps) ∧ EvtO wr w.heap.size O qs.length q qs ∧ Below w.heap.size w wr) (fun _ i _ => ps.length - (intOf i).toNat)
  case atStart => exact ⟨0, some ⟨w.heap.size, 0, none⟩, 0, [], Nat.zero_le _, rfl, rfl, by simp, Lib.hid (by simp), H0, B0⟩
  case round =>
    clear H0 B0
    obtain ⟨k, O, q, qs, hk, rfl, rfl, hq, hin, hown, hb⟩ := hrel
    by_cases hlt : k < ps.length
    · obtain ⟨b, off, p, rfl, hl, hp, h4⟩ := (HR.out.below hb).at hlt
      have c0 := h4.c0; have c1 := h4.c1; have c2 := h4.c2; have c3 := h4.c3; have c4 := h4.c4; have c5 := h4.c5; have c6 := h4.c6
      have HF := Lib.hid (find_sM B d ms p.c wr (HM.out.below hb) (by omega))
      have hmem := Lib.hid (List.mem_of_getElem? hp.out)
      clear h4 hp
      generalize fndIM ms p.c = f at *
      by_cases hf : 0 ≤ f
      · go_wp2_with (first
          | (go_at_call 88; refine HF.out.mono ?_; rintro e w1 ⟨rfl, rfl⟩)
          | (at_builtin; refine wpList_push _ rfl (.tmp 22) (.tmp 27) 24 rfl w.heap.size 26 i0 _ 7 48 Try.underlying24 hi hz0 hz1 hz2 rfl (by decide) (.slice O qs.length q) qs.length _ rfl hown [.int .i64 p.d, .int .i64 p.k, .string ⟨p.c.toArray⟩, .int .i64 p.a, .bool p.p, .bool p.v, .bool p.r] rfl (by simp [Value.oneCell']) rfl (by unfold maxLen; omega) (by omega) hb.size ?_; intro v' w' hown' hb'))
        obtain ⟨B', d', rfl⟩ := own_form hown'
        go_wp2_with fail
        go_roundw
        case rel => exact ⟨k + 1, B', d', qs ++ [p], by omega, by go_num, by simp, by simp; omega, Lib.hid (by
            intro x hx
            rcases List.mem_append.1 hx with h2 | h2
            · exact hin.out x h2
            · rw [List.mem_singleton.1 h2]; exact hmem.out), by simpa [EvtO, Evt.cells] using hown', hb.trans hb'⟩
        case measure => simp [intOf]; omega
      · go_wp2_with (go_at_call 88; refine HF.out.mono ?_; rintro e w1 ⟨rfl, rfl⟩)
        go_roundw
        case rel => exact ⟨k + 1, O, q, qs, by omega, by go_num, rfl, by omega, hin, hown, hb⟩
        case measure => simp [intOf]; omega
    · go_wp2_with fail
      go_ret
      exact ⟨O, q, qs, rfl, hown, by omega, hin.out, hb⟩
theorem ddayE_any (g : Nat) (base : Nat) (A : Option Addr) (c : Nat) (bs : List Int) (w : World) (h : Src w base g A c bs) :
    Calls Try.prog 53 #[.pointer (some ⟨g, 0, none⟩)] w (Drew w base g A c bs (-1) 36525) := by
  go_enter Try.func53, Try.ntmps53
  go_wp2_with fail
  refine (next_any g _ base A c bs _ h (by omega)).mono ?_
  rintro e w1 ⟨r1, rfl, a1, b1, h1, g1⟩
  go_wp2_with fail
  refine (next_any g _ base A c bs _ h1 (by omega)).mono ?_
  rintro e w2 ⟨r2, rfl, a2, b2, h2, g2⟩
  go_wp2_with fail
  refine (next_any g _ base A c bs _ h2 (by omega)).mono ?_
  rintro e w3 ⟨r3, rfl, a3, b3, h3, g3⟩
  go_wp2_with fail
  refine (day_any g base A c bs _ h3).mono ?_
  rintro e w4 ⟨r4, rfl, a4, b4, h4, g4⟩
  go_wp2_with fail
  refine (pick_new g 4 [20000 + r1, 20000 + r2, 20000 + r3, r4] (-1) 36525 base A c bs w4 h4 rfl (by omega) (by omega) ?_).mono ?_
  · intro x hx
    simp only [List.mem_cons, List.not_mem_nil, or_false] at hx
    omega
  rintro e w7 ⟨r7, rfl, a7, b7, h7, g7⟩
  go_wp2_with fail
  go_ret
  exact ⟨r7, rfl, a7, b7, h7, (((g1.trans g2).trans g3).trans g4).trans g7⟩
set_option maxRecDepth 100000 in
set_option maxHeartbeats 2000000 in
theorem drawTK (A : Option Addr) (c : Nat) (bs : List Int) (w : World) (h : Code0 w A bs) :
    Calls Try.prog 21 #[.slice A bs.length c] w (fun e w' => ∃ B d ps, e = .returned (.slice B (List.length ps) d) ∧ EDr w' w.heap.size B d ps ∧ Below w.heap.size w w') := by
  go_enter Try.func21, Try.ntmps21
  go_wp2_with fail
  refine (code_from A c bs _ h).mono ?_
  rintro e w1 ⟨g, rfl, s1, b1⟩
  go_wp2_with fail
  refine (draw_e g _ A c bs _ s1).mono ?_
  rintro e w2 ⟨B, d, ps, rfl, d2, s2, g2⟩
  have hb := src_below b1 g2 s1.1
  have d3 := d2.low b1.size
  clear d2
  go_wp2_with fail
  go_ret
  exact ⟨B, d, ps, rfl, d3, hb⟩
set_option maxRecDepth 100000 in
set_option maxHeartbeats 2000000 in
theorem drawEO (A : Option Addr) (c : Nat) (bs : List Int) (w : World) (h : Code0 w A bs) :
    Calls Try.prog 18 #[.slice A bs.length c] w (fun e w' => ∃ B d ps s, e = .returned (.tuple #[.slice B (List.length ps) d, .string ⟨(s : List UInt8).toArray⟩]) ∧ s.length ≤ 7 ∧ EDr w' w.heap.size B d ps ∧ Below w.heap.size w w') := by
  go_enter Try.func18, Try.ntmps18
  go_wp2_with fail
  refine (code_from A c bs _ h).mono ?_
  rintro e w1 ⟨g, rfl, s1, b1⟩
  have hg := s1.lt
  go_wp2_with fail
  refine (draw_e g _ A c bs _ s1).mono ?_
  rintro e w2 ⟨B, d, ps, rfl, d2, s2, g2⟩
  go_wp2_with fail
  refine (codeE_any g _ A c bs _ s2).mono ?_
  rintro e w3 ⟨s, rfl, sl, s3, g3⟩
  have d3 := (d2.src g3 hg).low b1.size
  have hb := src_below b1 (g2.trans g3) s1.1
  clear d2
  go_wp2_with fail
  go_ret2
  exact ⟨B, d, ps, s, rfl, sl, d3, hb⟩
set_option maxRecDepth 100000 in
set_option maxHeartbeats 2000000 in
theorem drawEB (A : Option Addr) (c : Nat) (bs : List Int) (w : World) (h : Code0 w A bs) :
    Calls Try.prog 15 #[.slice A bs.length c] w (fun e w' => ∃ B d ps f t, e = .returned (.tuple #[.slice B (List.length ps) d, .int .i64 f, .int .i64 t]) ∧ (-1 ≤ f ∧ f ≤ 36525) ∧ (-1 ≤ t ∧ t ≤ 36525) ∧ EDr w' w.heap.size B d ps ∧ Below w.heap.size w w') := by
  go_enter Try.func15, Try.ntmps15
  go_wp2_with fail
  refine (code_from A c bs _ h).mono ?_
  rintro e w1 ⟨g, rfl, s1, b1⟩
  have hg := s1.lt
  go_wp2_with fail
  refine (draw_e g _ A c bs _ s1).mono ?_
  rintro e w2 ⟨B, d, ps, rfl, d2, s2, g2⟩
  go_wp2_with fail
  refine (ddayE_any g _ A c bs _ s2).mono ?_
  rintro e w3 ⟨f, rfl, f0, f1, s3, g3⟩
  go_wp2_with fail
  refine (ddayE_any g _ A c bs _ s3).mono ?_
  rintro e w4 ⟨t, rfl, t0, t1, s4, g4⟩
  have G := g3.trans g4
  have d3 := (d2.src G hg).low b1.size
  have hb := src_below b1 (g2.trans G) s1.1
  clear d2
  go_wp2_with fail
  go_ret3
  exact ⟨B, d, ps, f, t, rfl, ⟨f0, f1⟩, ⟨t0, t1⟩, d3, hb⟩
set_option maxRecDepth 100000 in
set_option maxHeartbeats 2000000 in
theorem drawAE (A : Option Addr) (c : Nat) (bs : List Int) (w : World) (h : Code0 w A bs) :
    Calls Try.prog 12 #[.slice A bs.length c] w (fun e w' => ∃ B d ps q, e = .returned (.tuple #[.slice B (List.length ps) d, .agg #[.int .i64 (q : Evt).d, .int .i64 q.k, .string ⟨q.c.toArray⟩, .int .i64 q.a, .bool q.p, .bool q.v, .bool q.r]]) ∧ Deq q ∧ EDr w' w.heap.size B d ps ∧ Below w.heap.size w w') := by
  have kb := KeepE.new w ⟨0, 0, [], 0, false, false, false⟩
  go_enter Try.func12, Try.ntmps12
  go_wp2_with fail
  refine (code_from A c bs _ (h.below kb.bel)).mono ?_
  rintro e w1 ⟨g, rfl, s1, b1⟩
  have hg := s1.lt
  have hRg : w.heap.size < g := by have := s1.1; simp only [World.size_alloc] at this; omega
  have kb1 := kb.step b1
  clear kb b1
  go_wp2_with fail
  refine (draw_e g _ A c bs _ s1).mono ?_
  rintro e w2 ⟨B, d, ps, rfl, d2, s2, g2⟩
  go_wp2_with fail
  refine (event_any g _ A c bs _ s2).mono ?_
  rintro e w3 ⟨q, rfl, hq, s3, g3⟩
  have d3 := d2.src g3 hg
  have G := g2.trans g3
  have hR3 : RowE w3 w.heap.size _ _ _ _ _ _ _ := keepG G kb1.a (by omega)
  have hb3 : Below w.heap.size w w3 := src_below kb1.bel G (by omega)
  obtain ⟨c0, c1, c2, c3, c4, c5, c6, f0, f1, f2, f3, f4, f5, f6⟩ := celE hR3
  obtain ⟨W5, hW5, hR5, bl5⟩ := putE hR3 (.int .i64 q.d) (.int .i64 q.k) (.string ⟨q.c.toArray⟩) (.int .i64 q.a) (.bool q.p) (.bool q.v) (.bool q.r)
  have hD := (d3.put7 (R := w.heap.size) (by omega) (.int .i64 q.d) (.int .i64 q.k) (.string ⟨q.c.toArray⟩) (.int .i64 q.a) (.bool q.p) (.bool q.v) (.bool q.r)).low kb1.bel.size
  rw [hW5] at hD
  have hB : Below w.heap.size w W5 := hb3.trans (bl5 _ (Nat.le_refl _))
  have HD := Lib.hid hD; have HB := Lib.hid hB; have HE := Lib.hid hR5
  clear d3 G hR3 hb3 kb1 d2 s3 g3 g2 s2 s1 hD hB hR5 bl5
  go_wp2_with fail
  try rw [hW5]
  refine bodyPost_ret (v := .tuple #[.slice B ps.length d, .agg #[.int .i64 q.d, .int .i64 q.k, .string ⟨q.c.toArray⟩, .int .i64 q.a, .bool q.p, .bool q.v, .bool q.r]]) ?_ ?_ ?_
  · exact results_tmp_cell_rowE (p := 3) (u := 2) rfl _ _ w.heap.size 26 _ (0, 0) _ rfl HE.out Try.underlying26 rfl evtSz
  · rfl
  · exact ⟨B, d, ps, q, rfl, hq, HD.out, HB.out⟩
set_option maxRecDepth 100000 in
set_option maxHeartbeats 2000000 in
theorem drawDF (A : Option Addr) (c : Nat) (bs : List Int) (w : World) (h : Code0 w A bs) :
    Calls Try.prog 24 #[.slice A bs.length c] w (fun e w' => ∃ B d ps C m ms, e = .returned (.tuple #[.slice B (List.length ps) d, .slice C (List.length ms) m]) ∧ EDr w' w.heap.size B d ps ∧ IDr w' w.heap.size C m ms ∧ Below w.heap.size w w') := by
  go_enter Try.func24, Try.ntmps24
  go_wp2_with fail
  refine (code_from A c bs _ h).mono ?_
  rintro e w1 ⟨g, rfl, s1, b1⟩
  have hg := s1.lt
  go_wp2_with fail
  refine (draw_e g _ A c bs _ s1).mono ?_
  rintro e w2 ⟨B, d, ps, rfl, d2, s2, g2⟩
  have hg2 := s2.lt
  go_wp2_with fail
  refine (draw_id g _ A c bs _ s2).mono ?_
  rintro e w3 ⟨C, m, ms, rfl, m3, s3, g3⟩
  go_wp2_with fail
  refine (next_any g _ _ A c bs _ s3 (by omega)).mono ?_
  rintro e w4 ⟨r, rfl, ra, rb, s4, g4⟩
  have d4 := (d2.src (g3.trans g4) hg).low b1.size
  have m4 := (m3.srcE g4 hg2).lowE (Nat.le_trans b1.size g2.size)
  have hb := src_below b1 ((g2.trans g3).trans g4) s1.1
  clear d2 m3 s1 s2 s3 s4 g2 g3 g4
  by_cases hr : r = 0
  · subst hr
    go_wp2_with fail
    refine (fitting_s B C d m ps ms _ d4.tbl.tbl m4.tblE d4.1).mono ?_
    rintro e w5 ⟨O, q, qs, rfl, o5, ql, hin, b5⟩
    have o6 := o5.mono hb.size
    have m6 := m4.belowE b5
    have b6 := belowGo hb b5
    have hq : qs.length ≤ 16 := by have := d4.1; omega
    have hdq : ∀ x ∈ qs, Deq x := fun x hx => d4.2.2 x (hin x hx)
    clear o5 m4 d4 b5 hb hin
    go_wp2_with fail
    go_ret2
    exact ⟨O, q, qs, C, m, ms, rfl, ⟨hq, o6, hdq⟩, m6, b6⟩
  · have hr0 : (r == 0) = false := beq_eq_false_iff_ne.2 hr
    go_wp2_with fail
    go_ret2
    exact ⟨B, d, ps, C, m, ms, rfl, d4, m4, hb⟩
end Go.Proofs.Ytifioecofeojpaa
