import Derived.Test.YtjcklmhgjdmjoaaDra
import Derived.Test.YtjcklmhgjdmjoaaMDre
import Derived.Laws.ResultCell
import Derived.Test.YtjcklmhgjdmjoaaMElk
import Derived.Test.YtjcklmhgjdmjoaaDel
import Derived.Test.YtjcklmhgjdmjoaaEwh
/- The draws of chapter 11: a rulebook and an event, a rulebook and a log, with a number. -/
namespace Go.Proofs.Ytjcklmhgjdmjoaa
open Go.ChangeShapes Go.WideShapes Go.ChangeAt Go.RowKit
set_option linter.unusedVariables false

theorem results_tmp_cell_rowE {P : Program} {fn : Func} {p u : Tmp} {ty : TypeId} (h : fn.results = #[.tmp u, .cell p ty]) (tmps : Array Value) (w : World) (g : Nat) (t : TypeId) (cs : Array Value) (fr : Nat × Nat) (d : TypeDesc)
    (hp : tmps.getD p undef = .pointer (some ⟨g, 0, none⟩)) (hg : w.heap[g]? = some (.cells cs t fr))
    (hu : P.underlying ty = some d) (hd : (match d with | .struct _ | .array _ _ => true | _ => false) = true) (hi : (P.info? ty).map (·.size) = some cs.size) :
    (results fn tmps).run P w = .ok (.tuple #[tmps.getD u undef, .agg cs]) w := by
  have hp' : tmps[p]?.getD undef = .pointer (some ⟨g, 0, none⟩) := by simpa using hp
  simp [results, h, hp', asAddr, run_loadVar_row w g t ty cs fr d hg hu hd hi, Sem.run_bind, Result.andThen]
theorem EDr.low {w : World} {lo lo' d : Nat} {B : Option Addr} {ps : List Evt} (h : EDr w lo B d ps) (hl : lo' ≤ lo) : EDr w lo' B d ps := ⟨h.1, EvtO.mono h.2.1 hl, h.2.2⟩
theorem EDr.src {w w' : World} {lo g d : Nat} {B : Option Addr} {ps : List Evt} (h : EDr w lo B d ps) (hg : w.grownBy w' (some g)) (hl : g < lo) : EDr w' lo B d ps := ⟨h.1, own_srcE h.2.1 hg hl, h.2.2⟩
theorem EDr.below {w w' : World} {lo d : Nat} {B : Option Addr} {ps : List Evt} (h : EDr w lo B d ps) (hb : Below w.heap.size w w') : EDr w' lo B d ps := ⟨h.1, h.2.1.below hb, h.2.2⟩
theorem EDr.tbl {w : World} {lo d : Nat} {B : Option Addr} {ps : List Evt} (h : EDr w lo B d ps) : ETblC w B d ps :=
  etbl_of h.2.1 (fun p hp => sz_deq (h.2.2 p hp)) (by have := h.1; omega)
theorem ClsO.putE {w w' : World} {base k : Nat} {A : Option Addr} {n c : Nat} {ps : List Cls} (h : ClsO w base A n c ps) (hk : k < base) (v0 v1 v2 v3 v4 v5 v6 : Value)
    (hw : (((((((w.setCell ⟨k, 0, none⟩ v0).setCell ⟨k, 1, none⟩ v1).setCell ⟨k, 2, none⟩ v2).setCell ⟨k, 3, none⟩ v3).setCell ⟨k, 4, none⟩ v4).setCell ⟨k, 5, none⟩ v5).setCell ⟨k, 6, none⟩ v6) = w') : ClsO w' base A n c ps := by
  subst hw
  exact ownsRow_setCell_below (ownsRow_setCell_below (ownsRow_setCell_below (ownsRow_setCell_below (ownsRow_setCell_below (ownsRow_setCell_below (ownsRow_setCell_below h (a := ⟨k, 0, none⟩) hk _) (a := ⟨k, 1, none⟩) hk _) (a := ⟨k, 2, none⟩) hk _) (a := ⟨k, 3, none⟩) hk _) (a := ⟨k, 4, none⟩) hk _) (a := ⟨k, 5, none⟩) hk _) (a := ⟨k, 6, none⟩) hk _
set_option maxRecDepth 100000 in
set_option maxHeartbeats 4000000 in
theorem drawDE (A : Option Addr) (c : Nat) (bs : List Int) (w : World) (h : Code0 w A bs) :
    Calls Try.prog 14 #[.slice A bs.length c] w (fun e w' => ∃ B d ps q, e = .returned (.tuple #[.slice B (List.length ps) d, .agg #[.int .i64 (q : Evt).d, .int .i64 q.k, .string ⟨q.c.toArray⟩, .int .i64 q.a, .bool q.p, .bool q.v, .bool q.r]]) ∧ Deq q ∧ ps.length ≤ 30 ∧ (∀ p ∈ ps, p.sz ≤ 100) ∧ ClsO w' w.heap.size B ps.length d ps ∧ Below w.heap.size w w') := by
  have kb := KeepE.new w ⟨0, 0, [], 0, false, false, false⟩
  go_enter Try.func14, Try.ntmps14
  go_wp2_with fail
  refine (code_from A c bs _ (h.below kb.bel)).mono ?_
  rintro e w1 ⟨g, rfl, s1, b1⟩
  have hg := s1.lt
  have hRg : w.heap.size < g := by have := s1.1; simp only [World.size_alloc] at this; omega
  have kb1 := kb.step b1
  clear kb b1
  go_wp2_with fail
  refine (draw_c g _ A c bs _ s1).mono ?_
  rintro e w2 ⟨B, d, ps, rfl, hp30, d2, htx, s2, g2⟩
  go_wp2_with fail
  refine (event_any g _ A c bs _ s2).mono ?_
  rintro e w3 ⟨q, rfl, hq, s3, g3⟩
  have d3 := own_srcC d2 g3 hg
  have G := g2.trans g3
  have hR3 : RowE w3 w.heap.size _ _ _ _ _ _ _ := keepG G kb1.a (by omega)
  have hb3 : Below w.heap.size w w3 := src_below kb1.bel G (by omega)
  obtain ⟨c0, c1, c2, c3, c4, c5, c6, f0, f1, f2, f3, f4, f5, f6⟩ := celE hR3
  obtain ⟨W5, hW5, hR5, bl5⟩ := putE hR3 (.int .i64 q.d) (.int .i64 q.k) (.string ⟨q.c.toArray⟩) (.int .i64 q.a) (.bool q.p) (.bool q.v) (.bool q.r)
  have hD : ClsO W5 w.heap.size B ps.length d ps := (ClsO.putE d3 (by omega) _ _ _ _ _ _ _ hW5).mono (by have := kb1.bel.size; omega)
  have hB : Below w.heap.size w W5 := hb3.trans (bl5 _ (Nat.le_refl _))
  have HD := Lib.hid hD; have HB := Lib.hid hB; have HE := Lib.hid hR5
  clear d3 G hR3 hb3 kb1 d2 s3 g3 g2 s2 s1 hD hB hR5 bl5
  go_wp2_with fail
  try rw [hW5]
  refine bodyPost_ret (v := .tuple #[.slice B ps.length d, .agg #[.int .i64 q.d, .int .i64 q.k, .string ⟨q.c.toArray⟩, .int .i64 q.a, .bool q.p, .bool q.v, .bool q.r]]) ?_ ?_ ?_
  · exact results_tmp_cell_rowE (p := 3) (u := 2) rfl _ _ w.heap.size 26 _ (0, 0) _ rfl HE.out Try.underlying26 rfl evtSz
  · rfl
  · exact ⟨B, d, ps, q, rfl, hq, hp30, htx, HD.out, HB.out⟩
def NewLW (w : World) (e : Ending) (w' : World) : Prop :=
  ∃ B d ps C f es, e = .returned (.tuple #[.slice B (List.length ps) d, .slice C (List.length es) f]) ∧ ps.length ≤ 30 ∧ (∀ p ∈ ps, p.sz ≤ 100) ∧ ClsO w' w.heap.size B ps.length d ps ∧ EDr w' w.heap.size C f es ∧ Below w.heap.size w w'
set_option maxRecDepth 100000 in
set_option maxHeartbeats 4000000 in
theorem draw11 (A : Option Addr) (c : Nat) (bs : List Int) (w : World) (h : Code0 w A bs) :
    Calls Try.prog 74 #[.slice A bs.length c] w (NewLW w) := by
  go_enter Try.func74, Try.ntmps74
  go_wp2_with fail
  refine (code_from A c bs _ h).mono ?_
  rintro e w1 ⟨g, rfl, s1, b1⟩
  have hg := s1.lt
  go_wp2_with fail
  refine (draw_c g _ A c bs _ s1).mono ?_
  rintro e w2 ⟨B, d, ps, rfl, hp30, d2, htx, s2, g2⟩
  go_wp2_with fail
  refine (draw_e g _ A c bs _ s2).mono ?_
  rintro e w3 ⟨C, f, es, rfl, d3, s3, g3⟩
  have d4 := ClsO.mono (own_srcC d2 g3 hg) b1.size
  have d5 := d3.low (Nat.le_trans b1.size g2.size)
  have hb := src_below b1 (g2.trans g3) s1.1
  clear d2 d3 s2 s3 g2 g3
  go_wp2_with fail
  go_ret2
  exact ⟨B, d, ps, C, f, es, rfl, hp30, htx, d4, d5, hb⟩
theorem drawDL (A : Option Addr) (c : Nat) (bs : List Int) (w : World) (h : Code0 w A bs) :
    Calls Try.prog 17 #[.slice A bs.length c] w (NewLW w) := by
  have HC := Lib.hid (draw11 A c bs w h)
  clear h
  go_enter Try.func17, Try.ntmps17
  go_wp2_with fail
  refine HC.out.mono ?_
  rintro e w1 ⟨B, d, ps, C, f, es, rfl, R⟩
  have HR := Lib.hid R
  clear R
  go_wp2_with fail
  go_ret2
  exact ⟨B, d, ps, C, f, es, rfl, HR.out⟩
set_option maxRecDepth 100000 in
set_option maxHeartbeats 4000000 in
theorem drawEW (A : Option Addr) (c : Nat) (bs : List Int) (w : World) (h : Code0 w A bs) :
    Calls Try.prog 26 #[.slice A bs.length c] w (fun e w' => ∃ B d ps C f es n, e = .returned (.tuple #[.slice B (List.length ps) d, .slice C (List.length es) f, .int .i64 n]) ∧ (-1 ≤ n ∧ n ≤ 4) ∧ ps.length ≤ 30 ∧ (∀ p ∈ ps, p.sz ≤ 100) ∧ ClsO w' w.heap.size B ps.length d ps ∧ EDr w' w.heap.size C f es ∧ Below w.heap.size w w') := by
  have HC := Lib.hid (fun W (b : Below w.heap.size w W) => draw11 A c bs W (h.below b))
  go_enter Try.func26, Try.ntmps26
  go_wp2_with fail
  refine (code_from A c bs _ h).mono ?_
  rintro e w1 ⟨g, rfl, s1, b1⟩
  have hg := s1.lt
  have hbs := b1.size
  have hbg := s1.1
  go_wp2_with fail
  refine (HC.out _ b1).mono ?_
  rintro e w2 ⟨B, d, ps, C, f, es, rfl, hp30, htx, D2, E2, b2⟩
  have s2 := s1.keep (b2.mono hg)
  have t2 := belowGo b1 b2
  clear s1
  go_wp2_with fail
  refine (next_any g 5 _ A c bs _ s2 (by omega)).mono ?_
  rintro e w3 ⟨r, rfl, r0, r1, s3, g3⟩
  have D3 := ClsO.mono (own_srcC D2 g3 hg) hbs
  have E3 := (E2.src g3 hg).low hbs
  have hb := src_below t2 g3 hbg
  clear D2 E2 s2 s3
  go_wp2_with fail
  try rw [IntWalk.i64_in _ (by omega)]
  go_ret3
  exact ⟨B, d, ps, C, f, es, _, rfl, by omega, hp30, htx, D3, E3, hb⟩
end Go.Proofs.Ytjcklmhgjdmjoaa

/- The law FnDecisions. (by gen_fnd.py) -/
namespace Go.Proofs.Ytjcklmhgjdmjoaa
open Go.ChangeShapes Go.WideShapes Go.ChangeAt Go.RowKit
set_option linter.unusedVariables false

theorem keepHD {w w' : World} {k : Nat} {o : Obj} (hb : Below w.heap.size w w') (h : w.heap[k]? = some o) : w'.heap[k]? = some o := (hb.block _ (lt_some h)).trans h
theorem two_at {W : World} {k : Nat} {x y : Value} {t : TypeId} (h : W.heap[k]? = some (.cells #[x, y] t (0, 0))) : W.cell? ⟨k, 0, none⟩ = some x ∧ W.cell? ⟨k, 1, none⟩ = some y := ⟨by rw [cell_of_row _ _ _ _ _ _ h]; rfl, by rw [cell_of_row _ _ _ _ _ _ h]; rfl⟩
theorem seven_at {W : World} {k : Nat} {x0 x1 x2 x3 x4 x5 x6 : Value} {t : TypeId} (h : W.heap[k]? = some (.cells #[x0, x1, x2, x3, x4, x5, x6] t (0, 0))) :
    W.cell? ⟨k, 0, none⟩ = some x0 ∧ W.cell? ⟨k, 1, none⟩ = some x1 ∧ W.cell? ⟨k, 2, none⟩ = some x2 ∧ W.cell? ⟨k, 3, none⟩ = some x3 ∧ W.cell? ⟨k, 4, none⟩ = some x4 ∧ W.cell? ⟨k, 5, none⟩ = some x5 ∧ W.cell? ⟨k, 6, none⟩ = some x6 :=
  ⟨by rw [cell_of_row _ _ _ _ _ _ h]; rfl, by rw [cell_of_row _ _ _ _ _ _ h]; rfl, by rw [cell_of_row _ _ _ _ _ _ h]; rfl, by rw [cell_of_row _ _ _ _ _ _ h]; rfl, by rw [cell_of_row _ _ _ _ _ _ h]; rfl, by rw [cell_of_row _ _ _ _ _ _ h]; rfl, by rw [cell_of_row _ _ _ _ _ _ h]; rfl⟩
/-- What the law asks of a decided log. -/
structure LogF (rs : List Cls) (es : List Evt) (L : List Dcn) (T U : List Int) (k7 seven : Int) : Prop where
  rb : rbB rs = true
  lg : logB es = true
  dl : L = es.map (decE rs)
  tr : T = trL rs es
  cu : U = cuL rs es
  lo : ¬ es.length = 0 → k7 = (((lgS rs es es.length).1 : Nat) : Int) ∧ seven = 0
theorem log_facts (rs : List Cls) (es : List Evt) (h : (dlR rs es).2 = 0) : LogF rs es (dlR rs es).1 (trR rs es).1 (cuR rs es).1 (lgR rs es).1 (lgR rs es).2 := by
  unfold dlR at h
  split at h
  · rename_i h1
    rw [dlR_ok h1.1 h1.2, trR_ok h1.1 h1.2, cuR_ok h1.1 h1.2]
    exact ⟨h1.1, h1.2, rfl, rfl, rfl, fun h0 => by rw [lgR_ok h1.1 h1.2 h0]; exact ⟨rfl, rfl⟩⟩
  · cases h
theorem dec_facts (ps : List Cls) (q : Evt) (h : (deR ps q).2 = 0) : rbB ps = true ∧ (deR ps q).1 = decE ps q := by
  unfold deR at h
  split at h
  · rename_i h1; rw [deR_ok h1.1 h1.2]; exact ⟨h1.1, rfl⟩
  · cases h
theorem deR_len11 (ps : List Cls) (q : Evt) : (deR ps q).1.cs.length ≤ 13 := by
  by_cases h : rbB ps = true ∧ q.ok = true
  · rw [deR_ok h.1 h.2]; show (decL ps q).length ≤ 13; rw [decL_len]; exact (chainL_pos (rb_of h.1) q).2
  · unfold deR; rw [if_neg h]; exact Nat.zero_le _
set_option maxRecDepth 100000 in
set_option maxHeartbeats 32000000 in
theorem law_FnDecisions (A : Option Addr) (c : Nat) (bs : List Int) (w : World) (hA : Rw w A (bs.map (Value.int .u8))) (hm : bs.length ≤ maxLen) (hb : ∀ b ∈ bs, 0 ≤ b ∧ b ≤ 255) (hB : bs ≠ [] → Bd A w.heap.size) :
    Calls Try.prog 3 #[.slice A bs.length c] w fun e w' => e = .returned (.bool true) ∧ Below w.heap.size w w' := by
  by_cases hl : 4096 < bs.length
  · have hd : decide (4096 < bs.length) = true := by simpa using hl
    go_enter Try.func3, Try.ntmps3
    go_wp2_with (go_at_call 13; refine (big_pE _ _ _ _ hm).mono ?_; rintro e w' ⟨rfl, rfl⟩)
    go_ret
    exact ⟨rfl, Below.refl _ _⟩
  have hd : decide (4096 < bs.length) = false := by simpa using hl
  have h0 : Code0 w A bs := ⟨hA, hB, hb, by omega⟩
  clear hA hB hb
  go_enter Try.func3, Try.ntmps3
  go_wp2_with (go_at_call 13; refine (big_pE _ _ _ _ hm).mono ?_; rintro e w' ⟨rfl, rfl⟩)
  refine (drawDE A c bs _ h0).mono ?_
  rintro e w1 ⟨B1, d1, ps, q, rfl, hq, hp30, htp, C1, t1⟩
  clear hm hl hd
  have hqs : q.sz ≤ 1048600 := by have := sz_deq hq; omega
  have HC1 := Lib.hid (fun W (base : Nat) (h : ClsO W base B1 ps.length d1 ps) => ctblC_of h (fun x hx => by have := htp x hx; omega) (by omega))
  have HD1 := Lib.hid (fun W (h : CTblC W B1 d1 ps) => de_i B1 d1 ps q W h hqs)
  have HD2 := Lib.hid (fun W (h : CTblC W B1 d1 ps) => de_s B1 d1 ps q W h.tbl hqs)
  have HFC := Lib.hid (fun s W (h : CTblC W B1 d1 ps) => fc_i B1 d1 ps s W h.tbl)
  have HDF := Lib.hid (dec_facts ps q)
  have hdl := deR_len11 ps q
  generalize deR ps q = q0 at *
  obtain ⟨⟨yd, cd⟩, bad⟩ := q0
  simp only at hdl HDF
  have K := heap_alloc_new w1 (.cells #[.int .i64 q.d, .int .i64 q.k, .string ⟨q.c.toArray⟩, .int .i64 q.a, .bool q.p, .bool q.v, .bool q.r] 26)
  have bx := below_alloc w1 (.cells #[.int .i64 q.d, .int .i64 q.k, .string ⟨q.c.toArray⟩, .int .i64 q.a, .bool q.p, .bool q.v, .bool q.r] 26)
  replace C1 := C1.below bx
  replace t1 := belowGo t1 bx
  clear bx
  obtain ⟨k0, k1, k2, k3, k4, k5, k6⟩ := seven_at K
  go_wp2_with fail
  refine (HD1.out _ (HC1.out _ _ C1)).mono ?_
  rintro e w2 ⟨X1, x1, rfl, R1, b2⟩
  clear k0 k1 k2 k3 k4 k5 k6; simp only at R1
  replace C1 := C1.below b2
  replace K := keepHD b2 K
  have t2 := belowGo t1 b2
  clear b2 t1
  have KD := heap_alloc_new w2 (.cells #[.int .i64 yd, .slice X1 cd.length x1] 31)
  have bx := below_alloc w2 (.cells #[.int .i64 yd, .slice X1 cd.length x1] 31)
  replace C1 := C1.below bx
  replace K := keepHD bx K
  replace R1 := R1.below bx
  replace t2 := belowGo t2 bx
  clear bx
  obtain ⟨k0, k1, k2, k3, k4, k5, k6⟩ := seven_at K
  go_wp2_with fail
  refine (HD2.out _ (HC1.out _ _ C1)).mono ?_
  rintro e w3 ⟨X2, x2, rfl, R2, b3⟩
  clear k0 k1 k2 k3 k4 k5 k6; simp only at R2
  clear K
  replace C1 := C1.below b3
  replace R1 := R1.below b3
  replace KD := keepHD b3 KD
  have t3 := belowGo t2 b3
  clear b3 t2
  have KM := heap_alloc_new w3 (.cells #[.int .i64 yd, .slice X2 cd.length x2] 31)
  have bx := below_alloc w3 (.cells #[.int .i64 yd, .slice X2 cd.length x2] 31)
  replace C1 := C1.below bx
  replace R1 := R1.below bx
  replace KD := keepHD bx KD
  replace R2 := R2.below bx
  replace t3 := belowGo t3 bx
  clear bx
  clear HD1 HD2
  go_wp2_with fail
  refine (drawDL A c bs _ (h0.below t3)).mono ?_
  rintro e w4 ⟨B2, d2, rs, B3, d3, es, rfl, hr30, htr, C2, E2, b4⟩
  replace C1 := C1.below b4
  replace R1 := R1.below b4
  replace KD := keepHD b4 KD
  replace R2 := R2.below b4
  replace KM := keepHD b4 KM
  have t4 := belowGo t3 b4
  clear b4 t3
  have HC2 := Lib.hid (fun W (base : Nat) (h : ClsO W base B2 rs.length d2 rs) => ctblC_of h (fun x hx => by have := htr x hx; omega) (by omega))
  have hes : es.length ≤ 16 := E2.1
  have HL1 := Lib.hid (fun W (h : CTblC W B2 d2 rs) (h2 : ETblC W B3 d3 es) => dl_i B2 d2 rs B3 d3 es W h h2.tbl)
  have HL2 := Lib.hid (fun W (h : CTblC W B2 d2 rs) (h2 : ETblC W B3 d3 es) => dl_s B2 d2 rs B3 d3 es W h.tbl h2.tbl)
  have HT1 := Lib.hid (fun W (h : CTblC W B2 d2 rs) (h2 : ETblC W B3 d3 es) => tr_i B2 d2 rs B3 d3 es W h h2.tbl)
  have HT2 := Lib.hid (fun W (h : CTblC W B2 d2 rs) (h2 : ETblC W B3 d3 es) => tr_s B2 d2 rs B3 d3 es W h.tbl h2.tbl)
  have HU1 := Lib.hid (fun W (h : CTblC W B2 d2 rs) (h2 : ETblC W B3 d3 es) => cu_i B2 d2 rs B3 d3 es W h h2.tbl)
  have HU2 := Lib.hid (fun W (h : CTblC W B2 d2 rs) (h2 : ETblC W B3 d3 es) => cu_s B2 d2 rs B3 d3 es W h.tbl h2.tbl)
  have HG1 := Lib.hid (fun W (h : CTblC W B2 d2 rs) (h2 : ETblC W B3 d3 es) => lg_i B2 d2 rs B3 d3 es W h h2.tbl)
  have HG2 := Lib.hid (fun W (h : CTblC W B2 d2 rs) (h2 : ETblC W B3 d3 es) => lg_s B2 d2 rs B3 d3 es W h.tbl h2.tbl)
  have HLF := Lib.hid (log_facts rs es)
  obtain ⟨hLn, hL13⟩ := dlR_len rs es
  have H13 := Lib.hid hL13
  have hTn := trR_len rs es
  have hUn := cuR_len rs es
  clear hL13
  generalize dlR rs es = q0 at *
  generalize trR rs es = q1 at *
  generalize cuR rs es = q2 at *
  generalize lgR rs es = q3 at *
  obtain ⟨L, one⟩ := q0
  obtain ⟨T, three⟩ := q1
  obtain ⟨U, five⟩ := q2
  obtain ⟨k7, seven⟩ := q3
  simp only at hLn H13 hTn hUn HLF HG1 HG2
  go_wp2_with fail
  refine (HL1.out _ (HC2.out _ _ C2) E2.tbl).mono ?_
  rintro e w5 ⟨O1, o1, rfl, L1, b5⟩
  simp only at L1
  replace C1 := C1.below b5
  replace R1 := R1.below b5
  replace KD := keepHD b5 KD
  replace R2 := R2.below b5
  replace KM := keepHD b5 KM
  replace C2 := C2.below b5
  replace E2 := E2.below b5
  have t5 := belowGo t4 b5
  clear b5 t4
  go_wp2_with fail
  refine (HL2.out _ (HC2.out _ _ C2) E2.tbl).mono ?_
  rintro e w6 ⟨O2, o2, rfl, L2, b6⟩
  simp only at L2
  replace C1 := C1.below b6
  replace R1 := R1.below b6
  replace KD := keepHD b6 KD
  replace R2 := R2.below b6
  replace KM := keepHD b6 KM
  replace C2 := C2.below b6
  replace E2 := E2.below b6
  replace L1 := L1.below b6
  have t6 := belowGo t5 b6
  clear b6 t5
  go_wp2_with fail
  refine (HT1.out _ (HC2.out _ _ C2) E2.tbl).mono ?_
  rintro e w7 ⟨P1, p1, rfl, T1, b7⟩
  simp only at T1
  replace C1 := C1.below b7
  replace R1 := R1.below b7
  replace KD := keepHD b7 KD
  replace R2 := R2.below b7
  replace KM := keepHD b7 KM
  replace C2 := C2.below b7
  replace E2 := E2.below b7
  replace L1 := L1.below b7
  replace L2 := L2.below b7
  have t7 := belowGo t6 b7
  clear b7 t6
  go_wp2_with fail
  refine (HT2.out _ (HC2.out _ _ C2) E2.tbl).mono ?_
  rintro e w8 ⟨P2, p2, rfl, T2, b8⟩
  simp only at T2
  replace C1 := C1.below b8
  replace R1 := R1.below b8
  replace KD := keepHD b8 KD
  replace R2 := R2.below b8
  replace KM := keepHD b8 KM
  replace C2 := C2.below b8
  replace E2 := E2.below b8
  replace L1 := L1.below b8
  replace L2 := L2.below b8
  replace T1 := T1.below b8
  have t8 := belowGo t7 b8
  clear b8 t7
  go_wp2_with fail
  refine (HU1.out _ (HC2.out _ _ C2) E2.tbl).mono ?_
  rintro e w9 ⟨Q1, q1, rfl, U1, b9⟩
  simp only at U1
  replace C1 := C1.below b9
  replace R1 := R1.below b9
  replace KD := keepHD b9 KD
  replace R2 := R2.below b9
  replace KM := keepHD b9 KM
  replace C2 := C2.below b9
  replace E2 := E2.below b9
  replace L1 := L1.below b9
  replace L2 := L2.below b9
  replace T1 := T1.below b9
  replace T2 := T2.below b9
  have t9 := belowGo t8 b9
  clear b9 t8
  go_wp2_with fail
  refine (HU2.out _ (HC2.out _ _ C2) E2.tbl).mono ?_
  rintro e w10 ⟨Q2, q2, rfl, U2, b10⟩
  simp only at U2
  replace C1 := C1.below b10
  replace R1 := R1.below b10
  replace KD := keepHD b10 KD
  replace R2 := R2.below b10
  replace KM := keepHD b10 KM
  replace C2 := C2.below b10
  replace E2 := E2.below b10
  replace L1 := L1.below b10
  replace L2 := L2.below b10
  replace T1 := T1.below b10
  replace T2 := T2.below b10
  replace U1 := U1.below b10
  have t10 := belowGo t9 b10
  clear b10 t9
  go_wp2_with fail
  refine (HG1.out _ (HC2.out _ _ C2) E2.tbl).mono ?_
  rintro e w11 ⟨rfl, b11⟩
  replace C1 := C1.below b11
  replace R1 := R1.below b11
  replace KD := keepHD b11 KD
  replace R2 := R2.below b11
  replace KM := keepHD b11 KM
  replace C2 := C2.below b11
  replace E2 := E2.below b11
  replace L1 := L1.below b11
  replace L2 := L2.below b11
  replace T1 := T1.below b11
  replace T2 := T2.below b11
  replace U1 := U1.below b11
  replace U2 := U2.below b11
  have t11 := belowGo t10 b11
  clear b11 t10
  go_wp2_with fail
  refine (HG2.out _ (HC2.out _ _ C2) E2.tbl).mono ?_
  rintro e w12 ⟨rfl, b12⟩
  clear C2
  replace C1 := C1.below b12
  replace R1 := R1.below b12
  replace KD := keepHD b12 KD
  replace R2 := R2.below b12
  replace KM := keepHD b12 KM
  replace E2 := E2.below b12
  replace L1 := L1.below b12
  replace L2 := L2.below b12
  replace T1 := T1.below b12
  replace T2 := T2.below b12
  replace U1 := U1.below b12
  replace U2 := U2.below b12
  have t12 := belowGo t11 b12
  clear b12 t11
  clear HL1 HL2 HT1 HT2 HU1 HU2 HG1 HG2 HC2
  go_wp2_with fail
  refine (drawEW A c bs _ (h0.below t12)).mono ?_
  rintro e w13 ⟨B5, d5, xs, B6, d6, ys, z, rfl, hz, hx30, htx, C5, E6, b13⟩
  replace C1 := C1.below b13
  replace R1 := R1.below b13
  replace KD := keepHD b13 KD
  replace R2 := R2.below b13
  replace KM := keepHD b13 KM
  replace E2 := E2.below b13
  replace L1 := L1.below b13
  replace L2 := L2.below b13
  replace T1 := T1.below b13
  replace T2 := T2.below b13
  replace U1 := U1.below b13
  replace U2 := U2.below b13
  have t13 := belowGo t12 b13
  clear b13 t12
  have HC5 := Lib.hid (fun W (base : Nat) (h : ClsO W base B5 xs.length d5 xs) => ctblC_of h (fun x hx => by have := htx x hx; omega) (by omega))
  have hys : ys.length ≤ 16 := E6.1
  have HW1 := Lib.hid (fun W (h : CTblC W B5 d5 xs) (h2 : ETblC W B6 d6 ys) => ew_i B5 d5 xs B6 d6 ys z W h h2.tbl)
  have HW2 := Lib.hid (fun W (h : CTblC W B5 d5 xs) (h2 : ETblC W B6 d6 ys) => ew_s B5 d5 xs B6 d6 ys z W h.tbl h2.tbl)
  have hWn := ewR_len xs ys z
  generalize ewR xs ys z = q0 at *
  obtain ⟨V, nine⟩ := q0
  simp only at hWn
  go_wp2_with fail
  refine (HW1.out _ (HC5.out _ _ C5) E6.tbl).mono ?_
  rintro e w14 ⟨V1, v1, rfl, W1, b14⟩
  simp only at W1
  replace C1 := C1.below b14
  replace R1 := R1.below b14
  replace KD := keepHD b14 KD
  replace R2 := R2.below b14
  replace KM := keepHD b14 KM
  replace E2 := E2.below b14
  replace L1 := L1.below b14
  replace L2 := L2.below b14
  replace T1 := T1.below b14
  replace T2 := T2.below b14
  replace U1 := U1.below b14
  replace U2 := U2.below b14
  replace C5 := C5.below b14
  replace E6 := E6.below b14
  have t14 := belowGo t13 b14
  clear b14 t13
  go_wp2_with fail
  refine (HW2.out _ (HC5.out _ _ C5) E6.tbl).mono ?_
  rintro e w15 ⟨V2, v2, rfl, W2, b15⟩
  simp only at W2
  clear C5
  clear E6
  replace C1 := C1.below b15
  replace R1 := R1.below b15
  replace KD := keepHD b15 KD
  replace R2 := R2.below b15
  replace KM := keepHD b15 KM
  replace E2 := E2.below b15
  replace L1 := L1.below b15
  replace L2 := L2.below b15
  replace T1 := T1.below b15
  replace T2 := T2.below b15
  replace U1 := U1.below b15
  replace U2 := U2.below b15
  replace W1 := W1.below b15
  have t15 := belowGo t14 b15
  clear b15 t14
  clear HW1 HW2 HC5 h0
  have n0 : (bad != bad) = false := by simp
  have n1 : (one != one) = false := by simp
  have n2 : (three != three) = false := by simp
  have n3 : (five != five) = false := by simp
  have n4 : (seven != seven) = false := by simp
  have n5 : (k7 != k7) = false := by simp
  have n6 : (nine != nine) = false := by simp
  obtain ⟨e0, e1⟩ := two_at KD
  obtain ⟨f0, f1⟩ := two_at KM
  go_wp2_with fail
  refine (likeD11 yd X1 X2 _ _ x1 x2 cd _ R1.sr R2.sr rfl rfl (by omega)).mono ?_
  rintro e w16 ⟨rfl, b16⟩
  clear e0 e1 f0 f1
  clear R2
  replace C1 := C1.below b16
  replace R1 := R1.below b16
  replace KD := keepHD b16 KD
  replace KM := keepHD b16 KM
  replace E2 := E2.below b16
  replace L1 := L1.below b16
  replace L2 := L2.below b16
  replace T1 := T1.below b16
  replace T2 := T2.below b16
  replace U1 := U1.below b16
  replace U2 := U2.below b16
  replace W1 := W1.below b16
  replace W2 := W2.below b16
  have t16 := belowGo t15 b16
  clear b16 t15
  go_wp2_with fail
  refine (likeDs11 O1 O2 _ _ o1 o2 L _ L1.reads L2.reads rfl rfl (by omega) (fun e he => by have := H13.out e he; omega)).mono ?_
  rintro e w17 ⟨rfl, b17⟩
  clear L2
  replace C1 := C1.below b17
  replace R1 := R1.below b17
  replace KD := keepHD b17 KD
  replace KM := keepHD b17 KM
  replace E2 := E2.below b17
  replace L1 := L1.below b17
  replace T1 := T1.below b17
  replace T2 := T2.below b17
  replace U1 := U1.below b17
  replace U2 := U2.below b17
  replace W1 := W1.below b17
  replace W2 := W2.below b17
  have t17 := belowGo t16 b17
  clear b17 t16
  go_wp2_with fail
  refine (likeIE P1 P2 p1 p2 T _ T1.ir T2.ir (by omega)).mono ?_
  rintro e w18 ⟨rfl, b18⟩
  clear T2
  replace C1 := C1.below b18
  replace R1 := R1.below b18
  replace KD := keepHD b18 KD
  replace KM := keepHD b18 KM
  replace E2 := E2.below b18
  replace L1 := L1.below b18
  replace T1 := T1.below b18
  replace U1 := U1.below b18
  replace U2 := U2.below b18
  replace W1 := W1.below b18
  replace W2 := W2.below b18
  have t18 := belowGo t17 b18
  clear b18 t17
  go_wp2_with fail
  refine (likeIE Q1 Q2 q1 q2 U _ U1.ir U2.ir (by omega)).mono ?_
  rintro e w19 ⟨rfl, b19⟩
  clear U2
  replace C1 := C1.below b19
  replace R1 := R1.below b19
  replace KD := keepHD b19 KD
  replace KM := keepHD b19 KM
  replace E2 := E2.below b19
  replace L1 := L1.below b19
  replace T1 := T1.below b19
  replace U1 := U1.below b19
  replace W1 := W1.below b19
  replace W2 := W2.below b19
  have t19 := belowGo t18 b19
  clear b19 t18
  go_wp2_with fail
  refine (likeIE V1 V2 v1 v2 V _ W1.ir W2.ir (by omega)).mono ?_
  rintro e w20 ⟨rfl, b20⟩
  clear W1
  clear W2
  replace C1 := C1.below b20
  replace R1 := R1.below b20
  replace KD := keepHD b20 KD
  replace KM := keepHD b20 KM
  replace E2 := E2.below b20
  replace L1 := L1.below b20
  replace T1 := T1.below b20
  replace U1 := U1.below b20
  have t20 := belowGo t19 b20
  clear b20 t19
  clear n0 n1 n2 n3 n4 n5 n6 H13
  by_cases hone : one = 0
  · subst hone
    obtain ⟨hrb, hlg, hL, hT, hU, hlo⟩ := HLF.out rfl
    have hR := rb_of hrb
    subst hL hT hU
    have HS1 := Lib.hid (trL_sum hR es)
    have HS2 := Lib.hid (cuL_sum hR es)
    have HB1 := Lib.hid (fun k => amt_bd hlg k)
    have HB2 := Lib.hid (fun k => len_bd hlg rs k)
    have HQ1 := Lib.hid (fun k => @tr_part rs es hlg k)
    have HQ2 := Lib.hid (fun k => @cu_part rs hR es hlg k)
    have HLE := Lib.hid (fun i e f hi hf => @lg_le rs hR es i e f hi hf)
    have HLO := Lib.hid hlo
    have HIV := Lib.hid (lgS_inv hR (es := es) es.length (Nat.le_refl _))
    have HER := Lib.hid E2.tbl.tbl.row
    simp only [List.length_map] at L1
    have HLR := Lib.hid L1.reads
    simp only [List.length_map]
    clear hlo hrb hlg HLF
    go_wp2_with fail
    go_loopw [34, 35, 36] (fun u v i wr => ∃ (k : Nat) (a l : Int), k ≤ es.length ∧ i = .int .i64 k ∧ u = .int .i64 a ∧ v = .int .i64 l ∧ Hid (isum ((es.take k).map Evt.a) = a) ∧ Hid (isum ((es.take k).map fun e => ((chainL rs e).length : Int)) = l) ∧ ∃ m, wr = w20.drewN m) (fun _ _ i _ => es.length - (intOf i).toNat)
    case atStart => exact ⟨0, 0, 0, Nat.zero_le _, rfl, rfl, rfl, Lib.hid rfl, Lib.hid rfl, 0, rfl⟩
    case round =>
      obtain ⟨k, a, l, hk, rfl, rfl, rfl, hsa, hsl, m, rfl⟩ := hrel
      by_cases hlt : k < es.length
      · obtain ⟨b, off, x, rfl, hbl, hx, h4⟩ := HER.out.at hlt
        have e3 := h4.c3
        obtain ⟨hk7, hsev⟩ := HLO.out (by omega)
        subst hsev
        obtain ⟨mz, hmz⟩ : ∃ mz, mz = (lgS rs es es.length).1 := ⟨_, rfl⟩
        have hml : mz < es.length := by
          rcases HIV.out with ⟨_, h2, _⟩ | ⟨_, h2, _⟩
          · omega
          · omega
        rw [← hmz] at hk7
        subst hk7
        obtain ⟨f, hf⟩ : ∃ f, es[mz]? = some f := ⟨_, List.getElem?_eq_getElem hml⟩
        have hle := HLE.out k x f hx.out (by rw [← hmz]; exact hf)
        obtain ⟨b', off', y, A1, c1, e1, hl', hy, u0, u1, _⟩ := HLR.out.at (k := k) (by simpa using hlt)
        obtain ⟨b2, off2, y2, A2, c2, e2, _, hy2, _, u3, _⟩ := HLR.out.at (k := mz) (by simpa using hml)
        subst e1
        obtain ⟨rfl, rfl⟩ : b' = b2 ∧ off' = off2 := by injection e2 with e2; injection e2 with e4 e5; exact ⟨e4, e5⟩
        have hyc : y.cs.length = (chainL rs x).length := by
          have z := hy.out; rw [List.getElem?_map, hx.out] at z; rw [← Option.some.inj z]; exact decL_len rs x
        have hyc2 : y2.cs.length = (chainL rs f).length := by
          have z := hy2.out; rw [List.getElem?_map, hf] at z; rw [← Option.some.inj z]; exact decL_len rs f
        rw [hyc] at u1
        rw [hyc2] at u3
        have HSA : Hid (isum ((es.take (k + 1)).map Evt.a) = a + x.a) := Lib.hid (by rw [snoc_of hx.out, List.map_append, isum_app, hsa.out]; simp [isum])
        have HSL : Hid (isum ((es.take (k + 1)).map fun e => ((chainL rs e).length : Int)) = l + ((chainL rs x).length : Int)) := Lib.hid (by rw [snoc_of hx.out, List.map_append, isum_app, hsl.out]; simp [isum])
        obtain ⟨r0, r1⟩ : 0 ≤ a + x.a ∧ a + x.a ≤ 15000000000 := by have := HB1.out (k + 1); rwa [HSA.out] at this
        obtain ⟨r2, r3⟩ : 0 ≤ l + ((chainL rs x).length : Int) ∧ l + ((chainL rs x).length : Int) ≤ 195 := by have := HB2.out (k + 1); rwa [HSL.out] at this
        generalize (chainL rs x).length = X at *
        generalize (chainL rs f).length = Y at *
        have hv : ¬ Y < X := by omega
        have hv2 : decide ((Y : Int) < (X : Int)) = false := decide_eq_false (by omega)
        have hmn : ((mz : Int)).toNat = mz := by omega
        clear h4 hx hsa hsl hy hy2 hyc hyc2 hf hmz HLE HIV e2
        go_wp2_with fail
        go_quiet (fail)
        go_wp2_with fail
        go_roundw
        case rel => exact ⟨k + 1, a + x.a, l + (X : Int), by omega, by go_num, rfl, rfl, HSA, HSL, _, rfl⟩
        case measure => simp [intOf]; omega
      · obtain rfl : k = es.length := by omega
        have ea : isum (trL rs es) = a := by rw [HS1.out, ← hsa.out, List.take_length]
        have el : isum (cuL rs es) = l := by rw [HS2.out, ← hsl.out, List.take_length]
        have na : (isum (trL rs es) != a) = false := by rw [ea]; simp
        have nl : (isum (cuL rs es) != l) = false := by rw [el]; simp
        have T3 := T1.below (below_drewN w20 m)
        have U3 := U1.below (below_drewN w20 m)
        have hT3 : (trL rs es).length ≤ 1048576 := Nat.le_trans hTn (by decide)
        have hU3 : (cuL rs es).length ≤ 1048576 := Nat.le_trans hUn (by decide)
        clear HS1 HS2 HB1 HB2 HLE HLO HIV HER HLR hsa hsl ea el T1 U1 L1 E2
        replace C1 := C1.below (below_drewN w20 m)
        replace R1 := R1.below (below_drewN w20 m)
        replace KD := keepHD (below_drewN w20 m) KD
        replace KM := keepHD (below_drewN w20 m) KM
        have td := belowGo t20 (below_drewN w20 m)
        by_cases hbad : bad = 0
        · subst hbad
          obtain ⟨hrb, hdd⟩ := HDF.out rfl
          have hR := rb_of hrb
          have hyd : yd = resC ps q := congrArg Dcn.y hdd
          have hcd : cd = decL ps q := congrArg Dcn.cs hdd
          subst hyd hcd
          have hpos := (chainL_pos hR q).1
          have hlen : (decL ps q).length = (chainL ps q).length := decL_len ps q
          have HAt := Lib.hid (fun i hi => @chainL_at ps hR q i hi)
          have HBL := Lib.hid (fun i x hx => @befC_lt ps hR q i x hx)
          have HFO := Lib.hid (fun s h => @fcR_ok ps s hrb h)
          obtain ⟨jz, pz, hz1, hz2, hz3, hz4⟩ := befC_end hR q
          obtain ⟨N, hN⟩ : ∃ N, N = (decL ps q).length := ⟨_, rfl⟩
          have HNN : Hid (N = (chainL ps q).length) := Lib.hid (by omega)
          have hN0 : 0 < N := by omega
          have hN13 : N ≤ 13 := by omega
          have hNd : decide (0 < (N : Int)) = true := decide_eq_true (by omega)
          rw [← hN] at KD KM
          have HRR := Lib.hid (fun W (b : Below (w20.drewN m).heap.size (w20.drewN m) W) => (R1.sr).below b)
          have HCT := Lib.hid (fun W (b : Below (w20.drewN m).heap.size (w20.drewN m) W) => (HC1.out _ _ C1).below b)
          have HKD := Lib.hid (fun W (b : Below (w20.drewN m).heap.size (w20.drewN m) W) => keepHD b KD)
          have HKM := Lib.hid (fun W (b : Below (w20.drewN m).heap.size (w20.drewN m) W) => keepHD b KM)
          have HZ1 := Lib.hid hz1
          have HZ := Lib.hid (And.intro hz3 hz4)
          have HNL := Lib.hid hN
          have HBW := Lib.hid td
          clear HDF hdd hpos hlen hz1 hz2 hz3 hz4 KD KM R1 C1 hN hR hrb td
          go_wp2_with (first
            | (go_at_call 32; with_reducible refine (sumE P1 p1 (trL rs es) _ T3.ir HQ1.out hT3).mono ?_; rintro e w' ⟨rfl, rfl⟩)
            | (go_at_call 32; with_reducible refine (sumE Q1 q1 (cuL rs es) _ U3.ir HQ2.out hU3).mono ?_; rintro e w' ⟨rfl, rfl⟩))
          clear HQ1 HQ2 T3 U3 na nl
          go_loopw [37, 38] (fun v i wr => ∃ (k : Nat) (a : Int), k ≤ N ∧ i = .int .i64 k ∧ v = .int .i64 a ∧ Hid (a = befC (chainL ps q) k) ∧ Below (w20.drewN m).heap.size (w20.drewN m) wr) (fun _ i _ => N - (intOf i).toNat)
          case atStart => exact ⟨0, -1, Nat.zero_le _, rfl, rfl, Lib.hid rfl, Below.refl _ _⟩
          case round =>
            obtain ⟨k, a, hk, rfl, rfl, ha, hb⟩ := hrel
            obtain ⟨y0, y1⟩ := two_at (HKD.out _ hb)
            by_cases hlt : k < N
            · obtain ⟨j, pk, g1, g2, g3, g4, g5⟩ := HAt.out k (by rw [← HNN.out]; exact hlt)
              obtain ⟨b, off, s, hX, hbl, y2, hs⟩ := (HRR.out _ hb).at (k := k) (by rw [← HNL.out]; exact hlt)
              subst hX
              have hs2 : s = pk.c := by have x := hs.out; rw [g3] at x; exact (Option.some.inj x).symm
              subst hs2
              have HF := Lib.hid (HFC.out pk.c _ (HCT.out _ hb))
              rw [HFO.out pk.c (by rw [g5]; omega), g5] at HF
              have hlt2 : a < (j : Int) := by rw [ha.out]; exact HBL.out k _ g1
              have HN2 : Hid ((j : Int) = befC (chainL ps q) (k + 1)) := Lib.hid (befC_next g1).symm
              have hle : decide ((j : Int) ≤ a) = false := decide_eq_false (by omega)
              have hle2 : ¬ (j : Int) ≤ a := by omega
              have HB2 := Lib.hid hb
              clear ha hb hs g1 g2 g3 g5 HAt
              go_wp2_with (go_at_call 33; refine HF.out.mono ?_; rintro e w8 ⟨rfl, b8⟩; have hb8 := belowGo HB2.out b8)
              go_roundw
              case rel => exact ⟨k + 1, _, by omega, by go_num, rfl, HN2, hb8⟩
              case measure => simp [intOf]; omega
            · obtain rfl : k = N := by omega
              have ha2 : a = (jz : Int) := by rw [ha.out, HNN.out]; exact HZ1.out
              subst ha2
              obtain ⟨m0, m1⟩ := two_at (HKM.out _ hb)
              have hjl := (List.getElem?_eq_some_iff.1 HZ.out.1).1
              obtain ⟨b, off, p3, hX, hbl, hp3, h4⟩ := ((HCT.out _ hb).tbl.row).at hjl
              have hpe : p3 = pz := by have x := hp3.out; rw [HZ.out.1] at x; exact (Option.some.inj x).symm
              subst hpe hX
              have c5 := h4.c5
              rw [HZ.out.2] at c5
              have hee : (resC ps q == resC ps q) = true := by simp
              have tz := belowGo HBW.out hb
              have hjn : ((jz : Int)).toNat = jz := by omega
              clear h4 hp3 ha HAt HBL HFO HRR HCT HKD HKM HZ1 HZ HFC HC1
              generalize resC ps q = rr at *
              go_wp2_with fail
              go_quiet (fail)
              go_wp2_with fail
              go_ret
              exact ⟨rfl, belowGo tz (below_drewN _ _)⟩
        · have hb2 : (bad != 0) = true := bne_iff_ne.2 hbad
          clear HDF HFC KD KM R1 C1
          go_wp2_with (first
            | (go_at_call 32; with_reducible refine (sumE P1 p1 (trL rs es) _ T3.ir HQ1.out hT3).mono ?_; rintro e w' ⟨rfl, rfl⟩)
            | (go_at_call 32; with_reducible refine (sumE Q1 q1 (cuL rs es) _ U3.ir HQ2.out hU3).mono ?_; rintro e w' ⟨rfl, rfl⟩))
          clear HQ1 HQ2 T3 U3 na nl
          go_ret
          exact ⟨rfl, td⟩
  · have hone2 : (one == 0) = false := beq_eq_false_iff_ne.2 hone
    clear E2 L1 T1 U1
    by_cases hbad : bad = 0
    · subst hbad
      obtain ⟨hrb, hdd⟩ := HDF.out rfl
      have hR := rb_of hrb
      have hyd : yd = resC ps q := congrArg Dcn.y hdd
      have hcd : cd = decL ps q := congrArg Dcn.cs hdd
      subst hyd hcd
      have hpos := (chainL_pos hR q).1
      have hlen : (decL ps q).length = (chainL ps q).length := decL_len ps q
      have HAt := Lib.hid (fun i hi => @chainL_at ps hR q i hi)
      have HBL := Lib.hid (fun i x hx => @befC_lt ps hR q i x hx)
      have HFO := Lib.hid (fun s h => @fcR_ok ps s hrb h)
      obtain ⟨jz, pz, hz1, hz2, hz3, hz4⟩ := befC_end hR q
      obtain ⟨N, hN⟩ : ∃ N, N = (decL ps q).length := ⟨_, rfl⟩
      have HNN : Hid (N = (chainL ps q).length) := Lib.hid (by omega)
      have hN0 : 0 < N := by omega
      have hN13 : N ≤ 13 := by omega
      have hNd : decide (0 < (N : Int)) = true := decide_eq_true (by omega)
      rw [← hN] at KD KM
      have HRR := Lib.hid (fun W (b : Below (w20).heap.size (w20) W) => (R1.sr).below b)
      have HCT := Lib.hid (fun W (b : Below (w20).heap.size (w20) W) => (HC1.out _ _ C1).below b)
      have HKD := Lib.hid (fun W (b : Below (w20).heap.size (w20) W) => keepHD b KD)
      have HKM := Lib.hid (fun W (b : Below (w20).heap.size (w20) W) => keepHD b KM)
      have HZ1 := Lib.hid hz1
      have HZ := Lib.hid (And.intro hz3 hz4)
      have HNL := Lib.hid hN
      have HBW := Lib.hid t20
      clear HDF hdd hpos hlen hz1 hz2 hz3 hz4 KD KM R1 C1 hN hR hrb HLF t20
      go_wp2_with fail
      go_loopw [37, 38] (fun v i wr => ∃ (k : Nat) (a : Int), k ≤ N ∧ i = .int .i64 k ∧ v = .int .i64 a ∧ Hid (a = befC (chainL ps q) k) ∧ Below (w20).heap.size (w20) wr) (fun _ i _ => N - (intOf i).toNat)
      case atStart => exact ⟨0, -1, Nat.zero_le _, rfl, rfl, Lib.hid rfl, Below.refl _ _⟩
      case round =>
        obtain ⟨k, a, hk, rfl, rfl, ha, hb⟩ := hrel
        obtain ⟨y0, y1⟩ := two_at (HKD.out _ hb)
        by_cases hlt : k < N
        · obtain ⟨j, pk, g1, g2, g3, g4, g5⟩ := HAt.out k (by rw [← HNN.out]; exact hlt)
          obtain ⟨b, off, s, hX, hbl, y2, hs⟩ := (HRR.out _ hb).at (k := k) (by rw [← HNL.out]; exact hlt)
          subst hX
          have hs2 : s = pk.c := by have x := hs.out; rw [g3] at x; exact (Option.some.inj x).symm
          subst hs2
          have HF := Lib.hid (HFC.out pk.c _ (HCT.out _ hb))
          rw [HFO.out pk.c (by rw [g5]; omega), g5] at HF
          have hlt2 : a < (j : Int) := by rw [ha.out]; exact HBL.out k _ g1
          have HN2 : Hid ((j : Int) = befC (chainL ps q) (k + 1)) := Lib.hid (befC_next g1).symm
          have hle : decide ((j : Int) ≤ a) = false := decide_eq_false (by omega)
          have hle2 : ¬ (j : Int) ≤ a := by omega
          have HB2 := Lib.hid hb
          clear ha hb hs g1 g2 g3 g5 HAt
          go_wp2_with (go_at_call 33; refine HF.out.mono ?_; rintro e w8 ⟨rfl, b8⟩; have hb8 := belowGo HB2.out b8)
          go_roundw
          case rel => exact ⟨k + 1, _, by omega, by go_num, rfl, HN2, hb8⟩
          case measure => simp [intOf]; omega
        · obtain rfl : k = N := by omega
          have ha2 : a = (jz : Int) := by rw [ha.out, HNN.out]; exact HZ1.out
          subst ha2
          obtain ⟨m0, m1⟩ := two_at (HKM.out _ hb)
          have hjl := (List.getElem?_eq_some_iff.1 HZ.out.1).1
          obtain ⟨b, off, p3, hX, hbl, hp3, h4⟩ := ((HCT.out _ hb).tbl.row).at hjl
          have hpe : p3 = pz := by have x := hp3.out; rw [HZ.out.1] at x; exact (Option.some.inj x).symm
          subst hpe hX
          have c5 := h4.c5
          rw [HZ.out.2] at c5
          have hee : (resC ps q == resC ps q) = true := by simp
          have tz := belowGo HBW.out hb
          have hjn : ((jz : Int)).toNat = jz := by omega
          clear h4 hp3 ha HAt HBL HFO HRR HCT HKD HKM HZ1 HZ HFC HC1
          generalize resC ps q = rr at *
          go_wp2_with fail
          go_quiet (fail)
          go_wp2_with fail
          go_ret
          exact ⟨rfl, belowGo tz (below_drewN _ _)⟩
    · have hb2 : (bad != 0) = true := bne_iff_ne.2 hbad
      clear HDF HLF HFC KD KM R1 C1
      go_wp2_with fail
      go_ret
      exact ⟨rfl, t20⟩
end Go.Proofs.Ytjcklmhgjdmjoaa

