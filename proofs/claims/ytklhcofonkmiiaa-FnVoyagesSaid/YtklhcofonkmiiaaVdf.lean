/- spec.DrawInsertRefuge. (by gen_vdf.py) -/
import Derived.Test.YtklhcofonkmiiaaVde
namespace Go.Proofs.Ytklhcofonkmiiaa
open Go.ChangeShapes Go.WideShapes Go.ChangeAt Go.RowKit
set_option linter.unusedVariables false

def Row3V (W : World) (C : Nat) (x0 x1 x2 : Value) : Prop := W.heap[C]? = some (.cells #[x0, x1, x2] 35 (0, 0))
theorem row3V_at {W : World} {C : Nat} {x0 x1 x2 : Value} (h : Row3V W C x0 x1 x2) :
    W.cell? ⟨C, 0, none⟩ = some x0 ∧ W.cell? ⟨C, 1, none⟩ = some x1 ∧ W.cell? ⟨C, 2, none⟩ = some x2 ∧ W.frozen? ⟨C, 0, none⟩ = false ∧ W.frozen? ⟨C, 1, none⟩ = false ∧ W.frozen? ⟨C, 2, none⟩ = false :=
  ⟨by rw [cell_of_row _ _ _ _ _ _ h]; rfl, by rw [cell_of_row _ _ _ _ _ _ h]; rfl, by rw [cell_of_row _ _ _ _ _ _ h]; rfl,
   frozen_of_row W C 0 _ _ h, frozen_of_row W C 1 _ _ h, frozen_of_row W C 2 _ _ h⟩
theorem put3V {W : World} {R : Nat} {x0 x1 x2 : Value} (h : Row3V W R x0 x1 x2) (a b e : Value) : Row3V (((W.setCell ⟨R, 0, none⟩ a).setCell ⟨R, 1, none⟩ b).setCell ⟨R, 2, none⟩ e) R a b e := by
  have h1 : Row3V (W.setCell ⟨R, 0, none⟩ a) R a x1 x2 := by unfold Row3V; rw [heap_setCell_same W R 0 _ _ _ h]; rfl
  have h2 : Row3V ((W.setCell ⟨R, 0, none⟩ a).setCell ⟨R, 1, none⟩ b) R a b x2 := by unfold Row3V; rw [heap_setCell_same _ R 1 _ _ _ h1]; rfl
  unfold Row3V
  rw [heap_setCell_same _ R 2 _ _ _ h2]; rfl
theorem stoSzD : (Try.prog.info? 35).map (·.size) = some 3 := by kernel_rfl
theorem results_cell_v {P : Program} {fn : Func} {p u : Tmp} {ty : TypeId} (h : fn.results = #[.tmp u, .cell p ty]) (tmps : Array Value) (w : World) (g : Nat) (t : TypeId) (cs : Array Value) (fr : Nat × Nat) (d : TypeDesc)
    (hp : tmps.getD p undef = .pointer (some ⟨g, 0, none⟩)) (hg : w.heap[g]? = some (.cells cs t fr))
    (hu : P.underlying ty = some d) (hd : (match d with | .struct _ | .array _ _ => true | _ => false) = true) (hi : (P.info? ty).map (·.size) = some cs.size) :
    (results fn tmps).run P w = .ok (.tuple #[tmps.getD u undef, .agg cs]) w := by
  have hp' : tmps[p]?.getD undef = .pointer (some ⟨g, 0, none⟩) := by simpa using hp
  simp [results, h, hp', asAddr, run_loadVar_row w g t ty cs fr d hg hu hd hi, Sem.run_bind, Result.andThen]
theorem Src.sameV {w w' : World} {base g : Nat} {A : Option Addr} {c : Nat} {bs : List Int} (h : Src w base g A c bs) (e : w'.heap = w.heap) : Src w' base g A c bs := by
  unfold Src Rw World.cell? at *; rw [e]; exact h
/-- What stands in the midst of DrawInsertRefuge. -/
structure Rf (w W : World) (base g : Nat) (A : Option Addr) (c : Nat) (bs : List Int) (X : Nat) (B : Option Addr) (d : Nat) (ps : List Sto) (i o : Int) : Prop where
  src : Src W base g A c bs
  bel : Below w.heap.size w W
  row : VDr W w.heap.size B d ps
  bx : Row3V W X (.string ⟨#[114, 101, 102, 117, 103, 101]⟩) (.int .i64 i) (.int .i64 o)
  br : Row3V W w.heap.size (.string ⟨#[]⟩) (.int .i64 0) (.int .i64 0)
  gX : g < X
  Rg : w.heap.size < g
  ne : ∀ k, (Value.slice B ps.length d).ownBlock = some k → k < X ∧ g < k
theorem grown_cellV (w : World) (b i : Nat) (v : Value) : w.grownBy (w.setCell ⟨b, i, none⟩ v) (some b) :=
  ⟨rfl, rfl, rfl, by simp [World.setCell], fun k _ hk => heap_setCell_other w _ k v (fun e => hk (by rw [e]))⟩
section
variable {w W W' : World} {base g : Nat} {A : Option Addr} {c : Nat} {bs : List Int} {X : Nat} {B : Option Addr} {d : Nat} {ps : List Sto} {i o : Int}
theorem VDr.cell (h : VDr W w.heap.size B d ps) {C j : Nat} {v : Value} (hne : ∀ k, (Value.slice B ps.length d).ownBlock = some k → k ≠ C) : VDr (W.setCell ⟨C, j, none⟩ v) w.heap.size B d ps :=
  ⟨h.1, World.ownsRow.kept h.2.1 (grown_cellV W C j v) (by
    cases hv : (Value.slice B ps.length d).ownBlock with
    | none => exact .inl rfl
    | some k => right; intro e; injection e with e; exact hne k hv e), h.2.2⟩
theorem Rf.call (h : Rf w W base g A c bs X B d ps i o) (hs : Src W' base g A c bs) (hg : W.grownBy W' (some g)) : Rf w W' base g A c bs X B d ps i o :=
  ⟨hs, src_below h.bel hg (by have := h.Rg; omega), ⟨h.row.1, World.ownsRow.kept h.row.2.1 hg (by
    cases hv : (Value.slice B ps.length d).ownBlock with
    | none => exact .inl rfl
    | some k => right; intro e; injection e with e; have := (h.ne k hv).2; omega), h.row.2.2⟩, keepG hg h.bx (by have := h.gX; omega), keepG hg h.br (by have := h.Rg; omega), h.gX, h.Rg, h.ne⟩
theorem Rf.cell (h : Rf w W base g A c bs X B d ps i o) (j : Nat) (v : Value) : Src (W.setCell ⟨X, j, none⟩ v) base g A c bs ∧ Below w.heap.size w (W.setCell ⟨X, j, none⟩ v) ∧ VDr (W.setCell ⟨X, j, none⟩ v) w.heap.size B d ps ∧ Row3V (W.setCell ⟨X, j, none⟩ v) w.heap.size (.string ⟨#[]⟩) (.int .i64 0) (.int .i64 0) := by
  have hX := h.gX
  have hR := h.Rg
  refine ⟨h.src.keep ((Below.refl _ _).setCell (p := ⟨X, j, none⟩) hX _), h.bel.setCell (p := ⟨X, j, none⟩) (by show w.heap.size ≤ X; omega) _, h.row.cell (fun k hk => by have := (h.ne k hk).1; omega), ?_⟩
  unfold Row3V
  rw [heap_setCell_other _ _ _ _ (by show w.heap.size ≠ X; omega)]
  exact h.br
theorem Rf.setI (h : Rf w W base g A c bs X B d ps i o) (k : Int) : Rf w (W.setCell ⟨X, 1, none⟩ (.int .i64 k)) base g A c bs X B d ps k o := by
  obtain ⟨a1, a2, a3, a4⟩ := h.cell 1 (.int .i64 k)
  exact ⟨a1, a2, a3, by unfold Row3V; rw [heap_setCell_same W X 1 _ _ _ h.bx]; rfl, a4, h.gX, h.Rg, h.ne⟩
theorem Rf.setO (h : Rf w W base g A c bs X B d ps i o) (k : Int) : Rf w (W.setCell ⟨X, 2, none⟩ (.int .i64 k)) base g A c bs X B d ps i k := by
  obtain ⟨a1, a2, a3, a4⟩ := h.cell 2 (.int .i64 k)
  exact ⟨a1, a2, a3, by unfold Row3V; rw [heap_setCell_same W X 2 _ _ _ h.bx]; rfl, a4, h.gX, h.Rg, h.ne⟩
theorem Rf.fin (h : Rf w W base g A c bs X B d ps i o) (a b e : Value) : VDr (((W.setCell ⟨w.heap.size, 0, none⟩ a).setCell ⟨w.heap.size, 1, none⟩ b).setCell ⟨w.heap.size, 2, none⟩ e) w.heap.size B d ps ∧ Below w.heap.size w (((W.setCell ⟨w.heap.size, 0, none⟩ a).setCell ⟨w.heap.size, 1, none⟩ b).setCell ⟨w.heap.size, 2, none⟩ e) := by
  have hn : ∀ k, (Value.slice B ps.length d).ownBlock = some k → k ≠ w.heap.size := fun k hk => by have := (h.ne k hk).2; have := h.Rg; omega
  exact ⟨((h.row.cell hn).cell hn).cell hn, ((h.bel.setCell (p := ⟨w.heap.size, 0, none⟩) (Nat.le_refl _) _).setCell (p := ⟨w.heap.size, 1, none⟩) (Nat.le_refl _) _).setCell (p := ⟨w.heap.size, 2, none⟩) (Nat.le_refl _) _⟩
end
theorem cellG {w w' : World} {g b o : Nat} (hg : w.grownBy w' (some g)) (hne : b ≠ g) (hl : b < w.heap.size) : w'.cell? ⟨b, o, none⟩ = w.cell? ⟨b, o, none⟩ := by
  unfold World.cell?
  rw [hg.block b hl (by intro e; injection e with e; exact hne e)]
def NewVI (w : World) (e : Ending) (w' : World) : Prop := ∃ B d ps x, e = .returned (.tuple #[.slice B (List.length ps) d, .agg #[.string ⟨(x : Sto).p.toArray⟩, .int .i64 x.i, .int .i64 x.o]]) ∧ x.p.length ≤ 7 ∧ (-100 ≤ x.i ∧ x.i ≤ 200000) ∧ (-100 ≤ x.o ∧ x.o ≤ 200000) ∧ VDr w' w.heap.size B d ps ∧ Below w.heap.size w w'
set_option maxRecDepth 100000 in
set_option maxHeartbeats 4000000 in
theorem drawRefuge (A : Option Addr) (c : Nat) (bs : List Int) (w : World) (h : Code0 w A bs) : Calls Try.prog 20 #[.slice A bs.length c] w (NewVI w) := by
  have h0 := heap_alloc_new w (.cells #[.string ⟨#[]⟩, .int .i64 0, .int .i64 0] 35)
  have b0 := below_alloc w (.cells #[.string ⟨#[]⟩, .int .i64 0, .int .i64 0] 35)
  have hsz : (w.alloc (.cells #[.string ⟨#[]⟩, .int .i64 0, .int .i64 0] 35)).heap.size = w.heap.size + 1 := by simp
  have hc := h.below b0
  go_enter Try.func20, Try.ntmps20
  go_wp2_with fail
  refine (code_from A c bs _ hc).mono ?_
  rintro e w1 ⟨g, rfl, s1, b1⟩
  have hg := s1.lt
  have hRg : w.heap.size < g := by have := s1.1; omega
  have k1 := (b1.block _ (by omega)).trans h0
  have t1 := belowGo b0 b1
  generalize (w.alloc (.cells #[.string ⟨#[]⟩, .int .i64 0, .int .i64 0] 35)).heap.size = base at *
  clear h0 b1 b0 hc h hsz
  go_wp2_with fail
  refine (draw_v g _ A c bs _ s1).mono ?_
  rintro e w2 ⟨B, d, ps, rfl, v2, s2, g2⟩
  have h11 := v2.1
  go_wp2_with fail
  refine (dday_any g _ A c bs _ s2).mono ?_
  rintro e w3 ⟨n, rfl, n0, n1, s3, g3⟩
  have G := g2.trans g3
  have v3 := v2.src g3 hg
  have k3 := keepG G k1 (by omega)
  have hb3 : Below w.heap.size w w3 := src_below t1 G (by omega)
  have hg3 := s3.lt
  have hlo := fun k e => World.ownsRow.lt v3.2.1 k e
  have bX := below_alloc w3 (.cells #[.string ⟨#[114, 101, 102, 117, 103, 101]⟩, .int .i64 n, .int .i64 0] 35)
  have RF := Lib.hid (show Rf w _ base g A c bs w3.heap.size B d ps n 0 from
    { src := s3.below bX, bel := belowGo hb3 bX, row := (v3.below bX).low t1.size, bx := heap_alloc_new w3 _, br := (bX.block _ (by omega)).trans k3, gX := hg3, Rg := hRg, ne := fun k hk => ⟨(hlo k hk).2, by have := (hlo k hk).1; omega⟩ })
  clear bX hb3 k3 v3 G k1 t1 v2 s3 g3 g2 s2 s1 hg hlo
  by_cases hl : 1 < ps.length
  · go_wp2_with fail
    refine (next_any g 4 base A c bs _ RF.out.src (by omega)).mono ?_
    rintro e w5 ⟨r, rfl, ra, rb, s5, g5⟩
    have R5 := Lib.hid (RF.out.call s5 g5)
    clear RF s5 g5
    by_cases hr : 0 < r
    · go_wp2_with fail
      refine (next_any g _ base A c bs _ R5.out.src (by omega)).mono ?_
      rintro e w6 ⟨kz, rfl, ka, kb, s6, g6⟩
      obtain ⟨k, rfl⟩ := Int.eq_ofNat_of_zero_le ka
      have hk : k < ps.length := by omega
      have R6 := Lib.hid (R5.out.call s6 g6)
      clear R5 s6 g6
      obtain ⟨b, off, q, rfl, hbl, hq, h4⟩ := (StoO.row R6.out.row.2.1).at hk
      obtain ⟨_, _, hq0, hq1⟩ := R6.out.row.2.2 q (List.mem_of_getElem? hq.out)
      have c2 := h4.c2
      have HN := Lib.hid (fun (W' : World) (e : W'.heap = w6.heap) => next_any g 4 base A c bs W' (R6.out.src.sameV e) (by omega))
      obtain ⟨x0, x1, x2, y0, y1, y2⟩ := row3V_at R6.out.bx
      clear hq h4
      go_wp2_with fail
      go_region_with (go_at_call 48; (refine (HN.out _ (by rfl)).mono ?_); (rintro e w7 ⟨r7, rfl, a7, e7, s7, g7⟩); (have g7' : w6.grownBy w7 (some g) := ⟨g7.os, g7.tape, g7.output, g7.size, g7.block⟩); (have R7 := Lib.hid (R6.out.call s7 g7')); (clear x0 x1 x2 y0 y1 y2); (obtain ⟨x0, x1, x2, y0, y1, y2⟩ := row3V_at R7.out.bx); (have c2' : w7.cell? ⟨b, off + k * 3 + 2, none⟩ = some (.int .i64 q.o) := by rw [← c2]; exact cellG g7' (by have := (R6.out.ne b rfl).2; omega) hbl))
      all_goals
        clear R6 c2 c2' HN s7 g7 g7' x0 x1 x2 y0 y1 y2
        have hw1 : IntKind.i64.wrap (q.o + 1) = q.o + 1 := IntWalk.i64_in _ (by omega)
        have hw2 : IntKind.i64.wrap (q.o + 1 + r7) = q.o + 1 + r7 := IntWalk.i64_in _ (by omega)
        simp only [hw1, hw2]
        clear hw1 hw2
        have RY := Lib.hid (R7.out.setI (q.o + 1 + r7))
        clear R7
        have HN := Lib.hid (fun (W' : World) (e : W'.heap = (w7.setCell ⟨w3.heap.size, 1, none⟩ (.int .i64 (q.o + 1 + r7))).heap) => next_any g 4 base A c bs W' (RY.out.src.sameV e) (by omega))
        obtain ⟨x0, x1, x2, y0, y1, y2⟩ := row3V_at RY.out.bx
        go_wp2_with fail
        go_region_with (go_at_call 48; (refine (HN.out _ (by rfl)).mono ?_); (rintro e w8 ⟨r8, rfl, a8, e8, s8, g8⟩); (have g8' : (w7.setCell ⟨w3.heap.size, 1, none⟩ (.int .i64 (q.o + 1 + r7))).grownBy w8 (some g) := ⟨g8.os, g8.tape, g8.output, g8.size, g8.block⟩); (have R8 := Lib.hid (RY.out.call s8 g8')); (clear x0 x1 x2 y0 y1 y2); (obtain ⟨x0, x1, x2, y0, y1, y2⟩ := row3V_at R8.out.bx))
        all_goals
          have R9 := Lib.hid (R8.out.setO ((q.o + 1 + r7) + r8))
          clear x0 x1 x2 y0 y1 y2
          obtain ⟨W9, hW9⟩ : ∃ Wq, Wq = w8.setCell ⟨w3.heap.size, 2, none⟩ (.int .i64 ((q.o + 1 + r7) + r8)) := ⟨_, rfl⟩
          have hwr : IntKind.i64.wrap ((q.o + 1 + r7) + r8) = (q.o + 1 + r7) + r8 := IntWalk.i64_in _ (by omega)
          rw [hwr, ← hW9]
          rw [← hW9] at R9
          clear hW9 R8 hwr
          obtain ⟨z0, z1, z2, _, _, _⟩ := row3V_at R9.out.bx
          obtain ⟨_, _, _, v0, v1, v2⟩ := row3V_at R9.out.br
          obtain ⟨q0, q1, q2, _, _, _⟩ := row3V_at R9.out.br
          have HF := Lib.hid (R9.out.fin (.string ⟨#[114, 101, 102, 117, 103, 101]⟩) (.int .i64 (q.o + 1 + r7)) (.int .i64 ((q.o + 1 + r7) + r8)))
          have HE := Lib.hid (put3V R9.out.br (.string ⟨#[114, 101, 102, 117, 103, 101]⟩) (.int .i64 (q.o + 1 + r7)) (.int .i64 ((q.o + 1 + r7) + r8)))
          go_wp2_with fail
          go_region_with fail
          all_goals
            go_wp2_with fail
            refine bodyPost_ret (v := .tuple #[.slice (some ⟨b, off, none⟩) ps.length d, .agg #[.string ⟨#[114, 101, 102, 117, 103, 101]⟩, .int .i64 (q.o + 1 + r7), .int .i64 ((q.o + 1 + r7) + r8)]]) ?_ ?_ ?_
            · exact results_cell_v (p := 3) (u := 2) rfl _ _ w.heap.size 35 _ (0, 0) _ rfl HE.out Try.underlying35 rfl stoSzD
            · rfl
            · exact ⟨(some ⟨b, off, none⟩), d, ps, ⟨[114, 101, 102, 117, 103, 101], (q.o + 1 + r7), (q.o + 1 + r7) + r8⟩, rfl, (by decide : ([114, 101, 102, 117, 103, 101] : List UInt8).length ≤ 7), ⟨by show -100 ≤ (q.o + 1 + r7); omega, by show (q.o + 1 + r7) ≤ 200000; omega⟩, ⟨by show -100 ≤ (q.o + 1 + r7) + r8; omega, by show (q.o + 1 + r7) + r8 ≤ 200000; omega⟩, HF.out.1, Below.drew HF.out.2⟩
    · have HN := Lib.hid (fun (W' : World) (e : W'.heap = w5.heap) => next_any g 4 base A c bs W' (R5.out.src.sameV e) (by omega))
      obtain ⟨x0, x1, x2, y0, y1, y2⟩ := row3V_at R5.out.bx
      go_wp2_with fail
      go_region_with (go_at_call 48; (refine (HN.out _ (by rfl)).mono ?_); (rintro e w8 ⟨r8, rfl, a8, e8, s8, g8⟩); (have g8' : w5.grownBy w8 (some g) := ⟨g8.os, g8.tape, g8.output, g8.size, g8.block⟩); (have R8 := Lib.hid (R5.out.call s8 g8')); (clear x0 x1 x2 y0 y1 y2); (obtain ⟨x0, x1, x2, y0, y1, y2⟩ := row3V_at R8.out.bx))
      all_goals
        have R9 := Lib.hid (R8.out.setO (n + r8))
        clear x0 x1 x2 y0 y1 y2
        obtain ⟨W9, hW9⟩ : ∃ Wq, Wq = w8.setCell ⟨w3.heap.size, 2, none⟩ (.int .i64 (n + r8)) := ⟨_, rfl⟩
        have hwr : IntKind.i64.wrap (n + r8) = n + r8 := IntWalk.i64_in _ (by omega)
        rw [hwr, ← hW9]
        rw [← hW9] at R9
        clear hW9 R8 hwr
        obtain ⟨z0, z1, z2, _, _, _⟩ := row3V_at R9.out.bx
        obtain ⟨_, _, _, v0, v1, v2⟩ := row3V_at R9.out.br
        obtain ⟨q0, q1, q2, _, _, _⟩ := row3V_at R9.out.br
        have HF := Lib.hid (R9.out.fin (.string ⟨#[114, 101, 102, 117, 103, 101]⟩) (.int .i64 n) (.int .i64 (n + r8)))
        have HE := Lib.hid (put3V R9.out.br (.string ⟨#[114, 101, 102, 117, 103, 101]⟩) (.int .i64 n) (.int .i64 (n + r8)))
        go_wp2_with fail
        go_region_with fail
        all_goals
          go_wp2_with fail
          refine bodyPost_ret (v := .tuple #[.slice B ps.length d, .agg #[.string ⟨#[114, 101, 102, 117, 103, 101]⟩, .int .i64 n, .int .i64 (n + r8)]]) ?_ ?_ ?_
          · exact results_cell_v (p := 3) (u := 2) rfl _ _ w.heap.size 35 _ (0, 0) _ rfl HE.out Try.underlying35 rfl stoSzD
          · rfl
          · exact ⟨B, d, ps, ⟨[114, 101, 102, 117, 103, 101], n, n + r8⟩, rfl, (by decide : ([114, 101, 102, 117, 103, 101] : List UInt8).length ≤ 7), ⟨by show -100 ≤ n; omega, by show n ≤ 200000; omega⟩, ⟨by show -100 ≤ n + r8; omega, by show n + r8 ≤ 200000; omega⟩, HF.out.1, Below.drew HF.out.2⟩
  · have HN := Lib.hid (fun (W' : World) (e : W'.heap = (w3.alloc (.cells #[.string ⟨#[114, 101, 102, 117, 103, 101]⟩, .int .i64 n, .int .i64 0] 35)).heap) => next_any g 4 base A c bs W' (RF.out.src.sameV e) (by omega))
    obtain ⟨x0, x1, x2, y0, y1, y2⟩ := row3V_at RF.out.bx
    go_wp2_with fail
    go_region_with (go_at_call 48; (refine (HN.out _ (by rfl)).mono ?_); (rintro e w8 ⟨r8, rfl, a8, e8, s8, g8⟩); (have g8' : (w3.alloc (.cells #[.string ⟨#[114, 101, 102, 117, 103, 101]⟩, .int .i64 n, .int .i64 0] 35)).grownBy w8 (some g) := ⟨g8.os, g8.tape, g8.output, g8.size, g8.block⟩); (have R8 := Lib.hid (RF.out.call s8 g8')); (clear x0 x1 x2 y0 y1 y2); (obtain ⟨x0, x1, x2, y0, y1, y2⟩ := row3V_at R8.out.bx))
    all_goals
      have R9 := Lib.hid (R8.out.setO (n + r8))
      clear x0 x1 x2 y0 y1 y2
      obtain ⟨W9, hW9⟩ : ∃ Wq, Wq = w8.setCell ⟨w3.heap.size, 2, none⟩ (.int .i64 (n + r8)) := ⟨_, rfl⟩
      have hwr : IntKind.i64.wrap (n + r8) = n + r8 := IntWalk.i64_in _ (by omega)
      rw [hwr, ← hW9]
      rw [← hW9] at R9
      clear hW9 R8 hwr
      obtain ⟨z0, z1, z2, _, _, _⟩ := row3V_at R9.out.bx
      obtain ⟨_, _, _, v0, v1, v2⟩ := row3V_at R9.out.br
      obtain ⟨q0, q1, q2, _, _, _⟩ := row3V_at R9.out.br
      have HF := Lib.hid (R9.out.fin (.string ⟨#[114, 101, 102, 117, 103, 101]⟩) (.int .i64 n) (.int .i64 (n + r8)))
      have HE := Lib.hid (put3V R9.out.br (.string ⟨#[114, 101, 102, 117, 103, 101]⟩) (.int .i64 n) (.int .i64 (n + r8)))
      go_wp2_with fail
      go_region_with fail
      all_goals
        go_wp2_with fail
        refine bodyPost_ret (v := .tuple #[.slice B ps.length d, .agg #[.string ⟨#[114, 101, 102, 117, 103, 101]⟩, .int .i64 n, .int .i64 (n + r8)]]) ?_ ?_ ?_
        · exact results_cell_v (p := 3) (u := 2) rfl _ _ w.heap.size 35 _ (0, 0) _ rfl HE.out Try.underlying35 rfl stoSzD
        · rfl
        · exact ⟨B, d, ps, ⟨[114, 101, 102, 117, 103, 101], n, n + r8⟩, rfl, (by decide : ([114, 101, 102, 117, 103, 101] : List UInt8).length ≤ 7), ⟨by show -100 ≤ n; omega, by show n ≤ 200000; omega⟩, ⟨by show -100 ≤ n + r8; omega, by show n + r8 ≤ 200000; omega⟩, HF.out.1, Below.drew HF.out.2⟩
end Go.Proofs.Ytklhcofonkmiiaa
