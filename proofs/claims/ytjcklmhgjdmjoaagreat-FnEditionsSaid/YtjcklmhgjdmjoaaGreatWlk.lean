import Derived.Test.YtjcklmhgjdmjoaaGreatMDcn
import Derived.Test.YtjcklmhgjdmjoaaGreatMShp
import Derived.WalkMore
import Derived.ScopeJumps
namespace Go.Proofs.YtjcklmhgjdmjoaaGreat
open Go.ChangeShapes Go.WideShapes Go.ChangeAt Go.RowKit
set_option linter.unusedVariables false
theorem wp_scope_once {P : Program} {a : Act} {w : World} {Q : Exit -> Act -> World -> Prop} {c rest : Code} (l : Nat) (J : Act -> World -> Prop) (μ : Act -> World -> Nat) (hf : findLabel c l = some (Code.skip.seq rest))
  (pass : ∀ a w, J a w -> rest.wp P (Exit.jump l (fun a' w' => J a' w' /\ μ a' w' < μ a w) Q) a w)
  (first : (∀ a w, J a w -> rest.wp P (Exit.jump l J Q) a w) -> c.wp P (Exit.jump l J Q) a w) : (Code.scope c).wp P Q a w :=
 wp_scope_jumps l J μ hf (first fun a w h => wp_mono (pass a w h) (fun e a' w' k => by cases e <;> first | exact ⟨k.1, k.2.1⟩ | exact k)) (fun a w h => wp_seq (wp_skip (pass a w h)))
structure WKeep (w : World) (g : Nat) (q : Evt) (r : Int) (B : Option Addr) (n d : Nat) (ws : List (List UInt8)) (W : World) : Prop where
 ev : W.heap[w.heap.size]? = some (.cells #[.int .i64 q.d, .int .i64 q.k, .string ⟨q.c.toArray⟩, .int .i64 q.a, .bool q.p, .bool q.v, .bool q.r] 30 (0, 0))
 box : W.heap[g]? = some (.cells #[.int .i64 r, .slice B n d] 67 (0, 0))
 own : Ost W (w.heap.size + 1) B n d ws
 tou : Tou g (g + 1) w W
theorem WKeep.step {w : World} {g : Nat} {q : Evt} {r : Int} {B : Option Addr} {n d : Nat} {ws : List (List UInt8)} {W W' : World} (k : WKeep w g q r B n d ws W) (b : Below W.heap.size W W') : WKeep w g q r B n d ws W' :=
 ⟨(b.block _ (lt_some k.ev)).trans k.ev, (b.block _ (lt_some k.box)).trans k.box, k.own.below b, k.tou.trans (Tou.of_below b)⟩
theorem WKeep.bel {w : World} {g M : Nat} {q : Evt} {r : Int} {B : Option Addr} {n d : Nat} {ws : List (List UInt8)} {W : World} (k : WKeep w g q r B n d ws W) (hM : M <= g) (hg : g < w.heap.size) : Below M w W :=
 ⟨k.tou.os, k.tou.tape, k.tou.output, k.tou.size, fun i hi => k.tou.block i (by omega) (by omega)⟩
theorem WKeep.took {w : World} {g : Nat} {q : Evt} {r : Int} {p : Cls} {B : Option Addr} {n d : Nat} {ws : List (List UInt8)} {W W' : World} (k : WKeep w g q r B n d ws W) (hg : g < w.heap.size) (t : Took g (w.heap.size + 1) p B n d ws W W') :
  ∃ B' d', WKeep w g q p.e B' (n + 1) d' (ws ++ [p.c]) W' := by
 obtain ⟨B', d', h1, h2⟩ := t.new
 refine ⟨B', d', ?_, h1, h2, ⟨t.os.trans k.tou.os, t.tape.trans k.tou.tape, t.output.trans k.tou.output, Nat.le_trans k.tou.size t.size, fun i hi hn => ?_⟩⟩
 ·
  rw [t.block _ (lt_some k.ev) (by omega) (fun e => by have := k.own.lo _ e; omega)]; exact k.ev
 ·
  rw [t.block i (Nat.lt_of_lt_of_le hi k.tou.size) (by omega) (fun e => by have := k.own.lo _ e; omega)]; exact k.tou.block i hi hn
theorem WKeep.cells {w : World} {g : Nat} {q : Evt} {r : Int} {B : Option Addr} {n d : Nat} {ws : List (List UInt8)} {W : World} (k : WKeep w g q r B n d ws W) : EvtC W w.heap.size 0 q :=
 ⟨by rw [cell_of_row _ _ _ _ _ _ k.ev]; rfl, by rw [cell_of_row _ _ _ _ _ _ k.ev]; rfl, by rw [cell_of_row _ _ _ _ _ _ k.ev]; rfl, by rw [cell_of_row _ _ _ _ _ _ k.ev]; rfl, by rw [cell_of_row _ _ _ _ _ _ k.ev]; rfl, by rw [cell_of_row _ _ _ _ _ _ k.ev]; rfl, by rw [cell_of_row _ _ _ _ _ _ k.ev]; rfl⟩
theorem CTbl.keepM {w W : World} {A : Option Addr} {ps : List Cls} {M : Nat} (h : CTbl w A ps) (hA : Bd A M) (hb : Below M w W) : CTbl W A ps := ⟨Rw.keepB h.row hA hb, h.txt, h.len⟩
theorem CTbl.bdA {w : World} {A : Option Addr} {ps : List Cls} (h : CTbl w A ps) (hp : 0 < ps.length) : Bd A w.heap.size := by
 obtain ⟨b, off, p, e, hl, _⟩ := h.row.at hp
 subst e
 rintro a ⟨rfl⟩
 exact hl
theorem placeM_0 (A : Option Addr) (c : Nat) (ps : List Cls) (q : Evt) (w : World) (h : CTbl w A ps) (hrb : RB ps) (hc : ps.length <= c) :
  Calls Tryz.prog 84 #[.slice A ps.length c, .int .i64 0, .agg #[.int .i64 q.d, .int .i64 q.k, .string ⟨q.c.toArray⟩, .int .i64 q.a, .bool q.p, .bool q.v, .bool q.r]] w (Gives w (.int .i64 (firstC ps 0 q : Int))) := placeM_i A c 0 ps q w h hrb (Nat.lt_of_lt_of_le (by decide) hrb.lo) hc
set_option maxRecDepth 100000 in
set_option maxHeartbeats 8000000 in
theorem walk_i (A : Option Addr) (c : Nat) (ps : List Cls) (q : Evt) (g M : Nat) (w : World) (hM : M <= g) (hA : Bd A M) (hbox : w.heap[g]? = some (.cells #[.int .i64 0, .slice none 0 0] 67 (0, 0))) (h : CTbl w A ps) (hrb : RB ps) (hc : ps.length <= c) :
  Calls Tryz.prog 60 #[.slice A ps.length c, .agg #[.int .i64 q.d, .int .i64 q.k, .string ⟨q.c.toArray⟩, .int .i64 q.a, .bool q.p, .bool q.v, .bool q.r], .func (.func 61) #[.pointer (some ⟨g, 0, none⟩)] #[]] w (fun e W => e = .returned (.tuple #[]) /\ ∃ B d, W.heap[g]? = some (.cells #[.int .i64 (resC ps q), .slice B (decL ps q).length d] 67 (0, 0)) /\ Ost W (w.heap.size + 1) B (decL ps q).length d (decL ps q) /\ Tou g (g + 1) w W) := by
 have HT := Lib.hid h
 have HB := Lib.hid hrb
 have h12 := hrb.hi
 have h1 := hrb.lo
 have hg := lt_some hbox
 have hbd := h.bdA h1
 have b0 := below_alloc w (.cells #[.int .i64 q.d, .int .i64 q.k, .string ⟨q.c.toArray⟩, .int .i64 q.a, .bool q.p, .bool q.v, .bool q.r] 30)
 have k0 : WKeep w g q 0 none 0 0 [] (w.alloc (.cells #[.int .i64 q.d, .int .i64 q.k, .string ⟨q.c.toArray⟩, .int .i64 q.a, .bool q.p, .bool q.v, .bool q.r] 30)) := ⟨heap_alloc_new _ _, (b0.block _ hg).trans hbox, Ost.nil _ _, Tou.of_below b0⟩
 have H0 := Lib.hid (fun W (hb : Below M w W) => placeM_0 A c ps q W (h.keepM hA hb) hrb hc)
 have HM := Lib.hid (fun k (hk : k < ps.length) W (hb : Below M w W) => placeM_i A c k ps q W (h.keepM hA hb) hrb hk hc)
 have HP := Lib.hid (fun s W (hb : Below M w W) => place_iC A c ps s W (h.keepM hA hb).row (by omega))
 have HTM := Lib.hid (fun W (hb : Below M w W) => h.keepM hA hb)
 have EL : Hid (chainL ps q = chainC ps q 13 0) := Lib.hid rfl
 have hf0 := hrb.first (k := 0) (by omega) q
 clear h hrb
 obtain ⟨j0, hj0⟩ : ∃ j, j = firstC ps 0 q := ⟨_, rfl⟩
 rw [<- hj0] at H0 hf0
 have HJ0 := Lib.hid hj0
 clear hj0
 go_enter Tryz.func60, Tryz.ntmps60
 go_wp2_with fail
 refine wp_scope_once 0 (fun a' wr => ∃ (j n k : Nat) (xs : List Int) (r : Int) (B : Option Addr) (d : Nat) (u7 u8 u9 u10 u11 u12 u13 u14 u15 u16 u17 u18 u19 u20 u21 u22 u23 u24 u25 u26 u27 : Value), a' = { tmps := #[.slice A ps.length c, .agg #[.int .i64 q.d, .int .i64 q.k, .string ⟨q.c.toArray⟩, .int .i64 q.a, .bool q.p, .bool q.v, .bool q.r], .func (.func 61) #[.pointer (some ⟨g, 0, none⟩)] #[], undef, .pointer (some ⟨w.heap.size, 0, none⟩), undef, .int .i64 (j : Int), u7, u8, u9, u10, u11, u12, u13, u14, u15, u16, u17, u18, u19, u20, u21, u22, u23, u24, u25, u26, u27], defers := [] } /\ j < ps.length /\ k <= j /\ 13 <= n + k /\ xs.length <= k /\ Hid (j = firstC ps k q) /\ Hid (xs ++ chainC ps q n k = chainL ps q) /\
  Hid (WKeep w g q r B xs.length d (xs.map (cdOf ps)) wr)) (fun a' _ => ps.length - (intOf (a'.tmps.getD 6 undef)).toNat) rfl ?_ ?_
 ·
  clear k0 b0 H0 HJ0 EL hf0 hbox
  rintro a' wr ⟨j, n, k, xs, r, B, d, u7, u8, u9, u10, u11, u12, u13, u14, u15, u16, u17, u18, u19, u20, u21, u22, u23, u24, u25, u26, u27, rfl, hj, hkj, hn, hxk, hjj, hc0, hk⟩
  obtain ⟨n, rfl⟩ : ∃ m, n = m + 1 := ⟨n - 1, by omega⟩
  have hbw := hk.out.bel hM hg
  obtain ⟨b, off, p, rfl, hl, hp, h4⟩ := (HTM.out wr hbw).row.at hj
  have hp2 : Hid (ps[firstC ps k q]? = some p) := Lib.hid (by rw [<- hjj.out]; exact hp.out)
  have c0 := h4.c0; have c1 := h4.c1; have c2 := h4.c2; have c3 := h4.c3; have c4 := h4.c4; have c5 := h4.c5; have c6 := h4.c6
  have b1 := below_alloc wr (.cells #[.string ⟨p.c.toArray⟩, .int .i64 p.k, .int .i64 p.p, .int .i64 p.v, .int .i64 p.r, .int .i64 p.e, .string ⟨p.t.toArray⟩] 47)
  have k1 := hk.out.step b1
  have hnb := heap_alloc_new wr (.cells #[.string ⟨p.c.toArray⟩, .int .i64 p.k, .int .i64 p.p, .int .i64 p.v, .int .i64 p.r, .int .i64 p.e, .string ⟨p.t.toArray⟩] 47)
  obtain ⟨wA, hwA⟩ : ∃ x, wr.alloc (.cells #[.string ⟨p.c.toArray⟩, .int .i64 p.k, .int .i64 p.p, .int .i64 p.v, .int .i64 p.r, .int .i64 p.e, .string ⟨p.t.toArray⟩] 47) = x := ⟨_, rfl⟩
  rw [hwA] at b1 k1 hnb
  have HS1 : Hid (w.heap.size + 1 <= wA.heap.size /\ wr.heap.size < wA.heap.size /\ w.heap.size < wr.heap.size) := Lib.hid ⟨lt_some k1.ev, lt_some hnb, lt_some hk.out.ev⟩
  have d0 : wA.cell? ⟨wr.heap.size, 0, none⟩ = some (.string ⟨p.c.toArray⟩) := by rw [cell_of_row _ _ _ _ _ _ hnb]; rfl
  have d1 : wA.cell? ⟨wr.heap.size, 1, none⟩ = some (.int .i64 p.k) := by rw [cell_of_row _ _ _ _ _ _ hnb]; rfl
  have d2 : wA.cell? ⟨wr.heap.size, 2, none⟩ = some (.int .i64 p.p) := by rw [cell_of_row _ _ _ _ _ _ hnb]; rfl
  have d3 : wA.cell? ⟨wr.heap.size, 3, none⟩ = some (.int .i64 p.v) := by rw [cell_of_row _ _ _ _ _ _ hnb]; rfl
  have d4 : wA.cell? ⟨wr.heap.size, 4, none⟩ = some (.int .i64 p.r) := by rw [cell_of_row _ _ _ _ _ _ hnb]; rfl
  have d5 : wA.cell? ⟨wr.heap.size, 5, none⟩ = some (.int .i64 p.e) := by rw [cell_of_row _ _ _ _ _ _ hnb]; rfl
  have d6 : wA.cell? ⟨wr.heap.size, 6, none⟩ = some (.string ⟨p.t.toArray⟩) := by rw [cell_of_row _ _ _ _ _ _ hnb]; rfl
  have HTK := Lib.hid (take_i g (w.heap.size + 1) p r B xs.length d (xs.map (cdOf ps)) wA k1.box k1.own (by omega) HS1.out.1 (by omega))
  have HKT := Lib.hid (fun W' t => k1.took (p := p) (W' := W') hg t)
  have HNB := Lib.hid (fun W' (t : Took g (w.heap.size + 1) p B xs.length d (xs.map (cdOf ps)) wA W') => show W'.heap[wr.heap.size]? = _ from (t.block wr.heap.size HS1.out.2.1 (by have := HS1.out.2.2; omega) (fun e => by have := (hk.out.own.lt _ e).2; omega)).trans hnb)
  have EW : Hid ((xs.map (cdOf ps)) ++ [p.c] = (xs ++ [(j : Int)]).map (cdOf ps)) := Lib.hid (by simp [cdOf_at hp.out])
  have HWS := HS1.out.2.1
  clear b1 k1 hnb hk hbw h4 hl
  rcases Bool.eq_false_or_eq_true (p.e == 3) with he | he
  ·
   have hto := HB.out.to j p hp.out (by simpa using he)
   have hbd2 := (fndIC_bd ps p.t).2
   obtain ⟨m, hm⟩ : ∃ m : Nat, fndIC ps p.t = (m : Int) := ⟨(fndIC ps p.t).toNat, by omega⟩
   have hmp : m < ps.length := by omega
   have hjm : j < m := by omega
   have EC : Hid ((xs ++ [(j : Int)]) ++ chainC ps q n m = chainL ps q) := Lib.hid (by
    rw [<- hc0.out, chain_go hp2.out he, hm, <- hjj.out]; simp)
   obtain ⟨j2, hj2⟩ : ∃ j2, j2 = firstC ps m q := ⟨_, rfl⟩
   have hj2l : j2 < ps.length := by rw [hj2]; exact HB.out.first hmp q
   have hmj2 : m <= j2 := by rw [hj2]; exact first_ge ps m q
   have HM2 := Lib.hid (fun W hb => show Calls _ _ _ W (Gives W (.int .i64 (j2 : Int))) from by rw [hj2]; exact HM.out m hmp W hb)
   have HP2 := Lib.hid (fun W hb => show Calls _ _ _ W (Gives W (.int .i64 (m : Int))) from by rw [<- hm]; exact HP.out p.t W hb)
   have HJ2 := Lib.hid hj2
   clear hc0 hp hp2 hjj hto hbd2 hm hj2 HM HP HTM
   go_wp2_with fail
   try rw [hwA]
   refine HTK.out.mono ?_
   rintro e w2 ⟨rfl, t2⟩
   obtain ⟨B2, dd2, k2⟩ := HKT.out w2 t2
   have nb := HNB.out w2 t2
   rw [EW.out] at k2
   have hl2 := lt_some nb
   have hb2 := k2.bel hM hg
   have e5 : w2.cell? ⟨wr.heap.size, 5, none⟩ = some (.int .i64 p.e) := by rw [cell_of_row _ _ _ _ _ _ nb]; rfl
   have QM := Lib.hid (fun z : Sub (Bel w2) => (HM2.out z.w (hb2.trans (z.h.mono (Nat.le_trans (by omega) hb2.size)))).mono fun e w' h => (⟨h.1, ⟨w', Bel.step z h.2⟩, rfl⟩ : e = .returned (.int .i64 (j2 : Int)) /\ ∃ z2 : Sub (Bel w2), w' = z2.w))
   have QP := Lib.hid (fun z : Sub (Bel w2) => (HP2.out z.w (hb2.trans (z.h.mono (Nat.le_trans (by omega) hb2.size)))).mono fun e w' h => (⟨h.1, ⟨w', Bel.step z h.2⟩, rfl⟩ : e = .returned (.int .i64 (m : Int)) /\ ∃ z2 : Sub (Bel w2), w' = z2.w))
   have HK := Lib.hid (fun z : Sub (Bel w2) => k2.step z.h)
   have q6 : ∀ z : Sub (Bel w2), z.w.cell? ⟨wr.heap.size, 6, none⟩ = some (.string ⟨p.t.toArray⟩) := fun z => by rw [cell_of_row _ _ _ _ _ _ ((z.h.block _ hl2).trans nb)]; rfl
   have r0 : ∀ z : Sub (Bel w2), z.w.cell? ⟨w.heap.size, 0, none⟩ = some (.int .i64 q.d) := fun z => (k2.step z.h).cells.c0
   have r1 : ∀ z : Sub (Bel w2), z.w.cell? ⟨w.heap.size, 1, none⟩ = some (.int .i64 q.k) := fun z => (k2.step z.h).cells.c1
   have r2 : ∀ z : Sub (Bel w2), z.w.cell? ⟨w.heap.size, 2, none⟩ = some (.string ⟨q.c.toArray⟩) := fun z => (k2.step z.h).cells.c2
   have r3 : ∀ z : Sub (Bel w2), z.w.cell? ⟨w.heap.size, 3, none⟩ = some (.int .i64 q.a) := fun z => (k2.step z.h).cells.c3
   have r4 : ∀ z : Sub (Bel w2), z.w.cell? ⟨w.heap.size, 4, none⟩ = some (.bool q.p) := fun z => (k2.step z.h).cells.c4
   have r5 : ∀ z : Sub (Bel w2), z.w.cell? ⟨w.heap.size, 5, none⟩ = some (.bool q.v) := fun z => (k2.step z.h).cells.c5
   have r6 : ∀ z : Sub (Bel w2), z.w.cell? ⟨w.heap.size, 6, none⟩ = some (.bool q.r) := fun z => (k2.step z.h).cells.c6
   clear t2 k2 nb hb2 HTK HKT HNB d0 d1 d2 d3 d4 d5 d6 c0 c1 c2 c3 c4 c5 c6
   go_wp2_with fail
   refine region_held (Bel w2) (by kernel_rfl) (by kernel_rfl) (Bel.drew w2) ?_
   repeat (go_big_quiet_step ((first | rfl | (go_at_call 53; exact QP.out _) | (go_at_call 84; exact QM.out _))))
   refine wpQuiet_nil ?_
   rintro _ ⟨y, rfl⟩
   have hk2 := HK.out y
   have hlen : (xs ++ [(j : Int)]).length = xs.length + 1 := by simp
   go_wp2_with fail
   go_step3
   refine ⟨rfl, ⟨j2, n, m, xs ++ [(j : Int)], p.e, B2, dd2, _, _, _, _, _, _, _, _, _, _, _, _, _, _, _, _, _, _, _, _, _, rfl, hj2l, hmj2, by omega, by rw [hlen]; omega, HJ2, EC, Lib.hid (by rw [hlen]; exact hk2)⟩, ?_⟩
   simp [intOf]; omega
  ·
   have E : Hid (xs ++ [(j : Int)] = chainL ps q) := Lib.hid (by rw [<- hc0.out, chain_stop hp2.out he, <- hjj.out])
   have ER : Hid (resC ps q = p.e) := Lib.hid (resC_of E.out.symm hp.out)
   clear hc0 hp hp2 hjj HM HP HTM
   go_wp2_with fail
   try rw [hwA]
   refine HTK.out.mono ?_
   rintro e w2 ⟨rfl, t2⟩
   obtain ⟨B2, dd2, k2⟩ := HKT.out w2 t2
   have nb := HNB.out w2 t2
   rw [EW.out, E.out] at k2
   have e5 : w2.cell? ⟨wr.heap.size, 5, none⟩ = some (.int .i64 p.e) := by rw [cell_of_row _ _ _ _ _ _ nb]; rfl
   have K2 := Lib.hid k2
   clear t2 k2 nb HTK HKT HNB d0 d1 d2 d3 d4 d5 d6 c0 c1 c2 c3 c4 c5 c6
   go_wp2_with fail
   simp only [Exit.jump]
   have hlen : xs.length + 1 = (decL ps q).length := by rw [decL_len, <- E.out]; simp
   have k3 := K2.out
   rw [hlen] at k3
   exact bodyPost_end (v := .tuple #[]) (by simp [results, Tryz.results60]) rfl ⟨rfl, B2, dd2, by rw [ER.out]; exact k3.box, k3.own, k3.tou⟩
 ·
  intro HR
  have hb0 := k0.bel hM hg
  have c0 := k0.cells.c0; have c1 := k0.cells.c1; have c2 := k0.cells.c2; have c3 := k0.cells.c3; have c4 := k0.cells.c4; have c5 := k0.cells.c5; have c6 := k0.cells.c6
  have HR1 := Lib.hid HR
  clear HR
  go_wp2_with fail
  refine (H0.out _ hb0).mono ?_
  rintro e w1 ⟨rfl, b1⟩
  have k1 := k0.step b1
  go_wp2_with fail
  go_step3
  simp only [Exit.then]
  rename_i hK
  refine hK _ _ ?_
  exact HR1.out _ _ ⟨j0, 13, 0, [], 0, none, 0, _, _, _, _, _, _, _, _, _, _, _, _, _, _, _, _, _, _, _, _, _, rfl, hf0, Nat.zero_le _, by omega, by simp, HJ0, Lib.hid (by rw [EL.out]; rfl), Lib.hid k1⟩
end Go.Proofs.YtjcklmhgjdmjoaaGreat
