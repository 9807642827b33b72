import Derived.Test.YtjcklmhgjdmjoaaGreatMShp
import Derived.Test.YtjcklmhgjdmjoaaGreatMDcs
import Derived.Deep.RegionHeld3
import Derived.Test.YtjcklmhgjdmjoaaGreatMCal
import Derived.Test.YtjcklmhgjdmjoaaGreatClb
namespace Go.Proofs.YtjcklmhgjdmjoaaGreat
open Go.ChangeShapes Go.WideShapes Go.ChangeAt Go.RowKit
set_option linter.unusedVariables false
theorem heap_alloc_newF {W : World} {k : Nat} (h : k = W.heap.size) (o : Obj) : (W.alloc o).heap[k]? = some o := by subst h; exact heap_alloc_new W o
structure KS (A1 A2 : Option Addr) (n1 c1 n2 c2 ga gb gs : Nat) (W : World) : Prop where
 a : W.cell? ⟨ga, 0, none⟩ = some (.slice A1 n1 c1)
 b : W.cell? ⟨gb, 0, none⟩ = some (.slice A2 n2 c2)
 s : W.cell? ⟨gs, 0, none⟩ = some (.func (.func 33) #[] #[.pointer (some ⟨ga, 0, none⟩), .pointer (some ⟨gb, 0, none⟩), .pointer (some ⟨gs, 0, none⟩)])
 la : ga < W.heap.size
 lb : gb < W.heap.size
 ls : gs < W.heap.size
theorem KS.below {A1 A2 : Option Addr} {n1 c1 n2 c2 ga gb gs : Nat} {W W' : World} (k : KS A1 A2 n1 c1 n2 c2 ga gb gs W) (b : Below W.heap.size W W') : KS A1 A2 n1 c1 n2 c2 ga gb gs W' :=
 ⟨(b.cell (p := ⟨ga, 0, none⟩) k.la).trans k.a, (b.cell (p := ⟨gb, 0, none⟩) k.lb).trans k.b, (b.cell (p := ⟨gs, 0, none⟩) k.ls).trans k.s, Nat.lt_of_lt_of_le k.la b.size, Nat.lt_of_lt_of_le k.lb b.size, Nat.lt_of_lt_of_le k.ls b.size⟩
theorem KZ.drew {w W : World} (k : KZ w W) : KZ w W.drew := ⟨k.z, k.bel.drew⟩
theorem EvtR.tail {w : World} {b off : Nat} {e : Evt} {l : List Evt} (h : EvtR w (some ⟨b, off, none⟩) (e :: l)) : EvtR w (some ⟨b, off + 7, none⟩) l := fun hp => by
 have hl := flat_len Evt.cells 7 (fun _ => rfl) l
 have hl2 := flat_len Evt.cells 7 (fun _ => rfl) (e :: l)
 rw [List.length_cons] at hl2
 obtain ⟨b', o', e', hb, hc⟩ := h (by omega)
 simp only [Option.some.injEq, Addr.mk.injEq, and_true] at e'
 obtain ⟨rfl, rfl⟩ := e'
 refine ⟨b, off + 7, rfl, hb, fun j v hj => ?_⟩
 rw [Nat.add_assoc]
 refine hc (7 + j) v ?_
 rw [List.flatMap_cons, List.getElem?_append_right (by simp [Evt.cells])]
 simpa [Evt.cells] using hj
set_option maxRecDepth 100000 in
set_option maxHeartbeats 16000000 in
theorem srch_i (A1 A2 : Option Addr) (c1 c2 : Nat) (ps qs : List Cls) (ga gb gs : Nat) (hra : RB ps) (hrb : RB qs) (hca : ps.length <= c1) (hcb : qs.length <= c2) :
  ∀ (l : List Evt) (A : Option Addr) (c : Nat) (w : World), EvtR w A l -> l.length <= c -> l.length <= 1000 -> CTbl w A1 ps -> CTbl w A2 qs -> KS A1 A2 ps.length c1 qs.length c2 ga gb gs w ->
   Calls Tryz.prog 33 #[.slice A l.length c, .pointer (some ⟨ga, 0, none⟩), .pointer (some ⟨gb, 0, none⟩), .pointer (some ⟨gs, 0, none⟩)] w (Gives w (.tuple #[.agg #[.int .i64 (srchD ps qs l).1.d, .int .i64 (srchD ps qs l).1.k, .string ⟨(srchD ps qs l).1.c.toArray⟩, .int .i64 (srchD ps qs l).1.a, .bool (srchD ps qs l).1.p, .bool (srchD ps qs l).1.v, .bool (srchD ps qs l).1.r], .int .i64 (srchD ps qs l).2]))
 | [], A, c, w, hR, hc, hl, ha, hb, hk => by
  have kz := KZ.new w
  obtain ⟨d0, d1, d2, d3, d4, d5, d6, f0, f1, f2, f3, f4, f5, f6⟩ := kz.at
  have E : Hid (srchD ps qs [] = (evtZ, 4)) := Lib.hid rfl
  clear ha hb hk hR
  go_enter Tryz.func33, Tryz.ntmps33
  try simp only [List.length_nil]
  go_wp2_with fail
  rw [E.out]
  refine bodyPost_ret (v := .tuple #[.agg #[.int .i64 0, .int .i64 0, .string ⟨#[]⟩, .int .i64 0, .bool false, .bool false, .bool false], .int .i64 4]) ?_ rfl ⟨rfl, kz.bel⟩
  simp [results, Tryz.results33, go_sem, d0, d1, d2, d3, d4, d5, d6]
 | e :: l, A, c, w, hR, hc, hl, ha, hb, hk => by
  have kz := KZ.new w
  have IH := Lib.hid (fun A c W h1 h2 h3 h4 h5 h6 => srch_i A1 A2 c1 c2 ps qs ga gb gs hra hrb hca hcb l A c W h1 h2 h3 h4 h5 h6)
  obtain ⟨b, off, e2, rfl, hlb, he2, h4⟩ := hR.at (k := 0) (by simp)
  obtain rfl : e = e2 := by have a := he2.out; simpa using a
  have b1 := below_alloc w (.cells #[.int .i64 0, .int .i64 0, .string ⟨#[]⟩, .int .i64 0, .bool false, .bool false, .bool false] 30)
  have hb1 := h4.belowB hlb b1
  have h00 : off + 0 * 7 = off := by omega
  rw [h00] at hb1
  have c0 := hb1.c0; have c1' := hb1.c1; have c2' := hb1.c2; have c3 := hb1.c3; have c4 := hb1.c4; have c5 := hb1.c5; have c6 := hb1.c6
  obtain ⟨wA, hwA⟩ : ∃ x, (w.alloc (.cells #[.int .i64 0, .int .i64 0, .string ⟨#[]⟩, .int .i64 0, .bool false, .bool false, .bool false] 30)).alloc (.cells #[.int .i64 e.d, .int .i64 e.k, .string ⟨e.c.toArray⟩, .int .i64 e.a, .bool e.p, .bool e.v, .bool e.r] 30) = x := ⟨_, rfl⟩
  have hbA : Below w.heap.size w wA := by rw [<- hwA]; exact belowGo b1 (below_alloc _ _)
  have kzA : KZ w wA := by rw [<- hwA]; exact kz.step (below_alloc _ _)
  have hbx : wA.heap[w.heap.size + 1]? = some (.cells #[.int .i64 e.d, .int .i64 e.k, .string ⟨e.c.toArray⟩, .int .i64 e.a, .bool e.p, .bool e.v, .bool e.r] 30 (0, 0)) := by rw [<- hwA]; exact heap_alloc_newF (by simp) _
  have hlx := lt_some hbx
  have hX : EvtC wA (w.heap.size + 1) 0 e := ⟨by rw [cell_of_row _ _ _ _ _ _ hbx]; rfl, by rw [cell_of_row _ _ _ _ _ _ hbx]; rfl, by rw [cell_of_row _ _ _ _ _ _ hbx]; rfl, by rw [cell_of_row _ _ _ _ _ _ hbx]; rfl, by rw [cell_of_row _ _ _ _ _ _ hbx]; rfl, by rw [cell_of_row _ _ _ _ _ _ hbx]; rfl, by rw [cell_of_row _ _ _ _ _ _ hbx]; rfl⟩
  have KA := hk.below hbA
  have HALL := Lib.hid (fun (W : World) (b : Below wA.heap.size wA W) => (show W.cell? ⟨w.heap.size + 1, 0, none⟩ = some (.int .i64 e.d) /\ W.cell? ⟨w.heap.size + 1, 1, none⟩ = some (.int .i64 e.k) /\ W.cell? ⟨w.heap.size + 1, 2, none⟩ = some (.string ⟨e.c.toArray⟩) /\ W.cell? ⟨w.heap.size + 1, 3, none⟩ = some (.int .i64 e.a) /\ W.cell? ⟨w.heap.size + 1, 4, none⟩ = some (.bool e.p) /\ W.cell? ⟨w.heap.size + 1, 5, none⟩ = some (.bool e.v) /\ W.cell? ⟨w.heap.size + 1, 6, none⟩ = some (.bool e.r) /\ W.cell? ⟨ga, 0, none⟩ = some (.slice A1 ps.length c1) /\ W.cell? ⟨gb, 0, none⟩ = some (.slice A2 qs.length c2) /\ Below wA.heap.size wA W from
   have x := hX.belowB hlx b
   ⟨x.c0, x.c1, x.c2, x.c3, x.c4, x.c5, x.c6, (KA.below b).a, (KA.below b).b, b⟩))
  have HA := Lib.hid (fun (W : World) (hbW : Below wA.heap.size wA W) => (decide_i A1 c1 ps e W (ha.below (belowGo hbA hbW)) hra hca).mono fun x w' k => (show ∃ B n d, x = .returned (.agg #[.int .i64 (resC ps e), .slice B n d]) /\ Below wA.heap.size wA w' from by
   obtain ⟨B, d, k1, _, k3⟩ := k
   exact ⟨B, _, d, k1, hbW.trans (k3.mono hbW.size)⟩))
  have HB := Lib.hid (fun (W : World) (hbW : Below wA.heap.size wA W) => (decide_i A2 c2 qs e W (hb.below (belowGo hbA hbW)) hrb hcb).mono fun x w' k => (show ∃ B n d, x = .returned (.agg #[.int .i64 (resC qs e), .slice B n d]) /\ Below wA.heap.size wA w' from by
   obtain ⟨B, d, k1, _, k3⟩ := k
   exact ⟨B, _, d, k1, hbW.trans (k3.mono hbW.size)⟩))
  have HK := Lib.hid (fun y : Sub (Bel wA) => KA.below y.h)
  have HKZ := Lib.hid (fun y : Sub (Bel wA) => kzA.step y.h)
  have HXC := Lib.hid (fun y : Sub (Bel wA) => hX.belowB hlx y.h)
  have HT := Lib.hid (fun W (bb : Below w.heap.size w W) => (⟨hR.below bb, ha.below bb, hb.below bb⟩ : EvtR W (some ⟨b, off, none⟩) (e :: l) /\ CTbl W A1 ps /\ CTbl W A2 qs))
  have ES := Lib.hid (@srchD_yes ps qs e l)
  have EN := Lib.hid (@srchD_no ps qs e l)
  have hlen : (((l.length + 1 : Nat) : Int) == 0) = false := beq_eq_false_iff_ne.2 (by omega)
  simp only [List.length_cons] at hc hl ⊢
  have hfd : ∀ (a b : Value) (w : World), (Instr.field 67 (.agg #[a, b]) 0).run Tryz.prog w = .ok a w := fun _ _ _ => rfl
  generalize resC ps e = ra at *
  generalize resC qs e = rb at *
  generalize srchD ps qs (e :: l) = D0 at *
  generalize srchD ps qs l = D at *
  clear hR ha hb hk KA hX hbx h4 hb1 he2 kz kzA
  obtain ⟨v, hv⟩ : ∃ v, (ra != rb) = v := ⟨_, rfl⟩
  cases v
  ·
   have E := Lib.hid (EN.out hv)
   clear EN ES
   rcases (by omega : c = 1 ∨ 1 < c) with rfl | hc1
   ·
    have hl0 : l = [] := List.eq_nil_of_length_eq_zero (by omega)
    subst hl0
    simp only [List.length_nil] at hlen hc hl ⊢
    go_enter Tryz.func33, Tryz.ntmps33
    go_wp2_with fail
    try rw [hwA]
    have kb0 := (Below.refl wA.heap.size wA).drew
    go_region_held3 (fun W => W.cell? ⟨w.heap.size + 1, 0, none⟩ = some (.int .i64 e.d) /\ W.cell? ⟨w.heap.size + 1, 1, none⟩ = some (.int .i64 e.k) /\ W.cell? ⟨w.heap.size + 1, 2, none⟩ = some (.string ⟨e.c.toArray⟩) /\ W.cell? ⟨w.heap.size + 1, 3, none⟩ = some (.int .i64 e.a) /\ W.cell? ⟨w.heap.size + 1, 4, none⟩ = some (.bool e.p) /\ W.cell? ⟨w.heap.size + 1, 5, none⟩ = some (.bool e.v) /\ W.cell? ⟨w.heap.size + 1, 6, none⟩ = some (.bool e.r) /\ W.cell? ⟨ga, 0, none⟩ = some (.slice A1 ps.length c1) /\ W.cell? ⟨gb, 0, none⟩ = some (.slice A2 qs.length c2) /\ Below wA.heap.size wA W) (first | exact HALL.out _ kb0 | exact HALL.out _ (by assumption))
     (first | (go_at_call 34; (first | (with_reducible refine (HA.out _ ?_).mono ?_) | (with_reducible refine (HB.out _ ?_).mono ?_)); (first | assumption | exact (by assumption : _ /\ _ /\ _ /\ _ /\ _ /\ _ /\ _ /\ _ /\ _ /\ _).2.2.2.2.2.2.2.2.2); rintro e' w2 ⟨B2, n2, d2, rfl, kb2⟩))
    all_goals
     obtain ⟨y, hy⟩ : ∃ y : Sub (Bel wA), y.w = w2 := ⟨⟨w2, kb2⟩, rfl⟩
     subst hy
     have k4 := (HKZ.out y).drew
     have kk := (HK.out y)
     have t4 := (HKZ.out y).bel.drew
     have ks := kk.s
     have IHq := Lib.hid (IH.out (some ⟨b, off, none⟩) 0 y.w.drew (fun hp => absurd hp (by simp)) (by first | omega | simp) (by first | omega | simp) (HT.out _ t4).2.1 (HT.out _ t4).2.2 (kk.below (Below.refl _ _).drew))
     generalize y.w = wq at *
     clear c0 c1' c2' c3 c4 c5 c6 HA HB HK HKZ HXC HT IH kk HALL kb0
     go_wp2_with fail
     go_region_with (go_at_call 33; refine IHq.out.mono ?_; rintro e' w5 ⟨rfl, b5⟩; have k5 := k4.step b5; obtain ⟨d0, d1, d2, d3, d4, d5, d6, f0, f1, f2, f3, f4, f5, f6⟩ := k5.at)
     all_goals
      go_wp2_with fail
      obtain ⟨W', hW, ec, bw⟩ := k5.done D.1
      rw [hW]
      have g0 := ec.c0; have g1 := ec.c1; have g2 := ec.c2; have g3 := ec.c3; have g4 := ec.c4; have g5 := ec.c5; have g6 := ec.c6
      rw [E.out]
      refine bodyPost_ret (v := .tuple #[.agg #[.int .i64 (D.1).d, .int .i64 (D.1).k, .string ⟨(D.1).c.toArray⟩, .int .i64 (D.1).a, .bool (D.1).p, .bool (D.1).v, .bool (D.1).r], .int .i64 D.2]) ?_ rfl ⟨rfl, bw⟩
      simp [results, Tryz.results33, go_sem, g0, g1, g2, g3, g4, g5, g6, evtZ]
   ·
    have hc1s : ¬ c = 1 := by omega
    have hc1t : ¬ 1 = c := by omega
    go_enter Tryz.func33, Tryz.ntmps33
    go_wp2_with fail
    try rw [hwA]
    have kb0 := (Below.refl wA.heap.size wA).drew
    go_region_held3 (fun W => W.cell? ⟨w.heap.size + 1, 0, none⟩ = some (.int .i64 e.d) /\ W.cell? ⟨w.heap.size + 1, 1, none⟩ = some (.int .i64 e.k) /\ W.cell? ⟨w.heap.size + 1, 2, none⟩ = some (.string ⟨e.c.toArray⟩) /\ W.cell? ⟨w.heap.size + 1, 3, none⟩ = some (.int .i64 e.a) /\ W.cell? ⟨w.heap.size + 1, 4, none⟩ = some (.bool e.p) /\ W.cell? ⟨w.heap.size + 1, 5, none⟩ = some (.bool e.v) /\ W.cell? ⟨w.heap.size + 1, 6, none⟩ = some (.bool e.r) /\ W.cell? ⟨ga, 0, none⟩ = some (.slice A1 ps.length c1) /\ W.cell? ⟨gb, 0, none⟩ = some (.slice A2 qs.length c2) /\ Below wA.heap.size wA W) (first | exact HALL.out _ kb0 | exact HALL.out _ (by assumption))
     (first | (go_at_call 34; (first | (with_reducible refine (HA.out _ ?_).mono ?_) | (with_reducible refine (HB.out _ ?_).mono ?_)); (first | assumption | exact (by assumption : _ /\ _ /\ _ /\ _ /\ _ /\ _ /\ _ /\ _ /\ _ /\ _).2.2.2.2.2.2.2.2.2); rintro e' w2 ⟨B2, n2, d2, rfl, kb2⟩))
    all_goals
     obtain ⟨y, hy⟩ : ∃ y : Sub (Bel wA), y.w = w2 := ⟨⟨w2, kb2⟩, rfl⟩
     subst hy
     have k4 := (HKZ.out y).drew
     have kk := (HK.out y)
     have t4 := (HKZ.out y).bel.drew
     have ks := kk.s
     have IHq := Lib.hid (IH.out (some ⟨b, off + 7, none⟩) (c - 1) y.w.drew (((HT.out _ t4).1).tail) (by first | omega | simp) (by first | omega | simp) (HT.out _ t4).2.1 (HT.out _ t4).2.2 (kk.below (Below.refl _ _).drew))
     generalize y.w = wq at *
     clear c0 c1' c2' c3 c4 c5 c6 HA HB HK HKZ HXC HT IH kk HALL kb0
     go_wp2_with fail
     go_region_with (go_at_call 33; refine IHq.out.mono ?_; rintro e' w5 ⟨rfl, b5⟩; have k5 := k4.step b5; obtain ⟨d0, d1, d2, d3, d4, d5, d6, f0, f1, f2, f3, f4, f5, f6⟩ := k5.at)
     all_goals
      go_wp2_with fail
      obtain ⟨W', hW, ec, bw⟩ := k5.done D.1
      rw [hW]
      have g0 := ec.c0; have g1 := ec.c1; have g2 := ec.c2; have g3 := ec.c3; have g4 := ec.c4; have g5 := ec.c5; have g6 := ec.c6
      rw [E.out]
      refine bodyPost_ret (v := .tuple #[.agg #[.int .i64 (D.1).d, .int .i64 (D.1).k, .string ⟨(D.1).c.toArray⟩, .int .i64 (D.1).a, .bool (D.1).p, .bool (D.1).v, .bool (D.1).r], .int .i64 D.2]) ?_ rfl ⟨rfl, bw⟩
      simp [results, Tryz.results33, go_sem, g0, g1, g2, g3, g4, g5, g6, evtZ]
  ·
   have E := Lib.hid (ES.out hv)
   clear EN ES IH HT
   go_enter Tryz.func33, Tryz.ntmps33
   go_wp2_with fail
   try rw [hwA]
   have kb0 := (Below.refl wA.heap.size wA).drew
   go_region_held3 (fun W => W.cell? ⟨w.heap.size + 1, 0, none⟩ = some (.int .i64 e.d) /\ W.cell? ⟨w.heap.size + 1, 1, none⟩ = some (.int .i64 e.k) /\ W.cell? ⟨w.heap.size + 1, 2, none⟩ = some (.string ⟨e.c.toArray⟩) /\ W.cell? ⟨w.heap.size + 1, 3, none⟩ = some (.int .i64 e.a) /\ W.cell? ⟨w.heap.size + 1, 4, none⟩ = some (.bool e.p) /\ W.cell? ⟨w.heap.size + 1, 5, none⟩ = some (.bool e.v) /\ W.cell? ⟨w.heap.size + 1, 6, none⟩ = some (.bool e.r) /\ W.cell? ⟨ga, 0, none⟩ = some (.slice A1 ps.length c1) /\ W.cell? ⟨gb, 0, none⟩ = some (.slice A2 qs.length c2) /\ Below wA.heap.size wA W) (first | exact HALL.out _ kb0 | exact HALL.out _ (by assumption))
    (first | (go_at_call 34; (first | (with_reducible refine (HA.out _ ?_).mono ?_) | (with_reducible refine (HB.out _ ?_).mono ?_)); (first | assumption | exact (by assumption : _ /\ _ /\ _ /\ _ /\ _ /\ _ /\ _ /\ _ /\ _ /\ _).2.2.2.2.2.2.2.2.2); rintro e' w2 ⟨B2, n2, d2, rfl, kb2⟩))
   all_goals
    obtain ⟨y, hy⟩ : ∃ y : Sub (Bel wA), y.w = w2 := ⟨⟨w2, kb2⟩, rfl⟩
    subst hy
    have k4 := HKZ.out y
    have hx := HXC.out y
    have q0 := hx.c0; have q1 := hx.c1; have q2 := hx.c2; have q3 := hx.c3; have q4 := hx.c4; have q5 := hx.c5; have q6 := hx.c6
    obtain ⟨d0, d1, d2, d3, d4, d5, d6, f0, f1, f2, f3, f4, f5, f6⟩ := k4.at
    generalize y.w = wq at *
    clear c0 c1' c2' c3 c4 c5 c6 HA HB HK HKZ HXC HALL kb0
    go_wp2_with fail
    obtain ⟨W', hW, ec, bw⟩ := k4.done e
    rw [hW]
    have g0 := ec.c0; have g1 := ec.c1; have g2 := ec.c2; have g3 := ec.c3; have g4 := ec.c4; have g5 := ec.c5; have g6 := ec.c6
    rw [E.out]
    refine bodyPost_ret (v := .tuple #[.agg #[.int .i64 (e).d, .int .i64 (e).k, .string ⟨(e).c.toArray⟩, .int .i64 (e).a, .bool (e).p, .bool (e).v, .bool (e).r], .int .i64 0]) ?_ rfl ⟨rfl, bw⟩
    simp [results, Tryz.results33, go_sem, g0, g1, g2, g3, g4, g5, g6, evtZ]
end Go.Proofs.YtjcklmhgjdmjoaaGreat

namespace Go.Proofs.YtjcklmhgjdmjoaaGreat
open Go.ChangeShapes Go.WideShapes Go.ChangeAt Go.RowKit
set_option linter.unusedVariables false
theorem own_capE {w : World} {base n q size : Nat} {e : TypeId} {O : Option Addr} {xs : List Value} (h : w.ownsRow base e size (.slice O n q) n xs) : n <= q := by
 rcases h.2 with ⟨h1, h2⟩ | ⟨g, cap, cur, h1, _, _, h4, _⟩
 ·
  omega
 ·
  injection h1 with _ _ h3; omega
structure KF (w : World) (A B : Option Addr) (n c m d : Nat) (w2 W : World) : Prop where
 z : KZ w2 W
 a : W.cell? ⟨w.heap.size, 0, none⟩ = some (.slice A n c)
 b : W.cell? ⟨w.heap.size + 1, 0, none⟩ = some (.slice B m d)
 bel : Below w.heap.size w W
 la : w.heap.size + 2 < W.heap.size
theorem KF.step {w w2 W W' : World} {A B : Option Addr} {n c m d : Nat} (k : KF w A B n c m d w2 W) (b : Below W.heap.size W W') : KF w A B n c m d w2 W' :=
 ⟨k.z.step b, (b.cell (p := ⟨w.heap.size, 0, none⟩) (by have := k.la; simp only; omega)).trans k.a, (b.cell (p := ⟨w.heap.size + 1, 0, none⟩) (by have := k.la; simp only; omega)).trans k.b, belowGo k.bel b, Nat.lt_of_lt_of_le k.la b.size⟩
theorem KF.new (w : World) (A B : Option Addr) (n c m d : Nat) : KF w A B n c m d ((w.alloc (.cells #[.slice A n c] 24)).alloc (.cells #[.slice B m d] 24)) (((w.alloc (.cells #[.slice A n c] 24)).alloc (.cells #[.slice B m d] 24)).alloc (.cells #[.int .i64 0, .int .i64 0, .string ⟨#[]⟩, .int .i64 0, .bool false, .bool false, .bool false] 30)) := by
 have h1 := heap_alloc_new w (.cells #[.slice A n c] 24)
 have h2 := heap_alloc_new (w.alloc (.cells #[.slice A n c] 24)) (.cells #[.slice B m d] 24)
 have b2 := below_alloc (w.alloc (.cells #[.slice A n c] 24)) (.cells #[.slice B m d] 24)
 have b3 := below_alloc ((w.alloc (.cells #[.slice A n c] 24)).alloc (.cells #[.slice B m d] 24)) (.cells #[.int .i64 0, .int .i64 0, .string ⟨#[]⟩, .int .i64 0, .bool false, .bool false, .bool false] 30)
 have e1 := (b2.block _ (lt_some h1)).trans h1
 have e2 := (b3.block _ (lt_some e1)).trans e1
 have e3 := (b3.block _ (lt_some h2)).trans h2
 have hs : (w.alloc (.cells #[.slice A n c] 24)).heap.size = w.heap.size + 1 := by simp
 rw [hs] at e3
 refine ⟨KZ.new _, by rw [cell_of_row _ _ _ _ _ _ e2]; rfl, by rw [cell_of_row _ _ _ _ _ _ e3]; rfl, belowGo (belowGo (below_alloc _ _) b2) b3, by simp⟩
theorem KF.far {w w2 W W' : World} {A B : Option Addr} {n c m d : Nat} (k : KF w A B n c m d w2 W) (h : Below w.heap.size w w2) (bw : Below w2.heap.size w2 W') : Below w.heap.size w W' := h.trans (bw.mono h.size)
set_option maxRecDepth 100000 in
set_option maxHeartbeats 8000000 in
theorem fd_i (A B : Option Addr) (c d : Nat) (ps qs : List Cls) (w : World) (ha : CTblC w A c ps) (hb : CTblC w B d qs) :
  Calls Tryz.prog 8 #[.slice A ps.length c, .slice B qs.length d] w (Gives w (.tuple #[.agg #[.int .i64 (fdR ps qs).1.d, .int .i64 (fdR ps qs).1.k, .string ⟨(fdR ps qs).1.c.toArray⟩, .int .i64 (fdR ps qs).1.a, .bool (fdR ps qs).1.p, .bool (fdR ps qs).1.v, .bool (fdR ps qs).1.r], .int .i64 (fdR ps qs).2])) := by
 have kf := KF.new w A B ps.length c qs.length d
 obtain ⟨w2, hw2⟩ : ∃ x, x = (w.alloc (.cells #[.slice A ps.length c] 24)).alloc (.cells #[.slice B qs.length d] 24) := ⟨_, rfl⟩
 have hz2 : w2.heap.size = w.heap.size + 2 := by rw [hw2]; simp
 have hb2 : Below w.heap.size w w2 := by rw [hw2]; exact belowGo (below_alloc _ _) (below_alloc _ _)
 rw [<- hw2] at kf
 obtain ⟨w3, hw3⟩ : ∃ x, x = w2.alloc (.cells #[.int .i64 0, .int .i64 0, .string ⟨#[]⟩, .int .i64 0, .bool false, .bool false, .bool false] 30) := ⟨_, rfl⟩
 rw [<- hw3] at kf
 have HA := Lib.hid (fun W (b : Below w.heap.size w W) => isRb_i A c ps W (ha.tbl.below b))
 have HB := Lib.hid (fun W (b : Below w.heap.size w W) => isRb_i B d qs W (hb.tbl.below b))
 have HW : Hid ((((w.alloc (.cells #[.slice A ps.length c] 24)).alloc (.cells #[.slice B qs.length d] 24)).alloc (.cells #[.int .i64 0, .int .i64 0, .string ⟨#[]⟩, .int .i64 0, .bool false, .bool false, .bool false] 30)) = w3) := Lib.hid (by rw [hw3, hw2])
 have HW2 := Lib.hid hz2
 have hw0 := HW.out
 clear hw2 hw3
 have k0a := kf.a; have k0b := kf.b
 rcases Bool.eq_false_or_eq_true (rbB ps) with h | h
 ·
  rw [h] at HA
  rcases Bool.eq_false_or_eq_true (rbB qs) with h1 | h1
  ·
   rw [h1] at HB
   have E := Lib.hid (fdR_srch h h1)
   have HSR := Lib.hid (fun ga gb gs l A' c' W h1' h2 h3 h4 h5 h6 => srch_i A B c d ps qs ga gb gs (rb_of h) (rb_of h1) ha.cap hb.cap l A' c' W h1' h2 h3 h4 h5 h6)
   have HT := Lib.hid (fun W (b : Below w.heap.size w W) => (⟨ha.tbl.below b, hb.tbl.below b⟩ : CTbl W A ps /\ CTbl W B qs))
   have hsl := shp_len 56
   clear h h1 ha hb
   go_enter Tryz.func8, Tryz.ntmps8
   go_wp2_with fail
   refine (HA.out _ kf.bel).mono ?_
   rintro e w4 ⟨rfl, b4⟩
   have k4 := kf.step b4
   clear k0a k0b
   have k0a := k4.a; have k0b := k4.b
   go_wp2_with fail
   refine (HB.out _ k4.bel).mono ?_
   rintro e w5 ⟨rfl, b5⟩
   have k5 := k4.step b5
   clear k0a k0b hw0 HA HB
   have s5 := k5.la
   obtain ⟨w6, hw6⟩ : ∃ x, (w5.alloc (.cells #[.nilFunc] 64)).setCell ⟨w5.heap.size, 0, none⟩ (.func (.func 33) #[] #[.pointer (some ⟨w.heap.size, 0, none⟩), .pointer (some ⟨w.heap.size + 1, 0, none⟩), .pointer (some ⟨w5.heap.size, 0, none⟩)]) = x := ⟨_, rfl⟩
   have hc6 : (w5.alloc (.cells #[.nilFunc] 64)).cell? ⟨w5.heap.size, 0, none⟩ = some .nilFunc := by rw [cell_of_row _ _ _ _ _ _ (heap_alloc_new w5 _)]; rfl
   have hz6 : (w5.alloc (.cells #[.nilFunc] 64)).frozen? ⟨w5.heap.size, 0, none⟩ = false := frozen_of_row _ _ 0 _ _ (heap_alloc_new w5 _)
   have hst : (store ⟨w5.heap.size, 0, none⟩ (.func (.func 33) #[] #[.pointer (some ⟨w.heap.size, 0, none⟩), .pointer (some ⟨w.heap.size + 1, 0, none⟩), .pointer (some ⟨w5.heap.size, 0, none⟩)])).run Tryz.prog (w5.alloc (.cells #[.nilFunc] 64)) = .ok () w6 := by
    rw [run_store _ _ _ _ _ rfl, hc6]
    simp only [hz6]
    rw [<- hw6]
    rfl
   have b6 : Below w5.heap.size w5 w6 := by rw [<- hw6]; exact (below_alloc _ _).setCell (Nat.le_refl _) _
   have k6 : KF w A B ps.length c qs.length d w2 w6 := k5.step b6
   have f6 : w6.cell? ⟨w5.heap.size, 0, none⟩ = some (.func (.func 33) #[] #[.pointer (some ⟨w.heap.size, 0, none⟩), .pointer (some ⟨w.heap.size + 1, 0, none⟩), .pointer (some ⟨w5.heap.size, 0, none⟩)]) := by rw [<- hw6]; exact World.cell?_setCell_same' _ _ _ (by rw [hc6]; rfl)
   have l6 : w5.heap.size < w6.heap.size := by rw [<- hw6]; simp
   clear hw6 hc6 hz6
   have ks6 : KS A B ps.length c qs.length d w.heap.size (w.heap.size + 1) w5.heap.size w6 := ⟨k6.a, k6.b, f6, by omega, by omega, l6⟩
   have k7 := k6.step (Below.refl w6.heap.size w6).drew
   have ks7 := ks6.below (Below.refl w6.heap.size w6).drew
   have f7 := ks7.s
   have FS := Lib.hid (fun W (b : Below w6.drew.heap.size w6.drew W) => (ks7.below b).s)
   generalize hD : srchD ps qs (shp 56) = D at *
   have HD := Lib.hid hD
   clear hD ks6 k6 b4 b5 k4
   go_wp2_with fail
   go_region_with (first
    | (go_at_call 35; refine (shapes_i _).mono ?_; rintro e w8 ⟨B8, c8, rfl, o8, b8⟩; have k8 := k7.step b8; have t8 := HT.out _ k8.bel; have c8l := own_capE o8; have f8 := FS.out _ b8)
    | (go_at_call 33; refine (HSR.out w.heap.size (w.heap.size + 1) w5.heap.size (shp 56) B8 c8 _ o8.row c8l (by rw [hsl]; omega) t8.1 t8.2 (ks7.below b8)).mono ?_; rintro e w9 ⟨rfl, b9⟩; rw [HD.out]; have k9 := k8.step b9; obtain ⟨d0, d1, d2, d3, d4, d5, d6, f0, f1, f2, f3, f4, f5, f6⟩ := k9.z.at; rw [HW2.out] at d0 d1 d2 d3 d4 d5 d6 f0 f1 f2 f3 f4 f5 f6))
   all_goals
    go_wp2_with fail
    obtain ⟨W', hW, ec, bw⟩ := k9.z.done D.1
    rw [HW2.out] at hW
    rw [hW]
    have g0 := ec.c0; have g1 := ec.c1; have g2 := ec.c2; have g3 := ec.c3; have g4 := ec.c4; have g5 := ec.c5; have g6 := ec.c6
    rw [HW2.out] at g0 g1 g2 g3 g4 g5 g6
    rw [E.out]
    refine bodyPost_ret (v := .tuple #[.agg #[.int .i64 (D.1).d, .int .i64 (D.1).k, .string ⟨(D.1).c.toArray⟩, .int .i64 (D.1).a, .bool (D.1).p, .bool (D.1).v, .bool (D.1).r], .int .i64 D.2]) ?_ rfl ⟨rfl, k9.far hb2 bw⟩
    simp [results, Tryz.results8, go_sem, g0, g1, g2, g3, g4, g5, g6, evtZ]
  ·
   rw [h1] at HB
   have E := Lib.hid (@fdR_no ps qs (.inr h1))
   clear h h1 ha hb
   go_enter Tryz.func8, Tryz.ntmps8
   go_wp2_with fail
   refine (HA.out _ kf.bel).mono ?_
   rintro e w4 ⟨rfl, b4⟩
   have k4 := kf.step b4
   clear k0a k0b
   have k0a := k4.a; have k0b := k4.b
   go_wp2_with fail
   refine (HB.out _ k4.bel).mono ?_
   rintro e w5 ⟨rfl, b5⟩
   have k5 := k4.step b5
   obtain ⟨d0, d1, d2, d3, d4, d5, d6, f0, f1, f2, f3, f4, f5, f6⟩ := k5.z.at
   rw [HW2.out] at d0 d1 d2 d3 d4 d5 d6 f0 f1 f2 f3 f4 f5 f6
   clear k0a k0b hw0 HA HB
   go_wp2_with fail
   obtain ⟨W', hW, ec, bw⟩ := k5.z.done evtZ
   rw [HW2.out] at hW
   simp only [evtZ] at hW; erw [hW]
   have g0 := ec.c0; have g1 := ec.c1; have g2 := ec.c2; have g3 := ec.c3; have g4 := ec.c4; have g5 := ec.c5; have g6 := ec.c6
   rw [HW2.out] at g0 g1 g2 g3 g4 g5 g6
   rw [E.out]
   refine bodyPost_ret (v := .tuple #[.agg #[.int .i64 0, .int .i64 0, .string ⟨#[]⟩, .int .i64 0, .bool false, .bool false, .bool false], .int .i64 1]) ?_ rfl ⟨rfl, k5.far hb2 bw⟩
   simp [results, Tryz.results8, go_sem, g0, g1, g2, g3, g4, g5, g6, evtZ]
 ·
  rw [h] at HA
  have E := Lib.hid (@fdR_no ps qs (.inl h))
  clear h ha hb
  go_enter Tryz.func8, Tryz.ntmps8
  go_wp2_with fail
  refine (HA.out _ kf.bel).mono ?_
  rintro e w4 ⟨rfl, b4⟩
  have k5 := kf.step b4
  obtain ⟨d0, d1, d2, d3, d4, d5, d6, f0, f1, f2, f3, f4, f5, f6⟩ := k5.z.at
  rw [HW2.out] at d0 d1 d2 d3 d4 d5 d6 f0 f1 f2 f3 f4 f5 f6
  clear k0a k0b hw0 HA HB
  go_wp2_with fail
  obtain ⟨W', hW, ec, bw⟩ := k5.z.done evtZ
  rw [HW2.out] at hW
  simp only [evtZ] at hW; erw [hW]
  have g0 := ec.c0; have g1 := ec.c1; have g2 := ec.c2; have g3 := ec.c3; have g4 := ec.c4; have g5 := ec.c5; have g6 := ec.c6
  rw [HW2.out] at g0 g1 g2 g3 g4 g5 g6
  rw [E.out]
  refine bodyPost_ret (v := .tuple #[.agg #[.int .i64 0, .int .i64 0, .string ⟨#[]⟩, .int .i64 0, .bool false, .bool false, .bool false], .int .i64 1]) ?_ rfl ⟨rfl, k5.far hb2 bw⟩
  simp [results, Tryz.results8, go_sem, g0, g1, g2, g3, g4, g5, g6, evtZ]
set_option maxRecDepth 100000 in
set_option maxHeartbeats 4000000 in
theorem sd_i (A B : Option Addr) (c d : Nat) (ps qs : List Cls) (w : World) (ha : CTblC w A c ps) (hb : CTblC w B d qs) :
  Calls Tryz.prog 6 #[.slice A ps.length c, .slice B qs.length d] w (Gives w (.tuple #[.bool (sdR ps qs).1, .int .i64 (sdR ps qs).2])) := by
 have HF := Lib.hid (fd_i A B c d ps qs w ha hb)
 clear ha hb
 by_cases hr : rbB ps = true /\ rbB qs = true
 ·
  have E0 := sdR_fd hr.1 hr.2
  have hne : ((fdR ps qs).2 == 1) = false := beq_eq_false_iff_ne.2 E0.1
  have E := Lib.hid E0.2
  clear E0 hr
  generalize fdR ps qs = D at *
  go_enter Tryz.func6, Tryz.ntmps6
  go_wp2_with fail
  refine HF.out.mono ?_
  rintro e w1 ⟨rfl, b1⟩
  have b2 := Lib.hid (belowGo b1 (below_alloc w1 (.cells #[.int .i64 D.1.d, .int .i64 D.1.k, .string ⟨D.1.c.toArray⟩, .int .i64 D.1.a, .bool D.1.p, .bool D.1.v, .bool D.1.r] 30)))
  go_wp2_with fail
  go_ret2
  exact ⟨by rw [E.out] <;> rfl, b2.out⟩
 ·
  have hno : rbB ps = false ∨ rbB qs = false := by
   rcases Bool.eq_false_or_eq_true (rbB ps) with h | h
   ·
    rcases Bool.eq_false_or_eq_true (rbB qs) with h1 | h1
    ·
     exact absurd ⟨h, h1⟩ hr
    ·
     exact .inr h1
   ·
    exact .inl h
  have E := Lib.hid (sdR_no hno)
  rw [fdR_no hno] at HF
  have b9 := Lib.hid (fun w1 (b1 : Below w.heap.size w w1) => belowGo b1 (below_alloc w1 (.cells #[.int .i64 evtZ.d, .int .i64 evtZ.k, .string ⟨evtZ.c.toArray⟩, .int .i64 evtZ.a, .bool evtZ.p, .bool evtZ.v, .bool evtZ.r] 30)))
  clear hno hr
  go_enter Tryz.func6, Tryz.ntmps6
  go_wp2_with fail
  refine HF.out.mono ?_
  rintro e w1 ⟨rfl, b1⟩
  have b2 := Lib.hid (b9.out _ b1)
  go_wp2_with fail
  go_ret2
  exact ⟨by rw [E.out] <;> rfl, b2.out⟩
end Go.Proofs.YtjcklmhgjdmjoaaGreat

