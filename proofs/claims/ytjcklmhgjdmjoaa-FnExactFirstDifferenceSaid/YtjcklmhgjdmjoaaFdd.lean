/- The search of impl.FirstDifference: a closure that calls itself. (by gen_fdd.py) -/
import Derived.Test.YtjcklmhgjdmjoaaFdp
import Derived.Test.YtjcklmhgjdmjoaaDci
import Derived.Deep.RegionHeld3
import Derived.Test.YtjcklmhgjdmjoaaMCal
namespace Go.Proofs.Ytjcklmhgjdmjoaa
open Go.ChangeShapes Go.WideShapes Go.ChangeAt Go.RowKit
set_option linter.unusedVariables false

theorem heap_alloc_new' {W : World} {k : Nat} (h : k = W.heap.size) (o : Obj) : (W.alloc o).heap[k]? = some o := by subst h; exact heap_alloc_new W o
/-- The three boxes of the search. -/
structure KS (A1 A2 : Option Addr) (n1 c1 n2 c2 ga gb gs : Nat) (W : World) : Prop where
  a : W.cell? ⟨ga, 0, none⟩ = some (.slice A1 n1 c1)
  b : W.cell? ⟨gb, 0, none⟩ = some (.slice A2 n2 c2)
  s : W.cell? ⟨gs, 0, none⟩ = some (.func (.func 103) #[] #[.pointer (some ⟨ga, 0, none⟩), .pointer (some ⟨gb, 0, none⟩), .pointer (some ⟨gs, 0, none⟩)])
  la : ga < W.heap.size
  lb : gb < W.heap.size
  ls : gs < W.heap.size
theorem KS.below {A1 A2 : Option Addr} {n1 c1 n2 c2 ga gb gs : Nat} {W W' : World} (k : KS A1 A2 n1 c1 n2 c2 ga gb gs W) (b : Below W.heap.size W W') : KS A1 A2 n1 c1 n2 c2 ga gb gs W' :=
  ⟨(b.cell (p := ⟨ga, 0, none⟩) k.la).trans k.a, (b.cell (p := ⟨gb, 0, none⟩) k.lb).trans k.b, (b.cell (p := ⟨gs, 0, none⟩) k.ls).trans k.s, Nat.lt_of_lt_of_le k.la b.size, Nat.lt_of_lt_of_le k.lb b.size, Nat.lt_of_lt_of_le k.ls b.size⟩
theorem KZ.drew {w W : World} (k : KZ w W) : KZ w W.drew := ⟨k.z, k.bel.drew⟩
theorem EvtR.tail {w : World} {b off : Nat} {e : Evt} {l : List Evt} (h : EvtR w (some ⟨b, off, none⟩) (e :: l)) : EvtR w (some ⟨b, off + 7, none⟩) l := fun hp => by
  have hl := flat_len Evt.cells 7 (fun _ => rfl) l
  have hl2 := flat_len Evt.cells 7 (fun _ => rfl) (e :: l)
  rw [List.length_cons] at hl2
  obtain ⟨b', o', e', hb, hc⟩ := h (by omega)
  simp only [Option.some.injEq, Addr.mk.injEq, and_true] at e'
  obtain ⟨rfl, rfl⟩ := e'
  refine ⟨b, off + 7, rfl, hb, fun j v hj => ?_⟩
  rw [Nat.add_assoc]
  refine hc (7 + j) v ?_
  rw [List.flatMap_cons, List.getElem?_append_right (by simp [Evt.cells])]
  simpa [Evt.cells] using hj
set_option maxRecDepth 100000 in
set_option maxHeartbeats 16000000 in
theorem srch_i (A1 A2 : Option Addr) (c1 c2 : Nat) (ps qs : List Cls) (ga gb gs : Nat) (hra : RB ps) (hrb : RB qs) (hca : ps.length ≤ c1) (hcb : qs.length ≤ c2) :
    ∀ (l : List Evt) (A : Option Addr) (c : Nat) (w : World), EvtR w A l → l.length ≤ c → l.length ≤ 1000 → CTbl w A1 ps → CTbl w A2 qs → KS A1 A2 ps.length c1 qs.length c2 ga gb gs w →
      Calls Try.prog 103 #[.slice A l.length c, .pointer (some ⟨ga, 0, none⟩), .pointer (some ⟨gb, 0, none⟩), .pointer (some ⟨gs, 0, none⟩)] w (Gives w (.tuple #[.agg #[.int .i64 (srchD ps qs l).1.d, .int .i64 (srchD ps qs l).1.k, .string ⟨(srchD ps qs l).1.c.toArray⟩, .int .i64 (srchD ps qs l).1.a, .bool (srchD ps qs l).1.p, .bool (srchD ps qs l).1.v, .bool (srchD ps qs l).1.r], .int .i64 (srchD ps qs l).2]))
  | [], A, c, w, hR, hc, hl, ha, hb, hk => by
    have kz := KZ.new w
    obtain ⟨d0, d1, d2, d3, d4, d5, d6, f0, f1, f2, f3, f4, f5, f6⟩ := kz.at
    have E : Hid (srchD ps qs [] = (evtZ, 4)) := Lib.hid rfl
    clear ha hb hk hR
    go_enter Try.func103, Try.ntmps103
    try simp only [List.length_nil]
    go_wp2_with fail
    rw [E.out]
    refine bodyPost_ret (v := .tuple #[.agg #[.int .i64 0, .int .i64 0, .string ⟨#[]⟩, .int .i64 0, .bool false, .bool false, .bool false], .int .i64 4]) ?_ rfl ⟨rfl, kz.bel⟩
    simp [results, Try.results103, go_sem, d0, d1, d2, d3, d4, d5, d6]
  | e :: l, A, c, w, hR, hc, hl, ha, hb, hk => by
    have kz := KZ.new w
    have IH := Lib.hid (fun A c W h1 h2 h3 h4 h5 h6 => srch_i A1 A2 c1 c2 ps qs ga gb gs hra hrb hca hcb l A c W h1 h2 h3 h4 h5 h6)
    obtain ⟨b, off, e2, rfl, hlb, he2, h4⟩ := hR.at (k := 0) (by simp)
    obtain rfl : e = e2 := by have a := he2.out; simpa using a
    have b1 := below_alloc w (.cells #[.int .i64 0, .int .i64 0, .string ⟨#[]⟩, .int .i64 0, .bool false, .bool false, .bool false] 26)
    have hb1 := h4.belowB hlb b1
    have h00 : off + 0 * 7 = off := by omega
    rw [h00] at hb1
    have c0 := hb1.c0; have c1' := hb1.c1; have c2' := hb1.c2; have c3 := hb1.c3; have c4 := hb1.c4; have c5 := hb1.c5; have c6 := hb1.c6
    obtain ⟨wA, hwA⟩ : ∃ x, (w.alloc (.cells #[.int .i64 0, .int .i64 0, .string ⟨#[]⟩, .int .i64 0, .bool false, .bool false, .bool false] 26)).alloc (.cells #[.int .i64 e.d, .int .i64 e.k, .string ⟨e.c.toArray⟩, .int .i64 e.a, .bool e.p, .bool e.v, .bool e.r] 26) = x := ⟨_, rfl⟩
    have hbA : Below w.heap.size w wA := by rw [← hwA]; exact belowGo b1 (below_alloc _ _)
    have kzA : KZ w wA := by rw [← hwA]; exact kz.step (below_alloc _ _)
    have hbx : wA.heap[w.heap.size + 1]? = some (.cells #[.int .i64 e.d, .int .i64 e.k, .string ⟨e.c.toArray⟩, .int .i64 e.a, .bool e.p, .bool e.v, .bool e.r] 26 (0, 0)) := by rw [← hwA]; exact heap_alloc_new' (by simp) _
    have hlx := lt_some hbx
    have hX : EvtC wA (w.heap.size + 1) 0 e := ⟨by rw [cell_of_row _ _ _ _ _ _ hbx]; rfl, by rw [cell_of_row _ _ _ _ _ _ hbx]; rfl, by rw [cell_of_row _ _ _ _ _ _ hbx]; rfl, by rw [cell_of_row _ _ _ _ _ _ hbx]; rfl, by rw [cell_of_row _ _ _ _ _ _ hbx]; rfl, by rw [cell_of_row _ _ _ _ _ _ hbx]; rfl, by rw [cell_of_row _ _ _ _ _ _ hbx]; rfl⟩
    have KA := hk.below hbA
    have HALL := Lib.hid (fun (W : World) (b : Below wA.heap.size wA W) => (show W.cell? ⟨w.heap.size + 1, 0, none⟩ = some (.int .i64 e.d) ∧ W.cell? ⟨w.heap.size + 1, 1, none⟩ = some (.int .i64 e.k) ∧ W.cell? ⟨w.heap.size + 1, 2, none⟩ = some (.string ⟨e.c.toArray⟩) ∧ W.cell? ⟨w.heap.size + 1, 3, none⟩ = some (.int .i64 e.a) ∧ W.cell? ⟨w.heap.size + 1, 4, none⟩ = some (.bool e.p) ∧ W.cell? ⟨w.heap.size + 1, 5, none⟩ = some (.bool e.v) ∧ W.cell? ⟨w.heap.size + 1, 6, none⟩ = some (.bool e.r) ∧ W.cell? ⟨ga, 0, none⟩ = some (.slice A1 ps.length c1) ∧ W.cell? ⟨gb, 0, none⟩ = some (.slice A2 qs.length c2) ∧ Below wA.heap.size wA W from
      have x := hX.belowB hlx b
      ⟨x.c0, x.c1, x.c2, x.c3, x.c4, x.c5, x.c6, (KA.below b).a, (KA.below b).b, b⟩))
    have HA := Lib.hid (fun (W : World) (hbW : Below wA.heap.size wA W) => (decide_i A1 c1 ps e W (ha.below (belowGo hbA hbW)) hra hca).mono fun x w' k => (show ∃ B n d, x = .returned (.agg #[.int .i64 (resC ps e), .slice B n d]) ∧ Below wA.heap.size wA w' from by
      obtain ⟨B, d, k1, _, k3⟩ := k
      exact ⟨B, _, d, k1, hbW.trans (k3.mono hbW.size)⟩))
    have HB := Lib.hid (fun (W : World) (hbW : Below wA.heap.size wA W) => (decide_i A2 c2 qs e W (hb.below (belowGo hbA hbW)) hrb hcb).mono fun x w' k => (show ∃ B n d, x = .returned (.agg #[.int .i64 (resC qs e), .slice B n d]) ∧ Below wA.heap.size wA w' from by
      obtain ⟨B, d, k1, _, k3⟩ := k
      exact ⟨B, _, d, k1, hbW.trans (k3.mono hbW.size)⟩))
    have HK := Lib.hid (fun y : Sub (Bel wA) => KA.below y.h)
    have HKZ := Lib.hid (fun y : Sub (Bel wA) => kzA.step y.h)
    have HXC := Lib.hid (fun y : Sub (Bel wA) => hX.belowB hlx y.h)
    have HT := Lib.hid (fun W (bb : Below w.heap.size w W) => (⟨hR.below bb, ha.below bb, hb.below bb⟩ : EvtR W (some ⟨b, off, none⟩) (e :: l) ∧ CTbl W A1 ps ∧ CTbl W A2 qs))
    have ES := Lib.hid (@srchD_yes ps qs e l)
    have EN := Lib.hid (@srchD_no ps qs e l)
    have hlen : (((l.length + 1 : Nat) : Int) == 0) = false := beq_eq_false_iff_ne.2 (by omega)
    simp only [List.length_cons] at hc hl ⊢
    have hfd : ∀ (a b : Value) (w : World), (Instr.field 31 (.agg #[a, b]) 0).run Try.prog w = .ok a w := fun _ _ _ => rfl
    generalize resC ps e = ra at *
    generalize resC qs e = rb at *
    generalize srchD ps qs (e :: l) = D0 at *
    generalize srchD ps qs l = D at *
    clear hR ha hb hk KA hX hbx h4 hb1 he2 kz kzA
    obtain ⟨v, hv⟩ : ∃ v, (ra != rb) = v := ⟨_, rfl⟩
    cases v
    · have E := Lib.hid (EN.out hv)
      clear EN ES
      rcases (by omega : c = 1 ∨ 1 < c) with rfl | hc1
      · have hl0 : l = [] := List.eq_nil_of_length_eq_zero (by omega)
        subst hl0
        simp only [List.length_nil] at hlen hc hl ⊢
        go_enter Try.func103, Try.ntmps103
        go_wp2_with fail
        try rw [hwA]
        have kb0 := (Below.refl wA.heap.size wA).drew
        go_region_held3 (fun W => W.cell? ⟨w.heap.size + 1, 0, none⟩ = some (.int .i64 e.d) ∧ W.cell? ⟨w.heap.size + 1, 1, none⟩ = some (.int .i64 e.k) ∧ W.cell? ⟨w.heap.size + 1, 2, none⟩ = some (.string ⟨e.c.toArray⟩) ∧ W.cell? ⟨w.heap.size + 1, 3, none⟩ = some (.int .i64 e.a) ∧ W.cell? ⟨w.heap.size + 1, 4, none⟩ = some (.bool e.p) ∧ W.cell? ⟨w.heap.size + 1, 5, none⟩ = some (.bool e.v) ∧ W.cell? ⟨w.heap.size + 1, 6, none⟩ = some (.bool e.r) ∧ W.cell? ⟨ga, 0, none⟩ = some (.slice A1 ps.length c1) ∧ W.cell? ⟨gb, 0, none⟩ = some (.slice A2 qs.length c2) ∧ Below wA.heap.size wA W) (first | exact HALL.out _ kb0 | exact HALL.out _ (by assumption))
          (first | (go_at_call 70; (first | (with_reducible refine (HA.out _ ?_).mono ?_) | (with_reducible refine (HB.out _ ?_).mono ?_)); (first | assumption | exact (by assumption : _ ∧ _ ∧ _ ∧ _ ∧ _ ∧ _ ∧ _ ∧ _ ∧ _ ∧ _).2.2.2.2.2.2.2.2.2); rintro e' w2 ⟨B2, n2, d2, rfl, kb2⟩))
        all_goals
          obtain ⟨y, hy⟩ : ∃ y : Sub (Bel wA), y.w = w2 := ⟨⟨w2, kb2⟩, rfl⟩
          subst hy
          have k4 := (HKZ.out y).drew
          have kk := (HK.out y)
          have t4 := (HKZ.out y).bel.drew
          have ks := kk.s
          have IHq := Lib.hid (IH.out (some ⟨b, off, none⟩) 0 y.w.drew (fun hp => absurd hp (by simp)) (by first | omega | simp) (by first | omega | simp) (HT.out _ t4).2.1 (HT.out _ t4).2.2 (kk.below (Below.refl _ _).drew))
          generalize y.w = wq at *
          clear c0 c1' c2' c3 c4 c5 c6 HA HB HK HKZ HXC HT IH kk HALL kb0
          go_wp2_with fail
          go_region_with (go_at_call 103; refine IHq.out.mono ?_; rintro e' w5 ⟨rfl, b5⟩; have k5 := k4.step b5; obtain ⟨d0, d1, d2, d3, d4, d5, d6, f0, f1, f2, f3, f4, f5, f6⟩ := k5.at)
          all_goals
            go_wp2_with fail
            obtain ⟨W', hW, ec, bw⟩ := k5.done D.1
            rw [hW]
            have g0 := ec.c0; have g1 := ec.c1; have g2 := ec.c2; have g3 := ec.c3; have g4 := ec.c4; have g5 := ec.c5; have g6 := ec.c6
            rw [E.out]
            refine bodyPost_ret (v := .tuple #[.agg #[.int .i64 (D.1).d, .int .i64 (D.1).k, .string ⟨(D.1).c.toArray⟩, .int .i64 (D.1).a, .bool (D.1).p, .bool (D.1).v, .bool (D.1).r], .int .i64 D.2]) ?_ rfl ⟨rfl, bw⟩
            simp [results, Try.results103, go_sem, g0, g1, g2, g3, g4, g5, g6, evtZ]
      · have hc1s : ¬ c = 1 := by omega
        have hc1t : ¬ 1 = c := by omega
        go_enter Try.func103, Try.ntmps103
        go_wp2_with fail
        try rw [hwA]
        have kb0 := (Below.refl wA.heap.size wA).drew
        go_region_held3 (fun W => W.cell? ⟨w.heap.size + 1, 0, none⟩ = some (.int .i64 e.d) ∧ W.cell? ⟨w.heap.size + 1, 1, none⟩ = some (.int .i64 e.k) ∧ W.cell? ⟨w.heap.size + 1, 2, none⟩ = some (.string ⟨e.c.toArray⟩) ∧ W.cell? ⟨w.heap.size + 1, 3, none⟩ = some (.int .i64 e.a) ∧ W.cell? ⟨w.heap.size + 1, 4, none⟩ = some (.bool e.p) ∧ W.cell? ⟨w.heap.size + 1, 5, none⟩ = some (.bool e.v) ∧ W.cell? ⟨w.heap.size + 1, 6, none⟩ = some (.bool e.r) ∧ W.cell? ⟨ga, 0, none⟩ = some (.slice A1 ps.length c1) ∧ W.cell? ⟨gb, 0, none⟩ = some (.slice A2 qs.length c2) ∧ Below wA.heap.size wA W) (first | exact HALL.out _ kb0 | exact HALL.out _ (by assumption))
          (first | (go_at_call 70; (first | (with_reducible refine (HA.out _ ?_).mono ?_) | (with_reducible refine (HB.out _ ?_).mono ?_)); (first | assumption | exact (by assumption : _ ∧ _ ∧ _ ∧ _ ∧ _ ∧ _ ∧ _ ∧ _ ∧ _ ∧ _).2.2.2.2.2.2.2.2.2); rintro e' w2 ⟨B2, n2, d2, rfl, kb2⟩))
        all_goals
          obtain ⟨y, hy⟩ : ∃ y : Sub (Bel wA), y.w = w2 := ⟨⟨w2, kb2⟩, rfl⟩
          subst hy
          have k4 := (HKZ.out y).drew
          have kk := (HK.out y)
          have t4 := (HKZ.out y).bel.drew
          have ks := kk.s
          have IHq := Lib.hid (IH.out (some ⟨b, off + 7, none⟩) (c - 1) y.w.drew (((HT.out _ t4).1).tail) (by first | omega | simp) (by first | omega | simp) (HT.out _ t4).2.1 (HT.out _ t4).2.2 (kk.below (Below.refl _ _).drew))
          generalize y.w = wq at *
          clear c0 c1' c2' c3 c4 c5 c6 HA HB HK HKZ HXC HT IH kk HALL kb0
          go_wp2_with fail
          go_region_with (go_at_call 103; refine IHq.out.mono ?_; rintro e' w5 ⟨rfl, b5⟩; have k5 := k4.step b5; obtain ⟨d0, d1, d2, d3, d4, d5, d6, f0, f1, f2, f3, f4, f5, f6⟩ := k5.at)
          all_goals
            go_wp2_with fail
            obtain ⟨W', hW, ec, bw⟩ := k5.done D.1
            rw [hW]
            have g0 := ec.c0; have g1 := ec.c1; have g2 := ec.c2; have g3 := ec.c3; have g4 := ec.c4; have g5 := ec.c5; have g6 := ec.c6
            rw [E.out]
            refine bodyPost_ret (v := .tuple #[.agg #[.int .i64 (D.1).d, .int .i64 (D.1).k, .string ⟨(D.1).c.toArray⟩, .int .i64 (D.1).a, .bool (D.1).p, .bool (D.1).v, .bool (D.1).r], .int .i64 D.2]) ?_ rfl ⟨rfl, bw⟩
            simp [results, Try.results103, go_sem, g0, g1, g2, g3, g4, g5, g6, evtZ]
    · have E := Lib.hid (ES.out hv)
      clear EN ES IH HT
      go_enter Try.func103, Try.ntmps103
      go_wp2_with fail
      try rw [hwA]
      have kb0 := (Below.refl wA.heap.size wA).drew
      go_region_held3 (fun W => W.cell? ⟨w.heap.size + 1, 0, none⟩ = some (.int .i64 e.d) ∧ W.cell? ⟨w.heap.size + 1, 1, none⟩ = some (.int .i64 e.k) ∧ W.cell? ⟨w.heap.size + 1, 2, none⟩ = some (.string ⟨e.c.toArray⟩) ∧ W.cell? ⟨w.heap.size + 1, 3, none⟩ = some (.int .i64 e.a) ∧ W.cell? ⟨w.heap.size + 1, 4, none⟩ = some (.bool e.p) ∧ W.cell? ⟨w.heap.size + 1, 5, none⟩ = some (.bool e.v) ∧ W.cell? ⟨w.heap.size + 1, 6, none⟩ = some (.bool e.r) ∧ W.cell? ⟨ga, 0, none⟩ = some (.slice A1 ps.length c1) ∧ W.cell? ⟨gb, 0, none⟩ = some (.slice A2 qs.length c2) ∧ Below wA.heap.size wA W) (first | exact HALL.out _ kb0 | exact HALL.out _ (by assumption))
        (first | (go_at_call 70; (first | (with_reducible refine (HA.out _ ?_).mono ?_) | (with_reducible refine (HB.out _ ?_).mono ?_)); (first | assumption | exact (by assumption : _ ∧ _ ∧ _ ∧ _ ∧ _ ∧ _ ∧ _ ∧ _ ∧ _ ∧ _).2.2.2.2.2.2.2.2.2); rintro e' w2 ⟨B2, n2, d2, rfl, kb2⟩))
      all_goals
        obtain ⟨y, hy⟩ : ∃ y : Sub (Bel wA), y.w = w2 := ⟨⟨w2, kb2⟩, rfl⟩
        subst hy
        have k4 := HKZ.out y
        have hx := HXC.out y
        have q0 := hx.c0; have q1 := hx.c1; have q2 := hx.c2; have q3 := hx.c3; have q4 := hx.c4; have q5 := hx.c5; have q6 := hx.c6
        obtain ⟨d0, d1, d2, d3, d4, d5, d6, f0, f1, f2, f3, f4, f5, f6⟩ := k4.at
        generalize y.w = wq at *
        clear c0 c1' c2' c3 c4 c5 c6 HA HB HK HKZ HXC HALL kb0
        go_wp2_with fail
        obtain ⟨W', hW, ec, bw⟩ := k4.done e
        rw [hW]
        have g0 := ec.c0; have g1 := ec.c1; have g2 := ec.c2; have g3 := ec.c3; have g4 := ec.c4; have g5 := ec.c5; have g6 := ec.c6
        rw [E.out]
        refine bodyPost_ret (v := .tuple #[.agg #[.int .i64 (e).d, .int .i64 (e).k, .string ⟨(e).c.toArray⟩, .int .i64 (e).a, .bool (e).p, .bool (e).v, .bool (e).r], .int .i64 0]) ?_ rfl ⟨rfl, bw⟩
        simp [results, Try.results103, go_sem, g0, g1, g2, g3, g4, g5, g6, evtZ]
end Go.Proofs.Ytjcklmhgjdmjoaa
