/- AmendEdition: the impl. (by gen_edm.py) -/
import Derived.Test.YtpdkgjmppknbpaaEdm
namespace Go.Proofs.Ytpdkgjmppknbpaa
open Go.ChangeShapes Go.WideShapes Go.ChangeAt Go.RowKit
set_option linter.unusedVariables false

theorem edn_pick {w : World} {lo hi n c k : Nat} {A : Option Addr} {hs : List Edh} {es : List Edn} {e : Edn} (h : EdnOw w lo hi A n c hs es) (he : es[k]? = some e) : ∃ x, hs[k]? = some x :=
  ⟨_, List.getElem?_eq_getElem (by rw [h.len]; exact (List.getElem?_eq_some_iff.1 he).1)⟩
theorem edn_cell {w : World} {lo hi n c k g : Nat} {hs : List Edh} {es : List Edn} {x : Edh} {e : Edn} (h : EdnOw w lo hi (some ⟨g, 0, none⟩) n c hs es) (hx : hs[k]? = some x) (he : es[k]? = some e) (h1 : 1 ≤ e.cs.length) :
    w.cell? ⟨g, k * 2 + 1, none⟩ = some (.slice x.A x.n x.c) ∧ ClsO w lo x.A x.n x.c e.cs ∧ x.n = e.cs.length ∧ True ∧ ∃ gx, x.A = some ⟨gx, 0, none⟩ := by
  have ho := (h.one k x e hx he).2
  have hn : x.n = e.cs.length := ho.len.symm
  refine ⟨?_, ho, hn, trivial, cls_own_some ho (by omega)⟩
  have hl := flat_len Edh.cells 2 (fun _ => rfl) hs
  have hk := (List.getElem?_eq_some_iff.1 hx).1
  have hr := h.row.1
  rw [h.row.cellAt (k * 2 + 1) (by omega)]
  exact flat_at Edh.cells 2 (fun _ => rfl) hs k 1 x hx (by decide)
theorem cls_write {w5 : World} {base gA q3 n m : Nat} {cs : List Cls} {x0 : Cls} (p : Cls) (o3 : ClsO w5 base (some ⟨gA, 0, none⟩) n q3 cs) (hm : cs[m]? = some x0) :
    Z7C w5 gA (m * 7) ∧ ∃ w7, (((((((w5.setCell ⟨gA, m * 7, none⟩ (.string ⟨p.c.toArray⟩)).setCell ⟨gA, m * 7 + 1, none⟩ (.int .i64 p.k)).setCell ⟨gA, m * 7 + 2, none⟩ (.int .i64 p.p)).setCell ⟨gA, m * 7 + 3, none⟩ (.int .i64 p.v)).setCell ⟨gA, m * 7 + 4, none⟩ (.int .i64 p.r)).setCell ⟨gA, m * 7 + 5, none⟩ (.int .i64 p.e)).setCell ⟨gA, m * 7 + 6, none⟩ (.string ⟨p.t.toArray⟩)) = w7 ∧ ClsO w7 base (some ⟨gA, 0, none⟩) n q3 (cs.set m p) ∧ w5.grownBy w7 (some gA) := by
  obtain ⟨P3, G3⟩ := ClsO.put o3 hm p
  have hml := (List.getElem?_eq_some_iff.1 hm).1
  have hyl := flat_len Cls.cells 7 (fun _ => rfl) cs
  have hn := o3.len
  exact ⟨⟨own_at o3 (m * 7) (by omega), World.ownsRow.frozenAt o3 (m * 7), own_at o3 (m * 7 + 1) (by omega), World.ownsRow.frozenAt o3 (m * 7 + 1), own_at o3 (m * 7 + 2) (by omega), World.ownsRow.frozenAt o3 (m * 7 + 2), own_at o3 (m * 7 + 3) (by omega), World.ownsRow.frozenAt o3 (m * 7 + 3), own_at o3 (m * 7 + 4) (by omega), World.ownsRow.frozenAt o3 (m * 7 + 4), own_at o3 (m * 7 + 5) (by omega), World.ownsRow.frozenAt o3 (m * 7 + 5), own_at o3 (m * 7 + 6) (by omega), World.ownsRow.frozenAt o3 (m * 7 + 6)⟩, _, rfl, P3, G3⟩
theorem EdnOw.below {w w' : World} {lo hi n c : Nat} {A : Option Addr} {hs : List Edh} {es : List Edn} (h : EdnOw w lo hi A n c hs es) (hb : Below w.heap.size w w') : EdnOw w' lo hi A n c hs es :=
  ⟨own_below h.row hb, h.len, fun k x e h1 h2 => ⟨(h.one k x e h1 h2).1, (h.one k x e h1 h2).2.below hb⟩, h.hiA, h.his, h.sep⟩
theorem edn_wrote {w4 w5 w7 : World} {lo hi n c k gx : Nat} {A : Option Addr} {hs : List Edh} {es : List Edn} {x : Edh} {e : Edn} {cs' : List Cls} (h : EdnOw w4 lo hi A n c hs es) (b5 : Below w4.heap.size w4 w5) (hx : hs[k]? = some x) (he : es[k]? = some e)
    (hg : x.A = some ⟨gx, 0, none⟩) (hn : x.n = e.cs.length) (P : ClsO w7 lo (some ⟨gx, 0, none⟩) e.cs.length x.c cs') (G : w5.grownBy w7 (some gx)) : EdnO w7 lo hi A n c (es.set k ⟨e.y, cs'⟩) :=
  ⟨hs, EdnOw.inner (h.below b5) hx he (by rw [hg, hn]; exact P) (by have : x.ob = some gx := by unfold Edh.ob; rw [hg]; rfl
                                                                    rw [this]; exact G)⟩
theorem edn_far {w w3 w4 w5 w7 : World} {hi n c k gx : Nat} {A : Option Addr} {hs : List Edh} {es : List Edn} {x : Edh} (T3 : Below w.heap.size w w3) (h : EdnOw w4 w3.heap.size hi A n c hs es) (b4 : Below w3.heap.size w3 w4) (b5 : Below w4.heap.size w4 w5) (hx : hs[k]? = some x)
    (hg : x.A = some ⟨gx, 0, none⟩) (G : w5.grownBy w7 (some gx)) : Below w.heap.size w w7 := by
  have hlo := h.lo_mem (List.mem_of_getElem? hx) (g := gx) (by unfold Edh.ob; rw [hg]; rfl)
  have t := belowGo (belowGo T3 b4) b5
  have := T3.size
  exact t.grown G t.size (fun j hj => by injection hj; omega)
set_option maxRecDepth 100000 in
set_option maxHeartbeats 8000000 in
theorem amend_i (A : Option Addr) (c : Nat) (es : List Edn) (y : Int) (p : Cls) (w : World) (h : LTbl w A es) (hp : p.sz ≤ 1048600) :
    Calls Try.prog 30 #[.slice A es.length c, .int .i64 y, .agg #[.string ⟨p.c.toArray⟩, .int .i64 p.k, .int .i64 p.p, .int .i64 p.v, .int .i64 p.r, .int .i64 p.e, .string ⟨p.t.toArray⟩]] w (NewEdnsC w (amR es y p)) := by
  have kb := KeepC.new w p
  have hpc := sz_c hp
  have hn := h.len
  have HV := Lib.hid (fun w => cvalid_i p w hpc.1 hpc.2)
  rcases Bool.eq_false_or_eq_true (lbB es) with hr | hr
  · rcases Bool.eq_false_or_eq_true p.ok with hv | hv
    · have HT := Lib.hid (lbI_q (c := c) (h.below kb.bel) hr)
      rw [hv] at HV
      have LL := Lib.hid (lb_of hr)
      have hL6 := (lb_of hr).len
      obtain ⟨hs, p1, p2⟩ := ednR_hs h.row
      obtain ⟨b, off, rfl⟩ := lb_some h.row hr
      have HS := Lib.hid (fun W (b : Below w.heap.size w W) => searchL_i _ c es y W (h.below b) hr)
      obtain ⟨k, hk⟩ : ∃ k, plcL es y = k := ⟨_, rfl⟩
      have hkle := plc_leL es y
      rw [hk] at HS hkle
      have HH := Lib.hid (fun W (b : Below w.heap.size w W) => (⟨p1.below b, p2.below b⟩ : EdhR W (some ⟨_, off, none⟩) hs ∧ EdnV W hs es))
      have hcs : ∀ e ∈ es, 0 < e.cs.length ∧ e.cs.length ≤ 900 := fun e he => by have := rb_of (LL.out.one e he).2; have a := this.lo; have b := this.hi; omega
      have HCP := Lib.hid (fun W (b : Below w.heap.size w W) => copyEds_i _ off c hs es W (p1.below b) (p2.below b) (by omega) (by omega) hcs)
      cases hhas : hasL es y with
      | false =>
        have E := Lib.hid (amR_nf hr hv hhas)
        rw [hhas] at HS
        clear h hr hv p1 p2 hcs
        go_enter Try.func30, Try.ntmps30
        go_wp2_with (first
          | (go_at_call 15; refine HT.out.mono ?_; rintro e' w1 ⟨rfl, b1⟩; have kb1 := kb.step b1; have c0 := kb1.cells.c0; have c1 := kb1.cells.c1; have c2 := kb1.cells.c2; have c3 := kb1.cells.c3; have c4 := kb1.cells.c4; have c5 := kb1.cells.c5; have c6 := kb1.cells.c6)
          | (go_at_call 63; refine (HV.out _).mono ?_; rintro e' w2 ⟨rfl, b2⟩; have kb2 := kb1.step b2)
          | (go_at_call 55; refine (HS.out _ kb2.bel).mono ?_; rintro e' w3 ⟨rfl, b3⟩; have kb3 := kb2.step b3))
        go_ret2
        unfold NewEdnsC
        rw [E.out]
        exact ⟨none, 0, rfl, EdnO.nil _ _ _, kb3.bel⟩
      | true =>
        obtain ⟨e, he, hy⟩ := hasL_t hhas
        rw [hk] at he
        have hkl := (List.getElem?_eq_some_iff.1 he).1
        rw [hhas] at HS
        obtain ⟨f, hf⟩ : ∃ f, fndIC e.cs p.c = f := ⟨_, rfl⟩
        have hbd := fndIC_bd e.cs p.c
        rw [hf] at hbd
        have hc9 := (rb_of (LL.out.one e (List.mem_of_getElem? he)).2).hi
        have hc1 := (rb_of (LL.out.one e (List.mem_of_getElem? he)).2).lo
        have HF := Lib.hid (fun (a : Option Addr) (cp : Nat) W (hR : ClsR W a e.cs) => (by have := place_iC a cp e.cs p.c W hR (by omega); rw [hf] at this; exact this : Calls Try.prog 64 #[.slice a e.cs.length cp, .string ⟨p.c.toArray⟩] W (Gives W (.int .i64 f))))
        by_cases hf0 : f < 0
        · have E := Lib.hid (amR_nc hr hv hhas (by rw [hk]; exact he) (fndIC_none (by rw [hf]; exact hf0)))
          have HE := Lib.hid he
          clear h hr hv p1 p2 hcs he hf
          go_enter Try.func30, Try.ntmps30
          go_wp2_with (first
            | (go_at_call 15; refine HT.out.mono ?_; rintro e' w1 ⟨rfl, b1⟩; have kb1 := kb.step b1; have c0 := kb1.cells.c0; have c1 := kb1.cells.c1; have c2 := kb1.cells.c2; have c3 := kb1.cells.c3; have c4 := kb1.cells.c4; have c5 := kb1.cells.c5; have c6 := kb1.cells.c6)
            | (go_at_call 63; refine (HV.out _).mono ?_; rintro e' w2 ⟨rfl, b2⟩; have kb2 := kb1.step b2)
            | (go_at_call 55; refine (HS.out _ kb2.bel).mono ?_; rintro e' w3 ⟨rfl, b3⟩; have kb3 := kb2.step b3; have T3 := Lib.hid kb3.bel; clear c0 c1 c2 c3 c4 c5 c6)
            | (go_at_call 58; refine (HCP.out _ T3.out).mono ?_; rintro e' w4 ⟨g4, q4, rfl, o4, b4⟩; have kb4 := kb3.step b4; obtain ⟨hs4, O4⟩ := o4; obtain ⟨x4, hx4⟩ := edn_pick O4 HE.out; obtain ⟨m0, cA, cN, cF, cO⟩ := edn_cell O4 hx4 HE.out hc1; obtain ⟨gx, hgx⟩ := cO; rw [hgx, cN] at m0; have p0 := kb4.cells.c0; have OC := Lib.hid cA; rw [hgx, cN] at OC; have OW4 := Lib.hid O4; have T4 := Lib.hid kb4.bel; have HX4 := Lib.hid hx4; have HGX := Lib.hid hgx; have HCN := Lib.hid cN; clear O4 hx4 cA cN cF hgx)
            | (go_at_call 64; refine (HF.out _ _ _ OC.out.row).mono ?_; rintro e' w5 ⟨rfl, b5⟩; have T5 := belowGo T4.out b5))
          go_ret2
          unfold NewEdnsC
          rw [E.out]
          exact ⟨none, 0, rfl, EdnO.nil _ _ _, T5⟩
        · obtain ⟨m, rfl⟩ : ∃ m : Nat, f = (m : Int) := ⟨f.toNat, by omega⟩
          obtain ⟨hfm, hml⟩ := fndIC_some hf
          obtain ⟨x0, hx0⟩ : ∃ x0, e.cs[m]? = some x0 := ⟨_, List.getElem?_eq_getElem hml⟩
          obtain ⟨ht1, ht2, ht3⟩ := amL_tbl (m := m) (p := p) h.txt hp hr he
          have EOK := Lib.hid (fun h3 => amR_ok (y := y) hr hv hhas (by rw [hk]; exact he) hfm (by rw [hk]; exact h3))
          have EST := Lib.hid (fun h3 => amR_st (y := y) hr hv hhas (by rw [hk]; exact he) hfm (by rw [hk]; exact h3))
          rw [hk] at EOK
          have HE := Lib.hid he
          have HX0 := Lib.hid hx0
          obtain ⟨EL, hEL⟩ : ∃ EL, EL = es.set k (amE e m p) := ⟨_, rfl⟩
          have HEL : Hid (es.set k ⟨e.y, e.cs.set m p⟩ = EL) := Lib.hid hEL.symm
          rw [← hEL] at EOK EST ht1 ht2 ht3
          have HELn : Hid (EL.length = es.length) := Lib.hid (by rw [hEL, List.length_set])
          have HTBL := Lib.hid (fun (W : World) (A : Option Addr) (hr : EdnR W A EL) => (⟨hr, ht1, fun z hz => by have := ht2 z hz; omega, by omega⟩ : LTbl W A EL))
          clear h hr hv p1 p2 hcs he hf hfm hx0 ht1 ht2 ht3 hEL hhas
          rcases Bool.eq_false_or_eq_true (lbB EL) with hvv | hvv
          all_goals
            have HLB := Lib.hid (fun (W : World) (A : Option Addr) (hr : EdnR W A EL) q => lbI_q (c := q) (HTBL.out W A hr) hvv)
            rw [HELn.out] at HLB
          · have E := Lib.hid (EOK.out hvv)
            clear hvv EOK EST HTBL
            go_enter Try.func30, Try.ntmps30
            go_wp2_with (first
              | (go_at_call 15; refine HL7.out.mono ?_; rintro e' w8 ⟨rfl, b8⟩; have T8 := belowGo T7.out b8)
              | (go_at_call 15; refine HT.out.mono ?_; rintro e' w1 ⟨rfl, b1⟩; have kb1 := kb.step b1; have c0 := kb1.cells.c0; have c1 := kb1.cells.c1; have c2 := kb1.cells.c2; have c3 := kb1.cells.c3; have c4 := kb1.cells.c4; have c5 := kb1.cells.c5; have c6 := kb1.cells.c6)
              | (go_at_call 63; refine (HV.out _).mono ?_; rintro e' w2 ⟨rfl, b2⟩; have kb2 := kb1.step b2)
              | (go_at_call 55; refine (HS.out _ kb2.bel).mono ?_; rintro e' w3 ⟨rfl, b3⟩; have kb3 := kb2.step b3; have T3 := Lib.hid kb3.bel; clear c0 c1 c2 c3 c4 c5 c6)
              | (go_at_call 58; refine (HCP.out _ T3.out).mono ?_; rintro e' w4 ⟨g4, q4, rfl, o4, b4⟩; have kb4 := kb3.step b4; obtain ⟨hs4, O4⟩ := o4; obtain ⟨x4, hx4⟩ := edn_pick O4 HE.out; obtain ⟨m0, cA, cN, cF, cO⟩ := edn_cell O4 hx4 HE.out hc1; obtain ⟨gx, hgx⟩ := cO; rw [hgx, cN] at m0; have p0 := kb4.cells.c0; have OC := Lib.hid cA; rw [hgx, cN] at OC; have OW4 := Lib.hid O4; have T4 := Lib.hid kb4.bel; have HX4 := Lib.hid hx4; have HGX := Lib.hid hgx; have HCN := Lib.hid cN; clear O4 hx4 cA cN cF hgx)
              | (go_at_call 64; refine (HF.out _ _ _ OC.out.row).mono ?_; rintro e' w5 ⟨rfl, b5⟩; have T5 := belowGo T4.out b5; have k5 := (kb4.step b5).cells; have c0 := k5.c0; have c1 := k5.c1; have c2 := k5.c2; have c3 := k5.c3; have c4 := k5.c4; have c5 := k5.c5; have c6 := k5.c6; obtain ⟨Z5, w7, hw7, P7, G7⟩ := cls_write p (OC.out.below b5) HX0.out; obtain ⟨⟨v0, z0⟩, f0, ⟨v1, z1⟩, f1, ⟨v2, z2⟩, f2, ⟨v3, z3⟩, f3, ⟨v4, z4⟩, f4, ⟨v5, z5⟩, f5, ⟨v6, z6⟩, f6⟩ := Z5; have O7 := Lib.hid (edn_wrote OW4.out b5 HX4.out HE.out HGX.out HCN.out P7 G7); rw [HEL.out] at O7; have S7 := Lib.hid (Nat.le_trans b5.size G7.size); have T7 := Lib.hid (edn_far T3.out OW4.out b4 b5 HX4.out HGX.out G7); have HL7 := Lib.hid (HLB.out w7 _ O7.out.reads q4); clear P7 G7))
            go_ret2
            unfold NewEdnsC
            rw [E.out]
            exact ⟨some ⟨g4, 0, none⟩, q4, by rw [HELn.out]; rfl, by rw [HELn.out]; exact (O7.out.below b8).mono T3.out.size (Nat.le_trans S7.out b8.size), T8⟩
          · have E := Lib.hid (EST.out hvv)
            clear hvv EOK EST HTBL
            go_enter Try.func30, Try.ntmps30
            go_wp2_with (first
              | (go_at_call 15; refine HL7.out.mono ?_; rintro e' w8 ⟨rfl, b8⟩; have T8 := belowGo T7.out b8)
              | (go_at_call 15; refine HT.out.mono ?_; rintro e' w1 ⟨rfl, b1⟩; have kb1 := kb.step b1; have c0 := kb1.cells.c0; have c1 := kb1.cells.c1; have c2 := kb1.cells.c2; have c3 := kb1.cells.c3; have c4 := kb1.cells.c4; have c5 := kb1.cells.c5; have c6 := kb1.cells.c6)
              | (go_at_call 63; refine (HV.out _).mono ?_; rintro e' w2 ⟨rfl, b2⟩; have kb2 := kb1.step b2)
              | (go_at_call 55; refine (HS.out _ kb2.bel).mono ?_; rintro e' w3 ⟨rfl, b3⟩; have kb3 := kb2.step b3; have T3 := Lib.hid kb3.bel; clear c0 c1 c2 c3 c4 c5 c6)
              | (go_at_call 58; refine (HCP.out _ T3.out).mono ?_; rintro e' w4 ⟨g4, q4, rfl, o4, b4⟩; have kb4 := kb3.step b4; obtain ⟨hs4, O4⟩ := o4; obtain ⟨x4, hx4⟩ := edn_pick O4 HE.out; obtain ⟨m0, cA, cN, cF, cO⟩ := edn_cell O4 hx4 HE.out hc1; obtain ⟨gx, hgx⟩ := cO; rw [hgx, cN] at m0; have p0 := kb4.cells.c0; have OC := Lib.hid cA; rw [hgx, cN] at OC; have OW4 := Lib.hid O4; have T4 := Lib.hid kb4.bel; have HX4 := Lib.hid hx4; have HGX := Lib.hid hgx; have HCN := Lib.hid cN; clear O4 hx4 cA cN cF hgx)
              | (go_at_call 64; refine (HF.out _ _ _ OC.out.row).mono ?_; rintro e' w5 ⟨rfl, b5⟩; have T5 := belowGo T4.out b5; have k5 := (kb4.step b5).cells; have c0 := k5.c0; have c1 := k5.c1; have c2 := k5.c2; have c3 := k5.c3; have c4 := k5.c4; have c5 := k5.c5; have c6 := k5.c6; obtain ⟨Z5, w7, hw7, P7, G7⟩ := cls_write p (OC.out.below b5) HX0.out; obtain ⟨⟨v0, z0⟩, f0, ⟨v1, z1⟩, f1, ⟨v2, z2⟩, f2, ⟨v3, z3⟩, f3, ⟨v4, z4⟩, f4, ⟨v5, z5⟩, f5, ⟨v6, z6⟩, f6⟩ := Z5; have O7 := Lib.hid (edn_wrote OW4.out b5 HX4.out HE.out HGX.out HCN.out P7 G7); rw [HEL.out] at O7; have S7 := Lib.hid (Nat.le_trans b5.size G7.size); have T7 := Lib.hid (edn_far T3.out OW4.out b4 b5 HX4.out HGX.out G7); have HL7 := Lib.hid (HLB.out w7 _ O7.out.reads q4); clear P7 G7))
            go_ret2
            unfold NewEdnsC
            rw [E.out]
            exact ⟨none, 0, rfl, EdnO.nil _ _ _, T8⟩
    · have HT := Lib.hid (lbI_q (c := c) (h.below kb.bel) hr)
      rw [hv] at HV
      have E := Lib.hid (@amR_no es y p (by rw [hv, Bool.and_false]))
      clear h
      go_enter Try.func30, Try.ntmps30
      go_wp2_with (first
        | (go_at_call 15; refine HT.out.mono ?_; rintro e' w1 ⟨rfl, b1⟩; have kb1 := kb.step b1; have c0 := kb1.cells.c0; have c1 := kb1.cells.c1; have c2 := kb1.cells.c2; have c3 := kb1.cells.c3; have c4 := kb1.cells.c4; have c5 := kb1.cells.c5; have c6 := kb1.cells.c6)
        | (go_at_call 63; refine (HV.out _).mono ?_; rintro e' w2 ⟨rfl, b2⟩; have kb2 := kb1.step b2))
      go_ret2
      unfold NewEdnsC
      rw [E.out]
      exact ⟨none, 0, rfl, EdnO.nil _ _ _, kb2.bel⟩
  · have HT := Lib.hid (lbI_q (c := c) (h.below kb.bel) hr)
    have E := Lib.hid (@amR_no es y p (by rw [hr, Bool.false_and]))
    clear h
    go_enter Try.func30, Try.ntmps30
    go_wp2_with (go_at_call 15; refine HT.out.mono ?_; rintro e' w1 ⟨rfl, b1⟩)
    go_ret2
    unfold NewEdnsC
    rw [E.out]
    exact ⟨none, 0, rfl, EdnO.nil _ _ _, belowGo kb.bel b1⟩
end Go.Proofs.Ytpdkgjmppknbpaa
