import Derived.Test.YtjcklmhgjdmjoaaGreatMEdr0
import Derived.Deep.CutRange
namespace Go.Proofs.YtjcklmhgjdmjoaaGreat
open Go.ChangeShapes Go.WideShapes Go.ChangeAt Go.RowKit
set_option linter.unusedVariables false
theorem addL_tbl {es : List Edn} {e : Edn} (h1 : ∀ x ∈ es, ∀ p ∈ x.cs, p.sz <= 1048600) (h2 : ∀ p ∈ e.cs, p.sz <= 1048600) (hl : lbB es = true) (hr : rbB e.cs = true) :
  (∀ x ∈ addL es e, ∀ p ∈ x.cs, p.sz <= 1048600) /\ (∀ x ∈ addL es e, 0 < x.cs.length /\ x.cs.length <= 900) /\ (addL es e).length <= 900 /\ 0 < (addL es e).length := by
 have L := lb_of hl
 refine ⟨fun x hx => ?_, fun x hx => ?_, by rw [addL_len]; have := L.len; omega, by rw [addL_len]; omega⟩
 ·
  rcases addL_mem hx with rfl | h
  ·
   exact h2
  ·
   exact h1 x h
 ·
  rcases addL_mem hx with rfl | h
  ·
   have := rb_of hr; have a := this.lo; have b := this.hi; omega
  ·
   have := rb_of (L.one x h).2; have a := this.lo; have b := this.hi; omega
theorem plc_hs {w : World} {ps : List Edh} {es : List Edn} (hv : EdnV w ps es) {y : Int} {k : Nat} (hk : k <= ps.length) (h1 : ∀ (j : Nat) (q : Edh), j < k -> ps[j]? = some q -> q.y < y) (h2 : ∀ q : Edh, ps[k]? = some q -> y <= q.y) : plcL es y = k := by
 have hl := hv.len
 refine plc_eqL (by omega) (fun i q hi hq => ?_) (fun q hq => ?_)
 ·
  have hp := List.getElem?_eq_getElem (l := ps) (i := i) (by omega)
  have := (hv.one i _ _ hp hq).1
  have := h1 i _ hi hp
  omega
 ·
  have hlt := (List.getElem?_eq_some_iff.1 hq).1
  have hp := List.getElem?_eq_getElem (l := ps) (i := k) (by omega)
  have := (hv.one k _ _ hp hq).1
  have := h2 _ hp
  omega
theorem edhO_some {w : World} {lo n q : Nat} {O : Option Addr} {L : List Edh} (h : EdhO w lo O n q L) (h0 : 0 < n) : ∃ g, O = some ⟨g, 0, none⟩ := by
 rcases h.2 with ⟨_, e2⟩ | ⟨g, _, _, e, _⟩
 ·
  omega
 ·
  injection e with e; exact ⟨g, e⟩
set_option maxRecDepth 100000 in
set_option maxHeartbeats 16000000 in
theorem adds_s_ok (g off c : Nat) (ps : List Edh) (es : List Edn) (x : Edh) (e : Edn) (w : World) (h : LTbl w (some ⟨g, off, none⟩) es) (hR0 : EdhR w (some ⟨g, off, none⟩) ps) (hv : EdnV w ps es) (hx : EdOne w x e) (hxt : ∀ p ∈ e.cs, p.sz <= 1048600) (hcap : ps.length <= c) (hr : lbB es = true) (hxr : rbB e.cs = true) :
  Calls Tryz.prog 17 #[.slice (some ⟨g, off, none⟩) ps.length c, .agg #[.int .i64 x.y, .slice x.A x.n x.c]] w (NewEdnsC w (adR es e)) := by
 have kb := KeepN.new w x.y x.A x.n x.c
 have hlen := hv.len
 have hn : 1 <= ps.length /\ ps.length <= 6 := by have := (lb_of hr).len; omega
 obtain ⟨ht1, ht2, ht3, ht4⟩ := addL_tbl h.txt hxt hr hxr
 have HTX := Lib.hid ht1
 have HCS := Lib.hid ht2
 have HE1 := Lib.hid (@adR_ok es e hr hxr)
 have HE2 := Lib.hid (@adR_st es e hr hxr)
 have HT : Hid (Calls Tryz.prog 46 #[.slice (some ⟨g, off, none⟩) ps.length c] (w.alloc (.cells #[.int .i64 x.y, .slice x.A x.n x.c] 42)) (Gives (w.alloc (.cells #[.int .i64 x.y, .slice x.A x.n x.c] 42)) (.bool true))) := Lib.hid (by rw [hlen]; exact lbS_q (h.below kb.bel) hr)
 have HV : Hid (∀ W, Below w.heap.size w W -> Calls Tryz.prog 30 #[.slice x.A x.n x.c] W (Gives W (.bool true))) := Lib.hid (fun W b => by
  rw [hx.2.1]; exact rbS_q ⟨hx.2.2.below b, hxt, by have := (rb_of hxr).hi; omega⟩ hxr)
 have HPL := Lib.hid (fun (k : Nat) (hk : k <= ps.length) (h1 : ∀ (j : Nat) (q : Edh), j < k -> ps[j]? = some q -> q.y < x.y) (h2 : ∀ q : Edh, ps[k]? = some q -> x.y <= q.y) => (by rw [<- hx.1]; exact plc_hs hv hk h1 h2 : plcL es e.y = k))
 have HVL := Lib.hid (fun (k : Nat) (hk : plcL es e.y = k) W (b : Below w.heap.size w W) => (by
  have := (((hv.below b).take k).app (EdnV.single ⟨hx.1, hx.2.1, hx.2.2.below b⟩)).app ((hv.below b).drop k)
  unfold addL; rw [hk]; exact this : EdnV W (ps.take k ++ [x] ++ ps.drop k) (addL es e)))
 have HR0 := Lib.hid hR0
 have HLN := Lib.hid hlen
 clear h hx hxt hr hxr hR0 hv ht1 ht2 hlen
 go_enter Tryz.func17, Tryz.ntmps17
 go_wp2_with (first
  | (go_at_call 46; refine HT.out.mono ?_; rintro e' w1 ⟨rfl, b1⟩; have kb1 := kb.step b1; have c0 := kb1.c0; have c1 := kb1.c1)
  | (go_at_call 30; refine (HV.out _ kb1.bel).mono ?_; rintro e' w2 ⟨rfl, b2⟩; have kb2 := kb1.step b2))
 go_loopw [6] (fun i wr => ∃ k : Nat, k <= ps.length /\ i = .int .i64 k /\ Hid (∀ (j : Nat) (q : Edh), j < k -> ps[j]? = some q -> q.y < x.y) /\ KeepN w x.y x.A x.n x.c wr) (fun i _ => ps.length - (intOf i).toNat)
 case atStart => exact ⟨0, Nat.zero_le _, rfl, Lib.hid (fun j q hj => by omega), kb2⟩
 case round =>
  obtain ⟨k, hk, rfl, hlo, hkeep⟩ := hrel
  have HK := Lib.hid (fun y : Sub (Bel wr) => hkeep.step y.h)
  clear kb kb1 kb2 b1 b2 c0 c1 HT HV
  by_cases hlt : k < ps.length
  ·
   obtain ⟨g', off', p, e2, hl, hp, p0', _⟩ := (HR0.out.below hkeep.bel).at hlt
   obtain ⟨rfl, rfl⟩ : g = g' /\ off = off' := by injection e2 with e2; injection e2 with e3 e4; exact ⟨e3, e4⟩
   have p0 : ∀ y : Sub (Bel wr), y.w.cell? ⟨g, off + k * 2, none⟩ = some (.int .i64 p.y) := fun y => (Below.cell (show Below wr.heap.size wr y.w from y.h) (p := ⟨g, off + k * 2, none⟩) hl).trans p0'
   have r0 : ∀ y : Sub (Bel wr), y.w.cell? ⟨w.heap.size, 0, none⟩ = some (.int .i64 x.y) := fun y => (hkeep.step y.h).c0
   by_cases hbl : p.y < x.y
   ·
    have HN : Hid (∀ (j : Nat) (q : Edh), j < k + 1 -> ps[j]? = some q -> q.y < x.y) := Lib.hid fun j q hj hq => by
     rcases Nat.lt_or_ge j k with h1 | h1
     ·
      exact hlo.out j q h1 hq
     ·
      obtain rfl : j = k := by omega
      rw [hp.out] at hq; rw [<- Option.some.inj hq]; exact hbl
    have d0 : decide (p.y < x.y) = true := decide_eq_true hbl
    clear hlo hp e2 p0'
    go_wp2_with fail
    refine region_held (Bel wr) (by kernel_rfl) (by kernel_rfl) (Bel.drew wr) ?_
    repeat (go_big_quiet_step ((first | rfl)))
    refine wpQuiet_nil ?_
    rintro _ ⟨y2, rfl⟩
    go_wp2_with fail
    go_roundw
    case rel => exact ⟨k + 1, by omega, by go_num, HN, HK.out y2⟩
    case measure => simp [intOf]; omega
   ·
    have hpk := HPL.out k hk hlo.out (fun q hq => by rw [hp.out] at hq; rw [<- Option.some.inj hq]; omega)
    obtain ⟨L, hL⟩ : ∃ L, L = ps.take k ++ [x] ++ ps.drop k := ⟨_, rfl⟩
    have HVK := Lib.hid (HVL.out k hpk)
    rw [<- hL] at HVK
    have hjoin := hL.symm
    have d0 : decide (p.y < x.y) = false := decide_eq_false hbl
    have HR := Lib.hid (fun y : Sub (Bel wr) => HR0.out.below (HK.out y).bel)
    clear hlo hp e2 p0' HPL HVL hpk hL
    go_wp2_with fail
    refine region_held (Bel wr) (by kernel_rfl) (by kernel_rfl) (Bel.drew wr) ?_
    repeat (go_big_quiet_step ((first | rfl)))
    refine wpQuiet_nil ?_
    rintro _ ⟨y2, rfl⟩
    go_wp2_with fail
    have hkq := HK.out y2
    have hRq := HR.out y2
    generalize y2.w = wq at *
    have q1 := hRq.take k
    have q3 := hRq.drop k
    have hbox := hkq
    have hb0 : w.heap.size < wq.heap.size := lt_some hkq.a
    have e1 : k ≠ c := by omega
    have e1s : ¬ c = k := by omega
    have e2 : k < c := by omega
    have hl1 : ((ps.take k)).length = k := by rw [List.length_take]; omega
    have hl3 : ((ps.drop k)).length = (ps.length - k) := by rw [List.length_drop]
    refine region_inv (by kernel_rfl) (by kernel_rfl) (fun d a W => ∃ us, a = frAH us /\ InvAH wq.heap.size (w.heap.size) (ps.length) (c) (k) (some ⟨g, off, none⟩) (.slice (some ⟨g, off, none⟩) k c) (.slice (some ⟨g, off + k * 2, none⟩) (ps.length - k) (c - k)) ((ps.take k)) ((ps.drop k)) x wq d us W) ?_ ?_ ?_
    ·
     refine ⟨_, frA_ofH, ?_⟩
     have Z : ∀ k, (Array.replicate 13 false).getD k false = false := fun k => by
      rcases Nat.lt_or_ge k 13 with h | h
      ·
       simp [h]
      ·
       simp [Array.getElem?_eq_none, h]
     have Zn : ∀ {k : Nat} {p : Prop}, (Array.replicate 13 false).getD k false = true -> p := fun {k p} h => by rw [Z k] at h; cases h
     exact { u0 := rfl, u3 := rfl, u6 := rfl, bel := (Below.refl _ _).drew, o1 := Zn, o2 := Zn, o3 := Zn, o5 := Zn, o8 := Zn, o9 := Zn, o10 := Zn, o6 := Zn, r0 := Zn, r4 := Zn, r7 := Zn, r11 := Zn, s0 := Zn, s4 := Zn, o12 := Zn, i7 := Zn, i11 := Zn }
    ·
     intro i d a W hi hI
     obtain ⟨hun, oi, hoi, hall⟩ := mem_ready.1 hi
     have hlt : i < 13 := (Array.getElem?_eq_some_iff.1 hoi).1
     obtain ⟨us, rfl, I⟩ := hI
     have hsz : wq.heap.size <= W.heap.size := I.bel.size
     have e0 := I.u0
     have e3 := I.u3
     have e6 := I.u6
     rcases (by omega : i = 0 ∨ i = 1 ∨ i = 2 ∨ i = 3 ∨ i = 4 ∨ i = 5 ∨ i = 6 ∨ i = 7 ∨ i = 8 ∨ i = 9 ∨ i = 10 ∨ i = 11 ∨ i = 12) with rfl | rfl | rfl | rfl | rfl | rfl | rfl | rfl | rfl | rfl | rfl | rfl | rfl
     all_goals
      obtain rfl := Option.some.inj hoi
      clear hoi hlt hi
     ·
      skip
      have DO : ∀ n, 0 ≠ n -> (d.setIfInBounds 0 true).getD n false = d.getD n false := fun n h => getD_set_ne false h
      have D0 : (d.setIfInBounds 0 true).getD 0 false = true := getD_set_sameH hun
      have D1 := DO 1 (by decide)
      have D2 := DO 2 (by decide)
      have D3 := DO 3 (by decide)
      have D4 := DO 4 (by decide)
      have D5 := DO 5 (by decide)
      have D6 := DO 6 (by decide)
      have D7 := DO 7 (by decide)
      have D8 := DO 8 (by decide)
      have D9 := DO 9 (by decide)
      have D10 := DO 10 (by decide)
      have D11 := DO 11 (by decide)
      have D12 := DO 12 (by decide)
      have UO : ∀ n, n ≠ 33 -> updAH us 33 (.slice (some ⟨W.heap.size, 0, none⟩) 0 0) n = us n := fun n h => upd_otherH h
      have U33 : updAH us 33 (.slice (some ⟨W.heap.size, 0, none⟩) 0 0) 33 = (.slice (some ⟨W.heap.size, 0, none⟩) 0 0) := upd_sameH _ _ _
      have U0 := UO 0 (by decide)
      have U3 := UO 3 (by decide)
      have U6 := UO 6 (by decide)
      have U7 := UO 7 (by decide)
      have U34 := UO 34 (by decide)
      have U35 := UO 35 (by decide)
      have U36 := UO 36 (by decide)
      have U37 := UO 37 (by decide)
      have U38 := UO 38 (by decide)
      have U39 := UO 39 (by decide)
      have U40 := UO 40 (by decide)
      have U41 := UO 41 (by decide)
      have U42 := UO 42 (by decide)
      have U43 := UO 43 (by decide)
      have U44 := UO 44 (by decide)
      refine wpOp_step rfl (fun K hK => ?_)
      simp only [frAH, e0, e3, e6]
      go_simp
      refine hK _ _ ⟨updAH us 33 (.slice (some ⟨W.heap.size, 0, none⟩) 0 0), by simp [frAH, updAH, e0, e3, e6], { u0 := (U0.trans I.u0), u3 := (U3.trans I.u3), u6 := (U6.trans I.u6), bel := (I.bel.alloc hsz _), o1 := (cO U34 I.o1 D1), o2 := (cO U35 I.o2 D2), o3 := (cO U36 I.o3 D3), o5 := (cO U38 I.o5 D5), o8 := (cO U41 I.o8 D8), o9 := (cO U42 I.o9 D9), o10 := (cO U43 I.o10 D10), o6 := (fun h0 h1 => by rw [U39]; exact (I.o6 (D6.symm.trans h0) (D7.symm.trans h1)).below (below_alloc _ _)), r0 := (fun h0 h1 => by rw [U33]; exact ⟨_, _, rfl, made0H _ _ _ _ hsz⟩), r4 := (fun h0 h1 => by rw [U37]; exact (I.r4 (D4.symm.trans h0) (D7.symm.trans h1)).below (below_alloc _ _)), r7 := (fun h0 h1 => by rw [U40]; exact (I.r7 (D7.symm.trans h0) (D11.symm.trans h1)).below (below_alloc _ _)), r11 := (fun h0 => by rw [U44]; exact (I.r11 (D11.symm.trans h0)).below (below_alloc _ _)), s0 := (fun h0 h1 h2 h3 => by rw [U33, U39]; exact sep_gtH fun k hk => (I.o6 (D6.symm.trans h2) (D7.symm.trans h3)).lt hk), s4 := (fun h0 h1 h2 => by rw [U37, U39]; exact I.s4 (D4.symm.trans h0) (D7.symm.trans h1) (D6.symm.trans h2)), o12 := (fun h => by rw [U7, U44, D11]; exact I.o12 (D12.symm.trans h)), i7 := (fun h => D4.trans (I.i7 (D7.symm.trans h))), i11 := (fun h => D7.trans (I.i11 (D11.symm.trans h))) }⟩
     ·
      skip
      have DO : ∀ n, 1 ≠ n -> (d.setIfInBounds 1 true).getD n false = d.getD n false := fun n h => getD_set_ne false h
      have D1 : (d.setIfInBounds 1 true).getD 1 false = true := getD_set_sameH hun
      have D0 := DO 0 (by decide)
      have D2 := DO 2 (by decide)
      have D3 := DO 3 (by decide)
      have D4 := DO 4 (by decide)
      have D5 := DO 5 (by decide)
      have D6 := DO 6 (by decide)
      have D7 := DO 7 (by decide)
      have D8 := DO 8 (by decide)
      have D9 := DO 9 (by decide)
      have D10 := DO 10 (by decide)
      have D11 := DO 11 (by decide)
      have D12 := DO 12 (by decide)
      have UO : ∀ n, n ≠ 34 -> updAH us 34 (.slice (some ⟨g, off, none⟩) ps.length c) n = us n := fun n h => upd_otherH h
      have U34 : updAH us 34 (.slice (some ⟨g, off, none⟩) ps.length c) 34 = (.slice (some ⟨g, off, none⟩) ps.length c) := upd_sameH _ _ _
      have U0 := UO 0 (by decide)
      have U3 := UO 3 (by decide)
      have U6 := UO 6 (by decide)
      have U7 := UO 7 (by decide)
      have U33 := UO 33 (by decide)
      have U35 := UO 35 (by decide)
      have U36 := UO 36 (by decide)
      have U37 := UO 37 (by decide)
      have U38 := UO 38 (by decide)
      have U39 := UO 39 (by decide)
      have U40 := UO 40 (by decide)
      have U41 := UO 41 (by decide)
      have U42 := UO 42 (by decide)
      have U43 := UO 43 (by decide)
      have U44 := UO 44 (by decide)
      refine wpOp_step rfl (fun K hK => ?_)
      simp only [frAH, e0, e3, e6]
      go_simp
      refine hK _ _ ⟨updAH us 34 (.slice (some ⟨g, off, none⟩) ps.length c), by simp [frAH, updAH, e0, e3, e6], { u0 := (U0.trans I.u0), u3 := (U3.trans I.u3), u6 := (U6.trans I.u6), bel := (I.bel), o1 := (fun _ => U34), o2 := (cO U35 I.o2 D2), o3 := (cO U36 I.o3 D3), o5 := (cO U38 I.o5 D5), o8 := (cO U41 I.o8 D8), o9 := (cO U42 I.o9 D9), o10 := (cO U43 I.o10 D10), o6 := (fun h0 h1 => by rw [U39]; exact I.o6 (D6.symm.trans h0) (D7.symm.trans h1)), r0 := (fun h0 h1 => by rw [U33]; exact I.r0 (D0.symm.trans h0) (D4.symm.trans h1)), r4 := (fun h0 h1 => by rw [U37]; exact I.r4 (D4.symm.trans h0) (D7.symm.trans h1)), r7 := (fun h0 h1 => by rw [U40]; exact I.r7 (D7.symm.trans h0) (D11.symm.trans h1)), r11 := (fun h0 => by rw [U44]; exact I.r11 (D11.symm.trans h0)), s0 := (fun h0 h1 h2 h3 => by rw [U33, U39]; exact I.s0 (D0.symm.trans h0) (D4.symm.trans h1) (D6.symm.trans h2) (D7.symm.trans h3)), s4 := (fun h0 h1 h2 => by rw [U37, U39]; exact I.s4 (D4.symm.trans h0) (D7.symm.trans h1) (D6.symm.trans h2)), o12 := (fun h => by rw [U7, U44, D11]; exact I.o12 (D12.symm.trans h)), i7 := (fun h => D4.trans (I.i7 (D7.symm.trans h))), i11 := (fun h => D7.trans (I.i11 (D11.symm.trans h))) }⟩
     ·
      skip
      have DO : ∀ n, 2 ≠ n -> (d.setIfInBounds 2 true).getD n false = d.getD n false := fun n h => getD_set_ne false h
      have D2 : (d.setIfInBounds 2 true).getD 2 false = true := getD_set_sameH hun
      have D0 := DO 0 (by decide)
      have D1 := DO 1 (by decide)
      have D3 := DO 3 (by decide)
      have D4 := DO 4 (by decide)
      have D5 := DO 5 (by decide)
      have D6 := DO 6 (by decide)
      have D7 := DO 7 (by decide)
      have D8 := DO 8 (by decide)
      have D9 := DO 9 (by decide)
      have D10 := DO 10 (by decide)
      have D11 := DO 11 (by decide)
      have D12 := DO 12 (by decide)
      have UO : ∀ n, n ≠ 35 -> updAH us 35 (.int .i64 ((k : Nat) : Int)) n = us n := fun n h => upd_otherH h
      have U35 : updAH us 35 (.int .i64 ((k : Nat) : Int)) 35 = (.int .i64 ((k : Nat) : Int)) := upd_sameH _ _ _
      have U0 := UO 0 (by decide)
      have U3 := UO 3 (by decide)
      have U6 := UO 6 (by decide)
      have U7 := UO 7 (by decide)
      have U33 := UO 33 (by decide)
      have U34 := UO 34 (by decide)
      have U36 := UO 36 (by decide)
      have U37 := UO 37 (by decide)
      have U38 := UO 38 (by decide)
      have U39 := UO 39 (by decide)
      have U40 := UO 40 (by decide)
      have U41 := UO 41 (by decide)
      have U42 := UO 42 (by decide)
      have U43 := UO 43 (by decide)
      have U44 := UO 44 (by decide)
      refine wpOp_step rfl (fun K hK => ?_)
      simp only [frAH, e0, e3, e6]
      go_simp
      refine hK _ _ ⟨updAH us 35 (.int .i64 ((k : Nat) : Int)), by simp [frAH, updAH, e0, e3, e6], { u0 := (U0.trans I.u0), u3 := (U3.trans I.u3), u6 := (U6.trans I.u6), bel := (I.bel), o1 := (cO U34 I.o1 D1), o2 := (fun _ => U35), o3 := (cO U36 I.o3 D3), o5 := (cO U38 I.o5 D5), o8 := (cO U41 I.o8 D8), o9 := (cO U42 I.o9 D9), o10 := (cO U43 I.o10 D10), o6 := (fun h0 h1 => by rw [U39]; exact I.o6 (D6.symm.trans h0) (D7.symm.trans h1)), r0 := (fun h0 h1 => by rw [U33]; exact I.r0 (D0.symm.trans h0) (D4.symm.trans h1)), r4 := (fun h0 h1 => by rw [U37]; exact I.r4 (D4.symm.trans h0) (D7.symm.trans h1)), r7 := (fun h0 h1 => by rw [U40]; exact I.r7 (D7.symm.trans h0) (D11.symm.trans h1)), r11 := (fun h0 => by rw [U44]; exact I.r11 (D11.symm.trans h0)), s0 := (fun h0 h1 h2 h3 => by rw [U33, U39]; exact I.s0 (D0.symm.trans h0) (D4.symm.trans h1) (D6.symm.trans h2) (D7.symm.trans h3)), s4 := (fun h0 h1 h2 => by rw [U37, U39]; exact I.s4 (D4.symm.trans h0) (D7.symm.trans h1) (D6.symm.trans h2)), o12 := (fun h => by rw [U7, U44, D11]; exact I.o12 (D12.symm.trans h)), i7 := (fun h => D4.trans (I.i7 (D7.symm.trans h))), i11 := (fun h => D7.trans (I.i11 (D11.symm.trans h))) }⟩
     ·
      skip
      have DO : ∀ n, 3 ≠ n -> (d.setIfInBounds 3 true).getD n false = d.getD n false := fun n h => getD_set_ne false h
      have D3 : (d.setIfInBounds 3 true).getD 3 false = true := getD_set_sameH hun
      have D0 := DO 0 (by decide)
      have D1 := DO 1 (by decide)
      have D2 := DO 2 (by decide)
      have D4 := DO 4 (by decide)
      have D5 := DO 5 (by decide)
      have D6 := DO 6 (by decide)
      have D7 := DO 7 (by decide)
      have D8 := DO 8 (by decide)
      have D9 := DO 9 (by decide)
      have D10 := DO 10 (by decide)
      have D11 := DO 11 (by decide)
      have D12 := DO 12 (by decide)
      have e34 := I.o1 (hall ⟨1, .data⟩ (by simp) rfl)
      have e35 := I.o2 (hall ⟨2, .data⟩ (by simp) rfl)
      have UO : ∀ n, n ≠ 36 -> updAH us 36 (.slice (some ⟨g, off, none⟩) k c) n = us n := fun n h => upd_otherH h
      have U36 : updAH us 36 (.slice (some ⟨g, off, none⟩) k c) 36 = (.slice (some ⟨g, off, none⟩) k c) := upd_sameH _ _ _
      have U0 := UO 0 (by decide)
      have U3 := UO 3 (by decide)
      have U6 := UO 6 (by decide)
      have U7 := UO 7 (by decide)
      have U33 := UO 33 (by decide)
      have U34 := UO 34 (by decide)
      have U35 := UO 35 (by decide)
      have U37 := UO 37 (by decide)
      have U38 := UO 38 (by decide)
      have U39 := UO 39 (by decide)
      have U40 := UO 40 (by decide)
      have U41 := UO 41 (by decide)
      have U42 := UO 42 (by decide)
      have U43 := UO 43 (by decide)
      have U44 := UO 44 (by decide)
      refine wpOp_step rfl (fun K hK => ?_)
      simp only [frAH, e0, e3, e6, e34, e35]
      go_simp
      try (rw [if_pos (by omega)]; go_simp)
      refine hK _ _ ⟨updAH us 36 (.slice (some ⟨g, off, none⟩) k c), by simp [frAH, updAH, e0, e3, e6, e34, e35], { u0 := (U0.trans I.u0), u3 := (U3.trans I.u3), u6 := (U6.trans I.u6), bel := (I.bel), o1 := (cO U34 I.o1 D1), o2 := (cO U35 I.o2 D2), o3 := (fun _ => U36), o5 := (cO U38 I.o5 D5), o8 := (cO U41 I.o8 D8), o9 := (cO U42 I.o9 D9), o10 := (cO U43 I.o10 D10), o6 := (fun h0 h1 => by rw [U39]; exact I.o6 (D6.symm.trans h0) (D7.symm.trans h1)), r0 := (fun h0 h1 => by rw [U33]; exact I.r0 (D0.symm.trans h0) (D4.symm.trans h1)), r4 := (fun h0 h1 => by rw [U37]; exact I.r4 (D4.symm.trans h0) (D7.symm.trans h1)), r7 := (fun h0 h1 => by rw [U40]; exact I.r7 (D7.symm.trans h0) (D11.symm.trans h1)), r11 := (fun h0 => by rw [U44]; exact I.r11 (D11.symm.trans h0)), s0 := (fun h0 h1 h2 h3 => by rw [U33, U39]; exact I.s0 (D0.symm.trans h0) (D4.symm.trans h1) (D6.symm.trans h2) (D7.symm.trans h3)), s4 := (fun h0 h1 h2 => by rw [U37, U39]; exact I.s4 (D4.symm.trans h0) (D7.symm.trans h1) (D6.symm.trans h2)), o12 := (fun h => by rw [U7, U44, D11]; exact I.o12 (D12.symm.trans h)), i7 := (fun h => D4.trans (I.i7 (D7.symm.trans h))), i11 := (fun h => D7.trans (I.i11 (D11.symm.trans h))) }⟩
     ·
      skip
      have DO : ∀ n, 4 ≠ n -> (d.setIfInBounds 4 true).getD n false = d.getD n false := fun n h => getD_set_ne false h
      have D4 : (d.setIfInBounds 4 true).getD 4 false = true := getD_set_sameH hun
      have D0 := DO 0 (by decide)
      have D1 := DO 1 (by decide)
      have D2 := DO 2 (by decide)
      have D3 := DO 3 (by decide)
      have D5 := DO 5 (by decide)
      have D6 := DO 6 (by decide)
      have D7 := DO 7 (by decide)
      have D8 := DO 8 (by decide)
      have D9 := DO 9 (by decide)
      have D10 := DO 10 (by decide)
      have D11 := DO 11 (by decide)
      have D12 := DO 12 (by decide)
      have e36 := I.o3 (hall ⟨3, .data⟩ (by simp) rfl)
      have h00 := hall ⟨0, .data⟩ (by simp) rfl
      have hRow := I.r0 (hall ⟨0, .data⟩ (by simp) rfl) (getD_tfH hun)
      refine wpOp_append_rowH rfl rfl (.tmp 33) (.tmp 36) rfl wq.heap.size (us 33) [] rfl hRow (some ⟨g, off, none⟩) (c) ((ps.take k)) (by show us 36 = _; rw [e36] <;> simp [hl1]) (q1.below I.bel) (.inr ⟨_, _, rfl⟩) (by simp [hl1, hl3] <;> omega) hsz ?_
      intro v W2 hR2 hB hg hv
      have UO : ∀ n, n ≠ 37 -> updAH us 37 (v) n = us n := fun n h => upd_otherH h
      have U37 : updAH us 37 (v) 37 = (v) := upd_sameH _ _ _
      have U0 := UO 0 (by decide)
      have U3 := UO 3 (by decide)
      have U6 := UO 6 (by decide)
      have U7 := UO 7 (by decide)
      have U33 := UO 33 (by decide)
      have U34 := UO 34 (by decide)
      have U35 := UO 35 (by decide)
      have U36 := UO 36 (by decide)
      have U38 := UO 38 (by decide)
      have U39 := UO 39 (by decide)
      have U40 := UO 40 (by decide)
      have U41 := UO 41 (by decide)
      have U42 := UO 42 (by decide)
      have U43 := UO 43 (by decide)
      have U44 := UO 44 (by decide)
      refine ⟨updAH us 37 v, by simp [frAH, updAH, Act.put], { u0 := (U0.trans I.u0), u3 := (U3.trans I.u3), u6 := (U6.trans I.u6), bel := (I.bel.trans hB), o1 := (cO U34 I.o1 D1), o2 := (cO U35 I.o2 D2), o3 := (cO U36 I.o3 D3), o5 := (cO U38 I.o5 D5), o8 := (cO U41 I.o8 D8), o9 := (cO U42 I.o9 D9), o10 := (cO U43 I.o10 D10), o6 := (fun h0 h1 => by rw [U39]; exact (I.o6 (D6.symm.trans h0) (D7.symm.trans h1)).sep (I.s0 h00 (getD_tfH hun) (D6.symm.trans h0) (D7.symm.trans h1)) hg), r0 := (fun h0 h1 => by rw [D4] at h1; cases h1), r4 := (fun _ _ => by rw [U37]; simpa using hR2), r7 := (fun h0 h1 => absurd (I.i7 (D7.symm.trans h0)) (by rw [getD_tfH hun]; exact Bool.false_ne_true)), r11 := (fun h0 => absurd (I.i7 (I.i11 (D11.symm.trans h0))) (by rw [getD_tfH hun]; exact Bool.false_ne_true)), s0 := (fun h0 h1 h2 h3 => by rw [D4] at h1; cases h1), s4 := (fun h0 h1 h2 => by rw [U37, U39]; exact sep_appH (I.o6 (D6.symm.trans h2) (D7.symm.trans h1)) (I.s0 h00 (getD_tfH hun) (D6.symm.trans h2) (D7.symm.trans h1)) hv), o12 := (fun h => by rw [U7, U44, D11]; exact I.o12 (D12.symm.trans h)), i7 := (fun _ => D4), i11 := (fun h => D7.trans (I.i11 (D11.symm.trans h))) }⟩
     ·
      skip
      have DO : ∀ n, 5 ≠ n -> (d.setIfInBounds 5 true).getD n false = d.getD n false := fun n h => getD_set_ne false h
      have D5 : (d.setIfInBounds 5 true).getD 5 false = true := getD_set_sameH hun
      have D0 := DO 0 (by decide)
      have D1 := DO 1 (by decide)
      have D2 := DO 2 (by decide)
      have D3 := DO 3 (by decide)
      have D4 := DO 4 (by decide)
      have D6 := DO 6 (by decide)
      have D7 := DO 7 (by decide)
      have D8 := DO 8 (by decide)
      have D9 := DO 9 (by decide)
      have D10 := DO 10 (by decide)
      have D11 := DO 11 (by decide)
      have D12 := DO 12 (by decide)
      have c0 := Below.cell I.bel (p := ⟨w.heap.size, 0, none⟩) hb0 |>.trans hbox.c0
      have c1 := Below.cell I.bel (p := ⟨w.heap.size, 1, none⟩) hb0 |>.trans hbox.c1
      have UO : ∀ n, n ≠ 38 -> updAH us 38 (.agg #[.int .i64 x.y, .slice x.A x.n x.c]) n = us n := fun n h => upd_otherH h
      have U38 : updAH us 38 (.agg #[.int .i64 x.y, .slice x.A x.n x.c]) 38 = (.agg #[.int .i64 x.y, .slice x.A x.n x.c]) := upd_sameH _ _ _
      have U0 := UO 0 (by decide)
      have U3 := UO 3 (by decide)
      have U6 := UO 6 (by decide)
      have U7 := UO 7 (by decide)
      have U33 := UO 33 (by decide)
      have U34 := UO 34 (by decide)
      have U35 := UO 35 (by decide)
      have U36 := UO 36 (by decide)
      have U37 := UO 37 (by decide)
      have U39 := UO 39 (by decide)
      have U40 := UO 40 (by decide)
      have U41 := UO 41 (by decide)
      have U42 := UO 42 (by decide)
      have U43 := UO 43 (by decide)
      have U44 := UO 44 (by decide)
      refine wpOp_step rfl (fun K hK => ?_)
      simp only [frAH, e0, e3, e6, c0, c1]
      go_simp
      refine hK _ _ ⟨updAH us 38 (.agg #[.int .i64 x.y, .slice x.A x.n x.c]), by simp [frAH, updAH, e0, e3, e6, c0, c1], { u0 := (U0.trans I.u0), u3 := (U3.trans I.u3), u6 := (U6.trans I.u6), bel := (I.bel), o1 := (cO U34 I.o1 D1), o2 := (cO U35 I.o2 D2), o3 := (cO U36 I.o3 D3), o5 := (fun _ => U38), o8 := (cO U41 I.o8 D8), o9 := (cO U42 I.o9 D9), o10 := (cO U43 I.o10 D10), o6 := (fun h0 h1 => by rw [U39]; exact I.o6 (D6.symm.trans h0) (D7.symm.trans h1)), r0 := (fun h0 h1 => by rw [U33]; exact I.r0 (D0.symm.trans h0) (D4.symm.trans h1)), r4 := (fun h0 h1 => by rw [U37]; exact I.r4 (D4.symm.trans h0) (D7.symm.trans h1)), r7 := (fun h0 h1 => by rw [U40]; exact I.r7 (D7.symm.trans h0) (D11.symm.trans h1)), r11 := (fun h0 => by rw [U44]; exact I.r11 (D11.symm.trans h0)), s0 := (fun h0 h1 h2 h3 => by rw [U33, U39]; exact I.s0 (D0.symm.trans h0) (D4.symm.trans h1) (D6.symm.trans h2) (D7.symm.trans h3)), s4 := (fun h0 h1 h2 => by rw [U37, U39]; exact I.s4 (D4.symm.trans h0) (D7.symm.trans h1) (D6.symm.trans h2)), o12 := (fun h => by rw [U7, U44, D11]; exact I.o12 (D12.symm.trans h)), i7 := (fun h => D4.trans (I.i7 (D7.symm.trans h))), i11 := (fun h => D7.trans (I.i11 (D11.symm.trans h))) }⟩
     ·
      skip
      have DO : ∀ n, 6 ≠ n -> (d.setIfInBounds 6 true).getD n false = d.getD n false := fun n h => getD_set_ne false h
      have D6 : (d.setIfInBounds 6 true).getD 6 false = true := getD_set_sameH hun
      have D0 := DO 0 (by decide)
      have D1 := DO 1 (by decide)
      have D2 := DO 2 (by decide)
      have D3 := DO 3 (by decide)
      have D4 := DO 4 (by decide)
      have D5 := DO 5 (by decide)
      have D7 := DO 7 (by decide)
      have D8 := DO 8 (by decide)
      have D9 := DO 9 (by decide)
      have D10 := DO 10 (by decide)
      have D11 := DO 11 (by decide)
      have D12 := DO 12 (by decide)
      have e38 := I.o5 (hall ⟨5, .data⟩ (by simp) rfl)
      have UO : ∀ n, n ≠ 39 -> updAH us 39 (.slice (some ⟨W.heap.size, 0, none⟩) 1 1) n = us n := fun n h => upd_otherH h
      have U39 : updAH us 39 (.slice (some ⟨W.heap.size, 0, none⟩) 1 1) 39 = (.slice (some ⟨W.heap.size, 0, none⟩) 1 1) := upd_sameH _ _ _
      have U0 := UO 0 (by decide)
      have U3 := UO 3 (by decide)
      have U6 := UO 6 (by decide)
      have U7 := UO 7 (by decide)
      have U33 := UO 33 (by decide)
      have U34 := UO 34 (by decide)
      have U35 := UO 35 (by decide)
      have U36 := UO 36 (by decide)
      have U37 := UO 37 (by decide)
      have U38 := UO 38 (by decide)
      have U40 := UO 40 (by decide)
      have U41 := UO 41 (by decide)
      have U42 := UO 42 (by decide)
      have U43 := UO 43 (by decide)
      have U44 := UO 44 (by decide)
      refine wpOp_step rfl (fun K hK => ?_)
      simp only [frAH, e0, e3, e6, e38]
      go_simp
      refine hK _ _ ⟨updAH us 39 (.slice (some ⟨W.heap.size, 0, none⟩) 1 1), by simp [frAH, updAH, e0, e3, e6, e38], { u0 := (U0.trans I.u0), u3 := (U3.trans I.u3), u6 := (U6.trans I.u6), bel := (I.bel.alloc hsz _), o1 := (cO U34 I.o1 D1), o2 := (cO U35 I.o2 D2), o3 := (cO U36 I.o3 D3), o5 := (cO U38 I.o5 D5), o8 := (cO U41 I.o8 D8), o9 := (cO U42 I.o9 D9), o10 := (cO U43 I.o10 D10), o6 := (fun _ _ => by rw [U39]; exact ⟨_, rfl, heap_alloc_new W _, hsz⟩), r0 := (fun h0 h1 => by rw [U33]; exact (I.r0 (D0.symm.trans h0) (D4.symm.trans h1)).below (below_alloc _ _)), r4 := (fun h0 h1 => by rw [U37]; exact (I.r4 (D4.symm.trans h0) (D7.symm.trans h1)).below (below_alloc _ _)), r7 := (fun h0 h1 => by rw [U40]; exact (I.r7 (D7.symm.trans h0) (D11.symm.trans h1)).below (below_alloc _ _)), r11 := (fun h0 => by rw [U44]; exact (I.r11 (D11.symm.trans h0)).below (below_alloc _ _)), s0 := (fun h0 h1 h2 h3 => by rw [U33, U39]; exact sep_ltH fun k hk => (I.r0 (D0.symm.trans h0) (D4.symm.trans h1)).lt hk), s4 := (fun h0 h1 h2 => by rw [U37, U39]; exact sep_ltH fun k hk => (I.r4 (D4.symm.trans h0) (D7.symm.trans h1)).lt hk), o12 := (fun h => by rw [U7, U44, D11]; exact I.o12 (D12.symm.trans h)), i7 := (fun h => D4.trans (I.i7 (D7.symm.trans h))), i11 := (fun h => D7.trans (I.i11 (D11.symm.trans h))) }⟩
     ·
      skip
      have DO : ∀ n, 7 ≠ n -> (d.setIfInBounds 7 true).getD n false = d.getD n false := fun n h => getD_set_ne false h
      have D7 : (d.setIfInBounds 7 true).getD 7 false = true := getD_set_sameH hun
      have D0 := DO 0 (by decide)
      have D1 := DO 1 (by decide)
      have D2 := DO 2 (by decide)
      have D3 := DO 3 (by decide)
      have D4 := DO 4 (by decide)
      have D5 := DO 5 (by decide)
      have D6 := DO 6 (by decide)
      have D8 := DO 8 (by decide)
      have D9 := DO 9 (by decide)
      have D10 := DO 10 (by decide)
      have D11 := DO 11 (by decide)
      have D12 := DO 12 (by decide)
      have h44 := hall ⟨4, .data⟩ (by simp) rfl
      obtain ⟨B, e39, hRB⟩ := (I.o6 (hall ⟨6, .data⟩ (by simp) rfl) (getD_tfH hun)).row
      have hRow := I.r4 (hall ⟨4, .data⟩ (by simp) rfl) (getD_tfH hun)
      refine wpOp_append_rowH rfl rfl (.tmp 37) (.tmp 39) rfl wq.heap.size (us 37) ((ps.take k)) rfl hRow (some ⟨B, 0, none⟩) 1 [x] e39 hRB (.inr ⟨_, _, rfl⟩) (by simp [hl1, hl3] <;> omega) hsz ?_
      intro v W2 hR2 hB hg hv
      have UO : ∀ n, n ≠ 40 -> updAH us 40 (v) n = us n := fun n h => upd_otherH h
      have U40 : updAH us 40 (v) 40 = (v) := upd_sameH _ _ _
      have U0 := UO 0 (by decide)
      have U3 := UO 3 (by decide)
      have U6 := UO 6 (by decide)
      have U7 := UO 7 (by decide)
      have U33 := UO 33 (by decide)
      have U34 := UO 34 (by decide)
      have U35 := UO 35 (by decide)
      have U36 := UO 36 (by decide)
      have U37 := UO 37 (by decide)
      have U38 := UO 38 (by decide)
      have U39 := UO 39 (by decide)
      have U41 := UO 41 (by decide)
      have U42 := UO 42 (by decide)
      have U43 := UO 43 (by decide)
      have U44 := UO 44 (by decide)
      refine ⟨updAH us 40 v, by simp [frAH, updAH, Act.put], { u0 := (U0.trans I.u0), u3 := (U3.trans I.u3), u6 := (U6.trans I.u6), bel := (I.bel.trans hB), o1 := (cO U34 I.o1 D1), o2 := (cO U35 I.o2 D2), o3 := (cO U36 I.o3 D3), o5 := (cO U38 I.o5 D5), o8 := (cO U41 I.o8 D8), o9 := (cO U42 I.o9 D9), o10 := (cO U43 I.o10 D10), o6 := (fun h0 h1 => by rw [D7] at h1; cases h1), r0 := (fun h0 h1 => absurd h44 (by rw [D4.symm.trans h1]; exact Bool.false_ne_true)), r4 := (fun h0 h1 => by rw [D7] at h1; cases h1), r7 := (fun _ _ => by rw [U40]; exact hR2), r11 := (fun h0 => absurd (I.i11 (D11.symm.trans h0)) (by rw [getD_tfH hun]; exact Bool.false_ne_true)), s0 := (fun h0 h1 h2 h3 => by rw [D7] at h3; cases h3), s4 := (fun h0 h1 h2 => by rw [D7] at h1; cases h1), o12 := (fun h => by rw [U7, U44, D11]; exact I.o12 (D12.symm.trans h)), i7 := (fun _ => D4.trans h44), i11 := (fun _ => D7) }⟩
     ·
      skip
      have DO : ∀ n, 8 ≠ n -> (d.setIfInBounds 8 true).getD n false = d.getD n false := fun n h => getD_set_ne false h
      have D8 : (d.setIfInBounds 8 true).getD 8 false = true := getD_set_sameH hun
      have D0 := DO 0 (by decide)
      have D1 := DO 1 (by decide)
      have D2 := DO 2 (by decide)
      have D3 := DO 3 (by decide)
      have D4 := DO 4 (by decide)
      have D5 := DO 5 (by decide)
      have D6 := DO 6 (by decide)
      have D7 := DO 7 (by decide)
      have D9 := DO 9 (by decide)
      have D10 := DO 10 (by decide)
      have D11 := DO 11 (by decide)
      have D12 := DO 12 (by decide)
      have UO : ∀ n, n ≠ 41 -> updAH us 41 (.slice (some ⟨g, off, none⟩) ps.length c) n = us n := fun n h => upd_otherH h
      have U41 : updAH us 41 (.slice (some ⟨g, off, none⟩) ps.length c) 41 = (.slice (some ⟨g, off, none⟩) ps.length c) := upd_sameH _ _ _
      have U0 := UO 0 (by decide)
      have U3 := UO 3 (by decide)
      have U6 := UO 6 (by decide)
      have U7 := UO 7 (by decide)
      have U33 := UO 33 (by decide)
      have U34 := UO 34 (by decide)
      have U35 := UO 35 (by decide)
      have U36 := UO 36 (by decide)
      have U37 := UO 37 (by decide)
      have U38 := UO 38 (by decide)
      have U39 := UO 39 (by decide)
      have U40 := UO 40 (by decide)
      have U42 := UO 42 (by decide)
      have U43 := UO 43 (by decide)
      have U44 := UO 44 (by decide)
      refine wpOp_step rfl (fun K hK => ?_)
      simp only [frAH, e0, e3, e6]
      go_simp
      refine hK _ _ ⟨updAH us 41 (.slice (some ⟨g, off, none⟩) ps.length c), by simp [frAH, updAH, e0, e3, e6], { u0 := (U0.trans I.u0), u3 := (U3.trans I.u3), u6 := (U6.trans I.u6), bel := (I.bel), o1 := (cO U34 I.o1 D1), o2 := (cO U35 I.o2 D2), o3 := (cO U36 I.o3 D3), o5 := (cO U38 I.o5 D5), o8 := (fun _ => U41), o9 := (cO U42 I.o9 D9), o10 := (cO U43 I.o10 D10), o6 := (fun h0 h1 => by rw [U39]; exact I.o6 (D6.symm.trans h0) (D7.symm.trans h1)), r0 := (fun h0 h1 => by rw [U33]; exact I.r0 (D0.symm.trans h0) (D4.symm.trans h1)), r4 := (fun h0 h1 => by rw [U37]; exact I.r4 (D4.symm.trans h0) (D7.symm.trans h1)), r7 := (fun h0 h1 => by rw [U40]; exact I.r7 (D7.symm.trans h0) (D11.symm.trans h1)), r11 := (fun h0 => by rw [U44]; exact I.r11 (D11.symm.trans h0)), s0 := (fun h0 h1 h2 h3 => by rw [U33, U39]; exact I.s0 (D0.symm.trans h0) (D4.symm.trans h1) (D6.symm.trans h2) (D7.symm.trans h3)), s4 := (fun h0 h1 h2 => by rw [U37, U39]; exact I.s4 (D4.symm.trans h0) (D7.symm.trans h1) (D6.symm.trans h2)), o12 := (fun h => by rw [U7, U44, D11]; exact I.o12 (D12.symm.trans h)), i7 := (fun h => D4.trans (I.i7 (D7.symm.trans h))), i11 := (fun h => D7.trans (I.i11 (D11.symm.trans h))) }⟩
     ·
      skip
      have DO : ∀ n, 9 ≠ n -> (d.setIfInBounds 9 true).getD n false = d.getD n false := fun n h => getD_set_ne false h
      have D9 : (d.setIfInBounds 9 true).getD 9 false = true := getD_set_sameH hun
      have D0 := DO 0 (by decide)
      have D1 := DO 1 (by decide)
      have D2 := DO 2 (by decide)
      have D3 := DO 3 (by decide)
      have D4 := DO 4 (by decide)
      have D5 := DO 5 (by decide)
      have D6 := DO 6 (by decide)
      have D7 := DO 7 (by decide)
      have D8 := DO 8 (by decide)
      have D10 := DO 10 (by decide)
      have D11 := DO 11 (by decide)
      have D12 := DO 12 (by decide)
      have UO : ∀ n, n ≠ 42 -> updAH us 42 (.int .i64 ((k : Nat) : Int)) n = us n := fun n h => upd_otherH h
      have U42 : updAH us 42 (.int .i64 ((k : Nat) : Int)) 42 = (.int .i64 ((k : Nat) : Int)) := upd_sameH _ _ _
      have U0 := UO 0 (by decide)
      have U3 := UO 3 (by decide)
      have U6 := UO 6 (by decide)
      have U7 := UO 7 (by decide)
      have U33 := UO 33 (by decide)
      have U34 := UO 34 (by decide)
      have U35 := UO 35 (by decide)
      have U36 := UO 36 (by decide)
      have U37 := UO 37 (by decide)
      have U38 := UO 38 (by decide)
      have U39 := UO 39 (by decide)
      have U40 := UO 40 (by decide)
      have U41 := UO 41 (by decide)
      have U43 := UO 43 (by decide)
      have U44 := UO 44 (by decide)
      refine wpOp_step rfl (fun K hK => ?_)
      simp only [frAH, e0, e3, e6]
      go_simp
      refine hK _ _ ⟨updAH us 42 (.int .i64 ((k : Nat) : Int)), by simp [frAH, updAH, e0, e3, e6], { u0 := (U0.trans I.u0), u3 := (U3.trans I.u3), u6 := (U6.trans I.u6), bel := (I.bel), o1 := (cO U34 I.o1 D1), o2 := (cO U35 I.o2 D2), o3 := (cO U36 I.o3 D3), o5 := (cO U38 I.o5 D5), o8 := (cO U41 I.o8 D8), o9 := (fun _ => U42), o10 := (cO U43 I.o10 D10), o6 := (fun h0 h1 => by rw [U39]; exact I.o6 (D6.symm.trans h0) (D7.symm.trans h1)), r0 := (fun h0 h1 => by rw [U33]; exact I.r0 (D0.symm.trans h0) (D4.symm.trans h1)), r4 := (fun h0 h1 => by rw [U37]; exact I.r4 (D4.symm.trans h0) (D7.symm.trans h1)), r7 := (fun h0 h1 => by rw [U40]; exact I.r7 (D7.symm.trans h0) (D11.symm.trans h1)), r11 := (fun h0 => by rw [U44]; exact I.r11 (D11.symm.trans h0)), s0 := (fun h0 h1 h2 h3 => by rw [U33, U39]; exact I.s0 (D0.symm.trans h0) (D4.symm.trans h1) (D6.symm.trans h2) (D7.symm.trans h3)), s4 := (fun h0 h1 h2 => by rw [U37, U39]; exact I.s4 (D4.symm.trans h0) (D7.symm.trans h1) (D6.symm.trans h2)), o12 := (fun h => by rw [U7, U44, D11]; exact I.o12 (D12.symm.trans h)), i7 := (fun h => D4.trans (I.i7 (D7.symm.trans h))), i11 := (fun h => D7.trans (I.i11 (D11.symm.trans h))) }⟩
     ·
      skip
      have DO : ∀ n, 10 ≠ n -> (d.setIfInBounds 10 true).getD n false = d.getD n false := fun n h => getD_set_ne false h
      have D10 : (d.setIfInBounds 10 true).getD 10 false = true := getD_set_sameH hun
      have D0 := DO 0 (by decide)
      have D1 := DO 1 (by decide)
      have D2 := DO 2 (by decide)
      have D3 := DO 3 (by decide)
      have D4 := DO 4 (by decide)
      have D5 := DO 5 (by decide)
      have D6 := DO 6 (by decide)
      have D7 := DO 7 (by decide)
      have D8 := DO 8 (by decide)
      have D9 := DO 9 (by decide)
      have D11 := DO 11 (by decide)
      have D12 := DO 12 (by decide)
      have e41 := I.o8 (hall ⟨8, .data⟩ (by simp) rfl)
      have e42 := I.o9 (hall ⟨9, .data⟩ (by simp) rfl)
      have UO : ∀ n, n ≠ 43 -> updAH us 43 (.slice (some ⟨g, off + k * 2, none⟩) (ps.length - k) (c - k)) n = us n := fun n h => upd_otherH h
      have U43 : updAH us 43 (.slice (some ⟨g, off + k * 2, none⟩) (ps.length - k) (c - k)) 43 = (.slice (some ⟨g, off + k * 2, none⟩) (ps.length - k) (c - k)) := upd_sameH _ _ _
      have U0 := UO 0 (by decide)
      have U3 := UO 3 (by decide)
      have U6 := UO 6 (by decide)
      have U7 := UO 7 (by decide)
      have U33 := UO 33 (by decide)
      have U34 := UO 34 (by decide)
      have U35 := UO 35 (by decide)
      have U36 := UO 36 (by decide)
      have U37 := UO 37 (by decide)
      have U38 := UO 38 (by decide)
      have U39 := UO 39 (by decide)
      have U40 := UO 40 (by decide)
      have U41 := UO 41 (by decide)
      have U42 := UO 42 (by decide)
      have U44 := UO 44 (by decide)
      refine wpOp_step rfl (fun K hK => ?_)
      simp only [frAH, e0, e3, e6, e41, e42]
      go_simp
      try (rw [if_pos (by omega)]; go_simp)
      refine hK _ _ ⟨updAH us 43 (.slice (some ⟨g, off + k * 2, none⟩) (ps.length - k) (c - k)), by simp [frAH, updAH, e0, e3, e6, e41, e42, e1s], { u0 := (U0.trans I.u0), u3 := (U3.trans I.u3), u6 := (U6.trans I.u6), bel := (I.bel), o1 := (cO U34 I.o1 D1), o2 := (cO U35 I.o2 D2), o3 := (cO U36 I.o3 D3), o5 := (cO U38 I.o5 D5), o8 := (cO U41 I.o8 D8), o9 := (cO U42 I.o9 D9), o10 := (fun _ => U43), o6 := (fun h0 h1 => by rw [U39]; exact I.o6 (D6.symm.trans h0) (D7.symm.trans h1)), r0 := (fun h0 h1 => by rw [U33]; exact I.r0 (D0.symm.trans h0) (D4.symm.trans h1)), r4 := (fun h0 h1 => by rw [U37]; exact I.r4 (D4.symm.trans h0) (D7.symm.trans h1)), r7 := (fun h0 h1 => by rw [U40]; exact I.r7 (D7.symm.trans h0) (D11.symm.trans h1)), r11 := (fun h0 => by rw [U44]; exact I.r11 (D11.symm.trans h0)), s0 := (fun h0 h1 h2 h3 => by rw [U33, U39]; exact I.s0 (D0.symm.trans h0) (D4.symm.trans h1) (D6.symm.trans h2) (D7.symm.trans h3)), s4 := (fun h0 h1 h2 => by rw [U37, U39]; exact I.s4 (D4.symm.trans h0) (D7.symm.trans h1) (D6.symm.trans h2)), o12 := (fun h => by rw [U7, U44, D11]; exact I.o12 (D12.symm.trans h)), i7 := (fun h => D4.trans (I.i7 (D7.symm.trans h))), i11 := (fun h => D7.trans (I.i11 (D11.symm.trans h))) }⟩
     ·
      skip
      have DO : ∀ n, 11 ≠ n -> (d.setIfInBounds 11 true).getD n false = d.getD n false := fun n h => getD_set_ne false h
      have D11 : (d.setIfInBounds 11 true).getD 11 false = true := getD_set_sameH hun
      have D0 := DO 0 (by decide)
      have D1 := DO 1 (by decide)
      have D2 := DO 2 (by decide)
      have D3 := DO 3 (by decide)
      have D4 := DO 4 (by decide)
      have D5 := DO 5 (by decide)
      have D6 := DO 6 (by decide)
      have D7 := DO 7 (by decide)
      have D8 := DO 8 (by decide)
      have D9 := DO 9 (by decide)
      have D10 := DO 10 (by decide)
      have D12 := DO 12 (by decide)
      have e43 := I.o10 (hall ⟨10, .data⟩ (by simp) rfl)
      have h77 := hall ⟨7, .data⟩ (by simp) rfl
      have hRow := I.r7 (hall ⟨7, .data⟩ (by simp) rfl) (getD_tfH hun)
      refine wpOp_append_rowH rfl rfl (.tmp 40) (.tmp 43) rfl wq.heap.size (us 40) ((ps.take k) ++ [x]) rfl hRow (some ⟨g, off + k * 2, none⟩) ((c - k)) ((ps.drop k)) (by show us 43 = _; rw [e43] <;> simp [hl3]) (q3.below I.bel) (.inr ⟨_, _, rfl⟩) (by simp [hl1, hl3] <;> omega) hsz ?_
      intro v W2 hR2 hB hg hv
      have UO : ∀ n, n ≠ 44 -> updAH us 44 (v) n = us n := fun n h => upd_otherH h
      have U44 : updAH us 44 (v) 44 = (v) := upd_sameH _ _ _
      have U0 := UO 0 (by decide)
      have U3 := UO 3 (by decide)
      have U6 := UO 6 (by decide)
      have U7 := UO 7 (by decide)
      have U33 := UO 33 (by decide)
      have U34 := UO 34 (by decide)
      have U35 := UO 35 (by decide)
      have U36 := UO 36 (by decide)
      have U37 := UO 37 (by decide)
      have U38 := UO 38 (by decide)
      have U39 := UO 39 (by decide)
      have U40 := UO 40 (by decide)
      have U41 := UO 41 (by decide)
      have U42 := UO 42 (by decide)
      have U43 := UO 43 (by decide)
      refine ⟨updAH us 44 v, by simp [frAH, updAH, Act.put], { u0 := (U0.trans I.u0), u3 := (U3.trans I.u3), u6 := (U6.trans I.u6), bel := (I.bel.trans hB), o1 := (cO U34 I.o1 D1), o2 := (cO U35 I.o2 D2), o3 := (cO U36 I.o3 D3), o5 := (cO U38 I.o5 D5), o8 := (cO U41 I.o8 D8), o9 := (cO U42 I.o9 D9), o10 := (cO U43 I.o10 D10), o6 := (fun h0 h1 => absurd h77 (by rw [D7.symm.trans h1]; exact Bool.false_ne_true)), r0 := (fun h0 h1 => absurd (I.i7 h77) (by rw [D4.symm.trans h1]; exact Bool.false_ne_true)), r4 := (fun h0 h1 => absurd h77 (by rw [D7.symm.trans h1]; exact Bool.false_ne_true)), r7 := (fun h0 h1 => by rw [D11] at h1; cases h1), r11 := (fun _ => by rw [U44]; exact hR2), s0 := (fun h0 h1 h2 h3 => by rw [U33, U39]; exact I.s0 (D0.symm.trans h0) (D4.symm.trans h1) (D6.symm.trans h2) (D7.symm.trans h3)), s4 := (fun h0 h1 h2 => by rw [U37, U39]; exact I.s4 (D4.symm.trans h0) (D7.symm.trans h1) (D6.symm.trans h2)), o12 := (fun h => absurd (I.o12 (D12.symm.trans h)).2 (by rw [getD_tfH hun]; exact Bool.false_ne_true)), i7 := (fun h => D4.trans (I.i7 (D7.symm.trans h))), i11 := (fun _ => D7.trans h77) }⟩
     ·
      skip
      have DO : ∀ n, 12 ≠ n -> (d.setIfInBounds 12 true).getD n false = d.getD n false := fun n h => getD_set_ne false h
      have D12 : (d.setIfInBounds 12 true).getD 12 false = true := getD_set_sameH hun
      have D0 := DO 0 (by decide)
      have D1 := DO 1 (by decide)
      have D2 := DO 2 (by decide)
      have D3 := DO 3 (by decide)
      have D4 := DO 4 (by decide)
      have D5 := DO 5 (by decide)
      have D6 := DO 6 (by decide)
      have D7 := DO 7 (by decide)
      have D8 := DO 8 (by decide)
      have D9 := DO 9 (by decide)
      have D10 := DO 10 (by decide)
      have D11 := DO 11 (by decide)
      have h11 := hall ⟨11, .data⟩ (by simp) rfl
      have UO : ∀ n, n ≠ 7 -> updAH us 7 (us 44) n = us n := fun n h => upd_otherH h
      have U7 : updAH us 7 (us 44) 7 = (us 44) := upd_sameH _ _ _
      have U0 := UO 0 (by decide)
      have U3 := UO 3 (by decide)
      have U6 := UO 6 (by decide)
      have U33 := UO 33 (by decide)
      have U34 := UO 34 (by decide)
      have U35 := UO 35 (by decide)
      have U36 := UO 36 (by decide)
      have U37 := UO 37 (by decide)
      have U38 := UO 38 (by decide)
      have U39 := UO 39 (by decide)
      have U40 := UO 40 (by decide)
      have U41 := UO 41 (by decide)
      have U42 := UO 42 (by decide)
      have U43 := UO 43 (by decide)
      have U44 := UO 44 (by decide)
      refine wpOp_step rfl (fun K hK => ?_)
      simp only [frAH, e0, e3, e6]
      go_simp
      refine hK _ _ ⟨updAH us 7 (us 44), by simp [frAH, updAH, e0, e3, e6], { u0 := (U0.trans I.u0), u3 := (U3.trans I.u3), u6 := (U6.trans I.u6), bel := (I.bel), o1 := (cO U34 I.o1 D1), o2 := (cO U35 I.o2 D2), o3 := (cO U36 I.o3 D3), o5 := (cO U38 I.o5 D5), o8 := (cO U41 I.o8 D8), o9 := (cO U42 I.o9 D9), o10 := (cO U43 I.o10 D10), o6 := (fun h0 h1 => by rw [U39]; exact I.o6 (D6.symm.trans h0) (D7.symm.trans h1)), r0 := (fun h0 h1 => by rw [U33]; exact I.r0 (D0.symm.trans h0) (D4.symm.trans h1)), r4 := (fun h0 h1 => by rw [U37]; exact I.r4 (D4.symm.trans h0) (D7.symm.trans h1)), r7 := (fun h0 h1 => by rw [U40]; exact I.r7 (D7.symm.trans h0) (D11.symm.trans h1)), r11 := (fun h0 => by rw [U44]; exact I.r11 (D11.symm.trans h0)), s0 := (fun h0 h1 h2 h3 => by rw [U33, U39]; exact I.s0 (D0.symm.trans h0) (D4.symm.trans h1) (D6.symm.trans h2) (D7.symm.trans h3)), s4 := (fun h0 h1 h2 => by rw [U37, U39]; exact I.s4 (D4.symm.trans h0) (D7.symm.trans h1) (D6.symm.trans h2)), o12 := (fun _ => ⟨by rw [U7, U44], by rw [D11]; exact h11⟩), i7 := (fun h => D4.trans (I.i7 (D7.symm.trans h))), i11 := (fun h => D7.trans (I.i11 (D11.symm.trans h))) }⟩
    ·
     intro d a W hd hall hI
     obtain ⟨us, rfl, I⟩ := hI
     have D : ∀ k, k < 13 -> d.getD k false = true := fun k hk => by
      have := hall k hk
      have hk2 : k < d.size := by rw [hd]; exact hk
      simp [hk2] at this ⊢; exact this
     obtain ⟨h7, h11⟩ := I.o12 (D 12 (by decide))
     obtain ⟨O, q, e44, hO⟩ := I.r11 h11
     have e7 := h7.trans e44
     have hbel := I.bel
     rw [hjoin] at e7 hO
     clear I hall D h7 e44
     simp only [frAH, e7]
     replace hO := hO.mono hkq.bel.size
     have hbx := hkq.bel.trans (hbel.mono hkq.bel.size)
     have hV := HVK.out W hbx
     have hll := Lib.hid hV.len
     have hRd := ednR_of_hs hO.row hV
     obtain ⟨g2, rfl⟩ := edhO_some hO (by rw [hll.out]; exact ht4)
     have tb : LTbl W (some ⟨g2, 0, none⟩) (addL es e) := ⟨hRd, HTX.out, fun z hz => by have := HCS.out z hz; omega, by omega⟩
     have HOW := Lib.hid (fun W9 (b : Below W.heap.size W W9) => own_s g2 0 q (addL es e) W9 (hRd.below b) ht3 HCS.out)
     rw [hll.out]
     rcases Bool.eq_false_or_eq_true (lbB (addL es e)) with hvv | hvv
     ·
      have E := Lib.hid (HE1.out hvv)
      have HLB := Lib.hid (lbS_q (c := q) tb hvv)
      have hbx2 := Lib.hid hbx
      clear tb hRd hV hvv hO HE1 HE2 HVK HTX HCS hkq hRq hbox hbx hbel
      go_wp2_with (first
       | (go_at_call 46; refine HLB.out.mono ?_; rintro e' w5 ⟨rfl, b5⟩)
       | (go_at_call 50; refine (HOW.out _ b5).mono ?_; rintro e' w6 ⟨A6, c6, rfl, o6, b6⟩))
      go_ret2
      unfold NewEdnsC
      rw [E.out]
      have t5 := belowGo hbx2.out b5
      exact ⟨A6, c6, rfl, o6.mono t5.size (Nat.le_refl _), belowGo t5 b6⟩
     ·
      have E := Lib.hid (HE2.out hvv)
      have HLB := Lib.hid (lbS_q (c := q) tb hvv)
      have hbx2 := Lib.hid hbx
      clear tb hRd hV hvv hO HE1 HE2 HVK HTX HCS hkq hRq hbox hbx hbel
      go_wp2_with (go_at_call 46; refine HLB.out.mono ?_; rintro e' w5 ⟨rfl, b5⟩)
      go_ret2
      unfold NewEdnsC
      rw [E.out]
      exact ⟨none, 0, rfl, EdnO.nil _ _ _, belowGo hbx2.out b5⟩
  ·
   obtain rfl : k = ps.length := by omega
   have hpk := HPL.out ps.length (Nat.le_refl _) hlo.out (fun q hq => by have := (List.getElem?_eq_some_iff.1 hq).1; omega)
   obtain ⟨L, hL⟩ : ∃ L, L = ps.take ps.length ++ [x] ++ ps.drop ps.length := ⟨_, rfl⟩
   have HVK := Lib.hid (HVL.out ps.length hpk)
   rw [<- hL] at HVK
   have hjoin := hL.symm
   have HR := Lib.hid (fun y : Sub (Bel wr) => HR0.out.below (HK.out y).bel)
   have hd : decide ((ps.length : Int) < (ps.length : Int)) = false := by simp
   clear hlo HPL HVL hpk hL
   go_wp2_with fail
   refine region_held (Bel wr) (by kernel_rfl) (by kernel_rfl) (Bel.drew wr) ?_
   repeat (go_big_quiet_step ((first | rfl)))
   refine wpQuiet_nil ?_
   rintro _ ⟨y2, rfl⟩
   go_wp2_with fail
   have hkq := HK.out y2
   have hRq := HR.out y2
   generalize y2.w = wq at *
   have hbox := hkq
   have hb0 : w.heap.size < wq.heap.size := lt_some hkq.a
   by_cases hcc : ps.length = c
   ·
    subst hcc
    rw [List.take_length, List.drop_length] at hjoin
    have q1 := hRq
    have q3 : EdhR wq (some ⟨g, off, none⟩) ([] : List Edh) := EdhR.none
    have hl1 : (ps).length = ps.length := by rfl
    have hl3 : (([] : List Edh)).length = 0 := by rfl
    refine region_inv (by kernel_rfl) (by kernel_rfl) (fun d a W => ∃ us, a = frAH us /\ InvAH wq.heap.size (w.heap.size) (ps.length) (ps.length) (ps.length) (some ⟨g, off, none⟩) (.slice (some ⟨g, off, none⟩) ps.length ps.length) (.slice (some ⟨g, off, none⟩) 0 0) (ps) (([] : List Edh)) x wq d us W) ?_ ?_ ?_
    ·
     refine ⟨_, frA_ofH, ?_⟩
     have Z : ∀ k, (Array.replicate 13 false).getD k false = false := fun k => by
      rcases Nat.lt_or_ge k 13 with h | h
      ·
       simp [h]
      ·
       simp [Array.getElem?_eq_none, h]
     have Zn : ∀ {k : Nat} {p : Prop}, (Array.replicate 13 false).getD k false = true -> p := fun {k p} h => by rw [Z k] at h; cases h
     exact { u0 := rfl, u3 := rfl, u6 := rfl, bel := (Below.refl _ _).drew, o1 := Zn, o2 := Zn, o3 := Zn, o5 := Zn, o8 := Zn, o9 := Zn, o10 := Zn, o6 := Zn, r0 := Zn, r4 := Zn, r7 := Zn, r11 := Zn, s0 := Zn, s4 := Zn, o12 := Zn, i7 := Zn, i11 := Zn }
    ·
     intro i d a W hi hI
     obtain ⟨hun, oi, hoi, hall⟩ := mem_ready.1 hi
     have hlt : i < 13 := (Array.getElem?_eq_some_iff.1 hoi).1
     obtain ⟨us, rfl, I⟩ := hI
     have hsz : wq.heap.size <= W.heap.size := I.bel.size
     have e0 := I.u0
     have e3 := I.u3
     have e6 := I.u6
     rcases (by omega : i = 0 ∨ i = 1 ∨ i = 2 ∨ i = 3 ∨ i = 4 ∨ i = 5 ∨ i = 6 ∨ i = 7 ∨ i = 8 ∨ i = 9 ∨ i = 10 ∨ i = 11 ∨ i = 12) with rfl | rfl | rfl | rfl | rfl | rfl | rfl | rfl | rfl | rfl | rfl | rfl | rfl
     all_goals
      obtain rfl := Option.some.inj hoi
      clear hoi hlt hi
     ·
      skip
      have DO : ∀ n, 0 ≠ n -> (d.setIfInBounds 0 true).getD n false = d.getD n false := fun n h => getD_set_ne false h
      have D0 : (d.setIfInBounds 0 true).getD 0 false = true := getD_set_sameH hun
      have D1 := DO 1 (by decide)
      have D2 := DO 2 (by decide)
      have D3 := DO 3 (by decide)
      have D4 := DO 4 (by decide)
      have D5 := DO 5 (by decide)
      have D6 := DO 6 (by decide)
      have D7 := DO 7 (by decide)
      have D8 := DO 8 (by decide)
      have D9 := DO 9 (by decide)
      have D10 := DO 10 (by decide)
      have D11 := DO 11 (by decide)
      have D12 := DO 12 (by decide)
      have UO : ∀ n, n ≠ 33 -> updAH us 33 (.slice (some ⟨W.heap.size, 0, none⟩) 0 0) n = us n := fun n h => upd_otherH h
      have U33 : updAH us 33 (.slice (some ⟨W.heap.size, 0, none⟩) 0 0) 33 = (.slice (some ⟨W.heap.size, 0, none⟩) 0 0) := upd_sameH _ _ _
      have U0 := UO 0 (by decide)
      have U3 := UO 3 (by decide)
      have U6 := UO 6 (by decide)
      have U7 := UO 7 (by decide)
      have U34 := UO 34 (by decide)
      have U35 := UO 35 (by decide)
      have U36 := UO 36 (by decide)
      have U37 := UO 37 (by decide)
      have U38 := UO 38 (by decide)
      have U39 := UO 39 (by decide)
      have U40 := UO 40 (by decide)
      have U41 := UO 41 (by decide)
      have U42 := UO 42 (by decide)
      have U43 := UO 43 (by decide)
      have U44 := UO 44 (by decide)
      refine wpOp_step rfl (fun K hK => ?_)
      simp only [frAH, e0, e3, e6]
      go_simp
      refine hK _ _ ⟨updAH us 33 (.slice (some ⟨W.heap.size, 0, none⟩) 0 0), by simp [frAH, updAH, e0, e3, e6], { u0 := (U0.trans I.u0), u3 := (U3.trans I.u3), u6 := (U6.trans I.u6), bel := (I.bel.alloc hsz _), o1 := (cO U34 I.o1 D1), o2 := (cO U35 I.o2 D2), o3 := (cO U36 I.o3 D3), o5 := (cO U38 I.o5 D5), o8 := (cO U41 I.o8 D8), o9 := (cO U42 I.o9 D9), o10 := (cO U43 I.o10 D10), o6 := (fun h0 h1 => by rw [U39]; exact (I.o6 (D6.symm.trans h0) (D7.symm.trans h1)).below (below_alloc _ _)), r0 := (fun h0 h1 => by rw [U33]; exact ⟨_, _, rfl, made0H _ _ _ _ hsz⟩), r4 := (fun h0 h1 => by rw [U37]; exact (I.r4 (D4.symm.trans h0) (D7.symm.trans h1)).below (below_alloc _ _)), r7 := (fun h0 h1 => by rw [U40]; exact (I.r7 (D7.symm.trans h0) (D11.symm.trans h1)).below (below_alloc _ _)), r11 := (fun h0 => by rw [U44]; exact (I.r11 (D11.symm.trans h0)).below (below_alloc _ _)), s0 := (fun h0 h1 h2 h3 => by rw [U33, U39]; exact sep_gtH fun k hk => (I.o6 (D6.symm.trans h2) (D7.symm.trans h3)).lt hk), s4 := (fun h0 h1 h2 => by rw [U37, U39]; exact I.s4 (D4.symm.trans h0) (D7.symm.trans h1) (D6.symm.trans h2)), o12 := (fun h => by rw [U7, U44, D11]; exact I.o12 (D12.symm.trans h)), i7 := (fun h => D4.trans (I.i7 (D7.symm.trans h))), i11 := (fun h => D7.trans (I.i11 (D11.symm.trans h))) }⟩
     ·
      skip
      have DO : ∀ n, 1 ≠ n -> (d.setIfInBounds 1 true).getD n false = d.getD n false := fun n h => getD_set_ne false h
      have D1 : (d.setIfInBounds 1 true).getD 1 false = true := getD_set_sameH hun
      have D0 := DO 0 (by decide)
      have D2 := DO 2 (by decide)
      have D3 := DO 3 (by decide)
      have D4 := DO 4 (by decide)
      have D5 := DO 5 (by decide)
      have D6 := DO 6 (by decide)
      have D7 := DO 7 (by decide)
      have D8 := DO 8 (by decide)
      have D9 := DO 9 (by decide)
      have D10 := DO 10 (by decide)
      have D11 := DO 11 (by decide)
      have D12 := DO 12 (by decide)
      have UO : ∀ n, n ≠ 34 -> updAH us 34 (.slice (some ⟨g, off, none⟩) ps.length ps.length) n = us n := fun n h => upd_otherH h
      have U34 : updAH us 34 (.slice (some ⟨g, off, none⟩) ps.length ps.length) 34 = (.slice (some ⟨g, off, none⟩) ps.length ps.length) := upd_sameH _ _ _
      have U0 := UO 0 (by decide)
      have U3 := UO 3 (by decide)
      have U6 := UO 6 (by decide)
      have U7 := UO 7 (by decide)
      have U33 := UO 33 (by decide)
      have U35 := UO 35 (by decide)
      have U36 := UO 36 (by decide)
      have U37 := UO 37 (by decide)
      have U38 := UO 38 (by decide)
      have U39 := UO 39 (by decide)
      have U40 := UO 40 (by decide)
      have U41 := UO 41 (by decide)
      have U42 := UO 42 (by decide)
      have U43 := UO 43 (by decide)
      have U44 := UO 44 (by decide)
      refine wpOp_step rfl (fun K hK => ?_)
      simp only [frAH, e0, e3, e6]
      go_simp
      refine hK _ _ ⟨updAH us 34 (.slice (some ⟨g, off, none⟩) ps.length ps.length), by simp [frAH, updAH, e0, e3, e6], { u0 := (U0.trans I.u0), u3 := (U3.trans I.u3), u6 := (U6.trans I.u6), bel := (I.bel), o1 := (fun _ => U34), o2 := (cO U35 I.o2 D2), o3 := (cO U36 I.o3 D3), o5 := (cO U38 I.o5 D5), o8 := (cO U41 I.o8 D8), o9 := (cO U42 I.o9 D9), o10 := (cO U43 I.o10 D10), o6 := (fun h0 h1 => by rw [U39]; exact I.o6 (D6.symm.trans h0) (D7.symm.trans h1)), r0 := (fun h0 h1 => by rw [U33]; exact I.r0 (D0.symm.trans h0) (D4.symm.trans h1)), r4 := (fun h0 h1 => by rw [U37]; exact I.r4 (D4.symm.trans h0) (D7.symm.trans h1)), r7 := (fun h0 h1 => by rw [U40]; exact I.r7 (D7.symm.trans h0) (D11.symm.trans h1)), r11 := (fun h0 => by rw [U44]; exact I.r11 (D11.symm.trans h0)), s0 := (fun h0 h1 h2 h3 => by rw [U33, U39]; exact I.s0 (D0.symm.trans h0) (D4.symm.trans h1) (D6.symm.trans h2) (D7.symm.trans h3)), s4 := (fun h0 h1 h2 => by rw [U37, U39]; exact I.s4 (D4.symm.trans h0) (D7.symm.trans h1) (D6.symm.trans h2)), o12 := (fun h => by rw [U7, U44, D11]; exact I.o12 (D12.symm.trans h)), i7 := (fun h => D4.trans (I.i7 (D7.symm.trans h))), i11 := (fun h => D7.trans (I.i11 (D11.symm.trans h))) }⟩
     ·
      skip
      have DO : ∀ n, 2 ≠ n -> (d.setIfInBounds 2 true).getD n false = d.getD n false := fun n h => getD_set_ne false h
      have D2 : (d.setIfInBounds 2 true).getD 2 false = true := getD_set_sameH hun
      have D0 := DO 0 (by decide)
      have D1 := DO 1 (by decide)
      have D3 := DO 3 (by decide)
      have D4 := DO 4 (by decide)
      have D5 := DO 5 (by decide)
      have D6 := DO 6 (by decide)
      have D7 := DO 7 (by decide)
      have D8 := DO 8 (by decide)
      have D9 := DO 9 (by decide)
      have D10 := DO 10 (by decide)
      have D11 := DO 11 (by decide)
      have D12 := DO 12 (by decide)
      have UO : ∀ n, n ≠ 35 -> updAH us 35 (.int .i64 ((ps.length : Nat) : Int)) n = us n := fun n h => upd_otherH h
      have U35 : updAH us 35 (.int .i64 ((ps.length : Nat) : Int)) 35 = (.int .i64 ((ps.length : Nat) : Int)) := upd_sameH _ _ _
      have U0 := UO 0 (by decide)
      have U3 := UO 3 (by decide)
      have U6 := UO 6 (by decide)
      have U7 := UO 7 (by decide)
      have U33 := UO 33 (by decide)
      have U34 := UO 34 (by decide)
      have U36 := UO 36 (by decide)
      have U37 := UO 37 (by decide)
      have U38 := UO 38 (by decide)
      have U39 := UO 39 (by decide)
      have U40 := UO 40 (by decide)
      have U41 := UO 41 (by decide)
      have U42 := UO 42 (by decide)
      have U43 := UO 43 (by decide)
      have U44 := UO 44 (by decide)
      refine wpOp_step rfl (fun K hK => ?_)
      simp only [frAH, e0, e3, e6]
      go_simp
      refine hK _ _ ⟨updAH us 35 (.int .i64 ((ps.length : Nat) : Int)), by simp [frAH, updAH, e0, e3, e6], { u0 := (U0.trans I.u0), u3 := (U3.trans I.u3), u6 := (U6.trans I.u6), bel := (I.bel), o1 := (cO U34 I.o1 D1), o2 := (fun _ => U35), o3 := (cO U36 I.o3 D3), o5 := (cO U38 I.o5 D5), o8 := (cO U41 I.o8 D8), o9 := (cO U42 I.o9 D9), o10 := (cO U43 I.o10 D10), o6 := (fun h0 h1 => by rw [U39]; exact I.o6 (D6.symm.trans h0) (D7.symm.trans h1)), r0 := (fun h0 h1 => by rw [U33]; exact I.r0 (D0.symm.trans h0) (D4.symm.trans h1)), r4 := (fun h0 h1 => by rw [U37]; exact I.r4 (D4.symm.trans h0) (D7.symm.trans h1)), r7 := (fun h0 h1 => by rw [U40]; exact I.r7 (D7.symm.trans h0) (D11.symm.trans h1)), r11 := (fun h0 => by rw [U44]; exact I.r11 (D11.symm.trans h0)), s0 := (fun h0 h1 h2 h3 => by rw [U33, U39]; exact I.s0 (D0.symm.trans h0) (D4.symm.trans h1) (D6.symm.trans h2) (D7.symm.trans h3)), s4 := (fun h0 h1 h2 => by rw [U37, U39]; exact I.s4 (D4.symm.trans h0) (D7.symm.trans h1) (D6.symm.trans h2)), o12 := (fun h => by rw [U7, U44, D11]; exact I.o12 (D12.symm.trans h)), i7 := (fun h => D4.trans (I.i7 (D7.symm.trans h))), i11 := (fun h => D7.trans (I.i11 (D11.symm.trans h))) }⟩
     ·
      skip
      have DO : ∀ n, 3 ≠ n -> (d.setIfInBounds 3 true).getD n false = d.getD n false := fun n h => getD_set_ne false h
      have D3 : (d.setIfInBounds 3 true).getD 3 false = true := getD_set_sameH hun
      have D0 := DO 0 (by decide)
      have D1 := DO 1 (by decide)
      have D2 := DO 2 (by decide)
      have D4 := DO 4 (by decide)
      have D5 := DO 5 (by decide)
      have D6 := DO 6 (by decide)
      have D7 := DO 7 (by decide)
      have D8 := DO 8 (by decide)
      have D9 := DO 9 (by decide)
      have D10 := DO 10 (by decide)
      have D11 := DO 11 (by decide)
      have D12 := DO 12 (by decide)
      have e34 := I.o1 (hall ⟨1, .data⟩ (by simp) rfl)
      have e35 := I.o2 (hall ⟨2, .data⟩ (by simp) rfl)
      have UO : ∀ n, n ≠ 36 -> updAH us 36 (.slice (some ⟨g, off, none⟩) ps.length ps.length) n = us n := fun n h => upd_otherH h
      have U36 : updAH us 36 (.slice (some ⟨g, off, none⟩) ps.length ps.length) 36 = (.slice (some ⟨g, off, none⟩) ps.length ps.length) := upd_sameH _ _ _
      have U0 := UO 0 (by decide)
      have U3 := UO 3 (by decide)
      have U6 := UO 6 (by decide)
      have U7 := UO 7 (by decide)
      have U33 := UO 33 (by decide)
      have U34 := UO 34 (by decide)
      have U35 := UO 35 (by decide)
      have U37 := UO 37 (by decide)
      have U38 := UO 38 (by decide)
      have U39 := UO 39 (by decide)
      have U40 := UO 40 (by decide)
      have U41 := UO 41 (by decide)
      have U42 := UO 42 (by decide)
      have U43 := UO 43 (by decide)
      have U44 := UO 44 (by decide)
      refine wpOp_step rfl (fun K hK => ?_)
      simp only [frAH, e0, e3, e6, e34, e35]
      go_simp
      try (rw [if_pos (by omega)]; go_simp)
      refine hK _ _ ⟨updAH us 36 (.slice (some ⟨g, off, none⟩) ps.length ps.length), by simp [frAH, updAH, e0, e3, e6, e34, e35], { u0 := (U0.trans I.u0), u3 := (U3.trans I.u3), u6 := (U6.trans I.u6), bel := (I.bel), o1 := (cO U34 I.o1 D1), o2 := (cO U35 I.o2 D2), o3 := (fun _ => U36), o5 := (cO U38 I.o5 D5), o8 := (cO U41 I.o8 D8), o9 := (cO U42 I.o9 D9), o10 := (cO U43 I.o10 D10), o6 := (fun h0 h1 => by rw [U39]; exact I.o6 (D6.symm.trans h0) (D7.symm.trans h1)), r0 := (fun h0 h1 => by rw [U33]; exact I.r0 (D0.symm.trans h0) (D4.symm.trans h1)), r4 := (fun h0 h1 => by rw [U37]; exact I.r4 (D4.symm.trans h0) (D7.symm.trans h1)), r7 := (fun h0 h1 => by rw [U40]; exact I.r7 (D7.symm.trans h0) (D11.symm.trans h1)), r11 := (fun h0 => by rw [U44]; exact I.r11 (D11.symm.trans h0)), s0 := (fun h0 h1 h2 h3 => by rw [U33, U39]; exact I.s0 (D0.symm.trans h0) (D4.symm.trans h1) (D6.symm.trans h2) (D7.symm.trans h3)), s4 := (fun h0 h1 h2 => by rw [U37, U39]; exact I.s4 (D4.symm.trans h0) (D7.symm.trans h1) (D6.symm.trans h2)), o12 := (fun h => by rw [U7, U44, D11]; exact I.o12 (D12.symm.trans h)), i7 := (fun h => D4.trans (I.i7 (D7.symm.trans h))), i11 := (fun h => D7.trans (I.i11 (D11.symm.trans h))) }⟩
     ·
      skip
      have DO : ∀ n, 4 ≠ n -> (d.setIfInBounds 4 true).getD n false = d.getD n false := fun n h => getD_set_ne false h
      have D4 : (d.setIfInBounds 4 true).getD 4 false = true := getD_set_sameH hun
      have D0 := DO 0 (by decide)
      have D1 := DO 1 (by decide)
      have D2 := DO 2 (by decide)
      have D3 := DO 3 (by decide)
      have D5 := DO 5 (by decide)
      have D6 := DO 6 (by decide)
      have D7 := DO 7 (by decide)
      have D8 := DO 8 (by decide)
      have D9 := DO 9 (by decide)
      have D10 := DO 10 (by decide)
      have D11 := DO 11 (by decide)
      have D12 := DO 12 (by decide)
      have e36 := I.o3 (hall ⟨3, .data⟩ (by simp) rfl)
      have h00 := hall ⟨0, .data⟩ (by simp) rfl
      have hRow := I.r0 (hall ⟨0, .data⟩ (by simp) rfl) (getD_tfH hun)
      refine wpOp_append_rowH rfl rfl (.tmp 33) (.tmp 36) rfl wq.heap.size (us 33) [] rfl hRow (some ⟨g, off, none⟩) (ps.length) (ps) (by show us 36 = _; rw [e36] <;> simp [hl1]) (q1.below I.bel) (.inr ⟨_, _, rfl⟩) (by simp [hl1, hl3] <;> omega) hsz ?_
      intro v W2 hR2 hB hg hv
      have UO : ∀ n, n ≠ 37 -> updAH us 37 (v) n = us n := fun n h => upd_otherH h
      have U37 : updAH us 37 (v) 37 = (v) := upd_sameH _ _ _
      have U0 := UO 0 (by decide)
      have U3 := UO 3 (by decide)
      have U6 := UO 6 (by decide)
      have U7 := UO 7 (by decide)
      have U33 := UO 33 (by decide)
      have U34 := UO 34 (by decide)
      have U35 := UO 35 (by decide)
      have U36 := UO 36 (by decide)
      have U38 := UO 38 (by decide)
      have U39 := UO 39 (by decide)
      have U40 := UO 40 (by decide)
      have U41 := UO 41 (by decide)
      have U42 := UO 42 (by decide)
      have U43 := UO 43 (by decide)
      have U44 := UO 44 (by decide)
      refine ⟨updAH us 37 v, by simp [frAH, updAH, Act.put], { u0 := (U0.trans I.u0), u3 := (U3.trans I.u3), u6 := (U6.trans I.u6), bel := (I.bel.trans hB), o1 := (cO U34 I.o1 D1), o2 := (cO U35 I.o2 D2), o3 := (cO U36 I.o3 D3), o5 := (cO U38 I.o5 D5), o8 := (cO U41 I.o8 D8), o9 := (cO U42 I.o9 D9), o10 := (cO U43 I.o10 D10), o6 := (fun h0 h1 => by rw [U39]; exact (I.o6 (D6.symm.trans h0) (D7.symm.trans h1)).sep (I.s0 h00 (getD_tfH hun) (D6.symm.trans h0) (D7.symm.trans h1)) hg), r0 := (fun h0 h1 => by rw [D4] at h1; cases h1), r4 := (fun _ _ => by rw [U37]; simpa using hR2), r7 := (fun h0 h1 => absurd (I.i7 (D7.symm.trans h0)) (by rw [getD_tfH hun]; exact Bool.false_ne_true)), r11 := (fun h0 => absurd (I.i7 (I.i11 (D11.symm.trans h0))) (by rw [getD_tfH hun]; exact Bool.false_ne_true)), s0 := (fun h0 h1 h2 h3 => by rw [D4] at h1; cases h1), s4 := (fun h0 h1 h2 => by rw [U37, U39]; exact sep_appH (I.o6 (D6.symm.trans h2) (D7.symm.trans h1)) (I.s0 h00 (getD_tfH hun) (D6.symm.trans h2) (D7.symm.trans h1)) hv), o12 := (fun h => by rw [U7, U44, D11]; exact I.o12 (D12.symm.trans h)), i7 := (fun _ => D4), i11 := (fun h => D7.trans (I.i11 (D11.symm.trans h))) }⟩
     ·
      skip
      have DO : ∀ n, 5 ≠ n -> (d.setIfInBounds 5 true).getD n false = d.getD n false := fun n h => getD_set_ne false h
      have D5 : (d.setIfInBounds 5 true).getD 5 false = true := getD_set_sameH hun
      have D0 := DO 0 (by decide)
      have D1 := DO 1 (by decide)
      have D2 := DO 2 (by decide)
      have D3 := DO 3 (by decide)
      have D4 := DO 4 (by decide)
      have D6 := DO 6 (by decide)
      have D7 := DO 7 (by decide)
      have D8 := DO 8 (by decide)
      have D9 := DO 9 (by decide)
      have D10 := DO 10 (by decide)
      have D11 := DO 11 (by decide)
      have D12 := DO 12 (by decide)
      have c0 := Below.cell I.bel (p := ⟨w.heap.size, 0, none⟩) hb0 |>.trans hbox.c0
      have c1 := Below.cell I.bel (p := ⟨w.heap.size, 1, none⟩) hb0 |>.trans hbox.c1
      have UO : ∀ n, n ≠ 38 -> updAH us 38 (.agg #[.int .i64 x.y, .slice x.A x.n x.c]) n = us n := fun n h => upd_otherH h
      have U38 : updAH us 38 (.agg #[.int .i64 x.y, .slice x.A x.n x.c]) 38 = (.agg #[.int .i64 x.y, .slice x.A x.n x.c]) := upd_sameH _ _ _
      have U0 := UO 0 (by decide)
      have U3 := UO 3 (by decide)
      have U6 := UO 6 (by decide)
      have U7 := UO 7 (by decide)
      have U33 := UO 33 (by decide)
      have U34 := UO 34 (by decide)
      have U35 := UO 35 (by decide)
      have U36 := UO 36 (by decide)
      have U37 := UO 37 (by decide)
      have U39 := UO 39 (by decide)
      have U40 := UO 40 (by decide)
      have U41 := UO 41 (by decide)
      have U42 := UO 42 (by decide)
      have U43 := UO 43 (by decide)
      have U44 := UO 44 (by decide)
      refine wpOp_step rfl (fun K hK => ?_)
      simp only [frAH, e0, e3, e6, c0, c1]
      go_simp
      refine hK _ _ ⟨updAH us 38 (.agg #[.int .i64 x.y, .slice x.A x.n x.c]), by simp [frAH, updAH, e0, e3, e6, c0, c1], { u0 := (U0.trans I.u0), u3 := (U3.trans I.u3), u6 := (U6.trans I.u6), bel := (I.bel), o1 := (cO U34 I.o1 D1), o2 := (cO U35 I.o2 D2), o3 := (cO U36 I.o3 D3), o5 := (fun _ => U38), o8 := (cO U41 I.o8 D8), o9 := (cO U42 I.o9 D9), o10 := (cO U43 I.o10 D10), o6 := (fun h0 h1 => by rw [U39]; exact I.o6 (D6.symm.trans h0) (D7.symm.trans h1)), r0 := (fun h0 h1 => by rw [U33]; exact I.r0 (D0.symm.trans h0) (D4.symm.trans h1)), r4 := (fun h0 h1 => by rw [U37]; exact I.r4 (D4.symm.trans h0) (D7.symm.trans h1)), r7 := (fun h0 h1 => by rw [U40]; exact I.r7 (D7.symm.trans h0) (D11.symm.trans h1)), r11 := (fun h0 => by rw [U44]; exact I.r11 (D11.symm.trans h0)), s0 := (fun h0 h1 h2 h3 => by rw [U33, U39]; exact I.s0 (D0.symm.trans h0) (D4.symm.trans h1) (D6.symm.trans h2) (D7.symm.trans h3)), s4 := (fun h0 h1 h2 => by rw [U37, U39]; exact I.s4 (D4.symm.trans h0) (D7.symm.trans h1) (D6.symm.trans h2)), o12 := (fun h => by rw [U7, U44, D11]; exact I.o12 (D12.symm.trans h)), i7 := (fun h => D4.trans (I.i7 (D7.symm.trans h))), i11 := (fun h => D7.trans (I.i11 (D11.symm.trans h))) }⟩
     ·
      skip
      have DO : ∀ n, 6 ≠ n -> (d.setIfInBounds 6 true).getD n false = d.getD n false := fun n h => getD_set_ne false h
      have D6 : (d.setIfInBounds 6 true).getD 6 false = true := getD_set_sameH hun
      have D0 := DO 0 (by decide)
      have D1 := DO 1 (by decide)
      have D2 := DO 2 (by decide)
      have D3 := DO 3 (by decide)
      have D4 := DO 4 (by decide)
      have D5 := DO 5 (by decide)
      have D7 := DO 7 (by decide)
      have D8 := DO 8 (by decide)
      have D9 := DO 9 (by decide)
      have D10 := DO 10 (by decide)
      have D11 := DO 11 (by decide)
      have D12 := DO 12 (by decide)
      have e38 := I.o5 (hall ⟨5, .data⟩ (by simp) rfl)
      have UO : ∀ n, n ≠ 39 -> updAH us 39 (.slice (some ⟨W.heap.size, 0, none⟩) 1 1) n = us n := fun n h => upd_otherH h
      have U39 : updAH us 39 (.slice (some ⟨W.heap.size, 0, none⟩) 1 1) 39 = (.slice (some ⟨W.heap.size, 0, none⟩) 1 1) := upd_sameH _ _ _
      have U0 := UO 0 (by decide)
      have U3 := UO 3 (by decide)
      have U6 := UO 6 (by decide)
      have U7 := UO 7 (by decide)
      have U33 := UO 33 (by decide)
      have U34 := UO 34 (by decide)
      have U35 := UO 35 (by decide)
      have U36 := UO 36 (by decide)
      have U37 := UO 37 (by decide)
      have U38 := UO 38 (by decide)
      have U40 := UO 40 (by decide)
      have U41 := UO 41 (by decide)
      have U42 := UO 42 (by decide)
      have U43 := UO 43 (by decide)
      have U44 := UO 44 (by decide)
      refine wpOp_step rfl (fun K hK => ?_)
      simp only [frAH, e0, e3, e6, e38]
      go_simp
      refine hK _ _ ⟨updAH us 39 (.slice (some ⟨W.heap.size, 0, none⟩) 1 1), by simp [frAH, updAH, e0, e3, e6, e38], { u0 := (U0.trans I.u0), u3 := (U3.trans I.u3), u6 := (U6.trans I.u6), bel := (I.bel.alloc hsz _), o1 := (cO U34 I.o1 D1), o2 := (cO U35 I.o2 D2), o3 := (cO U36 I.o3 D3), o5 := (cO U38 I.o5 D5), o8 := (cO U41 I.o8 D8), o9 := (cO U42 I.o9 D9), o10 := (cO U43 I.o10 D10), o6 := (fun _ _ => by rw [U39]; exact ⟨_, rfl, heap_alloc_new W _, hsz⟩), r0 := (fun h0 h1 => by rw [U33]; exact (I.r0 (D0.symm.trans h0) (D4.symm.trans h1)).below (below_alloc _ _)), r4 := (fun h0 h1 => by rw [U37]; exact (I.r4 (D4.symm.trans h0) (D7.symm.trans h1)).below (below_alloc _ _)), r7 := (fun h0 h1 => by rw [U40]; exact (I.r7 (D7.symm.trans h0) (D11.symm.trans h1)).below (below_alloc _ _)), r11 := (fun h0 => by rw [U44]; exact (I.r11 (D11.symm.trans h0)).below (below_alloc _ _)), s0 := (fun h0 h1 h2 h3 => by rw [U33, U39]; exact sep_ltH fun k hk => (I.r0 (D0.symm.trans h0) (D4.symm.trans h1)).lt hk), s4 := (fun h0 h1 h2 => by rw [U37, U39]; exact sep_ltH fun k hk => (I.r4 (D4.symm.trans h0) (D7.symm.trans h1)).lt hk), o12 := (fun h => by rw [U7, U44, D11]; exact I.o12 (D12.symm.trans h)), i7 := (fun h => D4.trans (I.i7 (D7.symm.trans h))), i11 := (fun h => D7.trans (I.i11 (D11.symm.trans h))) }⟩
     ·
      skip
      have DO : ∀ n, 7 ≠ n -> (d.setIfInBounds 7 true).getD n false = d.getD n false := fun n h => getD_set_ne false h
      have D7 : (d.setIfInBounds 7 true).getD 7 false = true := getD_set_sameH hun
      have D0 := DO 0 (by decide)
      have D1 := DO 1 (by decide)
      have D2 := DO 2 (by decide)
      have D3 := DO 3 (by decide)
      have D4 := DO 4 (by decide)
      have D5 := DO 5 (by decide)
      have D6 := DO 6 (by decide)
      have D8 := DO 8 (by decide)
      have D9 := DO 9 (by decide)
      have D10 := DO 10 (by decide)
      have D11 := DO 11 (by decide)
      have D12 := DO 12 (by decide)
      have h44 := hall ⟨4, .data⟩ (by simp) rfl
      obtain ⟨B, e39, hRB⟩ := (I.o6 (hall ⟨6, .data⟩ (by simp) rfl) (getD_tfH hun)).row
      have hRow := I.r4 (hall ⟨4, .data⟩ (by simp) rfl) (getD_tfH hun)
      refine wpOp_append_rowH rfl rfl (.tmp 37) (.tmp 39) rfl wq.heap.size (us 37) (ps) rfl hRow (some ⟨B, 0, none⟩) 1 [x] e39 hRB (.inr ⟨_, _, rfl⟩) (by simp [hl1, hl3] <;> omega) hsz ?_
      intro v W2 hR2 hB hg hv
      have UO : ∀ n, n ≠ 40 -> updAH us 40 (v) n = us n := fun n h => upd_otherH h
      have U40 : updAH us 40 (v) 40 = (v) := upd_sameH _ _ _
      have U0 := UO 0 (by decide)
      have U3 := UO 3 (by decide)
      have U6 := UO 6 (by decide)
      have U7 := UO 7 (by decide)
      have U33 := UO 33 (by decide)
      have U34 := UO 34 (by decide)
      have U35 := UO 35 (by decide)
      have U36 := UO 36 (by decide)
      have U37 := UO 37 (by decide)
      have U38 := UO 38 (by decide)
      have U39 := UO 39 (by decide)
      have U41 := UO 41 (by decide)
      have U42 := UO 42 (by decide)
      have U43 := UO 43 (by decide)
      have U44 := UO 44 (by decide)
      refine ⟨updAH us 40 v, by simp [frAH, updAH, Act.put], { u0 := (U0.trans I.u0), u3 := (U3.trans I.u3), u6 := (U6.trans I.u6), bel := (I.bel.trans hB), o1 := (cO U34 I.o1 D1), o2 := (cO U35 I.o2 D2), o3 := (cO U36 I.o3 D3), o5 := (cO U38 I.o5 D5), o8 := (cO U41 I.o8 D8), o9 := (cO U42 I.o9 D9), o10 := (cO U43 I.o10 D10), o6 := (fun h0 h1 => by rw [D7] at h1; cases h1), r0 := (fun h0 h1 => absurd h44 (by rw [D4.symm.trans h1]; exact Bool.false_ne_true)), r4 := (fun h0 h1 => by rw [D7] at h1; cases h1), r7 := (fun _ _ => by rw [U40]; exact hR2), r11 := (fun h0 => absurd (I.i11 (D11.symm.trans h0)) (by rw [getD_tfH hun]; exact Bool.false_ne_true)), s0 := (fun h0 h1 h2 h3 => by rw [D7] at h3; cases h3), s4 := (fun h0 h1 h2 => by rw [D7] at h1; cases h1), o12 := (fun h => by rw [U7, U44, D11]; exact I.o12 (D12.symm.trans h)), i7 := (fun _ => D4.trans h44), i11 := (fun _ => D7) }⟩
     ·
      skip
      have DO : ∀ n, 8 ≠ n -> (d.setIfInBounds 8 true).getD n false = d.getD n false := fun n h => getD_set_ne false h
      have D8 : (d.setIfInBounds 8 true).getD 8 false = true := getD_set_sameH hun
      have D0 := DO 0 (by decide)
      have D1 := DO 1 (by decide)
      have D2 := DO 2 (by decide)
      have D3 := DO 3 (by decide)
      have D4 := DO 4 (by decide)
      have D5 := DO 5 (by decide)
      have D6 := DO 6 (by decide)
      have D7 := DO 7 (by decide)
      have D9 := DO 9 (by decide)
      have D10 := DO 10 (by decide)
      have D11 := DO 11 (by decide)
      have D12 := DO 12 (by decide)
      have UO : ∀ n, n ≠ 41 -> updAH us 41 (.slice (some ⟨g, off, none⟩) ps.length ps.length) n = us n := fun n h => upd_otherH h
      have U41 : updAH us 41 (.slice (some ⟨g, off, none⟩) ps.length ps.length) 41 = (.slice (some ⟨g, off, none⟩) ps.length ps.length) := upd_sameH _ _ _
      have U0 := UO 0 (by decide)
      have U3 := UO 3 (by decide)
      have U6 := UO 6 (by decide)
      have U7 := UO 7 (by decide)
      have U33 := UO 33 (by decide)
      have U34 := UO 34 (by decide)
      have U35 := UO 35 (by decide)
      have U36 := UO 36 (by decide)
      have U37 := UO 37 (by decide)
      have U38 := UO 38 (by decide)
      have U39 := UO 39 (by decide)
      have U40 := UO 40 (by decide)
      have U42 := UO 42 (by decide)
      have U43 := UO 43 (by decide)
      have U44 := UO 44 (by decide)
      refine wpOp_step rfl (fun K hK => ?_)
      simp only [frAH, e0, e3, e6]
      go_simp
      refine hK _ _ ⟨updAH us 41 (.slice (some ⟨g, off, none⟩) ps.length ps.length), by simp [frAH, updAH, e0, e3, e6], { u0 := (U0.trans I.u0), u3 := (U3.trans I.u3), u6 := (U6.trans I.u6), bel := (I.bel), o1 := (cO U34 I.o1 D1), o2 := (cO U35 I.o2 D2), o3 := (cO U36 I.o3 D3), o5 := (cO U38 I.o5 D5), o8 := (fun _ => U41), o9 := (cO U42 I.o9 D9), o10 := (cO U43 I.o10 D10), o6 := (fun h0 h1 => by rw [U39]; exact I.o6 (D6.symm.trans h0) (D7.symm.trans h1)), r0 := (fun h0 h1 => by rw [U33]; exact I.r0 (D0.symm.trans h0) (D4.symm.trans h1)), r4 := (fun h0 h1 => by rw [U37]; exact I.r4 (D4.symm.trans h0) (D7.symm.trans h1)), r7 := (fun h0 h1 => by rw [U40]; exact I.r7 (D7.symm.trans h0) (D11.symm.trans h1)), r11 := (fun h0 => by rw [U44]; exact I.r11 (D11.symm.trans h0)), s0 := (fun h0 h1 h2 h3 => by rw [U33, U39]; exact I.s0 (D0.symm.trans h0) (D4.symm.trans h1) (D6.symm.trans h2) (D7.symm.trans h3)), s4 := (fun h0 h1 h2 => by rw [U37, U39]; exact I.s4 (D4.symm.trans h0) (D7.symm.trans h1) (D6.symm.trans h2)), o12 := (fun h => by rw [U7, U44, D11]; exact I.o12 (D12.symm.trans h)), i7 := (fun h => D4.trans (I.i7 (D7.symm.trans h))), i11 := (fun h => D7.trans (I.i11 (D11.symm.trans h))) }⟩
     ·
      skip
      have DO : ∀ n, 9 ≠ n -> (d.setIfInBounds 9 true).getD n false = d.getD n false := fun n h => getD_set_ne false h
      have D9 : (d.setIfInBounds 9 true).getD 9 false = true := getD_set_sameH hun
      have D0 := DO 0 (by decide)
      have D1 := DO 1 (by decide)
      have D2 := DO 2 (by decide)
      have D3 := DO 3 (by decide)
      have D4 := DO 4 (by decide)
      have D5 := DO 5 (by decide)
      have D6 := DO 6 (by decide)
      have D7 := DO 7 (by decide)
      have D8 := DO 8 (by decide)
      have D10 := DO 10 (by decide)
      have D11 := DO 11 (by decide)
      have D12 := DO 12 (by decide)
      have UO : ∀ n, n ≠ 42 -> updAH us 42 (.int .i64 ((ps.length : Nat) : Int)) n = us n := fun n h => upd_otherH h
      have U42 : updAH us 42 (.int .i64 ((ps.length : Nat) : Int)) 42 = (.int .i64 ((ps.length : Nat) : Int)) := upd_sameH _ _ _
      have U0 := UO 0 (by decide)
      have U3 := UO 3 (by decide)
      have U6 := UO 6 (by decide)
      have U7 := UO 7 (by decide)
      have U33 := UO 33 (by decide)
      have U34 := UO 34 (by decide)
      have U35 := UO 35 (by decide)
      have U36 := UO 36 (by decide)
      have U37 := UO 37 (by decide)
      have U38 := UO 38 (by decide)
      have U39 := UO 39 (by decide)
      have U40 := UO 40 (by decide)
      have U41 := UO 41 (by decide)
      have U43 := UO 43 (by decide)
      have U44 := UO 44 (by decide)
      refine wpOp_step rfl (fun K hK => ?_)
      simp only [frAH, e0, e3, e6]
      go_simp
      refine hK _ _ ⟨updAH us 42 (.int .i64 ((ps.length : Nat) : Int)), by simp [frAH, updAH, e0, e3, e6], { u0 := (U0.trans I.u0), u3 := (U3.trans I.u3), u6 := (U6.trans I.u6), bel := (I.bel), o1 := (cO U34 I.o1 D1), o2 := (cO U35 I.o2 D2), o3 := (cO U36 I.o3 D3), o5 := (cO U38 I.o5 D5), o8 := (cO U41 I.o8 D8), o9 := (fun _ => U42), o10 := (cO U43 I.o10 D10), o6 := (fun h0 h1 => by rw [U39]; exact I.o6 (D6.symm.trans h0) (D7.symm.trans h1)), r0 := (fun h0 h1 => by rw [U33]; exact I.r0 (D0.symm.trans h0) (D4.symm.trans h1)), r4 := (fun h0 h1 => by rw [U37]; exact I.r4 (D4.symm.trans h0) (D7.symm.trans h1)), r7 := (fun h0 h1 => by rw [U40]; exact I.r7 (D7.symm.trans h0) (D11.symm.trans h1)), r11 := (fun h0 => by rw [U44]; exact I.r11 (D11.symm.trans h0)), s0 := (fun h0 h1 h2 h3 => by rw [U33, U39]; exact I.s0 (D0.symm.trans h0) (D4.symm.trans h1) (D6.symm.trans h2) (D7.symm.trans h3)), s4 := (fun h0 h1 h2 => by rw [U37, U39]; exact I.s4 (D4.symm.trans h0) (D7.symm.trans h1) (D6.symm.trans h2)), o12 := (fun h => by rw [U7, U44, D11]; exact I.o12 (D12.symm.trans h)), i7 := (fun h => D4.trans (I.i7 (D7.symm.trans h))), i11 := (fun h => D7.trans (I.i11 (D11.symm.trans h))) }⟩
     ·
      skip
      have DO : ∀ n, 10 ≠ n -> (d.setIfInBounds 10 true).getD n false = d.getD n false := fun n h => getD_set_ne false h
      have D10 : (d.setIfInBounds 10 true).getD 10 false = true := getD_set_sameH hun
      have D0 := DO 0 (by decide)
      have D1 := DO 1 (by decide)
      have D2 := DO 2 (by decide)
      have D3 := DO 3 (by decide)
      have D4 := DO 4 (by decide)
      have D5 := DO 5 (by decide)
      have D6 := DO 6 (by decide)
      have D7 := DO 7 (by decide)
      have D8 := DO 8 (by decide)
      have D9 := DO 9 (by decide)
      have D11 := DO 11 (by decide)
      have D12 := DO 12 (by decide)
      have e41 := I.o8 (hall ⟨8, .data⟩ (by simp) rfl)
      have e42 := I.o9 (hall ⟨9, .data⟩ (by simp) rfl)
      have UO : ∀ n, n ≠ 43 -> updAH us 43 (.slice (some ⟨g, off, none⟩) 0 0) n = us n := fun n h => upd_otherH h
      have U43 : updAH us 43 (.slice (some ⟨g, off, none⟩) 0 0) 43 = (.slice (some ⟨g, off, none⟩) 0 0) := upd_sameH _ _ _
      have U0 := UO 0 (by decide)
      have U3 := UO 3 (by decide)
      have U6 := UO 6 (by decide)
      have U7 := UO 7 (by decide)
      have U33 := UO 33 (by decide)
      have U34 := UO 34 (by decide)
      have U35 := UO 35 (by decide)
      have U36 := UO 36 (by decide)
      have U37 := UO 37 (by decide)
      have U38 := UO 38 (by decide)
      have U39 := UO 39 (by decide)
      have U40 := UO 40 (by decide)
      have U41 := UO 41 (by decide)
      have U42 := UO 42 (by decide)
      have U44 := UO 44 (by decide)
      refine wpOp_step rfl (fun K hK => ?_)
      simp only [frAH, e0, e3, e6, e41, e42]
      go_simp
      try (rw [if_pos (by omega)]; go_simp)
      refine hK _ _ ⟨updAH us 43 (.slice (some ⟨g, off, none⟩) 0 0), by simp [frAH, updAH, e0, e3, e6, e41, e42], { u0 := (U0.trans I.u0), u3 := (U3.trans I.u3), u6 := (U6.trans I.u6), bel := (I.bel), o1 := (cO U34 I.o1 D1), o2 := (cO U35 I.o2 D2), o3 := (cO U36 I.o3 D3), o5 := (cO U38 I.o5 D5), o8 := (cO U41 I.o8 D8), o9 := (cO U42 I.o9 D9), o10 := (fun _ => U43), o6 := (fun h0 h1 => by rw [U39]; exact I.o6 (D6.symm.trans h0) (D7.symm.trans h1)), r0 := (fun h0 h1 => by rw [U33]; exact I.r0 (D0.symm.trans h0) (D4.symm.trans h1)), r4 := (fun h0 h1 => by rw [U37]; exact I.r4 (D4.symm.trans h0) (D7.symm.trans h1)), r7 := (fun h0 h1 => by rw [U40]; exact I.r7 (D7.symm.trans h0) (D11.symm.trans h1)), r11 := (fun h0 => by rw [U44]; exact I.r11 (D11.symm.trans h0)), s0 := (fun h0 h1 h2 h3 => by rw [U33, U39]; exact I.s0 (D0.symm.trans h0) (D4.symm.trans h1) (D6.symm.trans h2) (D7.symm.trans h3)), s4 := (fun h0 h1 h2 => by rw [U37, U39]; exact I.s4 (D4.symm.trans h0) (D7.symm.trans h1) (D6.symm.trans h2)), o12 := (fun h => by rw [U7, U44, D11]; exact I.o12 (D12.symm.trans h)), i7 := (fun h => D4.trans (I.i7 (D7.symm.trans h))), i11 := (fun h => D7.trans (I.i11 (D11.symm.trans h))) }⟩
     ·
      skip
      have DO : ∀ n, 11 ≠ n -> (d.setIfInBounds 11 true).getD n false = d.getD n false := fun n h => getD_set_ne false h
      have D11 : (d.setIfInBounds 11 true).getD 11 false = true := getD_set_sameH hun
      have D0 := DO 0 (by decide)
      have D1 := DO 1 (by decide)
      have D2 := DO 2 (by decide)
      have D3 := DO 3 (by decide)
      have D4 := DO 4 (by decide)
      have D5 := DO 5 (by decide)
      have D6 := DO 6 (by decide)
      have D7 := DO 7 (by decide)
      have D8 := DO 8 (by decide)
      have D9 := DO 9 (by decide)
      have D10 := DO 10 (by decide)
      have D12 := DO 12 (by decide)
      have e43 := I.o10 (hall ⟨10, .data⟩ (by simp) rfl)
      have h77 := hall ⟨7, .data⟩ (by simp) rfl
      have hRow := I.r7 (hall ⟨7, .data⟩ (by simp) rfl) (getD_tfH hun)
      refine wpOp_append_rowH rfl rfl (.tmp 40) (.tmp 43) rfl wq.heap.size (us 40) (ps ++ [x]) rfl hRow (some ⟨g, off, none⟩) (0) (([] : List Edh)) (by show us 43 = _; rw [e43] <;> simp [hl3]) (q3.below I.bel) (.inr ⟨_, _, rfl⟩) (by simp [hl1, hl3] <;> omega) hsz ?_
      intro v W2 hR2 hB hg hv
      have UO : ∀ n, n ≠ 44 -> updAH us 44 (v) n = us n := fun n h => upd_otherH h
      have U44 : updAH us 44 (v) 44 = (v) := upd_sameH _ _ _
      have U0 := UO 0 (by decide)
      have U3 := UO 3 (by decide)
      have U6 := UO 6 (by decide)
      have U7 := UO 7 (by decide)
      have U33 := UO 33 (by decide)
      have U34 := UO 34 (by decide)
      have U35 := UO 35 (by decide)
      have U36 := UO 36 (by decide)
      have U37 := UO 37 (by decide)
      have U38 := UO 38 (by decide)
      have U39 := UO 39 (by decide)
      have U40 := UO 40 (by decide)
      have U41 := UO 41 (by decide)
      have U42 := UO 42 (by decide)
      have U43 := UO 43 (by decide)
      refine ⟨updAH us 44 v, by simp [frAH, updAH, Act.put], { u0 := (U0.trans I.u0), u3 := (U3.trans I.u3), u6 := (U6.trans I.u6), bel := (I.bel.trans hB), o1 := (cO U34 I.o1 D1), o2 := (cO U35 I.o2 D2), o3 := (cO U36 I.o3 D3), o5 := (cO U38 I.o5 D5), o8 := (cO U41 I.o8 D8), o9 := (cO U42 I.o9 D9), o10 := (cO U43 I.o10 D10), o6 := (fun h0 h1 => absurd h77 (by rw [D7.symm.trans h1]; exact Bool.false_ne_true)), r0 := (fun h0 h1 => absurd (I.i7 h77) (by rw [D4.symm.trans h1]; exact Bool.false_ne_true)), r4 := (fun h0 h1 => absurd h77 (by rw [D7.symm.trans h1]; exact Bool.false_ne_true)), r7 := (fun h0 h1 => by rw [D11] at h1; cases h1), r11 := (fun _ => by rw [U44]; exact hR2), s0 := (fun h0 h1 h2 h3 => by rw [U33, U39]; exact I.s0 (D0.symm.trans h0) (D4.symm.trans h1) (D6.symm.trans h2) (D7.symm.trans h3)), s4 := (fun h0 h1 h2 => by rw [U37, U39]; exact I.s4 (D4.symm.trans h0) (D7.symm.trans h1) (D6.symm.trans h2)), o12 := (fun h => absurd (I.o12 (D12.symm.trans h)).2 (by rw [getD_tfH hun]; exact Bool.false_ne_true)), i7 := (fun h => D4.trans (I.i7 (D7.symm.trans h))), i11 := (fun _ => D7.trans h77) }⟩
     ·
      skip
      have DO : ∀ n, 12 ≠ n -> (d.setIfInBounds 12 true).getD n false = d.getD n false := fun n h => getD_set_ne false h
      have D12 : (d.setIfInBounds 12 true).getD 12 false = true := getD_set_sameH hun
      have D0 := DO 0 (by decide)
      have D1 := DO 1 (by decide)
      have D2 := DO 2 (by decide)
      have D3 := DO 3 (by decide)
      have D4 := DO 4 (by decide)
      have D5 := DO 5 (by decide)
      have D6 := DO 6 (by decide)
      have D7 := DO 7 (by decide)
      have D8 := DO 8 (by decide)
      have D9 := DO 9 (by decide)
      have D10 := DO 10 (by decide)
      have D11 := DO 11 (by decide)
      have h11 := hall ⟨11, .data⟩ (by simp) rfl
      have UO : ∀ n, n ≠ 7 -> updAH us 7 (us 44) n = us n := fun n h => upd_otherH h
      have U7 : updAH us 7 (us 44) 7 = (us 44) := upd_sameH _ _ _
      have U0 := UO 0 (by decide)
      have U3 := UO 3 (by decide)
      have U6 := UO 6 (by decide)
      have U33 := UO 33 (by decide)
      have U34 := UO 34 (by decide)
      have U35 := UO 35 (by decide)
      have U36 := UO 36 (by decide)
      have U37 := UO 37 (by decide)
      have U38 := UO 38 (by decide)
      have U39 := UO 39 (by decide)
      have U40 := UO 40 (by decide)
      have U41 := UO 41 (by decide)
      have U42 := UO 42 (by decide)
      have U43 := UO 43 (by decide)
      have U44 := UO 44 (by decide)
      refine wpOp_step rfl (fun K hK => ?_)
      simp only [frAH, e0, e3, e6]
      go_simp
      refine hK _ _ ⟨updAH us 7 (us 44), by simp [frAH, updAH, e0, e3, e6], { u0 := (U0.trans I.u0), u3 := (U3.trans I.u3), u6 := (U6.trans I.u6), bel := (I.bel), o1 := (cO U34 I.o1 D1), o2 := (cO U35 I.o2 D2), o3 := (cO U36 I.o3 D3), o5 := (cO U38 I.o5 D5), o8 := (cO U41 I.o8 D8), o9 := (cO U42 I.o9 D9), o10 := (cO U43 I.o10 D10), o6 := (fun h0 h1 => by rw [U39]; exact I.o6 (D6.symm.trans h0) (D7.symm.trans h1)), r0 := (fun h0 h1 => by rw [U33]; exact I.r0 (D0.symm.trans h0) (D4.symm.trans h1)), r4 := (fun h0 h1 => by rw [U37]; exact I.r4 (D4.symm.trans h0) (D7.symm.trans h1)), r7 := (fun h0 h1 => by rw [U40]; exact I.r7 (D7.symm.trans h0) (D11.symm.trans h1)), r11 := (fun h0 => by rw [U44]; exact I.r11 (D11.symm.trans h0)), s0 := (fun h0 h1 h2 h3 => by rw [U33, U39]; exact I.s0 (D0.symm.trans h0) (D4.symm.trans h1) (D6.symm.trans h2) (D7.symm.trans h3)), s4 := (fun h0 h1 h2 => by rw [U37, U39]; exact I.s4 (D4.symm.trans h0) (D7.symm.trans h1) (D6.symm.trans h2)), o12 := (fun _ => ⟨by rw [U7, U44], by rw [D11]; exact h11⟩), i7 := (fun h => D4.trans (I.i7 (D7.symm.trans h))), i11 := (fun h => D7.trans (I.i11 (D11.symm.trans h))) }⟩
    ·
     intro d a W hd hall hI
     obtain ⟨us, rfl, I⟩ := hI
     have D : ∀ k, k < 13 -> d.getD k false = true := fun k hk => by
      have := hall k hk
      have hk2 : k < d.size := by rw [hd]; exact hk
      simp [hk2] at this ⊢; exact this
     obtain ⟨h7, h11⟩ := I.o12 (D 12 (by decide))
     obtain ⟨O, q, e44, hO⟩ := I.r11 h11
     have e7 := h7.trans e44
     have hbel := I.bel
     rw [hjoin] at e7 hO
     clear I hall D h7 e44
     simp only [frAH, e7]
     replace hO := hO.mono hkq.bel.size
     have hbx := hkq.bel.trans (hbel.mono hkq.bel.size)
     have hV := HVK.out W hbx
     have hll := Lib.hid hV.len
     have hRd := ednR_of_hs hO.row hV
     obtain ⟨g2, rfl⟩ := edhO_some hO (by rw [hll.out]; exact ht4)
     have tb : LTbl W (some ⟨g2, 0, none⟩) (addL es e) := ⟨hRd, HTX.out, fun z hz => by have := HCS.out z hz; omega, by omega⟩
     have HOW := Lib.hid (fun W9 (b : Below W.heap.size W W9) => own_s g2 0 q (addL es e) W9 (hRd.below b) ht3 HCS.out)
     rw [hll.out]
     rcases Bool.eq_false_or_eq_true (lbB (addL es e)) with hvv | hvv
     ·
      have E := Lib.hid (HE1.out hvv)
      have HLB := Lib.hid (lbS_q (c := q) tb hvv)
      have hbx2 := Lib.hid hbx
      clear tb hRd hV hvv hO HE1 HE2 HVK HTX HCS hkq hRq hbox hbx hbel
      go_wp2_with (first
       | (go_at_call 46; refine HLB.out.mono ?_; rintro e' w5 ⟨rfl, b5⟩)
       | (go_at_call 50; refine (HOW.out _ b5).mono ?_; rintro e' w6 ⟨A6, c6, rfl, o6, b6⟩))
      go_ret2
      unfold NewEdnsC
      rw [E.out]
      have t5 := belowGo hbx2.out b5
      exact ⟨A6, c6, rfl, o6.mono t5.size (Nat.le_refl _), belowGo t5 b6⟩
     ·
      have E := Lib.hid (HE2.out hvv)
      have HLB := Lib.hid (lbS_q (c := q) tb hvv)
      have hbx2 := Lib.hid hbx
      clear tb hRd hV hvv hO HE1 HE2 HVK HTX HCS hkq hRq hbox hbx hbel
      go_wp2_with (go_at_call 46; refine HLB.out.mono ?_; rintro e' w5 ⟨rfl, b5⟩)
      go_ret2
      unfold NewEdnsC
      rw [E.out]
      exact ⟨none, 0, rfl, EdnO.nil _ _ _, belowGo hbx2.out b5⟩
   ·
    have q1 := hRq.take ps.length
    have q3 := hRq.drop ps.length
    have e1 : ps.length ≠ c := by omega
    have e1s : ¬ c = ps.length := by omega
    have e2 : ps.length < c := by omega
    have hl1 : ((ps.take ps.length)).length = ps.length := by rw [List.length_take]; omega
    have hl3 : ((ps.drop ps.length)).length = (ps.length - ps.length) := by rw [List.length_drop]
    refine region_inv (by kernel_rfl) (by kernel_rfl) (fun d a W => ∃ us, a = frAH us /\ InvAH wq.heap.size (w.heap.size) (ps.length) (c) (ps.length) (some ⟨g, off, none⟩) (.slice (some ⟨g, off, none⟩) ps.length c) (.slice (some ⟨g, off + ps.length * 2, none⟩) (ps.length - ps.length) (c - ps.length)) ((ps.take ps.length)) ((ps.drop ps.length)) x wq d us W) ?_ ?_ ?_
    ·
     refine ⟨_, frA_ofH, ?_⟩
     have Z : ∀ k, (Array.replicate 13 false).getD k false = false := fun k => by
      rcases Nat.lt_or_ge k 13 with h | h
      ·
       simp [h]
      ·
       simp [Array.getElem?_eq_none, h]
     have Zn : ∀ {k : Nat} {p : Prop}, (Array.replicate 13 false).getD k false = true -> p := fun {k p} h => by rw [Z k] at h; cases h
     exact { u0 := rfl, u3 := rfl, u6 := rfl, bel := (Below.refl _ _).drew, o1 := Zn, o2 := Zn, o3 := Zn, o5 := Zn, o8 := Zn, o9 := Zn, o10 := Zn, o6 := Zn, r0 := Zn, r4 := Zn, r7 := Zn, r11 := Zn, s0 := Zn, s4 := Zn, o12 := Zn, i7 := Zn, i11 := Zn }
    ·
     intro i d a W hi hI
     obtain ⟨hun, oi, hoi, hall⟩ := mem_ready.1 hi
     have hlt : i < 13 := (Array.getElem?_eq_some_iff.1 hoi).1
     obtain ⟨us, rfl, I⟩ := hI
     have hsz : wq.heap.size <= W.heap.size := I.bel.size
     have e0 := I.u0
     have e3 := I.u3
     have e6 := I.u6
     rcases (by omega : i = 0 ∨ i = 1 ∨ i = 2 ∨ i = 3 ∨ i = 4 ∨ i = 5 ∨ i = 6 ∨ i = 7 ∨ i = 8 ∨ i = 9 ∨ i = 10 ∨ i = 11 ∨ i = 12) with rfl | rfl | rfl | rfl | rfl | rfl | rfl | rfl | rfl | rfl | rfl | rfl | rfl
     all_goals
      obtain rfl := Option.some.inj hoi
      clear hoi hlt hi
     ·
      skip
      have DO : ∀ n, 0 ≠ n -> (d.setIfInBounds 0 true).getD n false = d.getD n false := fun n h => getD_set_ne false h
      have D0 : (d.setIfInBounds 0 true).getD 0 false = true := getD_set_sameH hun
      have D1 := DO 1 (by decide)
      have D2 := DO 2 (by decide)
      have D3 := DO 3 (by decide)
      have D4 := DO 4 (by decide)
      have D5 := DO 5 (by decide)
      have D6 := DO 6 (by decide)
      have D7 := DO 7 (by decide)
      have D8 := DO 8 (by decide)
      have D9 := DO 9 (by decide)
      have D10 := DO 10 (by decide)
      have D11 := DO 11 (by decide)
      have D12 := DO 12 (by decide)
      have UO : ∀ n, n ≠ 33 -> updAH us 33 (.slice (some ⟨W.heap.size, 0, none⟩) 0 0) n = us n := fun n h => upd_otherH h
      have U33 : updAH us 33 (.slice (some ⟨W.heap.size, 0, none⟩) 0 0) 33 = (.slice (some ⟨W.heap.size, 0, none⟩) 0 0) := upd_sameH _ _ _
      have U0 := UO 0 (by decide)
      have U3 := UO 3 (by decide)
      have U6 := UO 6 (by decide)
      have U7 := UO 7 (by decide)
      have U34 := UO 34 (by decide)
      have U35 := UO 35 (by decide)
      have U36 := UO 36 (by decide)
      have U37 := UO 37 (by decide)
      have U38 := UO 38 (by decide)
      have U39 := UO 39 (by decide)
      have U40 := UO 40 (by decide)
      have U41 := UO 41 (by decide)
      have U42 := UO 42 (by decide)
      have U43 := UO 43 (by decide)
      have U44 := UO 44 (by decide)
      refine wpOp_step rfl (fun K hK => ?_)
      simp only [frAH, e0, e3, e6]
      go_simp
      refine hK _ _ ⟨updAH us 33 (.slice (some ⟨W.heap.size, 0, none⟩) 0 0), by simp [frAH, updAH, e0, e3, e6], { u0 := (U0.trans I.u0), u3 := (U3.trans I.u3), u6 := (U6.trans I.u6), bel := (I.bel.alloc hsz _), o1 := (cO U34 I.o1 D1), o2 := (cO U35 I.o2 D2), o3 := (cO U36 I.o3 D3), o5 := (cO U38 I.o5 D5), o8 := (cO U41 I.o8 D8), o9 := (cO U42 I.o9 D9), o10 := (cO U43 I.o10 D10), o6 := (fun h0 h1 => by rw [U39]; exact (I.o6 (D6.symm.trans h0) (D7.symm.trans h1)).below (below_alloc _ _)), r0 := (fun h0 h1 => by rw [U33]; exact ⟨_, _, rfl, made0H _ _ _ _ hsz⟩), r4 := (fun h0 h1 => by rw [U37]; exact (I.r4 (D4.symm.trans h0) (D7.symm.trans h1)).below (below_alloc _ _)), r7 := (fun h0 h1 => by rw [U40]; exact (I.r7 (D7.symm.trans h0) (D11.symm.trans h1)).below (below_alloc _ _)), r11 := (fun h0 => by rw [U44]; exact (I.r11 (D11.symm.trans h0)).below (below_alloc _ _)), s0 := (fun h0 h1 h2 h3 => by rw [U33, U39]; exact sep_gtH fun k hk => (I.o6 (D6.symm.trans h2) (D7.symm.trans h3)).lt hk), s4 := (fun h0 h1 h2 => by rw [U37, U39]; exact I.s4 (D4.symm.trans h0) (D7.symm.trans h1) (D6.symm.trans h2)), o12 := (fun h => by rw [U7, U44, D11]; exact I.o12 (D12.symm.trans h)), i7 := (fun h => D4.trans (I.i7 (D7.symm.trans h))), i11 := (fun h => D7.trans (I.i11 (D11.symm.trans h))) }⟩
     ·
      skip
      have DO : ∀ n, 1 ≠ n -> (d.setIfInBounds 1 true).getD n false = d.getD n false := fun n h => getD_set_ne false h
      have D1 : (d.setIfInBounds 1 true).getD 1 false = true := getD_set_sameH hun
      have D0 := DO 0 (by decide)
      have D2 := DO 2 (by decide)
      have D3 := DO 3 (by decide)
      have D4 := DO 4 (by decide)
      have D5 := DO 5 (by decide)
      have D6 := DO 6 (by decide)
      have D7 := DO 7 (by decide)
      have D8 := DO 8 (by decide)
      have D9 := DO 9 (by decide)
      have D10 := DO 10 (by decide)
      have D11 := DO 11 (by decide)
      have D12 := DO 12 (by decide)
      have UO : ∀ n, n ≠ 34 -> updAH us 34 (.slice (some ⟨g, off, none⟩) ps.length c) n = us n := fun n h => upd_otherH h
      have U34 : updAH us 34 (.slice (some ⟨g, off, none⟩) ps.length c) 34 = (.slice (some ⟨g, off, none⟩) ps.length c) := upd_sameH _ _ _
      have U0 := UO 0 (by decide)
      have U3 := UO 3 (by decide)
      have U6 := UO 6 (by decide)
      have U7 := UO 7 (by decide)
      have U33 := UO 33 (by decide)
      have U35 := UO 35 (by decide)
      have U36 := UO 36 (by decide)
      have U37 := UO 37 (by decide)
      have U38 := UO 38 (by decide)
      have U39 := UO 39 (by decide)
      have U40 := UO 40 (by decide)
      have U41 := UO 41 (by decide)
      have U42 := UO 42 (by decide)
      have U43 := UO 43 (by decide)
      have U44 := UO 44 (by decide)
      refine wpOp_step rfl (fun K hK => ?_)
      simp only [frAH, e0, e3, e6]
      go_simp
      refine hK _ _ ⟨updAH us 34 (.slice (some ⟨g, off, none⟩) ps.length c), by simp [frAH, updAH, e0, e3, e6], { u0 := (U0.trans I.u0), u3 := (U3.trans I.u3), u6 := (U6.trans I.u6), bel := (I.bel), o1 := (fun _ => U34), o2 := (cO U35 I.o2 D2), o3 := (cO U36 I.o3 D3), o5 := (cO U38 I.o5 D5), o8 := (cO U41 I.o8 D8), o9 := (cO U42 I.o9 D9), o10 := (cO U43 I.o10 D10), o6 := (fun h0 h1 => by rw [U39]; exact I.o6 (D6.symm.trans h0) (D7.symm.trans h1)), r0 := (fun h0 h1 => by rw [U33]; exact I.r0 (D0.symm.trans h0) (D4.symm.trans h1)), r4 := (fun h0 h1 => by rw [U37]; exact I.r4 (D4.symm.trans h0) (D7.symm.trans h1)), r7 := (fun h0 h1 => by rw [U40]; exact I.r7 (D7.symm.trans h0) (D11.symm.trans h1)), r11 := (fun h0 => by rw [U44]; exact I.r11 (D11.symm.trans h0)), s0 := (fun h0 h1 h2 h3 => by rw [U33, U39]; exact I.s0 (D0.symm.trans h0) (D4.symm.trans h1) (D6.symm.trans h2) (D7.symm.trans h3)), s4 := (fun h0 h1 h2 => by rw [U37, U39]; exact I.s4 (D4.symm.trans h0) (D7.symm.trans h1) (D6.symm.trans h2)), o12 := (fun h => by rw [U7, U44, D11]; exact I.o12 (D12.symm.trans h)), i7 := (fun h => D4.trans (I.i7 (D7.symm.trans h))), i11 := (fun h => D7.trans (I.i11 (D11.symm.trans h))) }⟩
     ·
      skip
      have DO : ∀ n, 2 ≠ n -> (d.setIfInBounds 2 true).getD n false = d.getD n false := fun n h => getD_set_ne false h
      have D2 : (d.setIfInBounds 2 true).getD 2 false = true := getD_set_sameH hun
      have D0 := DO 0 (by decide)
      have D1 := DO 1 (by decide)
      have D3 := DO 3 (by decide)
      have D4 := DO 4 (by decide)
      have D5 := DO 5 (by decide)
      have D6 := DO 6 (by decide)
      have D7 := DO 7 (by decide)
      have D8 := DO 8 (by decide)
      have D9 := DO 9 (by decide)
      have D10 := DO 10 (by decide)
      have D11 := DO 11 (by decide)
      have D12 := DO 12 (by decide)
      have UO : ∀ n, n ≠ 35 -> updAH us 35 (.int .i64 ((ps.length : Nat) : Int)) n = us n := fun n h => upd_otherH h
      have U35 : updAH us 35 (.int .i64 ((ps.length : Nat) : Int)) 35 = (.int .i64 ((ps.length : Nat) : Int)) := upd_sameH _ _ _
      have U0 := UO 0 (by decide)
      have U3 := UO 3 (by decide)
      have U6 := UO 6 (by decide)
      have U7 := UO 7 (by decide)
      have U33 := UO 33 (by decide)
      have U34 := UO 34 (by decide)
      have U36 := UO 36 (by decide)
      have U37 := UO 37 (by decide)
      have U38 := UO 38 (by decide)
      have U39 := UO 39 (by decide)
      have U40 := UO 40 (by decide)
      have U41 := UO 41 (by decide)
      have U42 := UO 42 (by decide)
      have U43 := UO 43 (by decide)
      have U44 := UO 44 (by decide)
      refine wpOp_step rfl (fun K hK => ?_)
      simp only [frAH, e0, e3, e6]
      go_simp
      refine hK _ _ ⟨updAH us 35 (.int .i64 ((ps.length : Nat) : Int)), by simp [frAH, updAH, e0, e3, e6], { u0 := (U0.trans I.u0), u3 := (U3.trans I.u3), u6 := (U6.trans I.u6), bel := (I.bel), o1 := (cO U34 I.o1 D1), o2 := (fun _ => U35), o3 := (cO U36 I.o3 D3), o5 := (cO U38 I.o5 D5), o8 := (cO U41 I.o8 D8), o9 := (cO U42 I.o9 D9), o10 := (cO U43 I.o10 D10), o6 := (fun h0 h1 => by rw [U39]; exact I.o6 (D6.symm.trans h0) (D7.symm.trans h1)), r0 := (fun h0 h1 => by rw [U33]; exact I.r0 (D0.symm.trans h0) (D4.symm.trans h1)), r4 := (fun h0 h1 => by rw [U37]; exact I.r4 (D4.symm.trans h0) (D7.symm.trans h1)), r7 := (fun h0 h1 => by rw [U40]; exact I.r7 (D7.symm.trans h0) (D11.symm.trans h1)), r11 := (fun h0 => by rw [U44]; exact I.r11 (D11.symm.trans h0)), s0 := (fun h0 h1 h2 h3 => by rw [U33, U39]; exact I.s0 (D0.symm.trans h0) (D4.symm.trans h1) (D6.symm.trans h2) (D7.symm.trans h3)), s4 := (fun h0 h1 h2 => by rw [U37, U39]; exact I.s4 (D4.symm.trans h0) (D7.symm.trans h1) (D6.symm.trans h2)), o12 := (fun h => by rw [U7, U44, D11]; exact I.o12 (D12.symm.trans h)), i7 := (fun h => D4.trans (I.i7 (D7.symm.trans h))), i11 := (fun h => D7.trans (I.i11 (D11.symm.trans h))) }⟩
     ·
      skip
      have DO : ∀ n, 3 ≠ n -> (d.setIfInBounds 3 true).getD n false = d.getD n false := fun n h => getD_set_ne false h
      have D3 : (d.setIfInBounds 3 true).getD 3 false = true := getD_set_sameH hun
      have D0 := DO 0 (by decide)
      have D1 := DO 1 (by decide)
      have D2 := DO 2 (by decide)
      have D4 := DO 4 (by decide)
      have D5 := DO 5 (by decide)
      have D6 := DO 6 (by decide)
      have D7 := DO 7 (by decide)
      have D8 := DO 8 (by decide)
      have D9 := DO 9 (by decide)
      have D10 := DO 10 (by decide)
      have D11 := DO 11 (by decide)
      have D12 := DO 12 (by decide)
      have e34 := I.o1 (hall ⟨1, .data⟩ (by simp) rfl)
      have e35 := I.o2 (hall ⟨2, .data⟩ (by simp) rfl)
      have UO : ∀ n, n ≠ 36 -> updAH us 36 (.slice (some ⟨g, off, none⟩) ps.length c) n = us n := fun n h => upd_otherH h
      have U36 : updAH us 36 (.slice (some ⟨g, off, none⟩) ps.length c) 36 = (.slice (some ⟨g, off, none⟩) ps.length c) := upd_sameH _ _ _
      have U0 := UO 0 (by decide)
      have U3 := UO 3 (by decide)
      have U6 := UO 6 (by decide)
      have U7 := UO 7 (by decide)
      have U33 := UO 33 (by decide)
      have U34 := UO 34 (by decide)
      have U35 := UO 35 (by decide)
      have U37 := UO 37 (by decide)
      have U38 := UO 38 (by decide)
      have U39 := UO 39 (by decide)
      have U40 := UO 40 (by decide)
      have U41 := UO 41 (by decide)
      have U42 := UO 42 (by decide)
      have U43 := UO 43 (by decide)
      have U44 := UO 44 (by decide)
      refine wpOp_step rfl (fun K hK => ?_)
      simp only [frAH, e0, e3, e6, e34, e35]
      go_simp
      try (rw [if_pos (by omega)]; go_simp)
      refine hK _ _ ⟨updAH us 36 (.slice (some ⟨g, off, none⟩) ps.length c), by simp [frAH, updAH, e0, e3, e6, e34, e35], { u0 := (U0.trans I.u0), u3 := (U3.trans I.u3), u6 := (U6.trans I.u6), bel := (I.bel), o1 := (cO U34 I.o1 D1), o2 := (cO U35 I.o2 D2), o3 := (fun _ => U36), o5 := (cO U38 I.o5 D5), o8 := (cO U41 I.o8 D8), o9 := (cO U42 I.o9 D9), o10 := (cO U43 I.o10 D10), o6 := (fun h0 h1 => by rw [U39]; exact I.o6 (D6.symm.trans h0) (D7.symm.trans h1)), r0 := (fun h0 h1 => by rw [U33]; exact I.r0 (D0.symm.trans h0) (D4.symm.trans h1)), r4 := (fun h0 h1 => by rw [U37]; exact I.r4 (D4.symm.trans h0) (D7.symm.trans h1)), r7 := (fun h0 h1 => by rw [U40]; exact I.r7 (D7.symm.trans h0) (D11.symm.trans h1)), r11 := (fun h0 => by rw [U44]; exact I.r11 (D11.symm.trans h0)), s0 := (fun h0 h1 h2 h3 => by rw [U33, U39]; exact I.s0 (D0.symm.trans h0) (D4.symm.trans h1) (D6.symm.trans h2) (D7.symm.trans h3)), s4 := (fun h0 h1 h2 => by rw [U37, U39]; exact I.s4 (D4.symm.trans h0) (D7.symm.trans h1) (D6.symm.trans h2)), o12 := (fun h => by rw [U7, U44, D11]; exact I.o12 (D12.symm.trans h)), i7 := (fun h => D4.trans (I.i7 (D7.symm.trans h))), i11 := (fun h => D7.trans (I.i11 (D11.symm.trans h))) }⟩
     ·
      skip
      have DO : ∀ n, 4 ≠ n -> (d.setIfInBounds 4 true).getD n false = d.getD n false := fun n h => getD_set_ne false h
      have D4 : (d.setIfInBounds 4 true).getD 4 false = true := getD_set_sameH hun
      have D0 := DO 0 (by decide)
      have D1 := DO 1 (by decide)
      have D2 := DO 2 (by decide)
      have D3 := DO 3 (by decide)
      have D5 := DO 5 (by decide)
      have D6 := DO 6 (by decide)
      have D7 := DO 7 (by decide)
      have D8 := DO 8 (by decide)
      have D9 := DO 9 (by decide)
      have D10 := DO 10 (by decide)
      have D11 := DO 11 (by decide)
      have D12 := DO 12 (by decide)
      have e36 := I.o3 (hall ⟨3, .data⟩ (by simp) rfl)
      have h00 := hall ⟨0, .data⟩ (by simp) rfl
      have hRow := I.r0 (hall ⟨0, .data⟩ (by simp) rfl) (getD_tfH hun)
      refine wpOp_append_rowH rfl rfl (.tmp 33) (.tmp 36) rfl wq.heap.size (us 33) [] rfl hRow (some ⟨g, off, none⟩) (c) ((ps.take ps.length)) (by show us 36 = _; rw [e36] <;> simp [hl1]) (q1.below I.bel) (.inr ⟨_, _, rfl⟩) (by simp [hl1, hl3] <;> omega) hsz ?_
      intro v W2 hR2 hB hg hv
      have UO : ∀ n, n ≠ 37 -> updAH us 37 (v) n = us n := fun n h => upd_otherH h
      have U37 : updAH us 37 (v) 37 = (v) := upd_sameH _ _ _
      have U0 := UO 0 (by decide)
      have U3 := UO 3 (by decide)
      have U6 := UO 6 (by decide)
      have U7 := UO 7 (by decide)
      have U33 := UO 33 (by decide)
      have U34 := UO 34 (by decide)
      have U35 := UO 35 (by decide)
      have U36 := UO 36 (by decide)
      have U38 := UO 38 (by decide)
      have U39 := UO 39 (by decide)
      have U40 := UO 40 (by decide)
      have U41 := UO 41 (by decide)
      have U42 := UO 42 (by decide)
      have U43 := UO 43 (by decide)
      have U44 := UO 44 (by decide)
      refine ⟨updAH us 37 v, by simp [frAH, updAH, Act.put], { u0 := (U0.trans I.u0), u3 := (U3.trans I.u3), u6 := (U6.trans I.u6), bel := (I.bel.trans hB), o1 := (cO U34 I.o1 D1), o2 := (cO U35 I.o2 D2), o3 := (cO U36 I.o3 D3), o5 := (cO U38 I.o5 D5), o8 := (cO U41 I.o8 D8), o9 := (cO U42 I.o9 D9), o10 := (cO U43 I.o10 D10), o6 := (fun h0 h1 => by rw [U39]; exact (I.o6 (D6.symm.trans h0) (D7.symm.trans h1)).sep (I.s0 h00 (getD_tfH hun) (D6.symm.trans h0) (D7.symm.trans h1)) hg), r0 := (fun h0 h1 => by rw [D4] at h1; cases h1), r4 := (fun _ _ => by rw [U37]; simpa using hR2), r7 := (fun h0 h1 => absurd (I.i7 (D7.symm.trans h0)) (by rw [getD_tfH hun]; exact Bool.false_ne_true)), r11 := (fun h0 => absurd (I.i7 (I.i11 (D11.symm.trans h0))) (by rw [getD_tfH hun]; exact Bool.false_ne_true)), s0 := (fun h0 h1 h2 h3 => by rw [D4] at h1; cases h1), s4 := (fun h0 h1 h2 => by rw [U37, U39]; exact sep_appH (I.o6 (D6.symm.trans h2) (D7.symm.trans h1)) (I.s0 h00 (getD_tfH hun) (D6.symm.trans h2) (D7.symm.trans h1)) hv), o12 := (fun h => by rw [U7, U44, D11]; exact I.o12 (D12.symm.trans h)), i7 := (fun _ => D4), i11 := (fun h => D7.trans (I.i11 (D11.symm.trans h))) }⟩
     ·
      skip
      have DO : ∀ n, 5 ≠ n -> (d.setIfInBounds 5 true).getD n false = d.getD n false := fun n h => getD_set_ne false h
      have D5 : (d.setIfInBounds 5 true).getD 5 false = true := getD_set_sameH hun
      have D0 := DO 0 (by decide)
      have D1 := DO 1 (by decide)
      have D2 := DO 2 (by decide)
      have D3 := DO 3 (by decide)
      have D4 := DO 4 (by decide)
      have D6 := DO 6 (by decide)
      have D7 := DO 7 (by decide)
      have D8 := DO 8 (by decide)
      have D9 := DO 9 (by decide)
      have D10 := DO 10 (by decide)
      have D11 := DO 11 (by decide)
      have D12 := DO 12 (by decide)
      have c0 := Below.cell I.bel (p := ⟨w.heap.size, 0, none⟩) hb0 |>.trans hbox.c0
      have c1 := Below.cell I.bel (p := ⟨w.heap.size, 1, none⟩) hb0 |>.trans hbox.c1
      have UO : ∀ n, n ≠ 38 -> updAH us 38 (.agg #[.int .i64 x.y, .slice x.A x.n x.c]) n = us n := fun n h => upd_otherH h
      have U38 : updAH us 38 (.agg #[.int .i64 x.y, .slice x.A x.n x.c]) 38 = (.agg #[.int .i64 x.y, .slice x.A x.n x.c]) := upd_sameH _ _ _
      have U0 := UO 0 (by decide)
      have U3 := UO 3 (by decide)
      have U6 := UO 6 (by decide)
      have U7 := UO 7 (by decide)
      have U33 := UO 33 (by decide)
      have U34 := UO 34 (by decide)
      have U35 := UO 35 (by decide)
      have U36 := UO 36 (by decide)
      have U37 := UO 37 (by decide)
      have U39 := UO 39 (by decide)
      have U40 := UO 40 (by decide)
      have U41 := UO 41 (by decide)
      have U42 := UO 42 (by decide)
      have U43 := UO 43 (by decide)
      have U44 := UO 44 (by decide)
      refine wpOp_step rfl (fun K hK => ?_)
      simp only [frAH, e0, e3, e6, c0, c1]
      go_simp
      refine hK _ _ ⟨updAH us 38 (.agg #[.int .i64 x.y, .slice x.A x.n x.c]), by simp [frAH, updAH, e0, e3, e6, c0, c1], { u0 := (U0.trans I.u0), u3 := (U3.trans I.u3), u6 := (U6.trans I.u6), bel := (I.bel), o1 := (cO U34 I.o1 D1), o2 := (cO U35 I.o2 D2), o3 := (cO U36 I.o3 D3), o5 := (fun _ => U38), o8 := (cO U41 I.o8 D8), o9 := (cO U42 I.o9 D9), o10 := (cO U43 I.o10 D10), o6 := (fun h0 h1 => by rw [U39]; exact I.o6 (D6.symm.trans h0) (D7.symm.trans h1)), r0 := (fun h0 h1 => by rw [U33]; exact I.r0 (D0.symm.trans h0) (D4.symm.trans h1)), r4 := (fun h0 h1 => by rw [U37]; exact I.r4 (D4.symm.trans h0) (D7.symm.trans h1)), r7 := (fun h0 h1 => by rw [U40]; exact I.r7 (D7.symm.trans h0) (D11.symm.trans h1)), r11 := (fun h0 => by rw [U44]; exact I.r11 (D11.symm.trans h0)), s0 := (fun h0 h1 h2 h3 => by rw [U33, U39]; exact I.s0 (D0.symm.trans h0) (D4.symm.trans h1) (D6.symm.trans h2) (D7.symm.trans h3)), s4 := (fun h0 h1 h2 => by rw [U37, U39]; exact I.s4 (D4.symm.trans h0) (D7.symm.trans h1) (D6.symm.trans h2)), o12 := (fun h => by rw [U7, U44, D11]; exact I.o12 (D12.symm.trans h)), i7 := (fun h => D4.trans (I.i7 (D7.symm.trans h))), i11 := (fun h => D7.trans (I.i11 (D11.symm.trans h))) }⟩
     ·
      skip
      have DO : ∀ n, 6 ≠ n -> (d.setIfInBounds 6 true).getD n false = d.getD n false := fun n h => getD_set_ne false h
      have D6 : (d.setIfInBounds 6 true).getD 6 false = true := getD_set_sameH hun
      have D0 := DO 0 (by decide)
      have D1 := DO 1 (by decide)
      have D2 := DO 2 (by decide)
      have D3 := DO 3 (by decide)
      have D4 := DO 4 (by decide)
      have D5 := DO 5 (by decide)
      have D7 := DO 7 (by decide)
      have D8 := DO 8 (by decide)
      have D9 := DO 9 (by decide)
      have D10 := DO 10 (by decide)
      have D11 := DO 11 (by decide)
      have D12 := DO 12 (by decide)
      have e38 := I.o5 (hall ⟨5, .data⟩ (by simp) rfl)
      have UO : ∀ n, n ≠ 39 -> updAH us 39 (.slice (some ⟨W.heap.size, 0, none⟩) 1 1) n = us n := fun n h => upd_otherH h
      have U39 : updAH us 39 (.slice (some ⟨W.heap.size, 0, none⟩) 1 1) 39 = (.slice (some ⟨W.heap.size, 0, none⟩) 1 1) := upd_sameH _ _ _
      have U0 := UO 0 (by decide)
      have U3 := UO 3 (by decide)
      have U6 := UO 6 (by decide)
      have U7 := UO 7 (by decide)
      have U33 := UO 33 (by decide)
      have U34 := UO 34 (by decide)
      have U35 := UO 35 (by decide)
      have U36 := UO 36 (by decide)
      have U37 := UO 37 (by decide)
      have U38 := UO 38 (by decide)
      have U40 := UO 40 (by decide)
      have U41 := UO 41 (by decide)
      have U42 := UO 42 (by decide)
      have U43 := UO 43 (by decide)
      have U44 := UO 44 (by decide)
      refine wpOp_step rfl (fun K hK => ?_)
      simp only [frAH, e0, e3, e6, e38]
      go_simp
      refine hK _ _ ⟨updAH us 39 (.slice (some ⟨W.heap.size, 0, none⟩) 1 1), by simp [frAH, updAH, e0, e3, e6, e38], { u0 := (U0.trans I.u0), u3 := (U3.trans I.u3), u6 := (U6.trans I.u6), bel := (I.bel.alloc hsz _), o1 := (cO U34 I.o1 D1), o2 := (cO U35 I.o2 D2), o3 := (cO U36 I.o3 D3), o5 := (cO U38 I.o5 D5), o8 := (cO U41 I.o8 D8), o9 := (cO U42 I.o9 D9), o10 := (cO U43 I.o10 D10), o6 := (fun _ _ => by rw [U39]; exact ⟨_, rfl, heap_alloc_new W _, hsz⟩), r0 := (fun h0 h1 => by rw [U33]; exact (I.r0 (D0.symm.trans h0) (D4.symm.trans h1)).below (below_alloc _ _)), r4 := (fun h0 h1 => by rw [U37]; exact (I.r4 (D4.symm.trans h0) (D7.symm.trans h1)).below (below_alloc _ _)), r7 := (fun h0 h1 => by rw [U40]; exact (I.r7 (D7.symm.trans h0) (D11.symm.trans h1)).below (below_alloc _ _)), r11 := (fun h0 => by rw [U44]; exact (I.r11 (D11.symm.trans h0)).below (below_alloc _ _)), s0 := (fun h0 h1 h2 h3 => by rw [U33, U39]; exact sep_ltH fun k hk => (I.r0 (D0.symm.trans h0) (D4.symm.trans h1)).lt hk), s4 := (fun h0 h1 h2 => by rw [U37, U39]; exact sep_ltH fun k hk => (I.r4 (D4.symm.trans h0) (D7.symm.trans h1)).lt hk), o12 := (fun h => by rw [U7, U44, D11]; exact I.o12 (D12.symm.trans h)), i7 := (fun h => D4.trans (I.i7 (D7.symm.trans h))), i11 := (fun h => D7.trans (I.i11 (D11.symm.trans h))) }⟩
     ·
      skip
      have DO : ∀ n, 7 ≠ n -> (d.setIfInBounds 7 true).getD n false = d.getD n false := fun n h => getD_set_ne false h
      have D7 : (d.setIfInBounds 7 true).getD 7 false = true := getD_set_sameH hun
      have D0 := DO 0 (by decide)
      have D1 := DO 1 (by decide)
      have D2 := DO 2 (by decide)
      have D3 := DO 3 (by decide)
      have D4 := DO 4 (by decide)
      have D5 := DO 5 (by decide)
      have D6 := DO 6 (by decide)
      have D8 := DO 8 (by decide)
      have D9 := DO 9 (by decide)
      have D10 := DO 10 (by decide)
      have D11 := DO 11 (by decide)
      have D12 := DO 12 (by decide)
      have h44 := hall ⟨4, .data⟩ (by simp) rfl
      obtain ⟨B, e39, hRB⟩ := (I.o6 (hall ⟨6, .data⟩ (by simp) rfl) (getD_tfH hun)).row
      have hRow := I.r4 (hall ⟨4, .data⟩ (by simp) rfl) (getD_tfH hun)
      refine wpOp_append_rowH rfl rfl (.tmp 37) (.tmp 39) rfl wq.heap.size (us 37) ((ps.take ps.length)) rfl hRow (some ⟨B, 0, none⟩) 1 [x] e39 hRB (.inr ⟨_, _, rfl⟩) (by simp [hl1, hl3] <;> omega) hsz ?_
      intro v W2 hR2 hB hg hv
      have UO : ∀ n, n ≠ 40 -> updAH us 40 (v) n = us n := fun n h => upd_otherH h
      have U40 : updAH us 40 (v) 40 = (v) := upd_sameH _ _ _
      have U0 := UO 0 (by decide)
      have U3 := UO 3 (by decide)
      have U6 := UO 6 (by decide)
      have U7 := UO 7 (by decide)
      have U33 := UO 33 (by decide)
      have U34 := UO 34 (by decide)
      have U35 := UO 35 (by decide)
      have U36 := UO 36 (by decide)
      have U37 := UO 37 (by decide)
      have U38 := UO 38 (by decide)
      have U39 := UO 39 (by decide)
      have U41 := UO 41 (by decide)
      have U42 := UO 42 (by decide)
      have U43 := UO 43 (by decide)
      have U44 := UO 44 (by decide)
      refine ⟨updAH us 40 v, by simp [frAH, updAH, Act.put], { u0 := (U0.trans I.u0), u3 := (U3.trans I.u3), u6 := (U6.trans I.u6), bel := (I.bel.trans hB), o1 := (cO U34 I.o1 D1), o2 := (cO U35 I.o2 D2), o3 := (cO U36 I.o3 D3), o5 := (cO U38 I.o5 D5), o8 := (cO U41 I.o8 D8), o9 := (cO U42 I.o9 D9), o10 := (cO U43 I.o10 D10), o6 := (fun h0 h1 => by rw [D7] at h1; cases h1), r0 := (fun h0 h1 => absurd h44 (by rw [D4.symm.trans h1]; exact Bool.false_ne_true)), r4 := (fun h0 h1 => by rw [D7] at h1; cases h1), r7 := (fun _ _ => by rw [U40]; exact hR2), r11 := (fun h0 => absurd (I.i11 (D11.symm.trans h0)) (by rw [getD_tfH hun]; exact Bool.false_ne_true)), s0 := (fun h0 h1 h2 h3 => by rw [D7] at h3; cases h3), s4 := (fun h0 h1 h2 => by rw [D7] at h1; cases h1), o12 := (fun h => by rw [U7, U44, D11]; exact I.o12 (D12.symm.trans h)), i7 := (fun _ => D4.trans h44), i11 := (fun _ => D7) }⟩
     ·
      skip
      have DO : ∀ n, 8 ≠ n -> (d.setIfInBounds 8 true).getD n false = d.getD n false := fun n h => getD_set_ne false h
      have D8 : (d.setIfInBounds 8 true).getD 8 false = true := getD_set_sameH hun
      have D0 := DO 0 (by decide)
      have D1 := DO 1 (by decide)
      have D2 := DO 2 (by decide)
      have D3 := DO 3 (by decide)
      have D4 := DO 4 (by decide)
      have D5 := DO 5 (by decide)
      have D6 := DO 6 (by decide)
      have D7 := DO 7 (by decide)
      have D9 := DO 9 (by decide)
      have D10 := DO 10 (by decide)
      have D11 := DO 11 (by decide)
      have D12 := DO 12 (by decide)
      have UO : ∀ n, n ≠ 41 -> updAH us 41 (.slice (some ⟨g, off, none⟩) ps.length c) n = us n := fun n h => upd_otherH h
      have U41 : updAH us 41 (.slice (some ⟨g, off, none⟩) ps.length c) 41 = (.slice (some ⟨g, off, none⟩) ps.length c) := upd_sameH _ _ _
      have U0 := UO 0 (by decide)
      have U3 := UO 3 (by decide)
      have U6 := UO 6 (by decide)
      have U7 := UO 7 (by decide)
      have U33 := UO 33 (by decide)
      have U34 := UO 34 (by decide)
      have U35 := UO 35 (by decide)
      have U36 := UO 36 (by decide)
      have U37 := UO 37 (by decide)
      have U38 := UO 38 (by decide)
      have U39 := UO 39 (by decide)
      have U40 := UO 40 (by decide)
      have U42 := UO 42 (by decide)
      have U43 := UO 43 (by decide)
      have U44 := UO 44 (by decide)
      refine wpOp_step rfl (fun K hK => ?_)
      simp only [frAH, e0, e3, e6]
      go_simp
      refine hK _ _ ⟨updAH us 41 (.slice (some ⟨g, off, none⟩) ps.length c), by simp [frAH, updAH, e0, e3, e6], { u0 := (U0.trans I.u0), u3 := (U3.trans I.u3), u6 := (U6.trans I.u6), bel := (I.bel), o1 := (cO U34 I.o1 D1), o2 := (cO U35 I.o2 D2), o3 := (cO U36 I.o3 D3), o5 := (cO U38 I.o5 D5), o8 := (fun _ => U41), o9 := (cO U42 I.o9 D9), o10 := (cO U43 I.o10 D10), o6 := (fun h0 h1 => by rw [U39]; exact I.o6 (D6.symm.trans h0) (D7.symm.trans h1)), r0 := (fun h0 h1 => by rw [U33]; exact I.r0 (D0.symm.trans h0) (D4.symm.trans h1)), r4 := (fun h0 h1 => by rw [U37]; exact I.r4 (D4.symm.trans h0) (D7.symm.trans h1)), r7 := (fun h0 h1 => by rw [U40]; exact I.r7 (D7.symm.trans h0) (D11.symm.trans h1)), r11 := (fun h0 => by rw [U44]; exact I.r11 (D11.symm.trans h0)), s0 := (fun h0 h1 h2 h3 => by rw [U33, U39]; exact I.s0 (D0.symm.trans h0) (D4.symm.trans h1) (D6.symm.trans h2) (D7.symm.trans h3)), s4 := (fun h0 h1 h2 => by rw [U37, U39]; exact I.s4 (D4.symm.trans h0) (D7.symm.trans h1) (D6.symm.trans h2)), o12 := (fun h => by rw [U7, U44, D11]; exact I.o12 (D12.symm.trans h)), i7 := (fun h => D4.trans (I.i7 (D7.symm.trans h))), i11 := (fun h => D7.trans (I.i11 (D11.symm.trans h))) }⟩
     ·
      skip
      have DO : ∀ n, 9 ≠ n -> (d.setIfInBounds 9 true).getD n false = d.getD n false := fun n h => getD_set_ne false h
      have D9 : (d.setIfInBounds 9 true).getD 9 false = true := getD_set_sameH hun
      have D0 := DO 0 (by decide)
      have D1 := DO 1 (by decide)
      have D2 := DO 2 (by decide)
      have D3 := DO 3 (by decide)
      have D4 := DO 4 (by decide)
      have D5 := DO 5 (by decide)
      have D6 := DO 6 (by decide)
      have D7 := DO 7 (by decide)
      have D8 := DO 8 (by decide)
      have D10 := DO 10 (by decide)
      have D11 := DO 11 (by decide)
      have D12 := DO 12 (by decide)
      have UO : ∀ n, n ≠ 42 -> updAH us 42 (.int .i64 ((ps.length : Nat) : Int)) n = us n := fun n h => upd_otherH h
      have U42 : updAH us 42 (.int .i64 ((ps.length : Nat) : Int)) 42 = (.int .i64 ((ps.length : Nat) : Int)) := upd_sameH _ _ _
      have U0 := UO 0 (by decide)
      have U3 := UO 3 (by decide)
      have U6 := UO 6 (by decide)
      have U7 := UO 7 (by decide)
      have U33 := UO 33 (by decide)
      have U34 := UO 34 (by decide)
      have U35 := UO 35 (by decide)
      have U36 := UO 36 (by decide)
      have U37 := UO 37 (by decide)
      have U38 := UO 38 (by decide)
      have U39 := UO 39 (by decide)
      have U40 := UO 40 (by decide)
      have U41 := UO 41 (by decide)
      have U43 := UO 43 (by decide)
      have U44 := UO 44 (by decide)
      refine wpOp_step rfl (fun K hK => ?_)
      simp only [frAH, e0, e3, e6]
      go_simp
      refine hK _ _ ⟨updAH us 42 (.int .i64 ((ps.length : Nat) : Int)), by simp [frAH, updAH, e0, e3, e6], { u0 := (U0.trans I.u0), u3 := (U3.trans I.u3), u6 := (U6.trans I.u6), bel := (I.bel), o1 := (cO U34 I.o1 D1), o2 := (cO U35 I.o2 D2), o3 := (cO U36 I.o3 D3), o5 := (cO U38 I.o5 D5), o8 := (cO U41 I.o8 D8), o9 := (fun _ => U42), o10 := (cO U43 I.o10 D10), o6 := (fun h0 h1 => by rw [U39]; exact I.o6 (D6.symm.trans h0) (D7.symm.trans h1)), r0 := (fun h0 h1 => by rw [U33]; exact I.r0 (D0.symm.trans h0) (D4.symm.trans h1)), r4 := (fun h0 h1 => by rw [U37]; exact I.r4 (D4.symm.trans h0) (D7.symm.trans h1)), r7 := (fun h0 h1 => by rw [U40]; exact I.r7 (D7.symm.trans h0) (D11.symm.trans h1)), r11 := (fun h0 => by rw [U44]; exact I.r11 (D11.symm.trans h0)), s0 := (fun h0 h1 h2 h3 => by rw [U33, U39]; exact I.s0 (D0.symm.trans h0) (D4.symm.trans h1) (D6.symm.trans h2) (D7.symm.trans h3)), s4 := (fun h0 h1 h2 => by rw [U37, U39]; exact I.s4 (D4.symm.trans h0) (D7.symm.trans h1) (D6.symm.trans h2)), o12 := (fun h => by rw [U7, U44, D11]; exact I.o12 (D12.symm.trans h)), i7 := (fun h => D4.trans (I.i7 (D7.symm.trans h))), i11 := (fun h => D7.trans (I.i11 (D11.symm.trans h))) }⟩
     ·
      skip
      have DO : ∀ n, 10 ≠ n -> (d.setIfInBounds 10 true).getD n false = d.getD n false := fun n h => getD_set_ne false h
      have D10 : (d.setIfInBounds 10 true).getD 10 false = true := getD_set_sameH hun
      have D0 := DO 0 (by decide)
      have D1 := DO 1 (by decide)
      have D2 := DO 2 (by decide)
      have D3 := DO 3 (by decide)
      have D4 := DO 4 (by decide)
      have D5 := DO 5 (by decide)
      have D6 := DO 6 (by decide)
      have D7 := DO 7 (by decide)
      have D8 := DO 8 (by decide)
      have D9 := DO 9 (by decide)
      have D11 := DO 11 (by decide)
      have D12 := DO 12 (by decide)
      have e41 := I.o8 (hall ⟨8, .data⟩ (by simp) rfl)
      have e42 := I.o9 (hall ⟨9, .data⟩ (by simp) rfl)
      have UO : ∀ n, n ≠ 43 -> updAH us 43 (.slice (some ⟨g, off + ps.length * 2, none⟩) (ps.length - ps.length) (c - ps.length)) n = us n := fun n h => upd_otherH h
      have U43 : updAH us 43 (.slice (some ⟨g, off + ps.length * 2, none⟩) (ps.length - ps.length) (c - ps.length)) 43 = (.slice (some ⟨g, off + ps.length * 2, none⟩) (ps.length - ps.length) (c - ps.length)) := upd_sameH _ _ _
      have U0 := UO 0 (by decide)
      have U3 := UO 3 (by decide)
      have U6 := UO 6 (by decide)
      have U7 := UO 7 (by decide)
      have U33 := UO 33 (by decide)
      have U34 := UO 34 (by decide)
      have U35 := UO 35 (by decide)
      have U36 := UO 36 (by decide)
      have U37 := UO 37 (by decide)
      have U38 := UO 38 (by decide)
      have U39 := UO 39 (by decide)
      have U40 := UO 40 (by decide)
      have U41 := UO 41 (by decide)
      have U42 := UO 42 (by decide)
      have U44 := UO 44 (by decide)
      refine wpOp_step rfl (fun K hK => ?_)
      simp only [frAH, e0, e3, e6, e41, e42]
      go_simp
      try (rw [if_pos (by omega)]; go_simp)
      refine hK _ _ ⟨updAH us 43 (.slice (some ⟨g, off + ps.length * 2, none⟩) (ps.length - ps.length) (c - ps.length)), by simp [frAH, updAH, e0, e3, e6, e41, e42, e1s], { u0 := (U0.trans I.u0), u3 := (U3.trans I.u3), u6 := (U6.trans I.u6), bel := (I.bel), o1 := (cO U34 I.o1 D1), o2 := (cO U35 I.o2 D2), o3 := (cO U36 I.o3 D3), o5 := (cO U38 I.o5 D5), o8 := (cO U41 I.o8 D8), o9 := (cO U42 I.o9 D9), o10 := (fun _ => U43), o6 := (fun h0 h1 => by rw [U39]; exact I.o6 (D6.symm.trans h0) (D7.symm.trans h1)), r0 := (fun h0 h1 => by rw [U33]; exact I.r0 (D0.symm.trans h0) (D4.symm.trans h1)), r4 := (fun h0 h1 => by rw [U37]; exact I.r4 (D4.symm.trans h0) (D7.symm.trans h1)), r7 := (fun h0 h1 => by rw [U40]; exact I.r7 (D7.symm.trans h0) (D11.symm.trans h1)), r11 := (fun h0 => by rw [U44]; exact I.r11 (D11.symm.trans h0)), s0 := (fun h0 h1 h2 h3 => by rw [U33, U39]; exact I.s0 (D0.symm.trans h0) (D4.symm.trans h1) (D6.symm.trans h2) (D7.symm.trans h3)), s4 := (fun h0 h1 h2 => by rw [U37, U39]; exact I.s4 (D4.symm.trans h0) (D7.symm.trans h1) (D6.symm.trans h2)), o12 := (fun h => by rw [U7, U44, D11]; exact I.o12 (D12.symm.trans h)), i7 := (fun h => D4.trans (I.i7 (D7.symm.trans h))), i11 := (fun h => D7.trans (I.i11 (D11.symm.trans h))) }⟩
     ·
      skip
      have DO : ∀ n, 11 ≠ n -> (d.setIfInBounds 11 true).getD n false = d.getD n false := fun n h => getD_set_ne false h
      have D11 : (d.setIfInBounds 11 true).getD 11 false = true := getD_set_sameH hun
      have D0 := DO 0 (by decide)
      have D1 := DO 1 (by decide)
      have D2 := DO 2 (by decide)
      have D3 := DO 3 (by decide)
      have D4 := DO 4 (by decide)
      have D5 := DO 5 (by decide)
      have D6 := DO 6 (by decide)
      have D7 := DO 7 (by decide)
      have D8 := DO 8 (by decide)
      have D9 := DO 9 (by decide)
      have D10 := DO 10 (by decide)
      have D12 := DO 12 (by decide)
      have e43 := I.o10 (hall ⟨10, .data⟩ (by simp) rfl)
      have h77 := hall ⟨7, .data⟩ (by simp) rfl
      have hRow := I.r7 (hall ⟨7, .data⟩ (by simp) rfl) (getD_tfH hun)
      refine wpOp_append_rowH rfl rfl (.tmp 40) (.tmp 43) rfl wq.heap.size (us 40) ((ps.take ps.length) ++ [x]) rfl hRow (some ⟨g, off + ps.length * 2, none⟩) ((c - ps.length)) ((ps.drop ps.length)) (by show us 43 = _; rw [e43] <;> simp [hl3]) (q3.below I.bel) (.inr ⟨_, _, rfl⟩) (by simp [hl1, hl3] <;> omega) hsz ?_
      intro v W2 hR2 hB hg hv
      have UO : ∀ n, n ≠ 44 -> updAH us 44 (v) n = us n := fun n h => upd_otherH h
      have U44 : updAH us 44 (v) 44 = (v) := upd_sameH _ _ _
      have U0 := UO 0 (by decide)
      have U3 := UO 3 (by decide)
      have U6 := UO 6 (by decide)
      have U7 := UO 7 (by decide)
      have U33 := UO 33 (by decide)
      have U34 := UO 34 (by decide)
      have U35 := UO 35 (by decide)
      have U36 := UO 36 (by decide)
      have U37 := UO 37 (by decide)
      have U38 := UO 38 (by decide)
      have U39 := UO 39 (by decide)
      have U40 := UO 40 (by decide)
      have U41 := UO 41 (by decide)
      have U42 := UO 42 (by decide)
      have U43 := UO 43 (by decide)
      refine ⟨updAH us 44 v, by simp [frAH, updAH, Act.put], { u0 := (U0.trans I.u0), u3 := (U3.trans I.u3), u6 := (U6.trans I.u6), bel := (I.bel.trans hB), o1 := (cO U34 I.o1 D1), o2 := (cO U35 I.o2 D2), o3 := (cO U36 I.o3 D3), o5 := (cO U38 I.o5 D5), o8 := (cO U41 I.o8 D8), o9 := (cO U42 I.o9 D9), o10 := (cO U43 I.o10 D10), o6 := (fun h0 h1 => absurd h77 (by rw [D7.symm.trans h1]; exact Bool.false_ne_true)), r0 := (fun h0 h1 => absurd (I.i7 h77) (by rw [D4.symm.trans h1]; exact Bool.false_ne_true)), r4 := (fun h0 h1 => absurd h77 (by rw [D7.symm.trans h1]; exact Bool.false_ne_true)), r7 := (fun h0 h1 => by rw [D11] at h1; cases h1), r11 := (fun _ => by rw [U44]; exact hR2), s0 := (fun h0 h1 h2 h3 => by rw [U33, U39]; exact I.s0 (D0.symm.trans h0) (D4.symm.trans h1) (D6.symm.trans h2) (D7.symm.trans h3)), s4 := (fun h0 h1 h2 => by rw [U37, U39]; exact I.s4 (D4.symm.trans h0) (D7.symm.trans h1) (D6.symm.trans h2)), o12 := (fun h => absurd (I.o12 (D12.symm.trans h)).2 (by rw [getD_tfH hun]; exact Bool.false_ne_true)), i7 := (fun h => D4.trans (I.i7 (D7.symm.trans h))), i11 := (fun _ => D7.trans h77) }⟩
     ·
      skip
      have DO : ∀ n, 12 ≠ n -> (d.setIfInBounds 12 true).getD n false = d.getD n false := fun n h => getD_set_ne false h
      have D12 : (d.setIfInBounds 12 true).getD 12 false = true := getD_set_sameH hun
      have D0 := DO 0 (by decide)
      have D1 := DO 1 (by decide)
      have D2 := DO 2 (by decide)
      have D3 := DO 3 (by decide)
      have D4 := DO 4 (by decide)
      have D5 := DO 5 (by decide)
      have D6 := DO 6 (by decide)
      have D7 := DO 7 (by decide)
      have D8 := DO 8 (by decide)
      have D9 := DO 9 (by decide)
      have D10 := DO 10 (by decide)
      have D11 := DO 11 (by decide)
      have h11 := hall ⟨11, .data⟩ (by simp) rfl
      have UO : ∀ n, n ≠ 7 -> updAH us 7 (us 44) n = us n := fun n h => upd_otherH h
      have U7 : updAH us 7 (us 44) 7 = (us 44) := upd_sameH _ _ _
      have U0 := UO 0 (by decide)
      have U3 := UO 3 (by decide)
      have U6 := UO 6 (by decide)
      have U33 := UO 33 (by decide)
      have U34 := UO 34 (by decide)
      have U35 := UO 35 (by decide)
      have U36 := UO 36 (by decide)
      have U37 := UO 37 (by decide)
      have U38 := UO 38 (by decide)
      have U39 := UO 39 (by decide)
      have U40 := UO 40 (by decide)
      have U41 := UO 41 (by decide)
      have U42 := UO 42 (by decide)
      have U43 := UO 43 (by decide)
      have U44 := UO 44 (by decide)
      refine wpOp_step rfl (fun K hK => ?_)
      simp only [frAH, e0, e3, e6]
      go_simp
      refine hK _ _ ⟨updAH us 7 (us 44), by simp [frAH, updAH, e0, e3, e6], { u0 := (U0.trans I.u0), u3 := (U3.trans I.u3), u6 := (U6.trans I.u6), bel := (I.bel), o1 := (cO U34 I.o1 D1), o2 := (cO U35 I.o2 D2), o3 := (cO U36 I.o3 D3), o5 := (cO U38 I.o5 D5), o8 := (cO U41 I.o8 D8), o9 := (cO U42 I.o9 D9), o10 := (cO U43 I.o10 D10), o6 := (fun h0 h1 => by rw [U39]; exact I.o6 (D6.symm.trans h0) (D7.symm.trans h1)), r0 := (fun h0 h1 => by rw [U33]; exact I.r0 (D0.symm.trans h0) (D4.symm.trans h1)), r4 := (fun h0 h1 => by rw [U37]; exact I.r4 (D4.symm.trans h0) (D7.symm.trans h1)), r7 := (fun h0 h1 => by rw [U40]; exact I.r7 (D7.symm.trans h0) (D11.symm.trans h1)), r11 := (fun h0 => by rw [U44]; exact I.r11 (D11.symm.trans h0)), s0 := (fun h0 h1 h2 h3 => by rw [U33, U39]; exact I.s0 (D0.symm.trans h0) (D4.symm.trans h1) (D6.symm.trans h2) (D7.symm.trans h3)), s4 := (fun h0 h1 h2 => by rw [U37, U39]; exact I.s4 (D4.symm.trans h0) (D7.symm.trans h1) (D6.symm.trans h2)), o12 := (fun _ => ⟨by rw [U7, U44], by rw [D11]; exact h11⟩), i7 := (fun h => D4.trans (I.i7 (D7.symm.trans h))), i11 := (fun h => D7.trans (I.i11 (D11.symm.trans h))) }⟩
    ·
     intro d a W hd hall hI
     obtain ⟨us, rfl, I⟩ := hI
     have D : ∀ k, k < 13 -> d.getD k false = true := fun k hk => by
      have := hall k hk
      have hk2 : k < d.size := by rw [hd]; exact hk
      simp [hk2] at this ⊢; exact this
     obtain ⟨h7, h11⟩ := I.o12 (D 12 (by decide))
     obtain ⟨O, q, e44, hO⟩ := I.r11 h11
     have e7 := h7.trans e44
     have hbel := I.bel
     rw [hjoin] at e7 hO
     clear I hall D h7 e44
     simp only [frAH, e7]
     replace hO := hO.mono hkq.bel.size
     have hbx := hkq.bel.trans (hbel.mono hkq.bel.size)
     have hV := HVK.out W hbx
     have hll := Lib.hid hV.len
     have hRd := ednR_of_hs hO.row hV
     obtain ⟨g2, rfl⟩ := edhO_some hO (by rw [hll.out]; exact ht4)
     have tb : LTbl W (some ⟨g2, 0, none⟩) (addL es e) := ⟨hRd, HTX.out, fun z hz => by have := HCS.out z hz; omega, by omega⟩
     have HOW := Lib.hid (fun W9 (b : Below W.heap.size W W9) => own_s g2 0 q (addL es e) W9 (hRd.below b) ht3 HCS.out)
     rw [hll.out]
     rcases Bool.eq_false_or_eq_true (lbB (addL es e)) with hvv | hvv
     ·
      have E := Lib.hid (HE1.out hvv)
      have HLB := Lib.hid (lbS_q (c := q) tb hvv)
      have hbx2 := Lib.hid hbx
      clear tb hRd hV hvv hO HE1 HE2 HVK HTX HCS hkq hRq hbox hbx hbel
      go_wp2_with (first
       | (go_at_call 46; refine HLB.out.mono ?_; rintro e' w5 ⟨rfl, b5⟩)
       | (go_at_call 50; refine (HOW.out _ b5).mono ?_; rintro e' w6 ⟨A6, c6, rfl, o6, b6⟩))
      go_ret2
      unfold NewEdnsC
      rw [E.out]
      have t5 := belowGo hbx2.out b5
      exact ⟨A6, c6, rfl, o6.mono t5.size (Nat.le_refl _), belowGo t5 b6⟩
     ·
      have E := Lib.hid (HE2.out hvv)
      have HLB := Lib.hid (lbS_q (c := q) tb hvv)
      have hbx2 := Lib.hid hbx
      clear tb hRd hV hvv hO HE1 HE2 HVK HTX HCS hkq hRq hbox hbx hbel
      go_wp2_with (go_at_call 46; refine HLB.out.mono ?_; rintro e' w5 ⟨rfl, b5⟩)
      go_ret2
      unfold NewEdnsC
      rw [E.out]
      exact ⟨none, 0, rfl, EdnO.nil _ _ _, belowGo hbx2.out b5⟩
end Go.Proofs.YtjcklmhgjdmjoaaGreat
