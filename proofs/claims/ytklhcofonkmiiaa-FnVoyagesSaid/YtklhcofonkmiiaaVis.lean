/- spec.InsertRefuge. (by gen_app7.py) -/
import Derived.Test.YtklhcofonkmiiaaVir
namespace Go.Proofs.Ytklhcofonkmiiaa
open Go.ChangeShapes Go.WideShapes Go.ChangeAt Go.RowKit
set_option linter.unusedVariables false

theorem StoR.drop {w : World} {g off : Nat} {rs : List Sto} (h : StoR w (some ⟨g, off, none⟩) rs) (k : Nat) : StoR w (some ⟨g, off + k * 3, none⟩) (rs.drop k) := fun hp => by
  have hl := flat_len Sto.cells 3 (fun _ => rfl) rs
  have hl2 := flat_len Sto.cells 3 (fun _ => rfl) (rs.drop k)
  rw [List.length_drop] at hl2
  obtain ⟨b, o, e, hb, hcell⟩ := h (by omega)
  simp only [Option.some.injEq, Addr.mk.injEq, and_true] at e
  obtain ⟨rfl, rfl⟩ := e
  refine ⟨g, off + k * 3, rfl, hb, fun j v hj => ?_⟩
  have hsp : rs.flatMap Sto.cells = (rs.take k).flatMap Sto.cells ++ (rs.drop k).flatMap Sto.cells := by rw [← List.flatMap_append, List.take_append_drop]
  have hlt := flat_len Sto.cells 3 (fun _ => rfl) (rs.take k)
  rw [List.length_take, Nat.min_eq_left (by omega)] at hlt
  rw [Nat.add_assoc]
  refine hcell (k * 3 + j) v ?_
  rw [hsp, List.getElem?_append_right (by omega), hlt, Nat.add_sub_cancel_left]
  exact hj
theorem StoR.take {w : World} {A : Option Addr} {rs : List Sto} (h : StoR w A rs) (k : Nat) : StoR w A (rs.take k) := fun hp => by
  have hsp : rs.flatMap Sto.cells = (rs.take k).flatMap Sto.cells ++ (rs.drop k).flatMap Sto.cells := by rw [← List.flatMap_append, List.take_append_drop]
  obtain ⟨b, o, e, hb, hcell⟩ := h (by rw [hsp, List.length_append]; omega)
  refine ⟨b, o, e, hb, fun j v hj => hcell j v ?_⟩
  rw [hsp, List.getElem?_append_left (List.getElem?_eq_some_iff.1 hj).1]; exact hj
theorem StoR.none {w : World} {A : Option Addr} : StoR w A [] := fun hp => absurd hp (by simp)

set_option maxRecDepth 100000 in
set_option maxHeartbeats 16000000 in
theorem refuge_s_ok (A : Option Addr) (c : Nat) (ps : List Sto) (x : Sto) (w : World) (h : VTblC w A c ps) (hx : x.sz ≤ 1048600) (hv : voyB ps = true) :
    Calls Try.prog 22 #[.slice A ps.length c, .agg #[.string ⟨x.p.toArray⟩, .int .i64 x.i, .int .i64 x.o]] w (NewStosC w (insR ps x)) := by
  have kb := KeepV.new w x
  have h0 := (h.below kb.bel).tbl
  obtain ⟨hn1, hn10⟩ := (voy_iff.1 hv).2
  have hst := h.tbl.txt
  have hcap := h.cap
  have HR0 := Lib.hid h.row
  have HT := Lib.hid (voyS_q (c := c) h0 hv)
  have HEnd := Lib.hid (fun he => insR_end (s := x) hv he)
  have HOk := Lib.hid (fun he hb => insR_ok (s := x) hv he hb)
  have HBad := Lib.hid (fun hb => insR_bad (s := x) hv hb)
  clear h h0 hv
  go_enter Try.func22, Try.ntmps22
  go_wp2_with (go_at_call 31; refine HT.out.mono ?_; rintro e w1 ⟨rfl, b1⟩; have kb1 := kb.step b1)
  go_loopw [6] (fun i wr => ∃ k : Nat, k ≤ ps.length ∧ i = .int .i64 k ∧ Hid (∀ (j : Nat) (q : Sto), j < k → ps[j]? = some q → q.i < x.i) ∧ KeepV w x wr) (fun i _ => ps.length - (intOf i).toNat)
  case atStart => exact ⟨0, Nat.zero_le _, rfl, Lib.hid (fun j q hj => by omega), kb1⟩
  case round =>
    clear kb kb1 b1 HT
    obtain ⟨k, hk, rfl, hlo, hkeep⟩ := hrel
    have HK := Lib.hid (fun y : Sub (Bel wr) => hkeep.step y.h)
    by_cases hlt : k < ps.length
    · obtain ⟨g, off, p, rfl, hl, hp, h4⟩ := (HR0.out.below hkeep.bel).at hlt
      have p1 : ∀ y : Sub (Bel wr), y.w.cell? ⟨g, off + k * 3 + 1, none⟩ = some (.int .i64 p.i) := fun y => (h4.below hl y.h).c1
      have r1 : ∀ y : Sub (Bel wr), y.w.cell? ⟨w.heap.size, 1, none⟩ = some (.int .i64 x.i) := fun y => (hkeep.step y.h).cells.c1
      by_cases hbl : p.i < x.i
      · have HN : Hid (∀ (j : Nat) (q : Sto), j < k + 1 → ps[j]? = some q → q.i < x.i) := Lib.hid fun j q hj hq => by
          rcases Nat.lt_or_ge j k with h1 | h1
          · exact hlo.out j q h1 hq
          · obtain rfl : j = k := by omega
            rw [hp.out] at hq; rw [← Option.some.inj hq]; exact hbl
        have d0 : decide (p.i < x.i) = true := decide_eq_true hbl
        clear hlo hp h4 HR0
        go_wp2_with fail
        refine region_held (Bel wr) (by kernel_rfl) (by kernel_rfl) (Bel.drew wr) ?_
        repeat (go_big_quiet_step ((first | rfl)))
        refine wpQuiet_nil ?_
        rintro _ ⟨y2, rfl⟩
        go_wp2_with fail
        go_roundw
        case rel => exact ⟨k + 1, by omega, by go_num, HN, HK.out y2⟩
        case measure => simp [intOf]; omega
      · have d0 : decide (p.i < x.i) = false := decide_eq_false hbl
        have hE : plcN ps x.i = k := plcN_eq hk hlo.out (fun q hq => by rw [hp.out] at hq; rw [← Option.some.inj hq]; omega)
        rw [hE] at HEnd HOk HBad
        by_cases hk0 : k = 0
        · subst hk0
          have E := Lib.hid (HEnd.out (.inl rfl))
          clear HOk HBad hlo hp h4 HR0 hE HEnd
          go_wp2_with fail
          refine region_held (Bel wr) (by kernel_rfl) (by kernel_rfl) (Bel.drew wr) ?_
          repeat (go_big_quiet_step ((first | rfl)))
          refine wpQuiet_nil ?_
          rintro _ ⟨y2, rfl⟩
          go_wp2_with fail
          go_ret2
          rw [E.out]
          exact ⟨none, 0, rfl, World.ownsRow_nil _ _ _ _, (HK.out y2).bel⟩
        · have HQ0 := Lib.hid (HOk.out (by omega))
          have HQ1 := HBad
          have z0 : ((k : Int) == 0) = false := beq_eq_false_iff_ne.2 (by omega)
          have z1 : ((k : Int) == (ps.length : Int)) = false := beq_eq_false_iff_ne.2 (by omega)
          have hjoin : ps.take k ++ [x] ++ ps.drop k = insAt ps k x := rfl
          have HR := Lib.hid (fun y : Sub (Bel wr) => HR0.out.below (HK.out y).bel)
          clear hlo hp h4 HEnd HOk HBad hE HR0
          go_wp2_with fail
          refine region_held (Bel wr) (by kernel_rfl) (by kernel_rfl) (Bel.drew wr) ?_
          repeat (go_big_quiet_step ((first | rfl)))
          refine wpQuiet_nil ?_
          rintro _ ⟨y2, rfl⟩
          go_wp2_with fail
          have hkq := HK.out y2
          have hRq := HR.out y2
          generalize y2.w = wq at *
          have q1 := hRq.take k
          have q3 := hRq.drop k
          have hbox := hkq.cells
          have hb0 : w.heap.size < wq.heap.size := lt_some hkq.a
          have e1 : k ≠ c := by omega
          have e1s : ¬ c = k := by omega
          have e2 : k < c := by omega
          have hl1 : ((ps.take k)).length = k := by rw [List.length_take]; omega
          have hl3 : ((ps.drop k)).length = (ps.length - k) := by rw [List.length_drop]
          refine region_inv (by kernel_rfl) (by kernel_rfl) (fun d a W => ∃ us, a = frAV us ∧ InvAV wq.heap.size (w.heap.size) (ps.length) (c) (k) (some ⟨g, off, none⟩) (.slice (some ⟨g, off, none⟩) k c) (.slice (some ⟨g, off + k * 3, none⟩) (ps.length - k) (c - k)) ((ps.take k)) ((ps.drop k)) x wq d us W) ?_ ?_ ?_
          · refine ⟨_, frA_ofV, ?_⟩
            have Z : ∀ k, (Array.replicate 13 false).getD k false = false := fun k => by
              rcases Nat.lt_or_ge k 13 with h | h
              · simp [h]
              · simp [Array.getElem?_eq_none, h]
            have Zn : ∀ {k : Nat} {p : Prop}, (Array.replicate 13 false).getD k false = true → p := fun {k p} h => by rw [Z k] at h; cases h
            exact { u0 := rfl, u3 := rfl, u6 := rfl, bel := (Below.refl _ _).drew, o1 := Zn, o2 := Zn, o3 := Zn, o5 := Zn, o8 := Zn, o9 := Zn, o10 := Zn, o6 := Zn, r0 := Zn, r4 := Zn, r7 := Zn, r11 := Zn, s0 := Zn, s4 := Zn, o12 := Zn, i7 := Zn, i11 := Zn }
          · intro i d a W hi hI
            obtain ⟨hun, oi, hoi, hall⟩ := mem_ready.1 hi
            have hlt : i < 13 := (Array.getElem?_eq_some_iff.1 hoi).1
            obtain ⟨us, rfl, I⟩ := hI
            have hsz : wq.heap.size ≤ W.heap.size := I.bel.size
            have e0 := I.u0
            have e3 := I.u3
            have e6 := I.u6
            rcases (by omega : i = 0 ∨ i = 1 ∨ i = 2 ∨ i = 3 ∨ i = 4 ∨ i = 5 ∨ i = 6 ∨ i = 7 ∨ i = 8 ∨ i = 9 ∨ i = 10 ∨ i = 11 ∨ i = 12) with rfl | rfl | rfl | rfl | rfl | rfl | rfl | rfl | rfl | rfl | rfl | rfl | rfl
            all_goals
              obtain rfl := Option.some.inj hoi
              clear hoi hlt hi
            · skip
              have D0 : (d.setIfInBounds 0 true).getD 0 false = true := getD_set_sameV hun
              have D1 : (d.setIfInBounds 0 true).getD 1 false = d.getD 1 false := getD_set_ne false (by decide)
              have D2 : (d.setIfInBounds 0 true).getD 2 false = d.getD 2 false := getD_set_ne false (by decide)
              have D3 : (d.setIfInBounds 0 true).getD 3 false = d.getD 3 false := getD_set_ne false (by decide)
              have D4 : (d.setIfInBounds 0 true).getD 4 false = d.getD 4 false := getD_set_ne false (by decide)
              have D5 : (d.setIfInBounds 0 true).getD 5 false = d.getD 5 false := getD_set_ne false (by decide)
              have D6 : (d.setIfInBounds 0 true).getD 6 false = d.getD 6 false := getD_set_ne false (by decide)
              have D7 : (d.setIfInBounds 0 true).getD 7 false = d.getD 7 false := getD_set_ne false (by decide)
              have D8 : (d.setIfInBounds 0 true).getD 8 false = d.getD 8 false := getD_set_ne false (by decide)
              have D9 : (d.setIfInBounds 0 true).getD 9 false = d.getD 9 false := getD_set_ne false (by decide)
              have D10 : (d.setIfInBounds 0 true).getD 10 false = d.getD 10 false := getD_set_ne false (by decide)
              have D11 : (d.setIfInBounds 0 true).getD 11 false = d.getD 11 false := getD_set_ne false (by decide)
              have D12 : (d.setIfInBounds 0 true).getD 12 false = d.getD 12 false := getD_set_ne false (by decide)
              have U0 : updAV us 35 (.slice (some ⟨W.heap.size, 0, none⟩) 0 0) 0 = us 0 := upd_otherV (by decide)
              have U3 : updAV us 35 (.slice (some ⟨W.heap.size, 0, none⟩) 0 0) 3 = us 3 := upd_otherV (by decide)
              have U6 : updAV us 35 (.slice (some ⟨W.heap.size, 0, none⟩) 0 0) 6 = us 6 := upd_otherV (by decide)
              have U7 : updAV us 35 (.slice (some ⟨W.heap.size, 0, none⟩) 0 0) 7 = us 7 := upd_otherV (by decide)
              have U35 : updAV us 35 (.slice (some ⟨W.heap.size, 0, none⟩) 0 0) 35 = (.slice (some ⟨W.heap.size, 0, none⟩) 0 0) := upd_sameV _ _ _
              have U36 : updAV us 35 (.slice (some ⟨W.heap.size, 0, none⟩) 0 0) 36 = us 36 := upd_otherV (by decide)
              have U37 : updAV us 35 (.slice (some ⟨W.heap.size, 0, none⟩) 0 0) 37 = us 37 := upd_otherV (by decide)
              have U38 : updAV us 35 (.slice (some ⟨W.heap.size, 0, none⟩) 0 0) 38 = us 38 := upd_otherV (by decide)
              have U39 : updAV us 35 (.slice (some ⟨W.heap.size, 0, none⟩) 0 0) 39 = us 39 := upd_otherV (by decide)
              have U40 : updAV us 35 (.slice (some ⟨W.heap.size, 0, none⟩) 0 0) 40 = us 40 := upd_otherV (by decide)
              have U41 : updAV us 35 (.slice (some ⟨W.heap.size, 0, none⟩) 0 0) 41 = us 41 := upd_otherV (by decide)
              have U42 : updAV us 35 (.slice (some ⟨W.heap.size, 0, none⟩) 0 0) 42 = us 42 := upd_otherV (by decide)
              have U43 : updAV us 35 (.slice (some ⟨W.heap.size, 0, none⟩) 0 0) 43 = us 43 := upd_otherV (by decide)
              have U44 : updAV us 35 (.slice (some ⟨W.heap.size, 0, none⟩) 0 0) 44 = us 44 := upd_otherV (by decide)
              have U45 : updAV us 35 (.slice (some ⟨W.heap.size, 0, none⟩) 0 0) 45 = us 45 := upd_otherV (by decide)
              have U46 : updAV us 35 (.slice (some ⟨W.heap.size, 0, none⟩) 0 0) 46 = us 46 := upd_otherV (by decide)
              refine wpOp_step rfl (fun K hK => ?_)
              simp only [frAV, e0, e3, e6]
              go_simp
              refine hK _ _ ⟨updAV us 35 (.slice (some ⟨W.heap.size, 0, none⟩) 0 0), by simp [frAV, updAV, e0, e3, e6], { u0 := (U0.trans I.u0), u3 := (U3.trans I.u3), u6 := (U6.trans I.u6), bel := (I.bel.alloc hsz _), o1 := (fun h => U36.trans (I.o1 (D1.symm.trans h))), o2 := (fun h => U37.trans (I.o2 (D2.symm.trans h))), o3 := (fun h => U38.trans (I.o3 (D3.symm.trans h))), o5 := (fun h => U40.trans (I.o5 (D5.symm.trans h))), o8 := (fun h => U43.trans (I.o8 (D8.symm.trans h))), o9 := (fun h => U44.trans (I.o9 (D9.symm.trans h))), o10 := (fun h => U45.trans (I.o10 (D10.symm.trans h))), o6 := (fun h0 h1 => by rw [U41]; exact (I.o6 (D6.symm.trans h0) (D7.symm.trans h1)).below (below_alloc _ _)), r0 := (fun h0 h1 => by rw [U35]; exact ⟨_, _, rfl, made0v _ _ _ _ hsz⟩), r4 := (fun h0 h1 => by rw [U39]; exact (I.r4 (D4.symm.trans h0) (D7.symm.trans h1)).below (below_alloc _ _)), r7 := (fun h0 h1 => by rw [U42]; exact (I.r7 (D7.symm.trans h0) (D11.symm.trans h1)).below (below_alloc _ _)), r11 := (fun h0 => by rw [U46]; exact (I.r11 (D11.symm.trans h0)).below (below_alloc _ _)), s0 := (fun h0 h1 h2 h3 => by rw [U35, U41]; exact sep_gtV fun k hk => (I.o6 (D6.symm.trans h2) (D7.symm.trans h3)).lt hk), s4 := (fun h0 h1 h2 => by rw [U39, U41]; exact I.s4 (D4.symm.trans h0) (D7.symm.trans h1) (D6.symm.trans h2)), o12 := (fun h => by rw [U7, U46, D11]; exact I.o12 (D12.symm.trans h)), i7 := (fun h => D4.trans (I.i7 (D7.symm.trans h))), i11 := (fun h => D7.trans (I.i11 (D11.symm.trans h))) }⟩
            · skip
              have D0 : (d.setIfInBounds 1 true).getD 0 false = d.getD 0 false := getD_set_ne false (by decide)
              have D1 : (d.setIfInBounds 1 true).getD 1 false = true := getD_set_sameV hun
              have D2 : (d.setIfInBounds 1 true).getD 2 false = d.getD 2 false := getD_set_ne false (by decide)
              have D3 : (d.setIfInBounds 1 true).getD 3 false = d.getD 3 false := getD_set_ne false (by decide)
              have D4 : (d.setIfInBounds 1 true).getD 4 false = d.getD 4 false := getD_set_ne false (by decide)
              have D5 : (d.setIfInBounds 1 true).getD 5 false = d.getD 5 false := getD_set_ne false (by decide)
              have D6 : (d.setIfInBounds 1 true).getD 6 false = d.getD 6 false := getD_set_ne false (by decide)
              have D7 : (d.setIfInBounds 1 true).getD 7 false = d.getD 7 false := getD_set_ne false (by decide)
              have D8 : (d.setIfInBounds 1 true).getD 8 false = d.getD 8 false := getD_set_ne false (by decide)
              have D9 : (d.setIfInBounds 1 true).getD 9 false = d.getD 9 false := getD_set_ne false (by decide)
              have D10 : (d.setIfInBounds 1 true).getD 10 false = d.getD 10 false := getD_set_ne false (by decide)
              have D11 : (d.setIfInBounds 1 true).getD 11 false = d.getD 11 false := getD_set_ne false (by decide)
              have D12 : (d.setIfInBounds 1 true).getD 12 false = d.getD 12 false := getD_set_ne false (by decide)
              have U0 : updAV us 36 (.slice (some ⟨g, off, none⟩) ps.length c) 0 = us 0 := upd_otherV (by decide)
              have U3 : updAV us 36 (.slice (some ⟨g, off, none⟩) ps.length c) 3 = us 3 := upd_otherV (by decide)
              have U6 : updAV us 36 (.slice (some ⟨g, off, none⟩) ps.length c) 6 = us 6 := upd_otherV (by decide)
              have U7 : updAV us 36 (.slice (some ⟨g, off, none⟩) ps.length c) 7 = us 7 := upd_otherV (by decide)
              have U35 : updAV us 36 (.slice (some ⟨g, off, none⟩) ps.length c) 35 = us 35 := upd_otherV (by decide)
              have U36 : updAV us 36 (.slice (some ⟨g, off, none⟩) ps.length c) 36 = (.slice (some ⟨g, off, none⟩) ps.length c) := upd_sameV _ _ _
              have U37 : updAV us 36 (.slice (some ⟨g, off, none⟩) ps.length c) 37 = us 37 := upd_otherV (by decide)
              have U38 : updAV us 36 (.slice (some ⟨g, off, none⟩) ps.length c) 38 = us 38 := upd_otherV (by decide)
              have U39 : updAV us 36 (.slice (some ⟨g, off, none⟩) ps.length c) 39 = us 39 := upd_otherV (by decide)
              have U40 : updAV us 36 (.slice (some ⟨g, off, none⟩) ps.length c) 40 = us 40 := upd_otherV (by decide)
              have U41 : updAV us 36 (.slice (some ⟨g, off, none⟩) ps.length c) 41 = us 41 := upd_otherV (by decide)
              have U42 : updAV us 36 (.slice (some ⟨g, off, none⟩) ps.length c) 42 = us 42 := upd_otherV (by decide)
              have U43 : updAV us 36 (.slice (some ⟨g, off, none⟩) ps.length c) 43 = us 43 := upd_otherV (by decide)
              have U44 : updAV us 36 (.slice (some ⟨g, off, none⟩) ps.length c) 44 = us 44 := upd_otherV (by decide)
              have U45 : updAV us 36 (.slice (some ⟨g, off, none⟩) ps.length c) 45 = us 45 := upd_otherV (by decide)
              have U46 : updAV us 36 (.slice (some ⟨g, off, none⟩) ps.length c) 46 = us 46 := upd_otherV (by decide)
              refine wpOp_step rfl (fun K hK => ?_)
              simp only [frAV, e0, e3, e6]
              go_simp
              refine hK _ _ ⟨updAV us 36 (.slice (some ⟨g, off, none⟩) ps.length c), by simp [frAV, updAV, e0, e3, e6], { u0 := (U0.trans I.u0), u3 := (U3.trans I.u3), u6 := (U6.trans I.u6), bel := (I.bel), o1 := (fun _ => U36), o2 := (fun h => U37.trans (I.o2 (D2.symm.trans h))), o3 := (fun h => U38.trans (I.o3 (D3.symm.trans h))), o5 := (fun h => U40.trans (I.o5 (D5.symm.trans h))), o8 := (fun h => U43.trans (I.o8 (D8.symm.trans h))), o9 := (fun h => U44.trans (I.o9 (D9.symm.trans h))), o10 := (fun h => U45.trans (I.o10 (D10.symm.trans h))), o6 := (fun h0 h1 => by rw [U41]; exact I.o6 (D6.symm.trans h0) (D7.symm.trans h1)), r0 := (fun h0 h1 => by rw [U35]; exact I.r0 (D0.symm.trans h0) (D4.symm.trans h1)), r4 := (fun h0 h1 => by rw [U39]; exact I.r4 (D4.symm.trans h0) (D7.symm.trans h1)), r7 := (fun h0 h1 => by rw [U42]; exact I.r7 (D7.symm.trans h0) (D11.symm.trans h1)), r11 := (fun h0 => by rw [U46]; exact I.r11 (D11.symm.trans h0)), s0 := (fun h0 h1 h2 h3 => by rw [U35, U41]; exact I.s0 (D0.symm.trans h0) (D4.symm.trans h1) (D6.symm.trans h2) (D7.symm.trans h3)), s4 := (fun h0 h1 h2 => by rw [U39, U41]; exact I.s4 (D4.symm.trans h0) (D7.symm.trans h1) (D6.symm.trans h2)), o12 := (fun h => by rw [U7, U46, D11]; exact I.o12 (D12.symm.trans h)), i7 := (fun h => D4.trans (I.i7 (D7.symm.trans h))), i11 := (fun h => D7.trans (I.i11 (D11.symm.trans h))) }⟩
            · skip
              have D0 : (d.setIfInBounds 2 true).getD 0 false = d.getD 0 false := getD_set_ne false (by decide)
              have D1 : (d.setIfInBounds 2 true).getD 1 false = d.getD 1 false := getD_set_ne false (by decide)
              have D2 : (d.setIfInBounds 2 true).getD 2 false = true := getD_set_sameV hun
              have D3 : (d.setIfInBounds 2 true).getD 3 false = d.getD 3 false := getD_set_ne false (by decide)
              have D4 : (d.setIfInBounds 2 true).getD 4 false = d.getD 4 false := getD_set_ne false (by decide)
              have D5 : (d.setIfInBounds 2 true).getD 5 false = d.getD 5 false := getD_set_ne false (by decide)
              have D6 : (d.setIfInBounds 2 true).getD 6 false = d.getD 6 false := getD_set_ne false (by decide)
              have D7 : (d.setIfInBounds 2 true).getD 7 false = d.getD 7 false := getD_set_ne false (by decide)
              have D8 : (d.setIfInBounds 2 true).getD 8 false = d.getD 8 false := getD_set_ne false (by decide)
              have D9 : (d.setIfInBounds 2 true).getD 9 false = d.getD 9 false := getD_set_ne false (by decide)
              have D10 : (d.setIfInBounds 2 true).getD 10 false = d.getD 10 false := getD_set_ne false (by decide)
              have D11 : (d.setIfInBounds 2 true).getD 11 false = d.getD 11 false := getD_set_ne false (by decide)
              have D12 : (d.setIfInBounds 2 true).getD 12 false = d.getD 12 false := getD_set_ne false (by decide)
              have U0 : updAV us 37 (.int .i64 ((k : Nat) : Int)) 0 = us 0 := upd_otherV (by decide)
              have U3 : updAV us 37 (.int .i64 ((k : Nat) : Int)) 3 = us 3 := upd_otherV (by decide)
              have U6 : updAV us 37 (.int .i64 ((k : Nat) : Int)) 6 = us 6 := upd_otherV (by decide)
              have U7 : updAV us 37 (.int .i64 ((k : Nat) : Int)) 7 = us 7 := upd_otherV (by decide)
              have U35 : updAV us 37 (.int .i64 ((k : Nat) : Int)) 35 = us 35 := upd_otherV (by decide)
              have U36 : updAV us 37 (.int .i64 ((k : Nat) : Int)) 36 = us 36 := upd_otherV (by decide)
              have U37 : updAV us 37 (.int .i64 ((k : Nat) : Int)) 37 = (.int .i64 ((k : Nat) : Int)) := upd_sameV _ _ _
              have U38 : updAV us 37 (.int .i64 ((k : Nat) : Int)) 38 = us 38 := upd_otherV (by decide)
              have U39 : updAV us 37 (.int .i64 ((k : Nat) : Int)) 39 = us 39 := upd_otherV (by decide)
              have U40 : updAV us 37 (.int .i64 ((k : Nat) : Int)) 40 = us 40 := upd_otherV (by decide)
              have U41 : updAV us 37 (.int .i64 ((k : Nat) : Int)) 41 = us 41 := upd_otherV (by decide)
              have U42 : updAV us 37 (.int .i64 ((k : Nat) : Int)) 42 = us 42 := upd_otherV (by decide)
              have U43 : updAV us 37 (.int .i64 ((k : Nat) : Int)) 43 = us 43 := upd_otherV (by decide)
              have U44 : updAV us 37 (.int .i64 ((k : Nat) : Int)) 44 = us 44 := upd_otherV (by decide)
              have U45 : updAV us 37 (.int .i64 ((k : Nat) : Int)) 45 = us 45 := upd_otherV (by decide)
              have U46 : updAV us 37 (.int .i64 ((k : Nat) : Int)) 46 = us 46 := upd_otherV (by decide)
              refine wpOp_step rfl (fun K hK => ?_)
              simp only [frAV, e0, e3, e6]
              go_simp
              refine hK _ _ ⟨updAV us 37 (.int .i64 ((k : Nat) : Int)), by simp [frAV, updAV, e0, e3, e6], { u0 := (U0.trans I.u0), u3 := (U3.trans I.u3), u6 := (U6.trans I.u6), bel := (I.bel), o1 := (fun h => U36.trans (I.o1 (D1.symm.trans h))), o2 := (fun _ => U37), o3 := (fun h => U38.trans (I.o3 (D3.symm.trans h))), o5 := (fun h => U40.trans (I.o5 (D5.symm.trans h))), o8 := (fun h => U43.trans (I.o8 (D8.symm.trans h))), o9 := (fun h => U44.trans (I.o9 (D9.symm.trans h))), o10 := (fun h => U45.trans (I.o10 (D10.symm.trans h))), o6 := (fun h0 h1 => by rw [U41]; exact I.o6 (D6.symm.trans h0) (D7.symm.trans h1)), r0 := (fun h0 h1 => by rw [U35]; exact I.r0 (D0.symm.trans h0) (D4.symm.trans h1)), r4 := (fun h0 h1 => by rw [U39]; exact I.r4 (D4.symm.trans h0) (D7.symm.trans h1)), r7 := (fun h0 h1 => by rw [U42]; exact I.r7 (D7.symm.trans h0) (D11.symm.trans h1)), r11 := (fun h0 => by rw [U46]; exact I.r11 (D11.symm.trans h0)), s0 := (fun h0 h1 h2 h3 => by rw [U35, U41]; exact I.s0 (D0.symm.trans h0) (D4.symm.trans h1) (D6.symm.trans h2) (D7.symm.trans h3)), s4 := (fun h0 h1 h2 => by rw [U39, U41]; exact I.s4 (D4.symm.trans h0) (D7.symm.trans h1) (D6.symm.trans h2)), o12 := (fun h => by rw [U7, U46, D11]; exact I.o12 (D12.symm.trans h)), i7 := (fun h => D4.trans (I.i7 (D7.symm.trans h))), i11 := (fun h => D7.trans (I.i11 (D11.symm.trans h))) }⟩
            · skip
              have D0 : (d.setIfInBounds 3 true).getD 0 false = d.getD 0 false := getD_set_ne false (by decide)
              have D1 : (d.setIfInBounds 3 true).getD 1 false = d.getD 1 false := getD_set_ne false (by decide)
              have D2 : (d.setIfInBounds 3 true).getD 2 false = d.getD 2 false := getD_set_ne false (by decide)
              have D3 : (d.setIfInBounds 3 true).getD 3 false = true := getD_set_sameV hun
              have D4 : (d.setIfInBounds 3 true).getD 4 false = d.getD 4 false := getD_set_ne false (by decide)
              have D5 : (d.setIfInBounds 3 true).getD 5 false = d.getD 5 false := getD_set_ne false (by decide)
              have D6 : (d.setIfInBounds 3 true).getD 6 false = d.getD 6 false := getD_set_ne false (by decide)
              have D7 : (d.setIfInBounds 3 true).getD 7 false = d.getD 7 false := getD_set_ne false (by decide)
              have D8 : (d.setIfInBounds 3 true).getD 8 false = d.getD 8 false := getD_set_ne false (by decide)
              have D9 : (d.setIfInBounds 3 true).getD 9 false = d.getD 9 false := getD_set_ne false (by decide)
              have D10 : (d.setIfInBounds 3 true).getD 10 false = d.getD 10 false := getD_set_ne false (by decide)
              have D11 : (d.setIfInBounds 3 true).getD 11 false = d.getD 11 false := getD_set_ne false (by decide)
              have D12 : (d.setIfInBounds 3 true).getD 12 false = d.getD 12 false := getD_set_ne false (by decide)
              have e36 := I.o1 (hall ⟨1, .data⟩ (by simp) rfl)
              have e37 := I.o2 (hall ⟨2, .data⟩ (by simp) rfl)
              have U0 : updAV us 38 (.slice (some ⟨g, off, none⟩) k c) 0 = us 0 := upd_otherV (by decide)
              have U3 : updAV us 38 (.slice (some ⟨g, off, none⟩) k c) 3 = us 3 := upd_otherV (by decide)
              have U6 : updAV us 38 (.slice (some ⟨g, off, none⟩) k c) 6 = us 6 := upd_otherV (by decide)
              have U7 : updAV us 38 (.slice (some ⟨g, off, none⟩) k c) 7 = us 7 := upd_otherV (by decide)
              have U35 : updAV us 38 (.slice (some ⟨g, off, none⟩) k c) 35 = us 35 := upd_otherV (by decide)
              have U36 : updAV us 38 (.slice (some ⟨g, off, none⟩) k c) 36 = us 36 := upd_otherV (by decide)
              have U37 : updAV us 38 (.slice (some ⟨g, off, none⟩) k c) 37 = us 37 := upd_otherV (by decide)
              have U38 : updAV us 38 (.slice (some ⟨g, off, none⟩) k c) 38 = (.slice (some ⟨g, off, none⟩) k c) := upd_sameV _ _ _
              have U39 : updAV us 38 (.slice (some ⟨g, off, none⟩) k c) 39 = us 39 := upd_otherV (by decide)
              have U40 : updAV us 38 (.slice (some ⟨g, off, none⟩) k c) 40 = us 40 := upd_otherV (by decide)
              have U41 : updAV us 38 (.slice (some ⟨g, off, none⟩) k c) 41 = us 41 := upd_otherV (by decide)
              have U42 : updAV us 38 (.slice (some ⟨g, off, none⟩) k c) 42 = us 42 := upd_otherV (by decide)
              have U43 : updAV us 38 (.slice (some ⟨g, off, none⟩) k c) 43 = us 43 := upd_otherV (by decide)
              have U44 : updAV us 38 (.slice (some ⟨g, off, none⟩) k c) 44 = us 44 := upd_otherV (by decide)
              have U45 : updAV us 38 (.slice (some ⟨g, off, none⟩) k c) 45 = us 45 := upd_otherV (by decide)
              have U46 : updAV us 38 (.slice (some ⟨g, off, none⟩) k c) 46 = us 46 := upd_otherV (by decide)
              refine wpOp_step rfl (fun K hK => ?_)
              simp only [frAV, e0, e3, e6, e36, e37]
              go_simp
              try (rw [if_pos (by omega)]; go_simp)
              refine hK _ _ ⟨updAV us 38 (.slice (some ⟨g, off, none⟩) k c), by simp [frAV, updAV, e0, e3, e6, e36, e37], { u0 := (U0.trans I.u0), u3 := (U3.trans I.u3), u6 := (U6.trans I.u6), bel := (I.bel), o1 := (fun h => U36.trans (I.o1 (D1.symm.trans h))), o2 := (fun h => U37.trans (I.o2 (D2.symm.trans h))), o3 := (fun _ => U38), o5 := (fun h => U40.trans (I.o5 (D5.symm.trans h))), o8 := (fun h => U43.trans (I.o8 (D8.symm.trans h))), o9 := (fun h => U44.trans (I.o9 (D9.symm.trans h))), o10 := (fun h => U45.trans (I.o10 (D10.symm.trans h))), o6 := (fun h0 h1 => by rw [U41]; exact I.o6 (D6.symm.trans h0) (D7.symm.trans h1)), r0 := (fun h0 h1 => by rw [U35]; exact I.r0 (D0.symm.trans h0) (D4.symm.trans h1)), r4 := (fun h0 h1 => by rw [U39]; exact I.r4 (D4.symm.trans h0) (D7.symm.trans h1)), r7 := (fun h0 h1 => by rw [U42]; exact I.r7 (D7.symm.trans h0) (D11.symm.trans h1)), r11 := (fun h0 => by rw [U46]; exact I.r11 (D11.symm.trans h0)), s0 := (fun h0 h1 h2 h3 => by rw [U35, U41]; exact I.s0 (D0.symm.trans h0) (D4.symm.trans h1) (D6.symm.trans h2) (D7.symm.trans h3)), s4 := (fun h0 h1 h2 => by rw [U39, U41]; exact I.s4 (D4.symm.trans h0) (D7.symm.trans h1) (D6.symm.trans h2)), o12 := (fun h => by rw [U7, U46, D11]; exact I.o12 (D12.symm.trans h)), i7 := (fun h => D4.trans (I.i7 (D7.symm.trans h))), i11 := (fun h => D7.trans (I.i11 (D11.symm.trans h))) }⟩
            · skip
              have D0 : (d.setIfInBounds 4 true).getD 0 false = d.getD 0 false := getD_set_ne false (by decide)
              have D1 : (d.setIfInBounds 4 true).getD 1 false = d.getD 1 false := getD_set_ne false (by decide)
              have D2 : (d.setIfInBounds 4 true).getD 2 false = d.getD 2 false := getD_set_ne false (by decide)
              have D3 : (d.setIfInBounds 4 true).getD 3 false = d.getD 3 false := getD_set_ne false (by decide)
              have D4 : (d.setIfInBounds 4 true).getD 4 false = true := getD_set_sameV hun
              have D5 : (d.setIfInBounds 4 true).getD 5 false = d.getD 5 false := getD_set_ne false (by decide)
              have D6 : (d.setIfInBounds 4 true).getD 6 false = d.getD 6 false := getD_set_ne false (by decide)
              have D7 : (d.setIfInBounds 4 true).getD 7 false = d.getD 7 false := getD_set_ne false (by decide)
              have D8 : (d.setIfInBounds 4 true).getD 8 false = d.getD 8 false := getD_set_ne false (by decide)
              have D9 : (d.setIfInBounds 4 true).getD 9 false = d.getD 9 false := getD_set_ne false (by decide)
              have D10 : (d.setIfInBounds 4 true).getD 10 false = d.getD 10 false := getD_set_ne false (by decide)
              have D11 : (d.setIfInBounds 4 true).getD 11 false = d.getD 11 false := getD_set_ne false (by decide)
              have D12 : (d.setIfInBounds 4 true).getD 12 false = d.getD 12 false := getD_set_ne false (by decide)
              have e38 := I.o3 (hall ⟨3, .data⟩ (by simp) rfl)
              have h00 := hall ⟨0, .data⟩ (by simp) rfl
              have hRow := I.r0 (hall ⟨0, .data⟩ (by simp) rfl) (getD_tfV hun)
              refine wpOp_append_sto rfl rfl (.tmp 35) (.tmp 38) rfl wq.heap.size (us 35) [] rfl hRow (some ⟨g, off, none⟩) (c) ((ps.take k)) (by show us 38 = _; rw [e38] <;> simp [hl1]) (q1.below I.bel) (.inr ⟨_, _, rfl⟩) (by simp [hl1, hl3] <;> omega) hsz ?_
              intro v W2 hR2 hB hg hv
              have U0 : updAV us 39 (v) 0 = us 0 := upd_otherV (by decide)
              have U3 : updAV us 39 (v) 3 = us 3 := upd_otherV (by decide)
              have U6 : updAV us 39 (v) 6 = us 6 := upd_otherV (by decide)
              have U7 : updAV us 39 (v) 7 = us 7 := upd_otherV (by decide)
              have U35 : updAV us 39 (v) 35 = us 35 := upd_otherV (by decide)
              have U36 : updAV us 39 (v) 36 = us 36 := upd_otherV (by decide)
              have U37 : updAV us 39 (v) 37 = us 37 := upd_otherV (by decide)
              have U38 : updAV us 39 (v) 38 = us 38 := upd_otherV (by decide)
              have U39 : updAV us 39 (v) 39 = (v) := upd_sameV _ _ _
              have U40 : updAV us 39 (v) 40 = us 40 := upd_otherV (by decide)
              have U41 : updAV us 39 (v) 41 = us 41 := upd_otherV (by decide)
              have U42 : updAV us 39 (v) 42 = us 42 := upd_otherV (by decide)
              have U43 : updAV us 39 (v) 43 = us 43 := upd_otherV (by decide)
              have U44 : updAV us 39 (v) 44 = us 44 := upd_otherV (by decide)
              have U45 : updAV us 39 (v) 45 = us 45 := upd_otherV (by decide)
              have U46 : updAV us 39 (v) 46 = us 46 := upd_otherV (by decide)
              refine ⟨updAV us 39 v, by simp [frAV, updAV, Act.put], { u0 := (U0.trans I.u0), u3 := (U3.trans I.u3), u6 := (U6.trans I.u6), bel := (I.bel.trans hB), o1 := (fun h => U36.trans (I.o1 (D1.symm.trans h))), o2 := (fun h => U37.trans (I.o2 (D2.symm.trans h))), o3 := (fun h => U38.trans (I.o3 (D3.symm.trans h))), o5 := (fun h => U40.trans (I.o5 (D5.symm.trans h))), o8 := (fun h => U43.trans (I.o8 (D8.symm.trans h))), o9 := (fun h => U44.trans (I.o9 (D9.symm.trans h))), o10 := (fun h => U45.trans (I.o10 (D10.symm.trans h))), o6 := (fun h0 h1 => by rw [U41]; exact (I.o6 (D6.symm.trans h0) (D7.symm.trans h1)).sep (I.s0 h00 (getD_tfV hun) (D6.symm.trans h0) (D7.symm.trans h1)) hg), r0 := (fun h0 h1 => by rw [D4] at h1; cases h1), r4 := (fun _ _ => by rw [U39]; simpa using hR2), r7 := (fun h0 h1 => absurd (I.i7 (D7.symm.trans h0)) (by rw [getD_tfV hun]; exact Bool.false_ne_true)), r11 := (fun h0 => absurd (I.i7 (I.i11 (D11.symm.trans h0))) (by rw [getD_tfV hun]; exact Bool.false_ne_true)), s0 := (fun h0 h1 h2 h3 => by rw [D4] at h1; cases h1), s4 := (fun h0 h1 h2 => by rw [U39, U41]; exact sep_appV (I.o6 (D6.symm.trans h2) (D7.symm.trans h1)) (I.s0 h00 (getD_tfV hun) (D6.symm.trans h2) (D7.symm.trans h1)) hv), o12 := (fun h => by rw [U7, U46, D11]; exact I.o12 (D12.symm.trans h)), i7 := (fun _ => D4), i11 := (fun h => D7.trans (I.i11 (D11.symm.trans h))) }⟩
            · skip
              have D0 : (d.setIfInBounds 5 true).getD 0 false = d.getD 0 false := getD_set_ne false (by decide)
              have D1 : (d.setIfInBounds 5 true).getD 1 false = d.getD 1 false := getD_set_ne false (by decide)
              have D2 : (d.setIfInBounds 5 true).getD 2 false = d.getD 2 false := getD_set_ne false (by decide)
              have D3 : (d.setIfInBounds 5 true).getD 3 false = d.getD 3 false := getD_set_ne false (by decide)
              have D4 : (d.setIfInBounds 5 true).getD 4 false = d.getD 4 false := getD_set_ne false (by decide)
              have D5 : (d.setIfInBounds 5 true).getD 5 false = true := getD_set_sameV hun
              have D6 : (d.setIfInBounds 5 true).getD 6 false = d.getD 6 false := getD_set_ne false (by decide)
              have D7 : (d.setIfInBounds 5 true).getD 7 false = d.getD 7 false := getD_set_ne false (by decide)
              have D8 : (d.setIfInBounds 5 true).getD 8 false = d.getD 8 false := getD_set_ne false (by decide)
              have D9 : (d.setIfInBounds 5 true).getD 9 false = d.getD 9 false := getD_set_ne false (by decide)
              have D10 : (d.setIfInBounds 5 true).getD 10 false = d.getD 10 false := getD_set_ne false (by decide)
              have D11 : (d.setIfInBounds 5 true).getD 11 false = d.getD 11 false := getD_set_ne false (by decide)
              have D12 : (d.setIfInBounds 5 true).getD 12 false = d.getD 12 false := getD_set_ne false (by decide)
              have hbx := hbox.belowB hb0 I.bel
              have c0 := hbx.c0
              have c1 := hbx.c1
              have c2 := hbx.c2
              have U0 : updAV us 40 (.agg #[.string ⟨x.p.toArray⟩, .int .i64 x.i, .int .i64 x.o]) 0 = us 0 := upd_otherV (by decide)
              have U3 : updAV us 40 (.agg #[.string ⟨x.p.toArray⟩, .int .i64 x.i, .int .i64 x.o]) 3 = us 3 := upd_otherV (by decide)
              have U6 : updAV us 40 (.agg #[.string ⟨x.p.toArray⟩, .int .i64 x.i, .int .i64 x.o]) 6 = us 6 := upd_otherV (by decide)
              have U7 : updAV us 40 (.agg #[.string ⟨x.p.toArray⟩, .int .i64 x.i, .int .i64 x.o]) 7 = us 7 := upd_otherV (by decide)
              have U35 : updAV us 40 (.agg #[.string ⟨x.p.toArray⟩, .int .i64 x.i, .int .i64 x.o]) 35 = us 35 := upd_otherV (by decide)
              have U36 : updAV us 40 (.agg #[.string ⟨x.p.toArray⟩, .int .i64 x.i, .int .i64 x.o]) 36 = us 36 := upd_otherV (by decide)
              have U37 : updAV us 40 (.agg #[.string ⟨x.p.toArray⟩, .int .i64 x.i, .int .i64 x.o]) 37 = us 37 := upd_otherV (by decide)
              have U38 : updAV us 40 (.agg #[.string ⟨x.p.toArray⟩, .int .i64 x.i, .int .i64 x.o]) 38 = us 38 := upd_otherV (by decide)
              have U39 : updAV us 40 (.agg #[.string ⟨x.p.toArray⟩, .int .i64 x.i, .int .i64 x.o]) 39 = us 39 := upd_otherV (by decide)
              have U40 : updAV us 40 (.agg #[.string ⟨x.p.toArray⟩, .int .i64 x.i, .int .i64 x.o]) 40 = (.agg #[.string ⟨x.p.toArray⟩, .int .i64 x.i, .int .i64 x.o]) := upd_sameV _ _ _
              have U41 : updAV us 40 (.agg #[.string ⟨x.p.toArray⟩, .int .i64 x.i, .int .i64 x.o]) 41 = us 41 := upd_otherV (by decide)
              have U42 : updAV us 40 (.agg #[.string ⟨x.p.toArray⟩, .int .i64 x.i, .int .i64 x.o]) 42 = us 42 := upd_otherV (by decide)
              have U43 : updAV us 40 (.agg #[.string ⟨x.p.toArray⟩, .int .i64 x.i, .int .i64 x.o]) 43 = us 43 := upd_otherV (by decide)
              have U44 : updAV us 40 (.agg #[.string ⟨x.p.toArray⟩, .int .i64 x.i, .int .i64 x.o]) 44 = us 44 := upd_otherV (by decide)
              have U45 : updAV us 40 (.agg #[.string ⟨x.p.toArray⟩, .int .i64 x.i, .int .i64 x.o]) 45 = us 45 := upd_otherV (by decide)
              have U46 : updAV us 40 (.agg #[.string ⟨x.p.toArray⟩, .int .i64 x.i, .int .i64 x.o]) 46 = us 46 := upd_otherV (by decide)
              refine wpOp_step rfl (fun K hK => ?_)
              simp only [frAV, e0, e3, e6, c0, c1, c2]
              go_simp
              refine hK _ _ ⟨updAV us 40 (.agg #[.string ⟨x.p.toArray⟩, .int .i64 x.i, .int .i64 x.o]), by simp [frAV, updAV, e0, e3, e6, c0, c1, c2], { u0 := (U0.trans I.u0), u3 := (U3.trans I.u3), u6 := (U6.trans I.u6), bel := (I.bel), o1 := (fun h => U36.trans (I.o1 (D1.symm.trans h))), o2 := (fun h => U37.trans (I.o2 (D2.symm.trans h))), o3 := (fun h => U38.trans (I.o3 (D3.symm.trans h))), o5 := (fun _ => U40), o8 := (fun h => U43.trans (I.o8 (D8.symm.trans h))), o9 := (fun h => U44.trans (I.o9 (D9.symm.trans h))), o10 := (fun h => U45.trans (I.o10 (D10.symm.trans h))), o6 := (fun h0 h1 => by rw [U41]; exact I.o6 (D6.symm.trans h0) (D7.symm.trans h1)), r0 := (fun h0 h1 => by rw [U35]; exact I.r0 (D0.symm.trans h0) (D4.symm.trans h1)), r4 := (fun h0 h1 => by rw [U39]; exact I.r4 (D4.symm.trans h0) (D7.symm.trans h1)), r7 := (fun h0 h1 => by rw [U42]; exact I.r7 (D7.symm.trans h0) (D11.symm.trans h1)), r11 := (fun h0 => by rw [U46]; exact I.r11 (D11.symm.trans h0)), s0 := (fun h0 h1 h2 h3 => by rw [U35, U41]; exact I.s0 (D0.symm.trans h0) (D4.symm.trans h1) (D6.symm.trans h2) (D7.symm.trans h3)), s4 := (fun h0 h1 h2 => by rw [U39, U41]; exact I.s4 (D4.symm.trans h0) (D7.symm.trans h1) (D6.symm.trans h2)), o12 := (fun h => by rw [U7, U46, D11]; exact I.o12 (D12.symm.trans h)), i7 := (fun h => D4.trans (I.i7 (D7.symm.trans h))), i11 := (fun h => D7.trans (I.i11 (D11.symm.trans h))) }⟩
            · skip
              have D0 : (d.setIfInBounds 6 true).getD 0 false = d.getD 0 false := getD_set_ne false (by decide)
              have D1 : (d.setIfInBounds 6 true).getD 1 false = d.getD 1 false := getD_set_ne false (by decide)
              have D2 : (d.setIfInBounds 6 true).getD 2 false = d.getD 2 false := getD_set_ne false (by decide)
              have D3 : (d.setIfInBounds 6 true).getD 3 false = d.getD 3 false := getD_set_ne false (by decide)
              have D4 : (d.setIfInBounds 6 true).getD 4 false = d.getD 4 false := getD_set_ne false (by decide)
              have D5 : (d.setIfInBounds 6 true).getD 5 false = d.getD 5 false := getD_set_ne false (by decide)
              have D6 : (d.setIfInBounds 6 true).getD 6 false = true := getD_set_sameV hun
              have D7 : (d.setIfInBounds 6 true).getD 7 false = d.getD 7 false := getD_set_ne false (by decide)
              have D8 : (d.setIfInBounds 6 true).getD 8 false = d.getD 8 false := getD_set_ne false (by decide)
              have D9 : (d.setIfInBounds 6 true).getD 9 false = d.getD 9 false := getD_set_ne false (by decide)
              have D10 : (d.setIfInBounds 6 true).getD 10 false = d.getD 10 false := getD_set_ne false (by decide)
              have D11 : (d.setIfInBounds 6 true).getD 11 false = d.getD 11 false := getD_set_ne false (by decide)
              have D12 : (d.setIfInBounds 6 true).getD 12 false = d.getD 12 false := getD_set_ne false (by decide)
              have e40 := I.o5 (hall ⟨5, .data⟩ (by simp) rfl)
              have U0 : updAV us 41 (.slice (some ⟨W.heap.size, 0, none⟩) 1 1) 0 = us 0 := upd_otherV (by decide)
              have U3 : updAV us 41 (.slice (some ⟨W.heap.size, 0, none⟩) 1 1) 3 = us 3 := upd_otherV (by decide)
              have U6 : updAV us 41 (.slice (some ⟨W.heap.size, 0, none⟩) 1 1) 6 = us 6 := upd_otherV (by decide)
              have U7 : updAV us 41 (.slice (some ⟨W.heap.size, 0, none⟩) 1 1) 7 = us 7 := upd_otherV (by decide)
              have U35 : updAV us 41 (.slice (some ⟨W.heap.size, 0, none⟩) 1 1) 35 = us 35 := upd_otherV (by decide)
              have U36 : updAV us 41 (.slice (some ⟨W.heap.size, 0, none⟩) 1 1) 36 = us 36 := upd_otherV (by decide)
              have U37 : updAV us 41 (.slice (some ⟨W.heap.size, 0, none⟩) 1 1) 37 = us 37 := upd_otherV (by decide)
              have U38 : updAV us 41 (.slice (some ⟨W.heap.size, 0, none⟩) 1 1) 38 = us 38 := upd_otherV (by decide)
              have U39 : updAV us 41 (.slice (some ⟨W.heap.size, 0, none⟩) 1 1) 39 = us 39 := upd_otherV (by decide)
              have U40 : updAV us 41 (.slice (some ⟨W.heap.size, 0, none⟩) 1 1) 40 = us 40 := upd_otherV (by decide)
              have U41 : updAV us 41 (.slice (some ⟨W.heap.size, 0, none⟩) 1 1) 41 = (.slice (some ⟨W.heap.size, 0, none⟩) 1 1) := upd_sameV _ _ _
              have U42 : updAV us 41 (.slice (some ⟨W.heap.size, 0, none⟩) 1 1) 42 = us 42 := upd_otherV (by decide)
              have U43 : updAV us 41 (.slice (some ⟨W.heap.size, 0, none⟩) 1 1) 43 = us 43 := upd_otherV (by decide)
              have U44 : updAV us 41 (.slice (some ⟨W.heap.size, 0, none⟩) 1 1) 44 = us 44 := upd_otherV (by decide)
              have U45 : updAV us 41 (.slice (some ⟨W.heap.size, 0, none⟩) 1 1) 45 = us 45 := upd_otherV (by decide)
              have U46 : updAV us 41 (.slice (some ⟨W.heap.size, 0, none⟩) 1 1) 46 = us 46 := upd_otherV (by decide)
              refine wpOp_step rfl (fun K hK => ?_)
              simp only [frAV, e0, e3, e6, e40]
              go_simp
              refine hK _ _ ⟨updAV us 41 (.slice (some ⟨W.heap.size, 0, none⟩) 1 1), by simp [frAV, updAV, e0, e3, e6, e40], { u0 := (U0.trans I.u0), u3 := (U3.trans I.u3), u6 := (U6.trans I.u6), bel := (I.bel.alloc hsz _), o1 := (fun h => U36.trans (I.o1 (D1.symm.trans h))), o2 := (fun h => U37.trans (I.o2 (D2.symm.trans h))), o3 := (fun h => U38.trans (I.o3 (D3.symm.trans h))), o5 := (fun h => U40.trans (I.o5 (D5.symm.trans h))), o8 := (fun h => U43.trans (I.o8 (D8.symm.trans h))), o9 := (fun h => U44.trans (I.o9 (D9.symm.trans h))), o10 := (fun h => U45.trans (I.o10 (D10.symm.trans h))), o6 := (fun _ _ => by rw [U41]; exact ⟨_, rfl, heap_alloc_new W _, hsz⟩), r0 := (fun h0 h1 => by rw [U35]; exact (I.r0 (D0.symm.trans h0) (D4.symm.trans h1)).below (below_alloc _ _)), r4 := (fun h0 h1 => by rw [U39]; exact (I.r4 (D4.symm.trans h0) (D7.symm.trans h1)).below (below_alloc _ _)), r7 := (fun h0 h1 => by rw [U42]; exact (I.r7 (D7.symm.trans h0) (D11.symm.trans h1)).below (below_alloc _ _)), r11 := (fun h0 => by rw [U46]; exact (I.r11 (D11.symm.trans h0)).below (below_alloc _ _)), s0 := (fun h0 h1 h2 h3 => by rw [U35, U41]; exact sep_ltV fun k hk => (I.r0 (D0.symm.trans h0) (D4.symm.trans h1)).lt hk), s4 := (fun h0 h1 h2 => by rw [U39, U41]; exact sep_ltV fun k hk => (I.r4 (D4.symm.trans h0) (D7.symm.trans h1)).lt hk), o12 := (fun h => by rw [U7, U46, D11]; exact I.o12 (D12.symm.trans h)), i7 := (fun h => D4.trans (I.i7 (D7.symm.trans h))), i11 := (fun h => D7.trans (I.i11 (D11.symm.trans h))) }⟩
            · skip
              have D0 : (d.setIfInBounds 7 true).getD 0 false = d.getD 0 false := getD_set_ne false (by decide)
              have D1 : (d.setIfInBounds 7 true).getD 1 false = d.getD 1 false := getD_set_ne false (by decide)
              have D2 : (d.setIfInBounds 7 true).getD 2 false = d.getD 2 false := getD_set_ne false (by decide)
              have D3 : (d.setIfInBounds 7 true).getD 3 false = d.getD 3 false := getD_set_ne false (by decide)
              have D4 : (d.setIfInBounds 7 true).getD 4 false = d.getD 4 false := getD_set_ne false (by decide)
              have D5 : (d.setIfInBounds 7 true).getD 5 false = d.getD 5 false := getD_set_ne false (by decide)
              have D6 : (d.setIfInBounds 7 true).getD 6 false = d.getD 6 false := getD_set_ne false (by decide)
              have D7 : (d.setIfInBounds 7 true).getD 7 false = true := getD_set_sameV hun
              have D8 : (d.setIfInBounds 7 true).getD 8 false = d.getD 8 false := getD_set_ne false (by decide)
              have D9 : (d.setIfInBounds 7 true).getD 9 false = d.getD 9 false := getD_set_ne false (by decide)
              have D10 : (d.setIfInBounds 7 true).getD 10 false = d.getD 10 false := getD_set_ne false (by decide)
              have D11 : (d.setIfInBounds 7 true).getD 11 false = d.getD 11 false := getD_set_ne false (by decide)
              have D12 : (d.setIfInBounds 7 true).getD 12 false = d.getD 12 false := getD_set_ne false (by decide)
              have h44 := hall ⟨4, .data⟩ (by simp) rfl
              obtain ⟨B, e41, hRB⟩ := (I.o6 (hall ⟨6, .data⟩ (by simp) rfl) (getD_tfV hun)).row
              have hRow := I.r4 (hall ⟨4, .data⟩ (by simp) rfl) (getD_tfV hun)
              refine wpOp_append_sto rfl rfl (.tmp 39) (.tmp 41) rfl wq.heap.size (us 39) ((ps.take k)) rfl hRow (some ⟨B, 0, none⟩) 1 [x] e41 hRB (.inr ⟨_, _, rfl⟩) (by simp [hl1, hl3] <;> omega) hsz ?_
              intro v W2 hR2 hB hg hv
              have U0 : updAV us 42 (v) 0 = us 0 := upd_otherV (by decide)
              have U3 : updAV us 42 (v) 3 = us 3 := upd_otherV (by decide)
              have U6 : updAV us 42 (v) 6 = us 6 := upd_otherV (by decide)
              have U7 : updAV us 42 (v) 7 = us 7 := upd_otherV (by decide)
              have U35 : updAV us 42 (v) 35 = us 35 := upd_otherV (by decide)
              have U36 : updAV us 42 (v) 36 = us 36 := upd_otherV (by decide)
              have U37 : updAV us 42 (v) 37 = us 37 := upd_otherV (by decide)
              have U38 : updAV us 42 (v) 38 = us 38 := upd_otherV (by decide)
              have U39 : updAV us 42 (v) 39 = us 39 := upd_otherV (by decide)
              have U40 : updAV us 42 (v) 40 = us 40 := upd_otherV (by decide)
              have U41 : updAV us 42 (v) 41 = us 41 := upd_otherV (by decide)
              have U42 : updAV us 42 (v) 42 = (v) := upd_sameV _ _ _
              have U43 : updAV us 42 (v) 43 = us 43 := upd_otherV (by decide)
              have U44 : updAV us 42 (v) 44 = us 44 := upd_otherV (by decide)
              have U45 : updAV us 42 (v) 45 = us 45 := upd_otherV (by decide)
              have U46 : updAV us 42 (v) 46 = us 46 := upd_otherV (by decide)
              refine ⟨updAV us 42 v, by simp [frAV, updAV, Act.put], { u0 := (U0.trans I.u0), u3 := (U3.trans I.u3), u6 := (U6.trans I.u6), bel := (I.bel.trans hB), o1 := (fun h => U36.trans (I.o1 (D1.symm.trans h))), o2 := (fun h => U37.trans (I.o2 (D2.symm.trans h))), o3 := (fun h => U38.trans (I.o3 (D3.symm.trans h))), o5 := (fun h => U40.trans (I.o5 (D5.symm.trans h))), o8 := (fun h => U43.trans (I.o8 (D8.symm.trans h))), o9 := (fun h => U44.trans (I.o9 (D9.symm.trans h))), o10 := (fun h => U45.trans (I.o10 (D10.symm.trans h))), o6 := (fun h0 h1 => by rw [D7] at h1; cases h1), r0 := (fun h0 h1 => absurd h44 (by rw [D4.symm.trans h1]; exact Bool.false_ne_true)), r4 := (fun h0 h1 => by rw [D7] at h1; cases h1), r7 := (fun _ _ => by rw [U42]; exact hR2), r11 := (fun h0 => absurd (I.i11 (D11.symm.trans h0)) (by rw [getD_tfV hun]; exact Bool.false_ne_true)), s0 := (fun h0 h1 h2 h3 => by rw [D7] at h3; cases h3), s4 := (fun h0 h1 h2 => by rw [D7] at h1; cases h1), o12 := (fun h => by rw [U7, U46, D11]; exact I.o12 (D12.symm.trans h)), i7 := (fun _ => D4.trans h44), i11 := (fun _ => D7) }⟩
            · skip
              have D0 : (d.setIfInBounds 8 true).getD 0 false = d.getD 0 false := getD_set_ne false (by decide)
              have D1 : (d.setIfInBounds 8 true).getD 1 false = d.getD 1 false := getD_set_ne false (by decide)
              have D2 : (d.setIfInBounds 8 true).getD 2 false = d.getD 2 false := getD_set_ne false (by decide)
              have D3 : (d.setIfInBounds 8 true).getD 3 false = d.getD 3 false := getD_set_ne false (by decide)
              have D4 : (d.setIfInBounds 8 true).getD 4 false = d.getD 4 false := getD_set_ne false (by decide)
              have D5 : (d.setIfInBounds 8 true).getD 5 false = d.getD 5 false := getD_set_ne false (by decide)
              have D6 : (d.setIfInBounds 8 true).getD 6 false = d.getD 6 false := getD_set_ne false (by decide)
              have D7 : (d.setIfInBounds 8 true).getD 7 false = d.getD 7 false := getD_set_ne false (by decide)
              have D8 : (d.setIfInBounds 8 true).getD 8 false = true := getD_set_sameV hun
              have D9 : (d.setIfInBounds 8 true).getD 9 false = d.getD 9 false := getD_set_ne false (by decide)
              have D10 : (d.setIfInBounds 8 true).getD 10 false = d.getD 10 false := getD_set_ne false (by decide)
              have D11 : (d.setIfInBounds 8 true).getD 11 false = d.getD 11 false := getD_set_ne false (by decide)
              have D12 : (d.setIfInBounds 8 true).getD 12 false = d.getD 12 false := getD_set_ne false (by decide)
              have U0 : updAV us 43 (.slice (some ⟨g, off, none⟩) ps.length c) 0 = us 0 := upd_otherV (by decide)
              have U3 : updAV us 43 (.slice (some ⟨g, off, none⟩) ps.length c) 3 = us 3 := upd_otherV (by decide)
              have U6 : updAV us 43 (.slice (some ⟨g, off, none⟩) ps.length c) 6 = us 6 := upd_otherV (by decide)
              have U7 : updAV us 43 (.slice (some ⟨g, off, none⟩) ps.length c) 7 = us 7 := upd_otherV (by decide)
              have U35 : updAV us 43 (.slice (some ⟨g, off, none⟩) ps.length c) 35 = us 35 := upd_otherV (by decide)
              have U36 : updAV us 43 (.slice (some ⟨g, off, none⟩) ps.length c) 36 = us 36 := upd_otherV (by decide)
              have U37 : updAV us 43 (.slice (some ⟨g, off, none⟩) ps.length c) 37 = us 37 := upd_otherV (by decide)
              have U38 : updAV us 43 (.slice (some ⟨g, off, none⟩) ps.length c) 38 = us 38 := upd_otherV (by decide)
              have U39 : updAV us 43 (.slice (some ⟨g, off, none⟩) ps.length c) 39 = us 39 := upd_otherV (by decide)
              have U40 : updAV us 43 (.slice (some ⟨g, off, none⟩) ps.length c) 40 = us 40 := upd_otherV (by decide)
              have U41 : updAV us 43 (.slice (some ⟨g, off, none⟩) ps.length c) 41 = us 41 := upd_otherV (by decide)
              have U42 : updAV us 43 (.slice (some ⟨g, off, none⟩) ps.length c) 42 = us 42 := upd_otherV (by decide)
              have U43 : updAV us 43 (.slice (some ⟨g, off, none⟩) ps.length c) 43 = (.slice (some ⟨g, off, none⟩) ps.length c) := upd_sameV _ _ _
              have U44 : updAV us 43 (.slice (some ⟨g, off, none⟩) ps.length c) 44 = us 44 := upd_otherV (by decide)
              have U45 : updAV us 43 (.slice (some ⟨g, off, none⟩) ps.length c) 45 = us 45 := upd_otherV (by decide)
              have U46 : updAV us 43 (.slice (some ⟨g, off, none⟩) ps.length c) 46 = us 46 := upd_otherV (by decide)
              refine wpOp_step rfl (fun K hK => ?_)
              simp only [frAV, e0, e3, e6]
              go_simp
              refine hK _ _ ⟨updAV us 43 (.slice (some ⟨g, off, none⟩) ps.length c), by simp [frAV, updAV, e0, e3, e6], { u0 := (U0.trans I.u0), u3 := (U3.trans I.u3), u6 := (U6.trans I.u6), bel := (I.bel), o1 := (fun h => U36.trans (I.o1 (D1.symm.trans h))), o2 := (fun h => U37.trans (I.o2 (D2.symm.trans h))), o3 := (fun h => U38.trans (I.o3 (D3.symm.trans h))), o5 := (fun h => U40.trans (I.o5 (D5.symm.trans h))), o8 := (fun _ => U43), o9 := (fun h => U44.trans (I.o9 (D9.symm.trans h))), o10 := (fun h => U45.trans (I.o10 (D10.symm.trans h))), o6 := (fun h0 h1 => by rw [U41]; exact I.o6 (D6.symm.trans h0) (D7.symm.trans h1)), r0 := (fun h0 h1 => by rw [U35]; exact I.r0 (D0.symm.trans h0) (D4.symm.trans h1)), r4 := (fun h0 h1 => by rw [U39]; exact I.r4 (D4.symm.trans h0) (D7.symm.trans h1)), r7 := (fun h0 h1 => by rw [U42]; exact I.r7 (D7.symm.trans h0) (D11.symm.trans h1)), r11 := (fun h0 => by rw [U46]; exact I.r11 (D11.symm.trans h0)), s0 := (fun h0 h1 h2 h3 => by rw [U35, U41]; exact I.s0 (D0.symm.trans h0) (D4.symm.trans h1) (D6.symm.trans h2) (D7.symm.trans h3)), s4 := (fun h0 h1 h2 => by rw [U39, U41]; exact I.s4 (D4.symm.trans h0) (D7.symm.trans h1) (D6.symm.trans h2)), o12 := (fun h => by rw [U7, U46, D11]; exact I.o12 (D12.symm.trans h)), i7 := (fun h => D4.trans (I.i7 (D7.symm.trans h))), i11 := (fun h => D7.trans (I.i11 (D11.symm.trans h))) }⟩
            · skip
              have D0 : (d.setIfInBounds 9 true).getD 0 false = d.getD 0 false := getD_set_ne false (by decide)
              have D1 : (d.setIfInBounds 9 true).getD 1 false = d.getD 1 false := getD_set_ne false (by decide)
              have D2 : (d.setIfInBounds 9 true).getD 2 false = d.getD 2 false := getD_set_ne false (by decide)
              have D3 : (d.setIfInBounds 9 true).getD 3 false = d.getD 3 false := getD_set_ne false (by decide)
              have D4 : (d.setIfInBounds 9 true).getD 4 false = d.getD 4 false := getD_set_ne false (by decide)
              have D5 : (d.setIfInBounds 9 true).getD 5 false = d.getD 5 false := getD_set_ne false (by decide)
              have D6 : (d.setIfInBounds 9 true).getD 6 false = d.getD 6 false := getD_set_ne false (by decide)
              have D7 : (d.setIfInBounds 9 true).getD 7 false = d.getD 7 false := getD_set_ne false (by decide)
              have D8 : (d.setIfInBounds 9 true).getD 8 false = d.getD 8 false := getD_set_ne false (by decide)
              have D9 : (d.setIfInBounds 9 true).getD 9 false = true := getD_set_sameV hun
              have D10 : (d.setIfInBounds 9 true).getD 10 false = d.getD 10 false := getD_set_ne false (by decide)
              have D11 : (d.setIfInBounds 9 true).getD 11 false = d.getD 11 false := getD_set_ne false (by decide)
              have D12 : (d.setIfInBounds 9 true).getD 12 false = d.getD 12 false := getD_set_ne false (by decide)
              have U0 : updAV us 44 (.int .i64 ((k : Nat) : Int)) 0 = us 0 := upd_otherV (by decide)
              have U3 : updAV us 44 (.int .i64 ((k : Nat) : Int)) 3 = us 3 := upd_otherV (by decide)
              have U6 : updAV us 44 (.int .i64 ((k : Nat) : Int)) 6 = us 6 := upd_otherV (by decide)
              have U7 : updAV us 44 (.int .i64 ((k : Nat) : Int)) 7 = us 7 := upd_otherV (by decide)
              have U35 : updAV us 44 (.int .i64 ((k : Nat) : Int)) 35 = us 35 := upd_otherV (by decide)
              have U36 : updAV us 44 (.int .i64 ((k : Nat) : Int)) 36 = us 36 := upd_otherV (by decide)
              have U37 : updAV us 44 (.int .i64 ((k : Nat) : Int)) 37 = us 37 := upd_otherV (by decide)
              have U38 : updAV us 44 (.int .i64 ((k : Nat) : Int)) 38 = us 38 := upd_otherV (by decide)
              have U39 : updAV us 44 (.int .i64 ((k : Nat) : Int)) 39 = us 39 := upd_otherV (by decide)
              have U40 : updAV us 44 (.int .i64 ((k : Nat) : Int)) 40 = us 40 := upd_otherV (by decide)
              have U41 : updAV us 44 (.int .i64 ((k : Nat) : Int)) 41 = us 41 := upd_otherV (by decide)
              have U42 : updAV us 44 (.int .i64 ((k : Nat) : Int)) 42 = us 42 := upd_otherV (by decide)
              have U43 : updAV us 44 (.int .i64 ((k : Nat) : Int)) 43 = us 43 := upd_otherV (by decide)
              have U44 : updAV us 44 (.int .i64 ((k : Nat) : Int)) 44 = (.int .i64 ((k : Nat) : Int)) := upd_sameV _ _ _
              have U45 : updAV us 44 (.int .i64 ((k : Nat) : Int)) 45 = us 45 := upd_otherV (by decide)
              have U46 : updAV us 44 (.int .i64 ((k : Nat) : Int)) 46 = us 46 := upd_otherV (by decide)
              refine wpOp_step rfl (fun K hK => ?_)
              simp only [frAV, e0, e3, e6]
              go_simp
              refine hK _ _ ⟨updAV us 44 (.int .i64 ((k : Nat) : Int)), by simp [frAV, updAV, e0, e3, e6], { u0 := (U0.trans I.u0), u3 := (U3.trans I.u3), u6 := (U6.trans I.u6), bel := (I.bel), o1 := (fun h => U36.trans (I.o1 (D1.symm.trans h))), o2 := (fun h => U37.trans (I.o2 (D2.symm.trans h))), o3 := (fun h => U38.trans (I.o3 (D3.symm.trans h))), o5 := (fun h => U40.trans (I.o5 (D5.symm.trans h))), o8 := (fun h => U43.trans (I.o8 (D8.symm.trans h))), o9 := (fun _ => U44), o10 := (fun h => U45.trans (I.o10 (D10.symm.trans h))), o6 := (fun h0 h1 => by rw [U41]; exact I.o6 (D6.symm.trans h0) (D7.symm.trans h1)), r0 := (fun h0 h1 => by rw [U35]; exact I.r0 (D0.symm.trans h0) (D4.symm.trans h1)), r4 := (fun h0 h1 => by rw [U39]; exact I.r4 (D4.symm.trans h0) (D7.symm.trans h1)), r7 := (fun h0 h1 => by rw [U42]; exact I.r7 (D7.symm.trans h0) (D11.symm.trans h1)), r11 := (fun h0 => by rw [U46]; exact I.r11 (D11.symm.trans h0)), s0 := (fun h0 h1 h2 h3 => by rw [U35, U41]; exact I.s0 (D0.symm.trans h0) (D4.symm.trans h1) (D6.symm.trans h2) (D7.symm.trans h3)), s4 := (fun h0 h1 h2 => by rw [U39, U41]; exact I.s4 (D4.symm.trans h0) (D7.symm.trans h1) (D6.symm.trans h2)), o12 := (fun h => by rw [U7, U46, D11]; exact I.o12 (D12.symm.trans h)), i7 := (fun h => D4.trans (I.i7 (D7.symm.trans h))), i11 := (fun h => D7.trans (I.i11 (D11.symm.trans h))) }⟩
            · skip
              have D0 : (d.setIfInBounds 10 true).getD 0 false = d.getD 0 false := getD_set_ne false (by decide)
              have D1 : (d.setIfInBounds 10 true).getD 1 false = d.getD 1 false := getD_set_ne false (by decide)
              have D2 : (d.setIfInBounds 10 true).getD 2 false = d.getD 2 false := getD_set_ne false (by decide)
              have D3 : (d.setIfInBounds 10 true).getD 3 false = d.getD 3 false := getD_set_ne false (by decide)
              have D4 : (d.setIfInBounds 10 true).getD 4 false = d.getD 4 false := getD_set_ne false (by decide)
              have D5 : (d.setIfInBounds 10 true).getD 5 false = d.getD 5 false := getD_set_ne false (by decide)
              have D6 : (d.setIfInBounds 10 true).getD 6 false = d.getD 6 false := getD_set_ne false (by decide)
              have D7 : (d.setIfInBounds 10 true).getD 7 false = d.getD 7 false := getD_set_ne false (by decide)
              have D8 : (d.setIfInBounds 10 true).getD 8 false = d.getD 8 false := getD_set_ne false (by decide)
              have D9 : (d.setIfInBounds 10 true).getD 9 false = d.getD 9 false := getD_set_ne false (by decide)
              have D10 : (d.setIfInBounds 10 true).getD 10 false = true := getD_set_sameV hun
              have D11 : (d.setIfInBounds 10 true).getD 11 false = d.getD 11 false := getD_set_ne false (by decide)
              have D12 : (d.setIfInBounds 10 true).getD 12 false = d.getD 12 false := getD_set_ne false (by decide)
              have e43 := I.o8 (hall ⟨8, .data⟩ (by simp) rfl)
              have e44 := I.o9 (hall ⟨9, .data⟩ (by simp) rfl)
              have U0 : updAV us 45 (.slice (some ⟨g, off + k * 3, none⟩) (ps.length - k) (c - k)) 0 = us 0 := upd_otherV (by decide)
              have U3 : updAV us 45 (.slice (some ⟨g, off + k * 3, none⟩) (ps.length - k) (c - k)) 3 = us 3 := upd_otherV (by decide)
              have U6 : updAV us 45 (.slice (some ⟨g, off + k * 3, none⟩) (ps.length - k) (c - k)) 6 = us 6 := upd_otherV (by decide)
              have U7 : updAV us 45 (.slice (some ⟨g, off + k * 3, none⟩) (ps.length - k) (c - k)) 7 = us 7 := upd_otherV (by decide)
              have U35 : updAV us 45 (.slice (some ⟨g, off + k * 3, none⟩) (ps.length - k) (c - k)) 35 = us 35 := upd_otherV (by decide)
              have U36 : updAV us 45 (.slice (some ⟨g, off + k * 3, none⟩) (ps.length - k) (c - k)) 36 = us 36 := upd_otherV (by decide)
              have U37 : updAV us 45 (.slice (some ⟨g, off + k * 3, none⟩) (ps.length - k) (c - k)) 37 = us 37 := upd_otherV (by decide)
              have U38 : updAV us 45 (.slice (some ⟨g, off + k * 3, none⟩) (ps.length - k) (c - k)) 38 = us 38 := upd_otherV (by decide)
              have U39 : updAV us 45 (.slice (some ⟨g, off + k * 3, none⟩) (ps.length - k) (c - k)) 39 = us 39 := upd_otherV (by decide)
              have U40 : updAV us 45 (.slice (some ⟨g, off + k * 3, none⟩) (ps.length - k) (c - k)) 40 = us 40 := upd_otherV (by decide)
              have U41 : updAV us 45 (.slice (some ⟨g, off + k * 3, none⟩) (ps.length - k) (c - k)) 41 = us 41 := upd_otherV (by decide)
              have U42 : updAV us 45 (.slice (some ⟨g, off + k * 3, none⟩) (ps.length - k) (c - k)) 42 = us 42 := upd_otherV (by decide)
              have U43 : updAV us 45 (.slice (some ⟨g, off + k * 3, none⟩) (ps.length - k) (c - k)) 43 = us 43 := upd_otherV (by decide)
              have U44 : updAV us 45 (.slice (some ⟨g, off + k * 3, none⟩) (ps.length - k) (c - k)) 44 = us 44 := upd_otherV (by decide)
              have U45 : updAV us 45 (.slice (some ⟨g, off + k * 3, none⟩) (ps.length - k) (c - k)) 45 = (.slice (some ⟨g, off + k * 3, none⟩) (ps.length - k) (c - k)) := upd_sameV _ _ _
              have U46 : updAV us 45 (.slice (some ⟨g, off + k * 3, none⟩) (ps.length - k) (c - k)) 46 = us 46 := upd_otherV (by decide)
              refine wpOp_step rfl (fun K hK => ?_)
              simp only [frAV, e0, e3, e6, e43, e44]
              go_simp
              try (rw [if_pos (by omega)]; go_simp)
              refine hK _ _ ⟨updAV us 45 (.slice (some ⟨g, off + k * 3, none⟩) (ps.length - k) (c - k)), by simp [frAV, updAV, e0, e3, e6, e43, e44, e1s], { u0 := (U0.trans I.u0), u3 := (U3.trans I.u3), u6 := (U6.trans I.u6), bel := (I.bel), o1 := (fun h => U36.trans (I.o1 (D1.symm.trans h))), o2 := (fun h => U37.trans (I.o2 (D2.symm.trans h))), o3 := (fun h => U38.trans (I.o3 (D3.symm.trans h))), o5 := (fun h => U40.trans (I.o5 (D5.symm.trans h))), o8 := (fun h => U43.trans (I.o8 (D8.symm.trans h))), o9 := (fun h => U44.trans (I.o9 (D9.symm.trans h))), o10 := (fun _ => U45), o6 := (fun h0 h1 => by rw [U41]; exact I.o6 (D6.symm.trans h0) (D7.symm.trans h1)), r0 := (fun h0 h1 => by rw [U35]; exact I.r0 (D0.symm.trans h0) (D4.symm.trans h1)), r4 := (fun h0 h1 => by rw [U39]; exact I.r4 (D4.symm.trans h0) (D7.symm.trans h1)), r7 := (fun h0 h1 => by rw [U42]; exact I.r7 (D7.symm.trans h0) (D11.symm.trans h1)), r11 := (fun h0 => by rw [U46]; exact I.r11 (D11.symm.trans h0)), s0 := (fun h0 h1 h2 h3 => by rw [U35, U41]; exact I.s0 (D0.symm.trans h0) (D4.symm.trans h1) (D6.symm.trans h2) (D7.symm.trans h3)), s4 := (fun h0 h1 h2 => by rw [U39, U41]; exact I.s4 (D4.symm.trans h0) (D7.symm.trans h1) (D6.symm.trans h2)), o12 := (fun h => by rw [U7, U46, D11]; exact I.o12 (D12.symm.trans h)), i7 := (fun h => D4.trans (I.i7 (D7.symm.trans h))), i11 := (fun h => D7.trans (I.i11 (D11.symm.trans h))) }⟩
            · skip
              have D0 : (d.setIfInBounds 11 true).getD 0 false = d.getD 0 false := getD_set_ne false (by decide)
              have D1 : (d.setIfInBounds 11 true).getD 1 false = d.getD 1 false := getD_set_ne false (by decide)
              have D2 : (d.setIfInBounds 11 true).getD 2 false = d.getD 2 false := getD_set_ne false (by decide)
              have D3 : (d.setIfInBounds 11 true).getD 3 false = d.getD 3 false := getD_set_ne false (by decide)
              have D4 : (d.setIfInBounds 11 true).getD 4 false = d.getD 4 false := getD_set_ne false (by decide)
              have D5 : (d.setIfInBounds 11 true).getD 5 false = d.getD 5 false := getD_set_ne false (by decide)
              have D6 : (d.setIfInBounds 11 true).getD 6 false = d.getD 6 false := getD_set_ne false (by decide)
              have D7 : (d.setIfInBounds 11 true).getD 7 false = d.getD 7 false := getD_set_ne false (by decide)
              have D8 : (d.setIfInBounds 11 true).getD 8 false = d.getD 8 false := getD_set_ne false (by decide)
              have D9 : (d.setIfInBounds 11 true).getD 9 false = d.getD 9 false := getD_set_ne false (by decide)
              have D10 : (d.setIfInBounds 11 true).getD 10 false = d.getD 10 false := getD_set_ne false (by decide)
              have D11 : (d.setIfInBounds 11 true).getD 11 false = true := getD_set_sameV hun
              have D12 : (d.setIfInBounds 11 true).getD 12 false = d.getD 12 false := getD_set_ne false (by decide)
              have e45 := I.o10 (hall ⟨10, .data⟩ (by simp) rfl)
              have h77 := hall ⟨7, .data⟩ (by simp) rfl
              have hRow := I.r7 (hall ⟨7, .data⟩ (by simp) rfl) (getD_tfV hun)
              refine wpOp_append_sto rfl rfl (.tmp 42) (.tmp 45) rfl wq.heap.size (us 42) ((ps.take k) ++ [x]) rfl hRow (some ⟨g, off + k * 3, none⟩) ((c - k)) ((ps.drop k)) (by show us 45 = _; rw [e45] <;> simp [hl3]) (q3.below I.bel) (.inr ⟨_, _, rfl⟩) (by simp [hl1, hl3] <;> omega) hsz ?_
              intro v W2 hR2 hB hg hv
              have U0 : updAV us 46 (v) 0 = us 0 := upd_otherV (by decide)
              have U3 : updAV us 46 (v) 3 = us 3 := upd_otherV (by decide)
              have U6 : updAV us 46 (v) 6 = us 6 := upd_otherV (by decide)
              have U7 : updAV us 46 (v) 7 = us 7 := upd_otherV (by decide)
              have U35 : updAV us 46 (v) 35 = us 35 := upd_otherV (by decide)
              have U36 : updAV us 46 (v) 36 = us 36 := upd_otherV (by decide)
              have U37 : updAV us 46 (v) 37 = us 37 := upd_otherV (by decide)
              have U38 : updAV us 46 (v) 38 = us 38 := upd_otherV (by decide)
              have U39 : updAV us 46 (v) 39 = us 39 := upd_otherV (by decide)
              have U40 : updAV us 46 (v) 40 = us 40 := upd_otherV (by decide)
              have U41 : updAV us 46 (v) 41 = us 41 := upd_otherV (by decide)
              have U42 : updAV us 46 (v) 42 = us 42 := upd_otherV (by decide)
              have U43 : updAV us 46 (v) 43 = us 43 := upd_otherV (by decide)
              have U44 : updAV us 46 (v) 44 = us 44 := upd_otherV (by decide)
              have U45 : updAV us 46 (v) 45 = us 45 := upd_otherV (by decide)
              have U46 : updAV us 46 (v) 46 = (v) := upd_sameV _ _ _
              refine ⟨updAV us 46 v, by simp [frAV, updAV, Act.put], { u0 := (U0.trans I.u0), u3 := (U3.trans I.u3), u6 := (U6.trans I.u6), bel := (I.bel.trans hB), o1 := (fun h => U36.trans (I.o1 (D1.symm.trans h))), o2 := (fun h => U37.trans (I.o2 (D2.symm.trans h))), o3 := (fun h => U38.trans (I.o3 (D3.symm.trans h))), o5 := (fun h => U40.trans (I.o5 (D5.symm.trans h))), o8 := (fun h => U43.trans (I.o8 (D8.symm.trans h))), o9 := (fun h => U44.trans (I.o9 (D9.symm.trans h))), o10 := (fun h => U45.trans (I.o10 (D10.symm.trans h))), o6 := (fun h0 h1 => absurd h77 (by rw [D7.symm.trans h1]; exact Bool.false_ne_true)), r0 := (fun h0 h1 => absurd (I.i7 h77) (by rw [D4.symm.trans h1]; exact Bool.false_ne_true)), r4 := (fun h0 h1 => absurd h77 (by rw [D7.symm.trans h1]; exact Bool.false_ne_true)), r7 := (fun h0 h1 => by rw [D11] at h1; cases h1), r11 := (fun _ => by rw [U46]; exact hR2), s0 := (fun h0 h1 h2 h3 => by rw [U35, U41]; exact I.s0 (D0.symm.trans h0) (D4.symm.trans h1) (D6.symm.trans h2) (D7.symm.trans h3)), s4 := (fun h0 h1 h2 => by rw [U39, U41]; exact I.s4 (D4.symm.trans h0) (D7.symm.trans h1) (D6.symm.trans h2)), o12 := (fun h => absurd (I.o12 (D12.symm.trans h)).2 (by rw [getD_tfV hun]; exact Bool.false_ne_true)), i7 := (fun h => D4.trans (I.i7 (D7.symm.trans h))), i11 := (fun _ => D7.trans h77) }⟩
            · skip
              have D0 : (d.setIfInBounds 12 true).getD 0 false = d.getD 0 false := getD_set_ne false (by decide)
              have D1 : (d.setIfInBounds 12 true).getD 1 false = d.getD 1 false := getD_set_ne false (by decide)
              have D2 : (d.setIfInBounds 12 true).getD 2 false = d.getD 2 false := getD_set_ne false (by decide)
              have D3 : (d.setIfInBounds 12 true).getD 3 false = d.getD 3 false := getD_set_ne false (by decide)
              have D4 : (d.setIfInBounds 12 true).getD 4 false = d.getD 4 false := getD_set_ne false (by decide)
              have D5 : (d.setIfInBounds 12 true).getD 5 false = d.getD 5 false := getD_set_ne false (by decide)
              have D6 : (d.setIfInBounds 12 true).getD 6 false = d.getD 6 false := getD_set_ne false (by decide)
              have D7 : (d.setIfInBounds 12 true).getD 7 false = d.getD 7 false := getD_set_ne false (by decide)
              have D8 : (d.setIfInBounds 12 true).getD 8 false = d.getD 8 false := getD_set_ne false (by decide)
              have D9 : (d.setIfInBounds 12 true).getD 9 false = d.getD 9 false := getD_set_ne false (by decide)
              have D10 : (d.setIfInBounds 12 true).getD 10 false = d.getD 10 false := getD_set_ne false (by decide)
              have D11 : (d.setIfInBounds 12 true).getD 11 false = d.getD 11 false := getD_set_ne false (by decide)
              have D12 : (d.setIfInBounds 12 true).getD 12 false = true := getD_set_sameV hun
              have h11 := hall ⟨11, .data⟩ (by simp) rfl
              have U0 : updAV us 7 (us 46) 0 = us 0 := upd_otherV (by decide)
              have U3 : updAV us 7 (us 46) 3 = us 3 := upd_otherV (by decide)
              have U6 : updAV us 7 (us 46) 6 = us 6 := upd_otherV (by decide)
              have U7 : updAV us 7 (us 46) 7 = (us 46) := upd_sameV _ _ _
              have U35 : updAV us 7 (us 46) 35 = us 35 := upd_otherV (by decide)
              have U36 : updAV us 7 (us 46) 36 = us 36 := upd_otherV (by decide)
              have U37 : updAV us 7 (us 46) 37 = us 37 := upd_otherV (by decide)
              have U38 : updAV us 7 (us 46) 38 = us 38 := upd_otherV (by decide)
              have U39 : updAV us 7 (us 46) 39 = us 39 := upd_otherV (by decide)
              have U40 : updAV us 7 (us 46) 40 = us 40 := upd_otherV (by decide)
              have U41 : updAV us 7 (us 46) 41 = us 41 := upd_otherV (by decide)
              have U42 : updAV us 7 (us 46) 42 = us 42 := upd_otherV (by decide)
              have U43 : updAV us 7 (us 46) 43 = us 43 := upd_otherV (by decide)
              have U44 : updAV us 7 (us 46) 44 = us 44 := upd_otherV (by decide)
              have U45 : updAV us 7 (us 46) 45 = us 45 := upd_otherV (by decide)
              have U46 : updAV us 7 (us 46) 46 = us 46 := upd_otherV (by decide)
              refine wpOp_step rfl (fun K hK => ?_)
              simp only [frAV, e0, e3, e6]
              go_simp
              refine hK _ _ ⟨updAV us 7 (us 46), by simp [frAV, updAV, e0, e3, e6], { u0 := (U0.trans I.u0), u3 := (U3.trans I.u3), u6 := (U6.trans I.u6), bel := (I.bel), o1 := (fun h => U36.trans (I.o1 (D1.symm.trans h))), o2 := (fun h => U37.trans (I.o2 (D2.symm.trans h))), o3 := (fun h => U38.trans (I.o3 (D3.symm.trans h))), o5 := (fun h => U40.trans (I.o5 (D5.symm.trans h))), o8 := (fun h => U43.trans (I.o8 (D8.symm.trans h))), o9 := (fun h => U44.trans (I.o9 (D9.symm.trans h))), o10 := (fun h => U45.trans (I.o10 (D10.symm.trans h))), o6 := (fun h0 h1 => by rw [U41]; exact I.o6 (D6.symm.trans h0) (D7.symm.trans h1)), r0 := (fun h0 h1 => by rw [U35]; exact I.r0 (D0.symm.trans h0) (D4.symm.trans h1)), r4 := (fun h0 h1 => by rw [U39]; exact I.r4 (D4.symm.trans h0) (D7.symm.trans h1)), r7 := (fun h0 h1 => by rw [U42]; exact I.r7 (D7.symm.trans h0) (D11.symm.trans h1)), r11 := (fun h0 => by rw [U46]; exact I.r11 (D11.symm.trans h0)), s0 := (fun h0 h1 h2 h3 => by rw [U35, U41]; exact I.s0 (D0.symm.trans h0) (D4.symm.trans h1) (D6.symm.trans h2) (D7.symm.trans h3)), s4 := (fun h0 h1 h2 => by rw [U39, U41]; exact I.s4 (D4.symm.trans h0) (D7.symm.trans h1) (D6.symm.trans h2)), o12 := (fun _ => ⟨by rw [U7, U46], by rw [D11]; exact h11⟩), i7 := (fun h => D4.trans (I.i7 (D7.symm.trans h))), i11 := (fun h => D7.trans (I.i11 (D11.symm.trans h))) }⟩
          · intro d a W hd hall hI
            obtain ⟨us, rfl, I⟩ := hI
            have D : ∀ k, k < 13 → d.getD k false = true := fun k hk => by
              have := hall k hk
              have hk2 : k < d.size := by rw [hd]; exact hk
              simp [hk2] at this ⊢; exact this
            obtain ⟨h7, h11⟩ := I.o12 (D 12 (by decide))
            obtain ⟨O, q, e46, hO⟩ := I.r11 h11
            have e7 := h7.trans e46
            have e3 := I.u3
            have hbel := I.bel
            rw [hjoin] at e7 hO
            clear I hall D h7 e46
            have htx := insAt_sz (k := k) hst hx
            have tb : VTbl W O (insAt ps k x) := ⟨hO.row, htx, by rw [insAt_len x hk]; omega⟩
            simp only [frAV, e7, e3]
            rcases Bool.eq_false_or_eq_true (voyB (insAt ps k x)) with hb | hb
            · have E := Lib.hid (HQ0.out hb)
              go_wp2_with (go_at_call 31; refine (voyS_q tb hb).mono ?_; rintro e w4 ⟨rfl, b4⟩)
              go_ret2
              rw [E.out]
              exact ⟨O, q, rfl, (hO.mono hkq.bel.size).below b4, belowGo (hkq.bel.trans (hbel.mono hkq.bel.size)) b4⟩
            · have E := Lib.hid (HQ1.out hb)
              go_wp2_with (go_at_call 31; refine (voyS_q tb hb).mono ?_; rintro e w4 ⟨rfl, b4⟩)
              go_ret2
              rw [E.out]
              exact ⟨none, 0, rfl, World.ownsRow_nil _ _ _ _, belowGo (hkq.bel.trans (hbel.mono hkq.bel.size)) b4⟩
    · obtain rfl : k = ps.length := by omega
      have hE : plcN ps x.i = ps.length := plcN_eq hk hlo.out (fun q hq => by rw [List.getElem?_eq_none (Nat.le_refl _)] at hq; cases hq)
      have E := Lib.hid (HEnd.out (.inr hE))
      have hd : decide ((ps.length : Int) < (ps.length : Int)) = false := by simp
      have z0 : ((ps.length : Int) == 0) = false := beq_eq_false_iff_ne.2 (by omega)
      have z1 : ((ps.length : Int) == (ps.length : Int)) = true := by simp
      clear HOk HBad hlo HR0 hE HEnd
      go_wp2_with fail
      refine region_held (Bel wr) (by kernel_rfl) (by kernel_rfl) (Bel.drew wr) ?_
      repeat (go_big_quiet_step ((first | rfl)))
      refine wpQuiet_nil ?_
      rintro _ ⟨y2, rfl⟩
      go_wp2_with fail
      go_ret2
      rw [E.out]
      exact ⟨none, 0, rfl, World.ownsRow_nil _ _ _ _, (HK.out y2).bel⟩
theorem refuge_s (A : Option Addr) (c : Nat) (ps : List Sto) (x : Sto) (w : World) (h : VTblC w A c ps) (hx : x.sz ≤ 1048600) :
    Calls Try.prog 22 #[.slice A ps.length c, .agg #[.string ⟨x.p.toArray⟩, .int .i64 x.i, .int .i64 x.o]] w (NewStosC w (insR ps x)) := by
  rcases Bool.eq_false_or_eq_true (voyB ps) with hv | hv
  · exact refuge_s_ok A c ps x w h hx hv
  · have kb := KeepV.new w x
    have h0 := (h.below kb.bel).tbl
    have HT := Lib.hid (voyS_q (c := c) h0 hv)
    have E := Lib.hid (insR_no (s := x) hv)
    clear h h0 hv
    go_enter Try.func22, Try.ntmps22
    go_wp2_with (go_at_call 31; refine HT.out.mono ?_; rintro e w1 ⟨rfl, b1⟩; have kb1 := kb.step b1)
    go_ret2
    rw [E.out]
    exact ⟨none, 0, rfl, World.ownsRow_nil _ _ _ _, kb1.bel⟩
end Go.Proofs.Ytklhcofonkmiiaa
