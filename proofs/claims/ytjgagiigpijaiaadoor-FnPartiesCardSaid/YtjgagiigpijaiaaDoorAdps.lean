/- spec.AddParty. (by gen_app3.py) -/
import Derived.Test.YtjgagiigpijaiaaDoorAdpr
namespace Go.Proofs.YtjgagiigpijaiaaDoor
open Go.ChangeShapes Go.WideShapes Go.ChangeAt Go.RowKit
set_option linter.unusedVariables false

theorem PtyR.drop {w : World} {g off : Nat} {rs : List Pty} (h : PtyR w (some ⟨g, off, none⟩) rs) (k : Nat) : PtyR w (some ⟨g, off + k * 3, none⟩) (rs.drop k) := fun hp => by
  have hl := flat_len Pty.cells 3 (fun _ => rfl) rs
  have hl2 := flat_len Pty.cells 3 (fun _ => rfl) (rs.drop k)
  rw [List.length_drop] at hl2
  obtain ⟨b, o, e, hb, hcell⟩ := h (by omega)
  simp only [Option.some.injEq, Addr.mk.injEq, and_true] at e
  obtain ⟨rfl, rfl⟩ := e
  refine ⟨g, off + k * 3, rfl, hb, fun j v hj => ?_⟩
  have hsp : rs.flatMap Pty.cells = (rs.take k).flatMap Pty.cells ++ (rs.drop k).flatMap Pty.cells := by rw [← List.flatMap_append, List.take_append_drop]
  have hlt := flat_len Pty.cells 3 (fun _ => rfl) (rs.take k)
  rw [List.length_take, Nat.min_eq_left (by omega)] at hlt
  rw [Nat.add_assoc]
  refine hcell (k * 3 + j) v ?_
  rw [hsp, List.getElem?_append_right (by omega), hlt, Nat.add_sub_cancel_left]
  exact hj
theorem PtyR.take {w : World} {A : Option Addr} {rs : List Pty} (h : PtyR w A rs) (k : Nat) : PtyR w A (rs.take k) := fun hp => by
  have hsp : rs.flatMap Pty.cells = (rs.take k).flatMap Pty.cells ++ (rs.drop k).flatMap Pty.cells := by rw [← List.flatMap_append, List.take_append_drop]
  obtain ⟨b, o, e, hb, hcell⟩ := h (by rw [hsp, List.length_append]; omega)
  refine ⟨b, o, e, hb, fun j v hj => hcell j v ?_⟩
  rw [hsp, List.getElem?_append_left (List.getElem?_eq_some_iff.1 hj).1]; exact hj
theorem PtyR.none {w : World} {A : Option Addr} : PtyR w A [] := fun hp => absurd hp (by simp)
theorem addP_at {ps : List Pty} {x : Pty} (ho : ordTo ps ps.length = true) {k : Nat} (hk : k ≤ ps.length) (hlo : ∀ (j : Nat) (q : Pty), j < k → ps[j]? = some q → Op.bytesLess q.c x.c = true) (hhi : ∀ q : Pty, ps[k]? = some q → Op.bytesLess q.c x.c = false) : addP ps x = ps.take k ++ [x] ++ ps.drop k := by
  have : plc ps x.c = k := plc_eq hk hlo fun i q hi hq => by
    rcases Nat.lt_or_ge k i with h3 | h3
    · have hkl : k < ps.length := by have := (List.getElem?_eq_some_iff.1 hq).1; omega
      have h1 := hhi _ (List.getElem?_eq_getElem hkl)
      cases hx : Op.bytesLess q.c x.c with
      | false => rfl
      | true => have := less_trans (ord_before ho h3 (List.getElem?_eq_getElem hkl) hq) hx; rw [h1] at this; cases this
    · obtain rfl : k = i := by omega
      exact hhi q hq
  unfold addP; rw [this]

set_option maxRecDepth 100000 in
set_option maxHeartbeats 16000000 in
theorem addp_s_ok (A : Option Addr) (c : Nat) (ps : List Pty) (x : Pty) (w : World) (h : PTbl w A ps) (hA : (A = none ∧ c = 0) ∨ ∃ b off, A = some ⟨b, off, none⟩) (hcap : ps.length ≤ c) (hx : x.sz ≤ 1048576) (hr : regB ps = true) (hv : x.ok = true) :
    Calls Tryd.prog 17 #[.slice A ps.length c, .agg #[.string ⟨x.c.toArray⟩, .int .i64 x.k, .string ⟨x.a.toArray⟩]] w (NewPtysC w (addPR ps x)) := by
  have kb := KeepP.new w x
  obtain ⟨hxc, hxa⟩ := sz_c hx
  have h0 := h.below kb.bel
  have hn := (regB_iff.1 hr).1
  have hst := h.txt
  have HT := Lib.hid (isRegS_q (c := c) h0 hr)
  have HV := Lib.hid (fun w => (pvalid_s x w hxc hxa))
  rw [hv] at HV
  go_enter Tryd.func17, Tryd.ntmps17
  go_wp2_with (first
    | (go_at_call 51; refine HT.out.mono ?_; rintro e w1 ⟨rfl, b1⟩; have kb1 := kb.step b1; have c0 := kb1.cells.c0; have c1 := kb1.cells.c1; have c2 := kb1.cells.c2)
    | (go_at_call 52; refine (HV.out _).mono ?_; rintro e w2 ⟨rfl, b2⟩; have kb2 := kb1.step b2))
  go_loopw [6] (fun i wr => ∃ k : Nat, k ≤ ps.length ∧ i = .int .i64 k ∧ Hid (∀ (j : Nat) (q : Pty), j < k → ps[j]? = some q → Op.bytesLess q.c x.c = true) ∧ KeepP w x wr) (fun i _ => ps.length - (intOf i).toNat)
  case atStart => exact ⟨0, Nat.zero_le _, rfl, Lib.hid (fun j q hj => by omega), kb2⟩
  case round =>
    obtain ⟨k, hk, rfl, hlo, hkeep⟩ := hrel
    have HK := Lib.hid (fun y : Sub (Bel wr) => hkeep.step y.h)
    by_cases hlt : k < ps.length
    · obtain ⟨g, off, p, rfl, hl, hp, h4⟩ := (h.row.below hkeep.bel).at hlt
      have p0 : ∀ y : Sub (Bel wr), y.w.cell? ⟨g, off + k * 3, none⟩ = some (.string ⟨p.c.toArray⟩) := fun y => (h4.below hl y.h).c0
      have r0 : ∀ y : Sub (Bel wr), y.w.cell? ⟨w.heap.size, 0, none⟩ = some (.string ⟨x.c.toArray⟩) := fun y => (hkeep.step y.h).cells.c0
      rcases Bool.eq_false_or_eq_true (Op.bytesLess p.c x.c) with hbl | hbl
      · have HN : Hid (∀ (j : Nat) (q : Pty), j < k + 1 → ps[j]? = some q → Op.bytesLess q.c x.c = true) := Lib.hid fun j q hj hq => by
          rcases Nat.lt_or_ge j k with h1 | h1
          · exact hlo.out j q h1 hq
          · obtain rfl : j = k := by omega
            rw [hp.out] at hq; rw [← Option.some.inj hq]; exact hbl
        clear hlo hp h4 h h0 HT HV hA
        go_wp2_with fail
        refine region_held (Bel wr) (by kernel_rfl) (by kernel_rfl) (Bel.drew wr) ?_
        repeat (go_big_quiet_step ((first | rfl)))
        refine wpQuiet_nil ?_
        rintro _ ⟨y2, rfl⟩
        go_wp2_with fail
        go_roundw
        case rel => exact ⟨k + 1, by omega, by go_num, HN, HK.out y2⟩
        case measure => simp [intOf]; omega
      · have hjoin : ps.take k ++ [x] ++ ps.drop k = addP ps x := (addP_at (regB_iff.1 hr).2.1 hk hlo.out fun q hq => by rw [hp.out] at hq; rw [← Option.some.inj hq]; exact hbl).symm
        have HR := Lib.hid (fun y : Sub (Bel wr) => h.row.below (HK.out y).bel)
        clear HT HV hlo hp h4 h h0 hA
        go_wp2_with fail
        refine region_held (Bel wr) (by kernel_rfl) (by kernel_rfl) (Bel.drew wr) ?_
        repeat (go_big_quiet_step ((first | rfl)))
        refine wpQuiet_nil ?_
        rintro _ ⟨y2, rfl⟩
        go_wp2_with fail
        have hkq := HK.out y2
        have hRq := HR.out y2
        generalize y2.w = wq at *
        have q1 := hRq.take k
        have q3 := hRq.drop k
        have hbox := hkq.cells
        have hb0 : w.heap.size < wq.heap.size := lt_some hkq.a
        have e1 : k ≠ c := by omega
        have e1s : ¬ c = k := by omega
        have e2 : k < c := by omega
        have hl1 : ((ps.take k)).length = k := by rw [List.length_take]; omega
        have hl3 : ((ps.drop k)).length = (ps.length - k) := by rw [List.length_drop]
        refine region_inv (by kernel_rfl) (by kernel_rfl) (fun d a W => ∃ us, a = frA us ∧ InvA wq.heap.size (w.heap.size) (ps.length) (c) (k) (some ⟨g, off, none⟩) (.slice (some ⟨g, off, none⟩) k c) (.slice (some ⟨g, off + k * 3, none⟩) (ps.length - k) (c - k)) ((ps.take k)) ((ps.drop k)) x wq d us W) ?_ ?_ ?_
        · refine ⟨_, frA_of, ?_⟩
          have Z : ∀ k, (Array.replicate 13 false).getD k false = false := fun k => by
            rcases Nat.lt_or_ge k 13 with h | h
            · simp [h]
            · simp [Array.getElem?_eq_none, h]
          have Zn : ∀ {k : Nat} {p : Prop}, (Array.replicate 13 false).getD k false = true → p := fun {k p} h => by rw [Z k] at h; cases h
          exact { u0 := rfl, u3 := rfl, u6 := rfl, bel := (Below.refl _ _).drew, o1 := Zn, o2 := Zn, o3 := Zn, o5 := Zn, o8 := Zn, o9 := Zn, o10 := Zn, o6 := Zn, r0 := Zn, r4 := Zn, r7 := Zn, r11 := Zn, s0 := Zn, s4 := Zn, o12 := Zn, i7 := Zn, i11 := Zn }
        · intro i d a W hi hI
          obtain ⟨hun, oi, hoi, hall⟩ := mem_ready.1 hi
          have hlt : i < 13 := (Array.getElem?_eq_some_iff.1 hoi).1
          obtain ⟨us, rfl, I⟩ := hI
          have hsz : wq.heap.size ≤ W.heap.size := I.bel.size
          have e0 := I.u0
          have e3 := I.u3
          have e6 := I.u6
          rcases (by omega : i = 0 ∨ i = 1 ∨ i = 2 ∨ i = 3 ∨ i = 4 ∨ i = 5 ∨ i = 6 ∨ i = 7 ∨ i = 8 ∨ i = 9 ∨ i = 10 ∨ i = 11 ∨ i = 12) with rfl | rfl | rfl | rfl | rfl | rfl | rfl | rfl | rfl | rfl | rfl | rfl | rfl
          all_goals
            obtain rfl := Option.some.inj hoi
            clear hoi hlt hi
          · skip
            have D0 : (d.setIfInBounds 0 true).getD 0 false = true := getD_set_same hun
            have D1 : (d.setIfInBounds 0 true).getD 1 false = d.getD 1 false := getD_set_ne false (by decide)
            have D2 : (d.setIfInBounds 0 true).getD 2 false = d.getD 2 false := getD_set_ne false (by decide)
            have D3 : (d.setIfInBounds 0 true).getD 3 false = d.getD 3 false := getD_set_ne false (by decide)
            have D4 : (d.setIfInBounds 0 true).getD 4 false = d.getD 4 false := getD_set_ne false (by decide)
            have D5 : (d.setIfInBounds 0 true).getD 5 false = d.getD 5 false := getD_set_ne false (by decide)
            have D6 : (d.setIfInBounds 0 true).getD 6 false = d.getD 6 false := getD_set_ne false (by decide)
            have D7 : (d.setIfInBounds 0 true).getD 7 false = d.getD 7 false := getD_set_ne false (by decide)
            have D8 : (d.setIfInBounds 0 true).getD 8 false = d.getD 8 false := getD_set_ne false (by decide)
            have D9 : (d.setIfInBounds 0 true).getD 9 false = d.getD 9 false := getD_set_ne false (by decide)
            have D10 : (d.setIfInBounds 0 true).getD 10 false = d.getD 10 false := getD_set_ne false (by decide)
            have D11 : (d.setIfInBounds 0 true).getD 11 false = d.getD 11 false := getD_set_ne false (by decide)
            have D12 : (d.setIfInBounds 0 true).getD 12 false = d.getD 12 false := getD_set_ne false (by decide)
            have U0 : updA us 32 (.slice (some ⟨W.heap.size, 0, none⟩) 0 0) 0 = us 0 := upd_other (by decide)
            have U3 : updA us 32 (.slice (some ⟨W.heap.size, 0, none⟩) 0 0) 3 = us 3 := upd_other (by decide)
            have U6 : updA us 32 (.slice (some ⟨W.heap.size, 0, none⟩) 0 0) 6 = us 6 := upd_other (by decide)
            have U7 : updA us 32 (.slice (some ⟨W.heap.size, 0, none⟩) 0 0) 7 = us 7 := upd_other (by decide)
            have U32 : updA us 32 (.slice (some ⟨W.heap.size, 0, none⟩) 0 0) 32 = (.slice (some ⟨W.heap.size, 0, none⟩) 0 0) := upd_same _ _ _
            have U33 : updA us 32 (.slice (some ⟨W.heap.size, 0, none⟩) 0 0) 33 = us 33 := upd_other (by decide)
            have U34 : updA us 32 (.slice (some ⟨W.heap.size, 0, none⟩) 0 0) 34 = us 34 := upd_other (by decide)
            have U35 : updA us 32 (.slice (some ⟨W.heap.size, 0, none⟩) 0 0) 35 = us 35 := upd_other (by decide)
            have U36 : updA us 32 (.slice (some ⟨W.heap.size, 0, none⟩) 0 0) 36 = us 36 := upd_other (by decide)
            have U37 : updA us 32 (.slice (some ⟨W.heap.size, 0, none⟩) 0 0) 37 = us 37 := upd_other (by decide)
            have U38 : updA us 32 (.slice (some ⟨W.heap.size, 0, none⟩) 0 0) 38 = us 38 := upd_other (by decide)
            have U39 : updA us 32 (.slice (some ⟨W.heap.size, 0, none⟩) 0 0) 39 = us 39 := upd_other (by decide)
            have U40 : updA us 32 (.slice (some ⟨W.heap.size, 0, none⟩) 0 0) 40 = us 40 := upd_other (by decide)
            have U41 : updA us 32 (.slice (some ⟨W.heap.size, 0, none⟩) 0 0) 41 = us 41 := upd_other (by decide)
            have U42 : updA us 32 (.slice (some ⟨W.heap.size, 0, none⟩) 0 0) 42 = us 42 := upd_other (by decide)
            have U43 : updA us 32 (.slice (some ⟨W.heap.size, 0, none⟩) 0 0) 43 = us 43 := upd_other (by decide)
            refine wpOp_step rfl (fun K hK => ?_)
            simp only [frA, e0, e3, e6]
            go_simp
            refine hK _ _ ⟨updA us 32 (.slice (some ⟨W.heap.size, 0, none⟩) 0 0), by simp [frA, updA, e0, e3, e6], { u0 := (U0.trans I.u0), u3 := (U3.trans I.u3), u6 := (U6.trans I.u6), bel := (I.bel.alloc hsz _), o1 := (fun h => U33.trans (I.o1 (D1.symm.trans h))), o2 := (fun h => U34.trans (I.o2 (D2.symm.trans h))), o3 := (fun h => U35.trans (I.o3 (D3.symm.trans h))), o5 := (fun h => U37.trans (I.o5 (D5.symm.trans h))), o8 := (fun h => U40.trans (I.o8 (D8.symm.trans h))), o9 := (fun h => U41.trans (I.o9 (D9.symm.trans h))), o10 := (fun h => U42.trans (I.o10 (D10.symm.trans h))), o6 := (fun h0 h1 => by rw [U38]; exact (I.o6 (D6.symm.trans h0) (D7.symm.trans h1)).below (below_alloc _ _)), r0 := (fun h0 h1 => by rw [U32]; exact ⟨_, _, rfl, made0p _ _ _ _ hsz⟩), r4 := (fun h0 h1 => by rw [U36]; exact (I.r4 (D4.symm.trans h0) (D7.symm.trans h1)).below (below_alloc _ _)), r7 := (fun h0 h1 => by rw [U39]; exact (I.r7 (D7.symm.trans h0) (D11.symm.trans h1)).below (below_alloc _ _)), r11 := (fun h0 => by rw [U43]; exact (I.r11 (D11.symm.trans h0)).below (below_alloc _ _)), s0 := (fun h0 h1 h2 h3 => by rw [U32, U38]; exact sep_gt fun k hk => (I.o6 (D6.symm.trans h2) (D7.symm.trans h3)).lt hk), s4 := (fun h0 h1 h2 => by rw [U36, U38]; exact I.s4 (D4.symm.trans h0) (D7.symm.trans h1) (D6.symm.trans h2)), o12 := (fun h => by rw [U7, U43, D11]; exact I.o12 (D12.symm.trans h)), i7 := (fun h => D4.trans (I.i7 (D7.symm.trans h))), i11 := (fun h => D7.trans (I.i11 (D11.symm.trans h))) }⟩
          · skip
            have D0 : (d.setIfInBounds 1 true).getD 0 false = d.getD 0 false := getD_set_ne false (by decide)
            have D1 : (d.setIfInBounds 1 true).getD 1 false = true := getD_set_same hun
            have D2 : (d.setIfInBounds 1 true).getD 2 false = d.getD 2 false := getD_set_ne false (by decide)
            have D3 : (d.setIfInBounds 1 true).getD 3 false = d.getD 3 false := getD_set_ne false (by decide)
            have D4 : (d.setIfInBounds 1 true).getD 4 false = d.getD 4 false := getD_set_ne false (by decide)
            have D5 : (d.setIfInBounds 1 true).getD 5 false = d.getD 5 false := getD_set_ne false (by decide)
            have D6 : (d.setIfInBounds 1 true).getD 6 false = d.getD 6 false := getD_set_ne false (by decide)
            have D7 : (d.setIfInBounds 1 true).getD 7 false = d.getD 7 false := getD_set_ne false (by decide)
            have D8 : (d.setIfInBounds 1 true).getD 8 false = d.getD 8 false := getD_set_ne false (by decide)
            have D9 : (d.setIfInBounds 1 true).getD 9 false = d.getD 9 false := getD_set_ne false (by decide)
            have D10 : (d.setIfInBounds 1 true).getD 10 false = d.getD 10 false := getD_set_ne false (by decide)
            have D11 : (d.setIfInBounds 1 true).getD 11 false = d.getD 11 false := getD_set_ne false (by decide)
            have D12 : (d.setIfInBounds 1 true).getD 12 false = d.getD 12 false := getD_set_ne false (by decide)
            have U0 : updA us 33 (.slice (some ⟨g, off, none⟩) ps.length c) 0 = us 0 := upd_other (by decide)
            have U3 : updA us 33 (.slice (some ⟨g, off, none⟩) ps.length c) 3 = us 3 := upd_other (by decide)
            have U6 : updA us 33 (.slice (some ⟨g, off, none⟩) ps.length c) 6 = us 6 := upd_other (by decide)
            have U7 : updA us 33 (.slice (some ⟨g, off, none⟩) ps.length c) 7 = us 7 := upd_other (by decide)
            have U32 : updA us 33 (.slice (some ⟨g, off, none⟩) ps.length c) 32 = us 32 := upd_other (by decide)
            have U33 : updA us 33 (.slice (some ⟨g, off, none⟩) ps.length c) 33 = (.slice (some ⟨g, off, none⟩) ps.length c) := upd_same _ _ _
            have U34 : updA us 33 (.slice (some ⟨g, off, none⟩) ps.length c) 34 = us 34 := upd_other (by decide)
            have U35 : updA us 33 (.slice (some ⟨g, off, none⟩) ps.length c) 35 = us 35 := upd_other (by decide)
            have U36 : updA us 33 (.slice (some ⟨g, off, none⟩) ps.length c) 36 = us 36 := upd_other (by decide)
            have U37 : updA us 33 (.slice (some ⟨g, off, none⟩) ps.length c) 37 = us 37 := upd_other (by decide)
            have U38 : updA us 33 (.slice (some ⟨g, off, none⟩) ps.length c) 38 = us 38 := upd_other (by decide)
            have U39 : updA us 33 (.slice (some ⟨g, off, none⟩) ps.length c) 39 = us 39 := upd_other (by decide)
            have U40 : updA us 33 (.slice (some ⟨g, off, none⟩) ps.length c) 40 = us 40 := upd_other (by decide)
            have U41 : updA us 33 (.slice (some ⟨g, off, none⟩) ps.length c) 41 = us 41 := upd_other (by decide)
            have U42 : updA us 33 (.slice (some ⟨g, off, none⟩) ps.length c) 42 = us 42 := upd_other (by decide)
            have U43 : updA us 33 (.slice (some ⟨g, off, none⟩) ps.length c) 43 = us 43 := upd_other (by decide)
            refine wpOp_step rfl (fun K hK => ?_)
            simp only [frA, e0, e3, e6]
            go_simp
            refine hK _ _ ⟨updA us 33 (.slice (some ⟨g, off, none⟩) ps.length c), by simp [frA, updA, e0, e3, e6], { u0 := (U0.trans I.u0), u3 := (U3.trans I.u3), u6 := (U6.trans I.u6), bel := (I.bel), o1 := (fun _ => U33), o2 := (fun h => U34.trans (I.o2 (D2.symm.trans h))), o3 := (fun h => U35.trans (I.o3 (D3.symm.trans h))), o5 := (fun h => U37.trans (I.o5 (D5.symm.trans h))), o8 := (fun h => U40.trans (I.o8 (D8.symm.trans h))), o9 := (fun h => U41.trans (I.o9 (D9.symm.trans h))), o10 := (fun h => U42.trans (I.o10 (D10.symm.trans h))), o6 := (fun h0 h1 => by rw [U38]; exact I.o6 (D6.symm.trans h0) (D7.symm.trans h1)), r0 := (fun h0 h1 => by rw [U32]; exact I.r0 (D0.symm.trans h0) (D4.symm.trans h1)), r4 := (fun h0 h1 => by rw [U36]; exact I.r4 (D4.symm.trans h0) (D7.symm.trans h1)), r7 := (fun h0 h1 => by rw [U39]; exact I.r7 (D7.symm.trans h0) (D11.symm.trans h1)), r11 := (fun h0 => by rw [U43]; exact I.r11 (D11.symm.trans h0)), s0 := (fun h0 h1 h2 h3 => by rw [U32, U38]; exact I.s0 (D0.symm.trans h0) (D4.symm.trans h1) (D6.symm.trans h2) (D7.symm.trans h3)), s4 := (fun h0 h1 h2 => by rw [U36, U38]; exact I.s4 (D4.symm.trans h0) (D7.symm.trans h1) (D6.symm.trans h2)), o12 := (fun h => by rw [U7, U43, D11]; exact I.o12 (D12.symm.trans h)), i7 := (fun h => D4.trans (I.i7 (D7.symm.trans h))), i11 := (fun h => D7.trans (I.i11 (D11.symm.trans h))) }⟩
          · skip
            have D0 : (d.setIfInBounds 2 true).getD 0 false = d.getD 0 false := getD_set_ne false (by decide)
            have D1 : (d.setIfInBounds 2 true).getD 1 false = d.getD 1 false := getD_set_ne false (by decide)
            have D2 : (d.setIfInBounds 2 true).getD 2 false = true := getD_set_same hun
            have D3 : (d.setIfInBounds 2 true).getD 3 false = d.getD 3 false := getD_set_ne false (by decide)
            have D4 : (d.setIfInBounds 2 true).getD 4 false = d.getD 4 false := getD_set_ne false (by decide)
            have D5 : (d.setIfInBounds 2 true).getD 5 false = d.getD 5 false := getD_set_ne false (by decide)
            have D6 : (d.setIfInBounds 2 true).getD 6 false = d.getD 6 false := getD_set_ne false (by decide)
            have D7 : (d.setIfInBounds 2 true).getD 7 false = d.getD 7 false := getD_set_ne false (by decide)
            have D8 : (d.setIfInBounds 2 true).getD 8 false = d.getD 8 false := getD_set_ne false (by decide)
            have D9 : (d.setIfInBounds 2 true).getD 9 false = d.getD 9 false := getD_set_ne false (by decide)
            have D10 : (d.setIfInBounds 2 true).getD 10 false = d.getD 10 false := getD_set_ne false (by decide)
            have D11 : (d.setIfInBounds 2 true).getD 11 false = d.getD 11 false := getD_set_ne false (by decide)
            have D12 : (d.setIfInBounds 2 true).getD 12 false = d.getD 12 false := getD_set_ne false (by decide)
            have U0 : updA us 34 (.int .i64 ((k : Nat) : Int)) 0 = us 0 := upd_other (by decide)
            have U3 : updA us 34 (.int .i64 ((k : Nat) : Int)) 3 = us 3 := upd_other (by decide)
            have U6 : updA us 34 (.int .i64 ((k : Nat) : Int)) 6 = us 6 := upd_other (by decide)
            have U7 : updA us 34 (.int .i64 ((k : Nat) : Int)) 7 = us 7 := upd_other (by decide)
            have U32 : updA us 34 (.int .i64 ((k : Nat) : Int)) 32 = us 32 := upd_other (by decide)
            have U33 : updA us 34 (.int .i64 ((k : Nat) : Int)) 33 = us 33 := upd_other (by decide)
            have U34 : updA us 34 (.int .i64 ((k : Nat) : Int)) 34 = (.int .i64 ((k : Nat) : Int)) := upd_same _ _ _
            have U35 : updA us 34 (.int .i64 ((k : Nat) : Int)) 35 = us 35 := upd_other (by decide)
            have U36 : updA us 34 (.int .i64 ((k : Nat) : Int)) 36 = us 36 := upd_other (by decide)
            have U37 : updA us 34 (.int .i64 ((k : Nat) : Int)) 37 = us 37 := upd_other (by decide)
            have U38 : updA us 34 (.int .i64 ((k : Nat) : Int)) 38 = us 38 := upd_other (by decide)
            have U39 : updA us 34 (.int .i64 ((k : Nat) : Int)) 39 = us 39 := upd_other (by decide)
            have U40 : updA us 34 (.int .i64 ((k : Nat) : Int)) 40 = us 40 := upd_other (by decide)
            have U41 : updA us 34 (.int .i64 ((k : Nat) : Int)) 41 = us 41 := upd_other (by decide)
            have U42 : updA us 34 (.int .i64 ((k : Nat) : Int)) 42 = us 42 := upd_other (by decide)
            have U43 : updA us 34 (.int .i64 ((k : Nat) : Int)) 43 = us 43 := upd_other (by decide)
            refine wpOp_step rfl (fun K hK => ?_)
            simp only [frA, e0, e3, e6]
            go_simp
            refine hK _ _ ⟨updA us 34 (.int .i64 ((k : Nat) : Int)), by simp [frA, updA, e0, e3, e6], { u0 := (U0.trans I.u0), u3 := (U3.trans I.u3), u6 := (U6.trans I.u6), bel := (I.bel), o1 := (fun h => U33.trans (I.o1 (D1.symm.trans h))), o2 := (fun _ => U34), o3 := (fun h => U35.trans (I.o3 (D3.symm.trans h))), o5 := (fun h => U37.trans (I.o5 (D5.symm.trans h))), o8 := (fun h => U40.trans (I.o8 (D8.symm.trans h))), o9 := (fun h => U41.trans (I.o9 (D9.symm.trans h))), o10 := (fun h => U42.trans (I.o10 (D10.symm.trans h))), o6 := (fun h0 h1 => by rw [U38]; exact I.o6 (D6.symm.trans h0) (D7.symm.trans h1)), r0 := (fun h0 h1 => by rw [U32]; exact I.r0 (D0.symm.trans h0) (D4.symm.trans h1)), r4 := (fun h0 h1 => by rw [U36]; exact I.r4 (D4.symm.trans h0) (D7.symm.trans h1)), r7 := (fun h0 h1 => by rw [U39]; exact I.r7 (D7.symm.trans h0) (D11.symm.trans h1)), r11 := (fun h0 => by rw [U43]; exact I.r11 (D11.symm.trans h0)), s0 := (fun h0 h1 h2 h3 => by rw [U32, U38]; exact I.s0 (D0.symm.trans h0) (D4.symm.trans h1) (D6.symm.trans h2) (D7.symm.trans h3)), s4 := (fun h0 h1 h2 => by rw [U36, U38]; exact I.s4 (D4.symm.trans h0) (D7.symm.trans h1) (D6.symm.trans h2)), o12 := (fun h => by rw [U7, U43, D11]; exact I.o12 (D12.symm.trans h)), i7 := (fun h => D4.trans (I.i7 (D7.symm.trans h))), i11 := (fun h => D7.trans (I.i11 (D11.symm.trans h))) }⟩
          · skip
            have D0 : (d.setIfInBounds 3 true).getD 0 false = d.getD 0 false := getD_set_ne false (by decide)
            have D1 : (d.setIfInBounds 3 true).getD 1 false = d.getD 1 false := getD_set_ne false (by decide)
            have D2 : (d.setIfInBounds 3 true).getD 2 false = d.getD 2 false := getD_set_ne false (by decide)
            have D3 : (d.setIfInBounds 3 true).getD 3 false = true := getD_set_same hun
            have D4 : (d.setIfInBounds 3 true).getD 4 false = d.getD 4 false := getD_set_ne false (by decide)
            have D5 : (d.setIfInBounds 3 true).getD 5 false = d.getD 5 false := getD_set_ne false (by decide)
            have D6 : (d.setIfInBounds 3 true).getD 6 false = d.getD 6 false := getD_set_ne false (by decide)
            have D7 : (d.setIfInBounds 3 true).getD 7 false = d.getD 7 false := getD_set_ne false (by decide)
            have D8 : (d.setIfInBounds 3 true).getD 8 false = d.getD 8 false := getD_set_ne false (by decide)
            have D9 : (d.setIfInBounds 3 true).getD 9 false = d.getD 9 false := getD_set_ne false (by decide)
            have D10 : (d.setIfInBounds 3 true).getD 10 false = d.getD 10 false := getD_set_ne false (by decide)
            have D11 : (d.setIfInBounds 3 true).getD 11 false = d.getD 11 false := getD_set_ne false (by decide)
            have D12 : (d.setIfInBounds 3 true).getD 12 false = d.getD 12 false := getD_set_ne false (by decide)
            have e33 := I.o1 (hall ⟨1, .data⟩ (by simp) rfl)
            have e34 := I.o2 (hall ⟨2, .data⟩ (by simp) rfl)
            have U0 : updA us 35 (.slice (some ⟨g, off, none⟩) k c) 0 = us 0 := upd_other (by decide)
            have U3 : updA us 35 (.slice (some ⟨g, off, none⟩) k c) 3 = us 3 := upd_other (by decide)
            have U6 : updA us 35 (.slice (some ⟨g, off, none⟩) k c) 6 = us 6 := upd_other (by decide)
            have U7 : updA us 35 (.slice (some ⟨g, off, none⟩) k c) 7 = us 7 := upd_other (by decide)
            have U32 : updA us 35 (.slice (some ⟨g, off, none⟩) k c) 32 = us 32 := upd_other (by decide)
            have U33 : updA us 35 (.slice (some ⟨g, off, none⟩) k c) 33 = us 33 := upd_other (by decide)
            have U34 : updA us 35 (.slice (some ⟨g, off, none⟩) k c) 34 = us 34 := upd_other (by decide)
            have U35 : updA us 35 (.slice (some ⟨g, off, none⟩) k c) 35 = (.slice (some ⟨g, off, none⟩) k c) := upd_same _ _ _
            have U36 : updA us 35 (.slice (some ⟨g, off, none⟩) k c) 36 = us 36 := upd_other (by decide)
            have U37 : updA us 35 (.slice (some ⟨g, off, none⟩) k c) 37 = us 37 := upd_other (by decide)
            have U38 : updA us 35 (.slice (some ⟨g, off, none⟩) k c) 38 = us 38 := upd_other (by decide)
            have U39 : updA us 35 (.slice (some ⟨g, off, none⟩) k c) 39 = us 39 := upd_other (by decide)
            have U40 : updA us 35 (.slice (some ⟨g, off, none⟩) k c) 40 = us 40 := upd_other (by decide)
            have U41 : updA us 35 (.slice (some ⟨g, off, none⟩) k c) 41 = us 41 := upd_other (by decide)
            have U42 : updA us 35 (.slice (some ⟨g, off, none⟩) k c) 42 = us 42 := upd_other (by decide)
            have U43 : updA us 35 (.slice (some ⟨g, off, none⟩) k c) 43 = us 43 := upd_other (by decide)
            refine wpOp_step rfl (fun K hK => ?_)
            simp only [frA, e0, e3, e6, e33, e34]
            go_simp
            try (rw [if_pos (by omega)]; go_simp)
            refine hK _ _ ⟨updA us 35 (.slice (some ⟨g, off, none⟩) k c), by simp [frA, updA, e0, e3, e6, e33, e34], { u0 := (U0.trans I.u0), u3 := (U3.trans I.u3), u6 := (U6.trans I.u6), bel := (I.bel), o1 := (fun h => U33.trans (I.o1 (D1.symm.trans h))), o2 := (fun h => U34.trans (I.o2 (D2.symm.trans h))), o3 := (fun _ => U35), o5 := (fun h => U37.trans (I.o5 (D5.symm.trans h))), o8 := (fun h => U40.trans (I.o8 (D8.symm.trans h))), o9 := (fun h => U41.trans (I.o9 (D9.symm.trans h))), o10 := (fun h => U42.trans (I.o10 (D10.symm.trans h))), o6 := (fun h0 h1 => by rw [U38]; exact I.o6 (D6.symm.trans h0) (D7.symm.trans h1)), r0 := (fun h0 h1 => by rw [U32]; exact I.r0 (D0.symm.trans h0) (D4.symm.trans h1)), r4 := (fun h0 h1 => by rw [U36]; exact I.r4 (D4.symm.trans h0) (D7.symm.trans h1)), r7 := (fun h0 h1 => by rw [U39]; exact I.r7 (D7.symm.trans h0) (D11.symm.trans h1)), r11 := (fun h0 => by rw [U43]; exact I.r11 (D11.symm.trans h0)), s0 := (fun h0 h1 h2 h3 => by rw [U32, U38]; exact I.s0 (D0.symm.trans h0) (D4.symm.trans h1) (D6.symm.trans h2) (D7.symm.trans h3)), s4 := (fun h0 h1 h2 => by rw [U36, U38]; exact I.s4 (D4.symm.trans h0) (D7.symm.trans h1) (D6.symm.trans h2)), o12 := (fun h => by rw [U7, U43, D11]; exact I.o12 (D12.symm.trans h)), i7 := (fun h => D4.trans (I.i7 (D7.symm.trans h))), i11 := (fun h => D7.trans (I.i11 (D11.symm.trans h))) }⟩
          · skip
            have D0 : (d.setIfInBounds 4 true).getD 0 false = d.getD 0 false := getD_set_ne false (by decide)
            have D1 : (d.setIfInBounds 4 true).getD 1 false = d.getD 1 false := getD_set_ne false (by decide)
            have D2 : (d.setIfInBounds 4 true).getD 2 false = d.getD 2 false := getD_set_ne false (by decide)
            have D3 : (d.setIfInBounds 4 true).getD 3 false = d.getD 3 false := getD_set_ne false (by decide)
            have D4 : (d.setIfInBounds 4 true).getD 4 false = true := getD_set_same hun
            have D5 : (d.setIfInBounds 4 true).getD 5 false = d.getD 5 false := getD_set_ne false (by decide)
            have D6 : (d.setIfInBounds 4 true).getD 6 false = d.getD 6 false := getD_set_ne false (by decide)
            have D7 : (d.setIfInBounds 4 true).getD 7 false = d.getD 7 false := getD_set_ne false (by decide)
            have D8 : (d.setIfInBounds 4 true).getD 8 false = d.getD 8 false := getD_set_ne false (by decide)
            have D9 : (d.setIfInBounds 4 true).getD 9 false = d.getD 9 false := getD_set_ne false (by decide)
            have D10 : (d.setIfInBounds 4 true).getD 10 false = d.getD 10 false := getD_set_ne false (by decide)
            have D11 : (d.setIfInBounds 4 true).getD 11 false = d.getD 11 false := getD_set_ne false (by decide)
            have D12 : (d.setIfInBounds 4 true).getD 12 false = d.getD 12 false := getD_set_ne false (by decide)
            have e35 := I.o3 (hall ⟨3, .data⟩ (by simp) rfl)
            have h00 := hall ⟨0, .data⟩ (by simp) rfl
            have hRow := I.r0 (hall ⟨0, .data⟩ (by simp) rfl) (getD_tf hun)
            refine wpOp_append_pty rfl rfl (.tmp 32) (.tmp 35) rfl wq.heap.size (us 32) [] rfl hRow (some ⟨g, off, none⟩) (c) ((ps.take k)) (by show us 35 = _; rw [e35] <;> simp [hl1]) (q1.below I.bel) (.inr ⟨_, _, rfl⟩) (by simp [hl1, hl3] <;> omega) hsz ?_
            intro v W2 hR2 hB hg hv
            have U0 : updA us 36 (v) 0 = us 0 := upd_other (by decide)
            have U3 : updA us 36 (v) 3 = us 3 := upd_other (by decide)
            have U6 : updA us 36 (v) 6 = us 6 := upd_other (by decide)
            have U7 : updA us 36 (v) 7 = us 7 := upd_other (by decide)
            have U32 : updA us 36 (v) 32 = us 32 := upd_other (by decide)
            have U33 : updA us 36 (v) 33 = us 33 := upd_other (by decide)
            have U34 : updA us 36 (v) 34 = us 34 := upd_other (by decide)
            have U35 : updA us 36 (v) 35 = us 35 := upd_other (by decide)
            have U36 : updA us 36 (v) 36 = (v) := upd_same _ _ _
            have U37 : updA us 36 (v) 37 = us 37 := upd_other (by decide)
            have U38 : updA us 36 (v) 38 = us 38 := upd_other (by decide)
            have U39 : updA us 36 (v) 39 = us 39 := upd_other (by decide)
            have U40 : updA us 36 (v) 40 = us 40 := upd_other (by decide)
            have U41 : updA us 36 (v) 41 = us 41 := upd_other (by decide)
            have U42 : updA us 36 (v) 42 = us 42 := upd_other (by decide)
            have U43 : updA us 36 (v) 43 = us 43 := upd_other (by decide)
            refine ⟨updA us 36 v, by simp [frA, updA, Act.put], { u0 := (U0.trans I.u0), u3 := (U3.trans I.u3), u6 := (U6.trans I.u6), bel := (I.bel.trans hB), o1 := (fun h => U33.trans (I.o1 (D1.symm.trans h))), o2 := (fun h => U34.trans (I.o2 (D2.symm.trans h))), o3 := (fun h => U35.trans (I.o3 (D3.symm.trans h))), o5 := (fun h => U37.trans (I.o5 (D5.symm.trans h))), o8 := (fun h => U40.trans (I.o8 (D8.symm.trans h))), o9 := (fun h => U41.trans (I.o9 (D9.symm.trans h))), o10 := (fun h => U42.trans (I.o10 (D10.symm.trans h))), o6 := (fun h0 h1 => by rw [U38]; exact (I.o6 (D6.symm.trans h0) (D7.symm.trans h1)).sep (I.s0 h00 (getD_tf hun) (D6.symm.trans h0) (D7.symm.trans h1)) hg), r0 := (fun h0 h1 => by rw [D4] at h1; cases h1), r4 := (fun _ _ => by rw [U36]; simpa using hR2), r7 := (fun h0 h1 => absurd (I.i7 (D7.symm.trans h0)) (by rw [getD_tf hun]; exact Bool.false_ne_true)), r11 := (fun h0 => absurd (I.i7 (I.i11 (D11.symm.trans h0))) (by rw [getD_tf hun]; exact Bool.false_ne_true)), s0 := (fun h0 h1 h2 h3 => by rw [D4] at h1; cases h1), s4 := (fun h0 h1 h2 => by rw [U36, U38]; exact sep_app (I.o6 (D6.symm.trans h2) (D7.symm.trans h1)) (I.s0 h00 (getD_tf hun) (D6.symm.trans h2) (D7.symm.trans h1)) hv), o12 := (fun h => by rw [U7, U43, D11]; exact I.o12 (D12.symm.trans h)), i7 := (fun _ => D4), i11 := (fun h => D7.trans (I.i11 (D11.symm.trans h))) }⟩
          · skip
            have D0 : (d.setIfInBounds 5 true).getD 0 false = d.getD 0 false := getD_set_ne false (by decide)
            have D1 : (d.setIfInBounds 5 true).getD 1 false = d.getD 1 false := getD_set_ne false (by decide)
            have D2 : (d.setIfInBounds 5 true).getD 2 false = d.getD 2 false := getD_set_ne false (by decide)
            have D3 : (d.setIfInBounds 5 true).getD 3 false = d.getD 3 false := getD_set_ne false (by decide)
            have D4 : (d.setIfInBounds 5 true).getD 4 false = d.getD 4 false := getD_set_ne false (by decide)
            have D5 : (d.setIfInBounds 5 true).getD 5 false = true := getD_set_same hun
            have D6 : (d.setIfInBounds 5 true).getD 6 false = d.getD 6 false := getD_set_ne false (by decide)
            have D7 : (d.setIfInBounds 5 true).getD 7 false = d.getD 7 false := getD_set_ne false (by decide)
            have D8 : (d.setIfInBounds 5 true).getD 8 false = d.getD 8 false := getD_set_ne false (by decide)
            have D9 : (d.setIfInBounds 5 true).getD 9 false = d.getD 9 false := getD_set_ne false (by decide)
            have D10 : (d.setIfInBounds 5 true).getD 10 false = d.getD 10 false := getD_set_ne false (by decide)
            have D11 : (d.setIfInBounds 5 true).getD 11 false = d.getD 11 false := getD_set_ne false (by decide)
            have D12 : (d.setIfInBounds 5 true).getD 12 false = d.getD 12 false := getD_set_ne false (by decide)
            have hbx := hbox.belowB hb0 I.bel
            have c0 := hbx.c0
            have c1 := hbx.c1
            have c2 := hbx.c2
            have U0 : updA us 37 (.agg #[.string ⟨x.c.toArray⟩, .int .i64 x.k, .string ⟨x.a.toArray⟩]) 0 = us 0 := upd_other (by decide)
            have U3 : updA us 37 (.agg #[.string ⟨x.c.toArray⟩, .int .i64 x.k, .string ⟨x.a.toArray⟩]) 3 = us 3 := upd_other (by decide)
            have U6 : updA us 37 (.agg #[.string ⟨x.c.toArray⟩, .int .i64 x.k, .string ⟨x.a.toArray⟩]) 6 = us 6 := upd_other (by decide)
            have U7 : updA us 37 (.agg #[.string ⟨x.c.toArray⟩, .int .i64 x.k, .string ⟨x.a.toArray⟩]) 7 = us 7 := upd_other (by decide)
            have U32 : updA us 37 (.agg #[.string ⟨x.c.toArray⟩, .int .i64 x.k, .string ⟨x.a.toArray⟩]) 32 = us 32 := upd_other (by decide)
            have U33 : updA us 37 (.agg #[.string ⟨x.c.toArray⟩, .int .i64 x.k, .string ⟨x.a.toArray⟩]) 33 = us 33 := upd_other (by decide)
            have U34 : updA us 37 (.agg #[.string ⟨x.c.toArray⟩, .int .i64 x.k, .string ⟨x.a.toArray⟩]) 34 = us 34 := upd_other (by decide)
            have U35 : updA us 37 (.agg #[.string ⟨x.c.toArray⟩, .int .i64 x.k, .string ⟨x.a.toArray⟩]) 35 = us 35 := upd_other (by decide)
            have U36 : updA us 37 (.agg #[.string ⟨x.c.toArray⟩, .int .i64 x.k, .string ⟨x.a.toArray⟩]) 36 = us 36 := upd_other (by decide)
            have U37 : updA us 37 (.agg #[.string ⟨x.c.toArray⟩, .int .i64 x.k, .string ⟨x.a.toArray⟩]) 37 = (.agg #[.string ⟨x.c.toArray⟩, .int .i64 x.k, .string ⟨x.a.toArray⟩]) := upd_same _ _ _
            have U38 : updA us 37 (.agg #[.string ⟨x.c.toArray⟩, .int .i64 x.k, .string ⟨x.a.toArray⟩]) 38 = us 38 := upd_other (by decide)
            have U39 : updA us 37 (.agg #[.string ⟨x.c.toArray⟩, .int .i64 x.k, .string ⟨x.a.toArray⟩]) 39 = us 39 := upd_other (by decide)
            have U40 : updA us 37 (.agg #[.string ⟨x.c.toArray⟩, .int .i64 x.k, .string ⟨x.a.toArray⟩]) 40 = us 40 := upd_other (by decide)
            have U41 : updA us 37 (.agg #[.string ⟨x.c.toArray⟩, .int .i64 x.k, .string ⟨x.a.toArray⟩]) 41 = us 41 := upd_other (by decide)
            have U42 : updA us 37 (.agg #[.string ⟨x.c.toArray⟩, .int .i64 x.k, .string ⟨x.a.toArray⟩]) 42 = us 42 := upd_other (by decide)
            have U43 : updA us 37 (.agg #[.string ⟨x.c.toArray⟩, .int .i64 x.k, .string ⟨x.a.toArray⟩]) 43 = us 43 := upd_other (by decide)
            refine wpOp_step rfl (fun K hK => ?_)
            simp only [frA, e0, e3, e6, c0, c1, c2]
            go_simp
            refine hK _ _ ⟨updA us 37 (.agg #[.string ⟨x.c.toArray⟩, .int .i64 x.k, .string ⟨x.a.toArray⟩]), by simp [frA, updA, e0, e3, e6, c0, c1, c2], { u0 := (U0.trans I.u0), u3 := (U3.trans I.u3), u6 := (U6.trans I.u6), bel := (I.bel), o1 := (fun h => U33.trans (I.o1 (D1.symm.trans h))), o2 := (fun h => U34.trans (I.o2 (D2.symm.trans h))), o3 := (fun h => U35.trans (I.o3 (D3.symm.trans h))), o5 := (fun _ => U37), o8 := (fun h => U40.trans (I.o8 (D8.symm.trans h))), o9 := (fun h => U41.trans (I.o9 (D9.symm.trans h))), o10 := (fun h => U42.trans (I.o10 (D10.symm.trans h))), o6 := (fun h0 h1 => by rw [U38]; exact I.o6 (D6.symm.trans h0) (D7.symm.trans h1)), r0 := (fun h0 h1 => by rw [U32]; exact I.r0 (D0.symm.trans h0) (D4.symm.trans h1)), r4 := (fun h0 h1 => by rw [U36]; exact I.r4 (D4.symm.trans h0) (D7.symm.trans h1)), r7 := (fun h0 h1 => by rw [U39]; exact I.r7 (D7.symm.trans h0) (D11.symm.trans h1)), r11 := (fun h0 => by rw [U43]; exact I.r11 (D11.symm.trans h0)), s0 := (fun h0 h1 h2 h3 => by rw [U32, U38]; exact I.s0 (D0.symm.trans h0) (D4.symm.trans h1) (D6.symm.trans h2) (D7.symm.trans h3)), s4 := (fun h0 h1 h2 => by rw [U36, U38]; exact I.s4 (D4.symm.trans h0) (D7.symm.trans h1) (D6.symm.trans h2)), o12 := (fun h => by rw [U7, U43, D11]; exact I.o12 (D12.symm.trans h)), i7 := (fun h => D4.trans (I.i7 (D7.symm.trans h))), i11 := (fun h => D7.trans (I.i11 (D11.symm.trans h))) }⟩
          · skip
            have D0 : (d.setIfInBounds 6 true).getD 0 false = d.getD 0 false := getD_set_ne false (by decide)
            have D1 : (d.setIfInBounds 6 true).getD 1 false = d.getD 1 false := getD_set_ne false (by decide)
            have D2 : (d.setIfInBounds 6 true).getD 2 false = d.getD 2 false := getD_set_ne false (by decide)
            have D3 : (d.setIfInBounds 6 true).getD 3 false = d.getD 3 false := getD_set_ne false (by decide)
            have D4 : (d.setIfInBounds 6 true).getD 4 false = d.getD 4 false := getD_set_ne false (by decide)
            have D5 : (d.setIfInBounds 6 true).getD 5 false = d.getD 5 false := getD_set_ne false (by decide)
            have D6 : (d.setIfInBounds 6 true).getD 6 false = true := getD_set_same hun
            have D7 : (d.setIfInBounds 6 true).getD 7 false = d.getD 7 false := getD_set_ne false (by decide)
            have D8 : (d.setIfInBounds 6 true).getD 8 false = d.getD 8 false := getD_set_ne false (by decide)
            have D9 : (d.setIfInBounds 6 true).getD 9 false = d.getD 9 false := getD_set_ne false (by decide)
            have D10 : (d.setIfInBounds 6 true).getD 10 false = d.getD 10 false := getD_set_ne false (by decide)
            have D11 : (d.setIfInBounds 6 true).getD 11 false = d.getD 11 false := getD_set_ne false (by decide)
            have D12 : (d.setIfInBounds 6 true).getD 12 false = d.getD 12 false := getD_set_ne false (by decide)
            have e37 := I.o5 (hall ⟨5, .data⟩ (by simp) rfl)
            have U0 : updA us 38 (.slice (some ⟨W.heap.size, 0, none⟩) 1 1) 0 = us 0 := upd_other (by decide)
            have U3 : updA us 38 (.slice (some ⟨W.heap.size, 0, none⟩) 1 1) 3 = us 3 := upd_other (by decide)
            have U6 : updA us 38 (.slice (some ⟨W.heap.size, 0, none⟩) 1 1) 6 = us 6 := upd_other (by decide)
            have U7 : updA us 38 (.slice (some ⟨W.heap.size, 0, none⟩) 1 1) 7 = us 7 := upd_other (by decide)
            have U32 : updA us 38 (.slice (some ⟨W.heap.size, 0, none⟩) 1 1) 32 = us 32 := upd_other (by decide)
            have U33 : updA us 38 (.slice (some ⟨W.heap.size, 0, none⟩) 1 1) 33 = us 33 := upd_other (by decide)
            have U34 : updA us 38 (.slice (some ⟨W.heap.size, 0, none⟩) 1 1) 34 = us 34 := upd_other (by decide)
            have U35 : updA us 38 (.slice (some ⟨W.heap.size, 0, none⟩) 1 1) 35 = us 35 := upd_other (by decide)
            have U36 : updA us 38 (.slice (some ⟨W.heap.size, 0, none⟩) 1 1) 36 = us 36 := upd_other (by decide)
            have U37 : updA us 38 (.slice (some ⟨W.heap.size, 0, none⟩) 1 1) 37 = us 37 := upd_other (by decide)
            have U38 : updA us 38 (.slice (some ⟨W.heap.size, 0, none⟩) 1 1) 38 = (.slice (some ⟨W.heap.size, 0, none⟩) 1 1) := upd_same _ _ _
            have U39 : updA us 38 (.slice (some ⟨W.heap.size, 0, none⟩) 1 1) 39 = us 39 := upd_other (by decide)
            have U40 : updA us 38 (.slice (some ⟨W.heap.size, 0, none⟩) 1 1) 40 = us 40 := upd_other (by decide)
            have U41 : updA us 38 (.slice (some ⟨W.heap.size, 0, none⟩) 1 1) 41 = us 41 := upd_other (by decide)
            have U42 : updA us 38 (.slice (some ⟨W.heap.size, 0, none⟩) 1 1) 42 = us 42 := upd_other (by decide)
            have U43 : updA us 38 (.slice (some ⟨W.heap.size, 0, none⟩) 1 1) 43 = us 43 := upd_other (by decide)
            refine wpOp_step rfl (fun K hK => ?_)
            simp only [frA, e0, e3, e6, e37]
            go_simp
            refine hK _ _ ⟨updA us 38 (.slice (some ⟨W.heap.size, 0, none⟩) 1 1), by simp [frA, updA, e0, e3, e6, e37], { u0 := (U0.trans I.u0), u3 := (U3.trans I.u3), u6 := (U6.trans I.u6), bel := (I.bel.alloc hsz _), o1 := (fun h => U33.trans (I.o1 (D1.symm.trans h))), o2 := (fun h => U34.trans (I.o2 (D2.symm.trans h))), o3 := (fun h => U35.trans (I.o3 (D3.symm.trans h))), o5 := (fun h => U37.trans (I.o5 (D5.symm.trans h))), o8 := (fun h => U40.trans (I.o8 (D8.symm.trans h))), o9 := (fun h => U41.trans (I.o9 (D9.symm.trans h))), o10 := (fun h => U42.trans (I.o10 (D10.symm.trans h))), o6 := (fun _ _ => by rw [U38]; exact ⟨_, rfl, heap_alloc_new W _, hsz⟩), r0 := (fun h0 h1 => by rw [U32]; exact (I.r0 (D0.symm.trans h0) (D4.symm.trans h1)).below (below_alloc _ _)), r4 := (fun h0 h1 => by rw [U36]; exact (I.r4 (D4.symm.trans h0) (D7.symm.trans h1)).below (below_alloc _ _)), r7 := (fun h0 h1 => by rw [U39]; exact (I.r7 (D7.symm.trans h0) (D11.symm.trans h1)).below (below_alloc _ _)), r11 := (fun h0 => by rw [U43]; exact (I.r11 (D11.symm.trans h0)).below (below_alloc _ _)), s0 := (fun h0 h1 h2 h3 => by rw [U32, U38]; exact sep_lt fun k hk => (I.r0 (D0.symm.trans h0) (D4.symm.trans h1)).lt hk), s4 := (fun h0 h1 h2 => by rw [U36, U38]; exact sep_lt fun k hk => (I.r4 (D4.symm.trans h0) (D7.symm.trans h1)).lt hk), o12 := (fun h => by rw [U7, U43, D11]; exact I.o12 (D12.symm.trans h)), i7 := (fun h => D4.trans (I.i7 (D7.symm.trans h))), i11 := (fun h => D7.trans (I.i11 (D11.symm.trans h))) }⟩
          · skip
            have D0 : (d.setIfInBounds 7 true).getD 0 false = d.getD 0 false := getD_set_ne false (by decide)
            have D1 : (d.setIfInBounds 7 true).getD 1 false = d.getD 1 false := getD_set_ne false (by decide)
            have D2 : (d.setIfInBounds 7 true).getD 2 false = d.getD 2 false := getD_set_ne false (by decide)
            have D3 : (d.setIfInBounds 7 true).getD 3 false = d.getD 3 false := getD_set_ne false (by decide)
            have D4 : (d.setIfInBounds 7 true).getD 4 false = d.getD 4 false := getD_set_ne false (by decide)
            have D5 : (d.setIfInBounds 7 true).getD 5 false = d.getD 5 false := getD_set_ne false (by decide)
            have D6 : (d.setIfInBounds 7 true).getD 6 false = d.getD 6 false := getD_set_ne false (by decide)
            have D7 : (d.setIfInBounds 7 true).getD 7 false = true := getD_set_same hun
            have D8 : (d.setIfInBounds 7 true).getD 8 false = d.getD 8 false := getD_set_ne false (by decide)
            have D9 : (d.setIfInBounds 7 true).getD 9 false = d.getD 9 false := getD_set_ne false (by decide)
            have D10 : (d.setIfInBounds 7 true).getD 10 false = d.getD 10 false := getD_set_ne false (by decide)
            have D11 : (d.setIfInBounds 7 true).getD 11 false = d.getD 11 false := getD_set_ne false (by decide)
            have D12 : (d.setIfInBounds 7 true).getD 12 false = d.getD 12 false := getD_set_ne false (by decide)
            have h44 := hall ⟨4, .data⟩ (by simp) rfl
            obtain ⟨B, e38, hRB⟩ := (I.o6 (hall ⟨6, .data⟩ (by simp) rfl) (getD_tf hun)).row
            have hRow := I.r4 (hall ⟨4, .data⟩ (by simp) rfl) (getD_tf hun)
            refine wpOp_append_pty rfl rfl (.tmp 36) (.tmp 38) rfl wq.heap.size (us 36) ((ps.take k)) rfl hRow (some ⟨B, 0, none⟩) 1 [x] e38 hRB (.inr ⟨_, _, rfl⟩) (by simp [hl1, hl3] <;> omega) hsz ?_
            intro v W2 hR2 hB hg hv
            have U0 : updA us 39 (v) 0 = us 0 := upd_other (by decide)
            have U3 : updA us 39 (v) 3 = us 3 := upd_other (by decide)
            have U6 : updA us 39 (v) 6 = us 6 := upd_other (by decide)
            have U7 : updA us 39 (v) 7 = us 7 := upd_other (by decide)
            have U32 : updA us 39 (v) 32 = us 32 := upd_other (by decide)
            have U33 : updA us 39 (v) 33 = us 33 := upd_other (by decide)
            have U34 : updA us 39 (v) 34 = us 34 := upd_other (by decide)
            have U35 : updA us 39 (v) 35 = us 35 := upd_other (by decide)
            have U36 : updA us 39 (v) 36 = us 36 := upd_other (by decide)
            have U37 : updA us 39 (v) 37 = us 37 := upd_other (by decide)
            have U38 : updA us 39 (v) 38 = us 38 := upd_other (by decide)
            have U39 : updA us 39 (v) 39 = (v) := upd_same _ _ _
            have U40 : updA us 39 (v) 40 = us 40 := upd_other (by decide)
            have U41 : updA us 39 (v) 41 = us 41 := upd_other (by decide)
            have U42 : updA us 39 (v) 42 = us 42 := upd_other (by decide)
            have U43 : updA us 39 (v) 43 = us 43 := upd_other (by decide)
            refine ⟨updA us 39 v, by simp [frA, updA, Act.put], { u0 := (U0.trans I.u0), u3 := (U3.trans I.u3), u6 := (U6.trans I.u6), bel := (I.bel.trans hB), o1 := (fun h => U33.trans (I.o1 (D1.symm.trans h))), o2 := (fun h => U34.trans (I.o2 (D2.symm.trans h))), o3 := (fun h => U35.trans (I.o3 (D3.symm.trans h))), o5 := (fun h => U37.trans (I.o5 (D5.symm.trans h))), o8 := (fun h => U40.trans (I.o8 (D8.symm.trans h))), o9 := (fun h => U41.trans (I.o9 (D9.symm.trans h))), o10 := (fun h => U42.trans (I.o10 (D10.symm.trans h))), o6 := (fun h0 h1 => by rw [D7] at h1; cases h1), r0 := (fun h0 h1 => absurd h44 (by rw [D4.symm.trans h1]; exact Bool.false_ne_true)), r4 := (fun h0 h1 => by rw [D7] at h1; cases h1), r7 := (fun _ _ => by rw [U39]; exact hR2), r11 := (fun h0 => absurd (I.i11 (D11.symm.trans h0)) (by rw [getD_tf hun]; exact Bool.false_ne_true)), s0 := (fun h0 h1 h2 h3 => by rw [D7] at h3; cases h3), s4 := (fun h0 h1 h2 => by rw [D7] at h1; cases h1), o12 := (fun h => by rw [U7, U43, D11]; exact I.o12 (D12.symm.trans h)), i7 := (fun _ => D4.trans h44), i11 := (fun _ => D7) }⟩
          · skip
            have D0 : (d.setIfInBounds 8 true).getD 0 false = d.getD 0 false := getD_set_ne false (by decide)
            have D1 : (d.setIfInBounds 8 true).getD 1 false = d.getD 1 false := getD_set_ne false (by decide)
            have D2 : (d.setIfInBounds 8 true).getD 2 false = d.getD 2 false := getD_set_ne false (by decide)
            have D3 : (d.setIfInBounds 8 true).getD 3 false = d.getD 3 false := getD_set_ne false (by decide)
            have D4 : (d.setIfInBounds 8 true).getD 4 false = d.getD 4 false := getD_set_ne false (by decide)
            have D5 : (d.setIfInBounds 8 true).getD 5 false = d.getD 5 false := getD_set_ne false (by decide)
            have D6 : (d.setIfInBounds 8 true).getD 6 false = d.getD 6 false := getD_set_ne false (by decide)
            have D7 : (d.setIfInBounds 8 true).getD 7 false = d.getD 7 false := getD_set_ne false (by decide)
            have D8 : (d.setIfInBounds 8 true).getD 8 false = true := getD_set_same hun
            have D9 : (d.setIfInBounds 8 true).getD 9 false = d.getD 9 false := getD_set_ne false (by decide)
            have D10 : (d.setIfInBounds 8 true).getD 10 false = d.getD 10 false := getD_set_ne false (by decide)
            have D11 : (d.setIfInBounds 8 true).getD 11 false = d.getD 11 false := getD_set_ne false (by decide)
            have D12 : (d.setIfInBounds 8 true).getD 12 false = d.getD 12 false := getD_set_ne false (by decide)
            have U0 : updA us 40 (.slice (some ⟨g, off, none⟩) ps.length c) 0 = us 0 := upd_other (by decide)
            have U3 : updA us 40 (.slice (some ⟨g, off, none⟩) ps.length c) 3 = us 3 := upd_other (by decide)
            have U6 : updA us 40 (.slice (some ⟨g, off, none⟩) ps.length c) 6 = us 6 := upd_other (by decide)
            have U7 : updA us 40 (.slice (some ⟨g, off, none⟩) ps.length c) 7 = us 7 := upd_other (by decide)
            have U32 : updA us 40 (.slice (some ⟨g, off, none⟩) ps.length c) 32 = us 32 := upd_other (by decide)
            have U33 : updA us 40 (.slice (some ⟨g, off, none⟩) ps.length c) 33 = us 33 := upd_other (by decide)
            have U34 : updA us 40 (.slice (some ⟨g, off, none⟩) ps.length c) 34 = us 34 := upd_other (by decide)
            have U35 : updA us 40 (.slice (some ⟨g, off, none⟩) ps.length c) 35 = us 35 := upd_other (by decide)
            have U36 : updA us 40 (.slice (some ⟨g, off, none⟩) ps.length c) 36 = us 36 := upd_other (by decide)
            have U37 : updA us 40 (.slice (some ⟨g, off, none⟩) ps.length c) 37 = us 37 := upd_other (by decide)
            have U38 : updA us 40 (.slice (some ⟨g, off, none⟩) ps.length c) 38 = us 38 := upd_other (by decide)
            have U39 : updA us 40 (.slice (some ⟨g, off, none⟩) ps.length c) 39 = us 39 := upd_other (by decide)
            have U40 : updA us 40 (.slice (some ⟨g, off, none⟩) ps.length c) 40 = (.slice (some ⟨g, off, none⟩) ps.length c) := upd_same _ _ _
            have U41 : updA us 40 (.slice (some ⟨g, off, none⟩) ps.length c) 41 = us 41 := upd_other (by decide)
            have U42 : updA us 40 (.slice (some ⟨g, off, none⟩) ps.length c) 42 = us 42 := upd_other (by decide)
            have U43 : updA us 40 (.slice (some ⟨g, off, none⟩) ps.length c) 43 = us 43 := upd_other (by decide)
            refine wpOp_step rfl (fun K hK => ?_)
            simp only [frA, e0, e3, e6]
            go_simp
            refine hK _ _ ⟨updA us 40 (.slice (some ⟨g, off, none⟩) ps.length c), by simp [frA, updA, e0, e3, e6], { u0 := (U0.trans I.u0), u3 := (U3.trans I.u3), u6 := (U6.trans I.u6), bel := (I.bel), o1 := (fun h => U33.trans (I.o1 (D1.symm.trans h))), o2 := (fun h => U34.trans (I.o2 (D2.symm.trans h))), o3 := (fun h => U35.trans (I.o3 (D3.symm.trans h))), o5 := (fun h => U37.trans (I.o5 (D5.symm.trans h))), o8 := (fun _ => U40), o9 := (fun h => U41.trans (I.o9 (D9.symm.trans h))), o10 := (fun h => U42.trans (I.o10 (D10.symm.trans h))), o6 := (fun h0 h1 => by rw [U38]; exact I.o6 (D6.symm.trans h0) (D7.symm.trans h1)), r0 := (fun h0 h1 => by rw [U32]; exact I.r0 (D0.symm.trans h0) (D4.symm.trans h1)), r4 := (fun h0 h1 => by rw [U36]; exact I.r4 (D4.symm.trans h0) (D7.symm.trans h1)), r7 := (fun h0 h1 => by rw [U39]; exact I.r7 (D7.symm.trans h0) (D11.symm.trans h1)), r11 := (fun h0 => by rw [U43]; exact I.r11 (D11.symm.trans h0)), s0 := (fun h0 h1 h2 h3 => by rw [U32, U38]; exact I.s0 (D0.symm.trans h0) (D4.symm.trans h1) (D6.symm.trans h2) (D7.symm.trans h3)), s4 := (fun h0 h1 h2 => by rw [U36, U38]; exact I.s4 (D4.symm.trans h0) (D7.symm.trans h1) (D6.symm.trans h2)), o12 := (fun h => by rw [U7, U43, D11]; exact I.o12 (D12.symm.trans h)), i7 := (fun h => D4.trans (I.i7 (D7.symm.trans h))), i11 := (fun h => D7.trans (I.i11 (D11.symm.trans h))) }⟩
          · skip
            have D0 : (d.setIfInBounds 9 true).getD 0 false = d.getD 0 false := getD_set_ne false (by decide)
            have D1 : (d.setIfInBounds 9 true).getD 1 false = d.getD 1 false := getD_set_ne false (by decide)
            have D2 : (d.setIfInBounds 9 true).getD 2 false = d.getD 2 false := getD_set_ne false (by decide)
            have D3 : (d.setIfInBounds 9 true).getD 3 false = d.getD 3 false := getD_set_ne false (by decide)
            have D4 : (d.setIfInBounds 9 true).getD 4 false = d.getD 4 false := getD_set_ne false (by decide)
            have D5 : (d.setIfInBounds 9 true).getD 5 false = d.getD 5 false := getD_set_ne false (by decide)
            have D6 : (d.setIfInBounds 9 true).getD 6 false = d.getD 6 false := getD_set_ne false (by decide)
            have D7 : (d.setIfInBounds 9 true).getD 7 false = d.getD 7 false := getD_set_ne false (by decide)
            have D8 : (d.setIfInBounds 9 true).getD 8 false = d.getD 8 false := getD_set_ne false (by decide)
            have D9 : (d.setIfInBounds 9 true).getD 9 false = true := getD_set_same hun
            have D10 : (d.setIfInBounds 9 true).getD 10 false = d.getD 10 false := getD_set_ne false (by decide)
            have D11 : (d.setIfInBounds 9 true).getD 11 false = d.getD 11 false := getD_set_ne false (by decide)
            have D12 : (d.setIfInBounds 9 true).getD 12 false = d.getD 12 false := getD_set_ne false (by decide)
            have U0 : updA us 41 (.int .i64 ((k : Nat) : Int)) 0 = us 0 := upd_other (by decide)
            have U3 : updA us 41 (.int .i64 ((k : Nat) : Int)) 3 = us 3 := upd_other (by decide)
            have U6 : updA us 41 (.int .i64 ((k : Nat) : Int)) 6 = us 6 := upd_other (by decide)
            have U7 : updA us 41 (.int .i64 ((k : Nat) : Int)) 7 = us 7 := upd_other (by decide)
            have U32 : updA us 41 (.int .i64 ((k : Nat) : Int)) 32 = us 32 := upd_other (by decide)
            have U33 : updA us 41 (.int .i64 ((k : Nat) : Int)) 33 = us 33 := upd_other (by decide)
            have U34 : updA us 41 (.int .i64 ((k : Nat) : Int)) 34 = us 34 := upd_other (by decide)
            have U35 : updA us 41 (.int .i64 ((k : Nat) : Int)) 35 = us 35 := upd_other (by decide)
            have U36 : updA us 41 (.int .i64 ((k : Nat) : Int)) 36 = us 36 := upd_other (by decide)
            have U37 : updA us 41 (.int .i64 ((k : Nat) : Int)) 37 = us 37 := upd_other (by decide)
            have U38 : updA us 41 (.int .i64 ((k : Nat) : Int)) 38 = us 38 := upd_other (by decide)
            have U39 : updA us 41 (.int .i64 ((k : Nat) : Int)) 39 = us 39 := upd_other (by decide)
            have U40 : updA us 41 (.int .i64 ((k : Nat) : Int)) 40 = us 40 := upd_other (by decide)
            have U41 : updA us 41 (.int .i64 ((k : Nat) : Int)) 41 = (.int .i64 ((k : Nat) : Int)) := upd_same _ _ _
            have U42 : updA us 41 (.int .i64 ((k : Nat) : Int)) 42 = us 42 := upd_other (by decide)
            have U43 : updA us 41 (.int .i64 ((k : Nat) : Int)) 43 = us 43 := upd_other (by decide)
            refine wpOp_step rfl (fun K hK => ?_)
            simp only [frA, e0, e3, e6]
            go_simp
            refine hK _ _ ⟨updA us 41 (.int .i64 ((k : Nat) : Int)), by simp [frA, updA, e0, e3, e6], { u0 := (U0.trans I.u0), u3 := (U3.trans I.u3), u6 := (U6.trans I.u6), bel := (I.bel), o1 := (fun h => U33.trans (I.o1 (D1.symm.trans h))), o2 := (fun h => U34.trans (I.o2 (D2.symm.trans h))), o3 := (fun h => U35.trans (I.o3 (D3.symm.trans h))), o5 := (fun h => U37.trans (I.o5 (D5.symm.trans h))), o8 := (fun h => U40.trans (I.o8 (D8.symm.trans h))), o9 := (fun _ => U41), o10 := (fun h => U42.trans (I.o10 (D10.symm.trans h))), o6 := (fun h0 h1 => by rw [U38]; exact I.o6 (D6.symm.trans h0) (D7.symm.trans h1)), r0 := (fun h0 h1 => by rw [U32]; exact I.r0 (D0.symm.trans h0) (D4.symm.trans h1)), r4 := (fun h0 h1 => by rw [U36]; exact I.r4 (D4.symm.trans h0) (D7.symm.trans h1)), r7 := (fun h0 h1 => by rw [U39]; exact I.r7 (D7.symm.trans h0) (D11.symm.trans h1)), r11 := (fun h0 => by rw [U43]; exact I.r11 (D11.symm.trans h0)), s0 := (fun h0 h1 h2 h3 => by rw [U32, U38]; exact I.s0 (D0.symm.trans h0) (D4.symm.trans h1) (D6.symm.trans h2) (D7.symm.trans h3)), s4 := (fun h0 h1 h2 => by rw [U36, U38]; exact I.s4 (D4.symm.trans h0) (D7.symm.trans h1) (D6.symm.trans h2)), o12 := (fun h => by rw [U7, U43, D11]; exact I.o12 (D12.symm.trans h)), i7 := (fun h => D4.trans (I.i7 (D7.symm.trans h))), i11 := (fun h => D7.trans (I.i11 (D11.symm.trans h))) }⟩
          · skip
            have D0 : (d.setIfInBounds 10 true).getD 0 false = d.getD 0 false := getD_set_ne false (by decide)
            have D1 : (d.setIfInBounds 10 true).getD 1 false = d.getD 1 false := getD_set_ne false (by decide)
            have D2 : (d.setIfInBounds 10 true).getD 2 false = d.getD 2 false := getD_set_ne false (by decide)
            have D3 : (d.setIfInBounds 10 true).getD 3 false = d.getD 3 false := getD_set_ne false (by decide)
            have D4 : (d.setIfInBounds 10 true).getD 4 false = d.getD 4 false := getD_set_ne false (by decide)
            have D5 : (d.setIfInBounds 10 true).getD 5 false = d.getD 5 false := getD_set_ne false (by decide)
            have D6 : (d.setIfInBounds 10 true).getD 6 false = d.getD 6 false := getD_set_ne false (by decide)
            have D7 : (d.setIfInBounds 10 true).getD 7 false = d.getD 7 false := getD_set_ne false (by decide)
            have D8 : (d.setIfInBounds 10 true).getD 8 false = d.getD 8 false := getD_set_ne false (by decide)
            have D9 : (d.setIfInBounds 10 true).getD 9 false = d.getD 9 false := getD_set_ne false (by decide)
            have D10 : (d.setIfInBounds 10 true).getD 10 false = true := getD_set_same hun
            have D11 : (d.setIfInBounds 10 true).getD 11 false = d.getD 11 false := getD_set_ne false (by decide)
            have D12 : (d.setIfInBounds 10 true).getD 12 false = d.getD 12 false := getD_set_ne false (by decide)
            have e40 := I.o8 (hall ⟨8, .data⟩ (by simp) rfl)
            have e41 := I.o9 (hall ⟨9, .data⟩ (by simp) rfl)
            have U0 : updA us 42 (.slice (some ⟨g, off + k * 3, none⟩) (ps.length - k) (c - k)) 0 = us 0 := upd_other (by decide)
            have U3 : updA us 42 (.slice (some ⟨g, off + k * 3, none⟩) (ps.length - k) (c - k)) 3 = us 3 := upd_other (by decide)
            have U6 : updA us 42 (.slice (some ⟨g, off + k * 3, none⟩) (ps.length - k) (c - k)) 6 = us 6 := upd_other (by decide)
            have U7 : updA us 42 (.slice (some ⟨g, off + k * 3, none⟩) (ps.length - k) (c - k)) 7 = us 7 := upd_other (by decide)
            have U32 : updA us 42 (.slice (some ⟨g, off + k * 3, none⟩) (ps.length - k) (c - k)) 32 = us 32 := upd_other (by decide)
            have U33 : updA us 42 (.slice (some ⟨g, off + k * 3, none⟩) (ps.length - k) (c - k)) 33 = us 33 := upd_other (by decide)
            have U34 : updA us 42 (.slice (some ⟨g, off + k * 3, none⟩) (ps.length - k) (c - k)) 34 = us 34 := upd_other (by decide)
            have U35 : updA us 42 (.slice (some ⟨g, off + k * 3, none⟩) (ps.length - k) (c - k)) 35 = us 35 := upd_other (by decide)
            have U36 : updA us 42 (.slice (some ⟨g, off + k * 3, none⟩) (ps.length - k) (c - k)) 36 = us 36 := upd_other (by decide)
            have U37 : updA us 42 (.slice (some ⟨g, off + k * 3, none⟩) (ps.length - k) (c - k)) 37 = us 37 := upd_other (by decide)
            have U38 : updA us 42 (.slice (some ⟨g, off + k * 3, none⟩) (ps.length - k) (c - k)) 38 = us 38 := upd_other (by decide)
            have U39 : updA us 42 (.slice (some ⟨g, off + k * 3, none⟩) (ps.length - k) (c - k)) 39 = us 39 := upd_other (by decide)
            have U40 : updA us 42 (.slice (some ⟨g, off + k * 3, none⟩) (ps.length - k) (c - k)) 40 = us 40 := upd_other (by decide)
            have U41 : updA us 42 (.slice (some ⟨g, off + k * 3, none⟩) (ps.length - k) (c - k)) 41 = us 41 := upd_other (by decide)
            have U42 : updA us 42 (.slice (some ⟨g, off + k * 3, none⟩) (ps.length - k) (c - k)) 42 = (.slice (some ⟨g, off + k * 3, none⟩) (ps.length - k) (c - k)) := upd_same _ _ _
            have U43 : updA us 42 (.slice (some ⟨g, off + k * 3, none⟩) (ps.length - k) (c - k)) 43 = us 43 := upd_other (by decide)
            refine wpOp_step rfl (fun K hK => ?_)
            simp only [frA, e0, e3, e6, e40, e41]
            go_simp
            try (rw [if_pos (by omega)]; go_simp)
            refine hK _ _ ⟨updA us 42 (.slice (some ⟨g, off + k * 3, none⟩) (ps.length - k) (c - k)), by simp [frA, updA, e0, e3, e6, e40, e41, e1s], { u0 := (U0.trans I.u0), u3 := (U3.trans I.u3), u6 := (U6.trans I.u6), bel := (I.bel), o1 := (fun h => U33.trans (I.o1 (D1.symm.trans h))), o2 := (fun h => U34.trans (I.o2 (D2.symm.trans h))), o3 := (fun h => U35.trans (I.o3 (D3.symm.trans h))), o5 := (fun h => U37.trans (I.o5 (D5.symm.trans h))), o8 := (fun h => U40.trans (I.o8 (D8.symm.trans h))), o9 := (fun h => U41.trans (I.o9 (D9.symm.trans h))), o10 := (fun _ => U42), o6 := (fun h0 h1 => by rw [U38]; exact I.o6 (D6.symm.trans h0) (D7.symm.trans h1)), r0 := (fun h0 h1 => by rw [U32]; exact I.r0 (D0.symm.trans h0) (D4.symm.trans h1)), r4 := (fun h0 h1 => by rw [U36]; exact I.r4 (D4.symm.trans h0) (D7.symm.trans h1)), r7 := (fun h0 h1 => by rw [U39]; exact I.r7 (D7.symm.trans h0) (D11.symm.trans h1)), r11 := (fun h0 => by rw [U43]; exact I.r11 (D11.symm.trans h0)), s0 := (fun h0 h1 h2 h3 => by rw [U32, U38]; exact I.s0 (D0.symm.trans h0) (D4.symm.trans h1) (D6.symm.trans h2) (D7.symm.trans h3)), s4 := (fun h0 h1 h2 => by rw [U36, U38]; exact I.s4 (D4.symm.trans h0) (D7.symm.trans h1) (D6.symm.trans h2)), o12 := (fun h => by rw [U7, U43, D11]; exact I.o12 (D12.symm.trans h)), i7 := (fun h => D4.trans (I.i7 (D7.symm.trans h))), i11 := (fun h => D7.trans (I.i11 (D11.symm.trans h))) }⟩
          · skip
            have D0 : (d.setIfInBounds 11 true).getD 0 false = d.getD 0 false := getD_set_ne false (by decide)
            have D1 : (d.setIfInBounds 11 true).getD 1 false = d.getD 1 false := getD_set_ne false (by decide)
            have D2 : (d.setIfInBounds 11 true).getD 2 false = d.getD 2 false := getD_set_ne false (by decide)
            have D3 : (d.setIfInBounds 11 true).getD 3 false = d.getD 3 false := getD_set_ne false (by decide)
            have D4 : (d.setIfInBounds 11 true).getD 4 false = d.getD 4 false := getD_set_ne false (by decide)
            have D5 : (d.setIfInBounds 11 true).getD 5 false = d.getD 5 false := getD_set_ne false (by decide)
            have D6 : (d.setIfInBounds 11 true).getD 6 false = d.getD 6 false := getD_set_ne false (by decide)
            have D7 : (d.setIfInBounds 11 true).getD 7 false = d.getD 7 false := getD_set_ne false (by decide)
            have D8 : (d.setIfInBounds 11 true).getD 8 false = d.getD 8 false := getD_set_ne false (by decide)
            have D9 : (d.setIfInBounds 11 true).getD 9 false = d.getD 9 false := getD_set_ne false (by decide)
            have D10 : (d.setIfInBounds 11 true).getD 10 false = d.getD 10 false := getD_set_ne false (by decide)
            have D11 : (d.setIfInBounds 11 true).getD 11 false = true := getD_set_same hun
            have D12 : (d.setIfInBounds 11 true).getD 12 false = d.getD 12 false := getD_set_ne false (by decide)
            have e42 := I.o10 (hall ⟨10, .data⟩ (by simp) rfl)
            have h77 := hall ⟨7, .data⟩ (by simp) rfl
            have hRow := I.r7 (hall ⟨7, .data⟩ (by simp) rfl) (getD_tf hun)
            refine wpOp_append_pty rfl rfl (.tmp 39) (.tmp 42) rfl wq.heap.size (us 39) ((ps.take k) ++ [x]) rfl hRow (some ⟨g, off + k * 3, none⟩) ((c - k)) ((ps.drop k)) (by show us 42 = _; rw [e42] <;> simp [hl3]) (q3.below I.bel) (.inr ⟨_, _, rfl⟩) (by simp [hl1, hl3] <;> omega) hsz ?_
            intro v W2 hR2 hB hg hv
            have U0 : updA us 43 (v) 0 = us 0 := upd_other (by decide)
            have U3 : updA us 43 (v) 3 = us 3 := upd_other (by decide)
            have U6 : updA us 43 (v) 6 = us 6 := upd_other (by decide)
            have U7 : updA us 43 (v) 7 = us 7 := upd_other (by decide)
            have U32 : updA us 43 (v) 32 = us 32 := upd_other (by decide)
            have U33 : updA us 43 (v) 33 = us 33 := upd_other (by decide)
            have U34 : updA us 43 (v) 34 = us 34 := upd_other (by decide)
            have U35 : updA us 43 (v) 35 = us 35 := upd_other (by decide)
            have U36 : updA us 43 (v) 36 = us 36 := upd_other (by decide)
            have U37 : updA us 43 (v) 37 = us 37 := upd_other (by decide)
            have U38 : updA us 43 (v) 38 = us 38 := upd_other (by decide)
            have U39 : updA us 43 (v) 39 = us 39 := upd_other (by decide)
            have U40 : updA us 43 (v) 40 = us 40 := upd_other (by decide)
            have U41 : updA us 43 (v) 41 = us 41 := upd_other (by decide)
            have U42 : updA us 43 (v) 42 = us 42 := upd_other (by decide)
            have U43 : updA us 43 (v) 43 = (v) := upd_same _ _ _
            refine ⟨updA us 43 v, by simp [frA, updA, Act.put], { u0 := (U0.trans I.u0), u3 := (U3.trans I.u3), u6 := (U6.trans I.u6), bel := (I.bel.trans hB), o1 := (fun h => U33.trans (I.o1 (D1.symm.trans h))), o2 := (fun h => U34.trans (I.o2 (D2.symm.trans h))), o3 := (fun h => U35.trans (I.o3 (D3.symm.trans h))), o5 := (fun h => U37.trans (I.o5 (D5.symm.trans h))), o8 := (fun h => U40.trans (I.o8 (D8.symm.trans h))), o9 := (fun h => U41.trans (I.o9 (D9.symm.trans h))), o10 := (fun h => U42.trans (I.o10 (D10.symm.trans h))), o6 := (fun h0 h1 => absurd h77 (by rw [D7.symm.trans h1]; exact Bool.false_ne_true)), r0 := (fun h0 h1 => absurd (I.i7 h77) (by rw [D4.symm.trans h1]; exact Bool.false_ne_true)), r4 := (fun h0 h1 => absurd h77 (by rw [D7.symm.trans h1]; exact Bool.false_ne_true)), r7 := (fun h0 h1 => by rw [D11] at h1; cases h1), r11 := (fun _ => by rw [U43]; exact hR2), s0 := (fun h0 h1 h2 h3 => by rw [U32, U38]; exact I.s0 (D0.symm.trans h0) (D4.symm.trans h1) (D6.symm.trans h2) (D7.symm.trans h3)), s4 := (fun h0 h1 h2 => by rw [U36, U38]; exact I.s4 (D4.symm.trans h0) (D7.symm.trans h1) (D6.symm.trans h2)), o12 := (fun h => absurd (I.o12 (D12.symm.trans h)).2 (by rw [getD_tf hun]; exact Bool.false_ne_true)), i7 := (fun h => D4.trans (I.i7 (D7.symm.trans h))), i11 := (fun _ => D7.trans h77) }⟩
          · skip
            have D0 : (d.setIfInBounds 12 true).getD 0 false = d.getD 0 false := getD_set_ne false (by decide)
            have D1 : (d.setIfInBounds 12 true).getD 1 false = d.getD 1 false := getD_set_ne false (by decide)
            have D2 : (d.setIfInBounds 12 true).getD 2 false = d.getD 2 false := getD_set_ne false (by decide)
            have D3 : (d.setIfInBounds 12 true).getD 3 false = d.getD 3 false := getD_set_ne false (by decide)
            have D4 : (d.setIfInBounds 12 true).getD 4 false = d.getD 4 false := getD_set_ne false (by decide)
            have D5 : (d.setIfInBounds 12 true).getD 5 false = d.getD 5 false := getD_set_ne false (by decide)
            have D6 : (d.setIfInBounds 12 true).getD 6 false = d.getD 6 false := getD_set_ne false (by decide)
            have D7 : (d.setIfInBounds 12 true).getD 7 false = d.getD 7 false := getD_set_ne false (by decide)
            have D8 : (d.setIfInBounds 12 true).getD 8 false = d.getD 8 false := getD_set_ne false (by decide)
            have D9 : (d.setIfInBounds 12 true).getD 9 false = d.getD 9 false := getD_set_ne false (by decide)
            have D10 : (d.setIfInBounds 12 true).getD 10 false = d.getD 10 false := getD_set_ne false (by decide)
            have D11 : (d.setIfInBounds 12 true).getD 11 false = d.getD 11 false := getD_set_ne false (by decide)
            have D12 : (d.setIfInBounds 12 true).getD 12 false = true := getD_set_same hun
            have h11 := hall ⟨11, .data⟩ (by simp) rfl
            have U0 : updA us 7 (us 43) 0 = us 0 := upd_other (by decide)
            have U3 : updA us 7 (us 43) 3 = us 3 := upd_other (by decide)
            have U6 : updA us 7 (us 43) 6 = us 6 := upd_other (by decide)
            have U7 : updA us 7 (us 43) 7 = (us 43) := upd_same _ _ _
            have U32 : updA us 7 (us 43) 32 = us 32 := upd_other (by decide)
            have U33 : updA us 7 (us 43) 33 = us 33 := upd_other (by decide)
            have U34 : updA us 7 (us 43) 34 = us 34 := upd_other (by decide)
            have U35 : updA us 7 (us 43) 35 = us 35 := upd_other (by decide)
            have U36 : updA us 7 (us 43) 36 = us 36 := upd_other (by decide)
            have U37 : updA us 7 (us 43) 37 = us 37 := upd_other (by decide)
            have U38 : updA us 7 (us 43) 38 = us 38 := upd_other (by decide)
            have U39 : updA us 7 (us 43) 39 = us 39 := upd_other (by decide)
            have U40 : updA us 7 (us 43) 40 = us 40 := upd_other (by decide)
            have U41 : updA us 7 (us 43) 41 = us 41 := upd_other (by decide)
            have U42 : updA us 7 (us 43) 42 = us 42 := upd_other (by decide)
            have U43 : updA us 7 (us 43) 43 = us 43 := upd_other (by decide)
            refine wpOp_step rfl (fun K hK => ?_)
            simp only [frA, e0, e3, e6]
            go_simp
            refine hK _ _ ⟨updA us 7 (us 43), by simp [frA, updA, e0, e3, e6], { u0 := (U0.trans I.u0), u3 := (U3.trans I.u3), u6 := (U6.trans I.u6), bel := (I.bel), o1 := (fun h => U33.trans (I.o1 (D1.symm.trans h))), o2 := (fun h => U34.trans (I.o2 (D2.symm.trans h))), o3 := (fun h => U35.trans (I.o3 (D3.symm.trans h))), o5 := (fun h => U37.trans (I.o5 (D5.symm.trans h))), o8 := (fun h => U40.trans (I.o8 (D8.symm.trans h))), o9 := (fun h => U41.trans (I.o9 (D9.symm.trans h))), o10 := (fun h => U42.trans (I.o10 (D10.symm.trans h))), o6 := (fun h0 h1 => by rw [U38]; exact I.o6 (D6.symm.trans h0) (D7.symm.trans h1)), r0 := (fun h0 h1 => by rw [U32]; exact I.r0 (D0.symm.trans h0) (D4.symm.trans h1)), r4 := (fun h0 h1 => by rw [U36]; exact I.r4 (D4.symm.trans h0) (D7.symm.trans h1)), r7 := (fun h0 h1 => by rw [U39]; exact I.r7 (D7.symm.trans h0) (D11.symm.trans h1)), r11 := (fun h0 => by rw [U43]; exact I.r11 (D11.symm.trans h0)), s0 := (fun h0 h1 h2 h3 => by rw [U32, U38]; exact I.s0 (D0.symm.trans h0) (D4.symm.trans h1) (D6.symm.trans h2) (D7.symm.trans h3)), s4 := (fun h0 h1 h2 => by rw [U36, U38]; exact I.s4 (D4.symm.trans h0) (D7.symm.trans h1) (D6.symm.trans h2)), o12 := (fun _ => ⟨by rw [U7, U43], by rw [D11]; exact h11⟩), i7 := (fun h => D4.trans (I.i7 (D7.symm.trans h))), i11 := (fun h => D7.trans (I.i11 (D11.symm.trans h))) }⟩
        · intro d a W hd hall hI
          obtain ⟨us, rfl, I⟩ := hI
          have D : ∀ k, k < 13 → d.getD k false = true := fun k hk => by
            have := hall k hk
            have hk2 : k < d.size := by rw [hd]; exact hk
            simp [hk2] at this ⊢; exact this
          obtain ⟨h7, h11⟩ := I.o12 (D 12 (by decide))
          obtain ⟨O, q, e43, hO⟩ := I.r11 h11
          have e7 := h7.trans e43
          have e3 := I.u3
          have hbel := I.bel
          rw [hjoin] at e7 hO
          clear I hall D h7 e43
          have htx : ∀ p ∈ addP ps x, p.sz ≤ 1048576 := fun p hp => (addP_mem hp).elim (fun h => h ▸ hx) (fun h => hst p h)
          have tb : PTbl W O (addP ps x) := ⟨hO.row, htx, by rw [addP_len]; (try simp only [List.length_nil]); omega⟩
          simp only [frA, e7, e3]
          rcases Bool.eq_false_or_eq_true (regB (addP ps x)) with hb | hb
          · have E := Lib.hid (addPR_0 hr hv hb)
            go_wp2_with (go_at_call 51; refine (isRegS_q tb hb).mono ?_; rintro e w4 ⟨rfl, b4⟩)
            go_ret2
            rw [E.out]
            exact ⟨O, q, rfl, (hO.mono hkq.bel.size).below b4, belowGo (hkq.bel.trans (hbel.mono hkq.bel.size)) b4⟩
          · have E := Lib.hid (addPR_5 hr hv hb)
            go_wp2_with (go_at_call 51; refine (isRegS_q tb hb).mono ?_; rintro e w4 ⟨rfl, b4⟩)
            go_ret2
            rw [E.out]
            exact ⟨none, 0, rfl, PtyO.nil _ _, belowGo (hkq.bel.trans (hbel.mono hkq.bel.size)) b4⟩
    · obtain rfl : k = ps.length := by omega
      have hjoin : ps.take ps.length ++ [x] ++ ps.drop ps.length = addP ps x := (addP_at (regB_iff.1 hr).2.1 hk hlo.out fun q hq => by have := (List.getElem?_eq_some_iff.1 hq).1; omega).symm
      have HR := Lib.hid (fun y : Sub (Bel wr) => h.row.below (HK.out y).bel)
      have hd : decide ((ps.length : Int) < (ps.length : Int)) = false := by simp
      clear HT HV hlo h h0
      go_wp2_with fail
      refine region_held (Bel wr) (by kernel_rfl) (by kernel_rfl) (Bel.drew wr) ?_
      repeat (go_big_quiet_step ((first | rfl)))
      refine wpQuiet_nil ?_
      rintro _ ⟨y2, rfl⟩
      go_wp2_with fail
      have hkq := HK.out y2
      have hRq := HR.out y2
      generalize y2.w = wq at *
      have hbox := hkq.cells
      have hb0 : w.heap.size < wq.heap.size := lt_some hkq.a
      rcases hA with ⟨rfl, rfl⟩ | ⟨g, off, rfl⟩
      · obtain rfl : ps = [] := List.eq_nil_of_length_eq_zero (by omega)
        simp only [List.length_nil, List.take_nil, List.drop_nil] at hjoin
        have q1 : PtyR wq none ([] : List Pty) := PtyR.none
        have q3 : PtyR wq none ([] : List Pty) := PtyR.none
        have hl1 : (([] : List Pty)).length = 0 := by simp
        have hl3 : (([] : List Pty)).length = 0 := by simp
        refine region_inv (by kernel_rfl) (by kernel_rfl) (fun d a W => ∃ us, a = frA us ∧ InvA wq.heap.size (w.heap.size) (0) (0) (0) (none) (.slice none 0 0) (.slice none 0 0) (([] : List Pty)) (([] : List Pty)) x wq d us W) ?_ ?_ ?_
        · refine ⟨_, frA_of, ?_⟩
          have Z : ∀ k, (Array.replicate 13 false).getD k false = false := fun k => by
            rcases Nat.lt_or_ge k 13 with h | h
            · simp [h]
            · simp [Array.getElem?_eq_none, h]
          have Zn : ∀ {k : Nat} {p : Prop}, (Array.replicate 13 false).getD k false = true → p := fun {k p} h => by rw [Z k] at h; cases h
          exact { u0 := rfl, u3 := rfl, u6 := rfl, bel := (Below.refl _ _).drew, o1 := Zn, o2 := Zn, o3 := Zn, o5 := Zn, o8 := Zn, o9 := Zn, o10 := Zn, o6 := Zn, r0 := Zn, r4 := Zn, r7 := Zn, r11 := Zn, s0 := Zn, s4 := Zn, o12 := Zn, i7 := Zn, i11 := Zn }
        · intro i d a W hi hI
          obtain ⟨hun, oi, hoi, hall⟩ := mem_ready.1 hi
          have hlt : i < 13 := (Array.getElem?_eq_some_iff.1 hoi).1
          obtain ⟨us, rfl, I⟩ := hI
          have hsz : wq.heap.size ≤ W.heap.size := I.bel.size
          have e0 := I.u0
          have e3 := I.u3
          have e6 := I.u6
          rcases (by omega : i = 0 ∨ i = 1 ∨ i = 2 ∨ i = 3 ∨ i = 4 ∨ i = 5 ∨ i = 6 ∨ i = 7 ∨ i = 8 ∨ i = 9 ∨ i = 10 ∨ i = 11 ∨ i = 12) with rfl | rfl | rfl | rfl | rfl | rfl | rfl | rfl | rfl | rfl | rfl | rfl | rfl
          all_goals
            obtain rfl := Option.some.inj hoi
            clear hoi hlt hi
          · skip
            have D0 : (d.setIfInBounds 0 true).getD 0 false = true := getD_set_same hun
            have D1 : (d.setIfInBounds 0 true).getD 1 false = d.getD 1 false := getD_set_ne false (by decide)
            have D2 : (d.setIfInBounds 0 true).getD 2 false = d.getD 2 false := getD_set_ne false (by decide)
            have D3 : (d.setIfInBounds 0 true).getD 3 false = d.getD 3 false := getD_set_ne false (by decide)
            have D4 : (d.setIfInBounds 0 true).getD 4 false = d.getD 4 false := getD_set_ne false (by decide)
            have D5 : (d.setIfInBounds 0 true).getD 5 false = d.getD 5 false := getD_set_ne false (by decide)
            have D6 : (d.setIfInBounds 0 true).getD 6 false = d.getD 6 false := getD_set_ne false (by decide)
            have D7 : (d.setIfInBounds 0 true).getD 7 false = d.getD 7 false := getD_set_ne false (by decide)
            have D8 : (d.setIfInBounds 0 true).getD 8 false = d.getD 8 false := getD_set_ne false (by decide)
            have D9 : (d.setIfInBounds 0 true).getD 9 false = d.getD 9 false := getD_set_ne false (by decide)
            have D10 : (d.setIfInBounds 0 true).getD 10 false = d.getD 10 false := getD_set_ne false (by decide)
            have D11 : (d.setIfInBounds 0 true).getD 11 false = d.getD 11 false := getD_set_ne false (by decide)
            have D12 : (d.setIfInBounds 0 true).getD 12 false = d.getD 12 false := getD_set_ne false (by decide)
            have U0 : updA us 32 (.slice (some ⟨W.heap.size, 0, none⟩) 0 0) 0 = us 0 := upd_other (by decide)
            have U3 : updA us 32 (.slice (some ⟨W.heap.size, 0, none⟩) 0 0) 3 = us 3 := upd_other (by decide)
            have U6 : updA us 32 (.slice (some ⟨W.heap.size, 0, none⟩) 0 0) 6 = us 6 := upd_other (by decide)
            have U7 : updA us 32 (.slice (some ⟨W.heap.size, 0, none⟩) 0 0) 7 = us 7 := upd_other (by decide)
            have U32 : updA us 32 (.slice (some ⟨W.heap.size, 0, none⟩) 0 0) 32 = (.slice (some ⟨W.heap.size, 0, none⟩) 0 0) := upd_same _ _ _
            have U33 : updA us 32 (.slice (some ⟨W.heap.size, 0, none⟩) 0 0) 33 = us 33 := upd_other (by decide)
            have U34 : updA us 32 (.slice (some ⟨W.heap.size, 0, none⟩) 0 0) 34 = us 34 := upd_other (by decide)
            have U35 : updA us 32 (.slice (some ⟨W.heap.size, 0, none⟩) 0 0) 35 = us 35 := upd_other (by decide)
            have U36 : updA us 32 (.slice (some ⟨W.heap.size, 0, none⟩) 0 0) 36 = us 36 := upd_other (by decide)
            have U37 : updA us 32 (.slice (some ⟨W.heap.size, 0, none⟩) 0 0) 37 = us 37 := upd_other (by decide)
            have U38 : updA us 32 (.slice (some ⟨W.heap.size, 0, none⟩) 0 0) 38 = us 38 := upd_other (by decide)
            have U39 : updA us 32 (.slice (some ⟨W.heap.size, 0, none⟩) 0 0) 39 = us 39 := upd_other (by decide)
            have U40 : updA us 32 (.slice (some ⟨W.heap.size, 0, none⟩) 0 0) 40 = us 40 := upd_other (by decide)
            have U41 : updA us 32 (.slice (some ⟨W.heap.size, 0, none⟩) 0 0) 41 = us 41 := upd_other (by decide)
            have U42 : updA us 32 (.slice (some ⟨W.heap.size, 0, none⟩) 0 0) 42 = us 42 := upd_other (by decide)
            have U43 : updA us 32 (.slice (some ⟨W.heap.size, 0, none⟩) 0 0) 43 = us 43 := upd_other (by decide)
            refine wpOp_step rfl (fun K hK => ?_)
            simp only [frA, e0, e3, e6]
            go_simp
            refine hK _ _ ⟨updA us 32 (.slice (some ⟨W.heap.size, 0, none⟩) 0 0), by simp [frA, updA, e0, e3, e6], { u0 := (U0.trans I.u0), u3 := (U3.trans I.u3), u6 := (U6.trans I.u6), bel := (I.bel.alloc hsz _), o1 := (fun h => U33.trans (I.o1 (D1.symm.trans h))), o2 := (fun h => U34.trans (I.o2 (D2.symm.trans h))), o3 := (fun h => U35.trans (I.o3 (D3.symm.trans h))), o5 := (fun h => U37.trans (I.o5 (D5.symm.trans h))), o8 := (fun h => U40.trans (I.o8 (D8.symm.trans h))), o9 := (fun h => U41.trans (I.o9 (D9.symm.trans h))), o10 := (fun h => U42.trans (I.o10 (D10.symm.trans h))), o6 := (fun h0 h1 => by rw [U38]; exact (I.o6 (D6.symm.trans h0) (D7.symm.trans h1)).below (below_alloc _ _)), r0 := (fun h0 h1 => by rw [U32]; exact ⟨_, _, rfl, made0p _ _ _ _ hsz⟩), r4 := (fun h0 h1 => by rw [U36]; exact (I.r4 (D4.symm.trans h0) (D7.symm.trans h1)).below (below_alloc _ _)), r7 := (fun h0 h1 => by rw [U39]; exact (I.r7 (D7.symm.trans h0) (D11.symm.trans h1)).below (below_alloc _ _)), r11 := (fun h0 => by rw [U43]; exact (I.r11 (D11.symm.trans h0)).below (below_alloc _ _)), s0 := (fun h0 h1 h2 h3 => by rw [U32, U38]; exact sep_gt fun k hk => (I.o6 (D6.symm.trans h2) (D7.symm.trans h3)).lt hk), s4 := (fun h0 h1 h2 => by rw [U36, U38]; exact I.s4 (D4.symm.trans h0) (D7.symm.trans h1) (D6.symm.trans h2)), o12 := (fun h => by rw [U7, U43, D11]; exact I.o12 (D12.symm.trans h)), i7 := (fun h => D4.trans (I.i7 (D7.symm.trans h))), i11 := (fun h => D7.trans (I.i11 (D11.symm.trans h))) }⟩
          · skip
            have D0 : (d.setIfInBounds 1 true).getD 0 false = d.getD 0 false := getD_set_ne false (by decide)
            have D1 : (d.setIfInBounds 1 true).getD 1 false = true := getD_set_same hun
            have D2 : (d.setIfInBounds 1 true).getD 2 false = d.getD 2 false := getD_set_ne false (by decide)
            have D3 : (d.setIfInBounds 1 true).getD 3 false = d.getD 3 false := getD_set_ne false (by decide)
            have D4 : (d.setIfInBounds 1 true).getD 4 false = d.getD 4 false := getD_set_ne false (by decide)
            have D5 : (d.setIfInBounds 1 true).getD 5 false = d.getD 5 false := getD_set_ne false (by decide)
            have D6 : (d.setIfInBounds 1 true).getD 6 false = d.getD 6 false := getD_set_ne false (by decide)
            have D7 : (d.setIfInBounds 1 true).getD 7 false = d.getD 7 false := getD_set_ne false (by decide)
            have D8 : (d.setIfInBounds 1 true).getD 8 false = d.getD 8 false := getD_set_ne false (by decide)
            have D9 : (d.setIfInBounds 1 true).getD 9 false = d.getD 9 false := getD_set_ne false (by decide)
            have D10 : (d.setIfInBounds 1 true).getD 10 false = d.getD 10 false := getD_set_ne false (by decide)
            have D11 : (d.setIfInBounds 1 true).getD 11 false = d.getD 11 false := getD_set_ne false (by decide)
            have D12 : (d.setIfInBounds 1 true).getD 12 false = d.getD 12 false := getD_set_ne false (by decide)
            have U0 : updA us 33 (.slice (none) 0 0) 0 = us 0 := upd_other (by decide)
            have U3 : updA us 33 (.slice (none) 0 0) 3 = us 3 := upd_other (by decide)
            have U6 : updA us 33 (.slice (none) 0 0) 6 = us 6 := upd_other (by decide)
            have U7 : updA us 33 (.slice (none) 0 0) 7 = us 7 := upd_other (by decide)
            have U32 : updA us 33 (.slice (none) 0 0) 32 = us 32 := upd_other (by decide)
            have U33 : updA us 33 (.slice (none) 0 0) 33 = (.slice (none) 0 0) := upd_same _ _ _
            have U34 : updA us 33 (.slice (none) 0 0) 34 = us 34 := upd_other (by decide)
            have U35 : updA us 33 (.slice (none) 0 0) 35 = us 35 := upd_other (by decide)
            have U36 : updA us 33 (.slice (none) 0 0) 36 = us 36 := upd_other (by decide)
            have U37 : updA us 33 (.slice (none) 0 0) 37 = us 37 := upd_other (by decide)
            have U38 : updA us 33 (.slice (none) 0 0) 38 = us 38 := upd_other (by decide)
            have U39 : updA us 33 (.slice (none) 0 0) 39 = us 39 := upd_other (by decide)
            have U40 : updA us 33 (.slice (none) 0 0) 40 = us 40 := upd_other (by decide)
            have U41 : updA us 33 (.slice (none) 0 0) 41 = us 41 := upd_other (by decide)
            have U42 : updA us 33 (.slice (none) 0 0) 42 = us 42 := upd_other (by decide)
            have U43 : updA us 33 (.slice (none) 0 0) 43 = us 43 := upd_other (by decide)
            refine wpOp_step rfl (fun K hK => ?_)
            simp only [frA, e0, e3, e6]
            go_simp
            refine hK _ _ ⟨updA us 33 (.slice (none) 0 0), by simp [frA, updA, e0, e3, e6], { u0 := (U0.trans I.u0), u3 := (U3.trans I.u3), u6 := (U6.trans I.u6), bel := (I.bel), o1 := (fun _ => U33), o2 := (fun h => U34.trans (I.o2 (D2.symm.trans h))), o3 := (fun h => U35.trans (I.o3 (D3.symm.trans h))), o5 := (fun h => U37.trans (I.o5 (D5.symm.trans h))), o8 := (fun h => U40.trans (I.o8 (D8.symm.trans h))), o9 := (fun h => U41.trans (I.o9 (D9.symm.trans h))), o10 := (fun h => U42.trans (I.o10 (D10.symm.trans h))), o6 := (fun h0 h1 => by rw [U38]; exact I.o6 (D6.symm.trans h0) (D7.symm.trans h1)), r0 := (fun h0 h1 => by rw [U32]; exact I.r0 (D0.symm.trans h0) (D4.symm.trans h1)), r4 := (fun h0 h1 => by rw [U36]; exact I.r4 (D4.symm.trans h0) (D7.symm.trans h1)), r7 := (fun h0 h1 => by rw [U39]; exact I.r7 (D7.symm.trans h0) (D11.symm.trans h1)), r11 := (fun h0 => by rw [U43]; exact I.r11 (D11.symm.trans h0)), s0 := (fun h0 h1 h2 h3 => by rw [U32, U38]; exact I.s0 (D0.symm.trans h0) (D4.symm.trans h1) (D6.symm.trans h2) (D7.symm.trans h3)), s4 := (fun h0 h1 h2 => by rw [U36, U38]; exact I.s4 (D4.symm.trans h0) (D7.symm.trans h1) (D6.symm.trans h2)), o12 := (fun h => by rw [U7, U43, D11]; exact I.o12 (D12.symm.trans h)), i7 := (fun h => D4.trans (I.i7 (D7.symm.trans h))), i11 := (fun h => D7.trans (I.i11 (D11.symm.trans h))) }⟩
          · skip
            have D0 : (d.setIfInBounds 2 true).getD 0 false = d.getD 0 false := getD_set_ne false (by decide)
            have D1 : (d.setIfInBounds 2 true).getD 1 false = d.getD 1 false := getD_set_ne false (by decide)
            have D2 : (d.setIfInBounds 2 true).getD 2 false = true := getD_set_same hun
            have D3 : (d.setIfInBounds 2 true).getD 3 false = d.getD 3 false := getD_set_ne false (by decide)
            have D4 : (d.setIfInBounds 2 true).getD 4 false = d.getD 4 false := getD_set_ne false (by decide)
            have D5 : (d.setIfInBounds 2 true).getD 5 false = d.getD 5 false := getD_set_ne false (by decide)
            have D6 : (d.setIfInBounds 2 true).getD 6 false = d.getD 6 false := getD_set_ne false (by decide)
            have D7 : (d.setIfInBounds 2 true).getD 7 false = d.getD 7 false := getD_set_ne false (by decide)
            have D8 : (d.setIfInBounds 2 true).getD 8 false = d.getD 8 false := getD_set_ne false (by decide)
            have D9 : (d.setIfInBounds 2 true).getD 9 false = d.getD 9 false := getD_set_ne false (by decide)
            have D10 : (d.setIfInBounds 2 true).getD 10 false = d.getD 10 false := getD_set_ne false (by decide)
            have D11 : (d.setIfInBounds 2 true).getD 11 false = d.getD 11 false := getD_set_ne false (by decide)
            have D12 : (d.setIfInBounds 2 true).getD 12 false = d.getD 12 false := getD_set_ne false (by decide)
            have U0 : updA us 34 (.int .i64 ((0 : Nat) : Int)) 0 = us 0 := upd_other (by decide)
            have U3 : updA us 34 (.int .i64 ((0 : Nat) : Int)) 3 = us 3 := upd_other (by decide)
            have U6 : updA us 34 (.int .i64 ((0 : Nat) : Int)) 6 = us 6 := upd_other (by decide)
            have U7 : updA us 34 (.int .i64 ((0 : Nat) : Int)) 7 = us 7 := upd_other (by decide)
            have U32 : updA us 34 (.int .i64 ((0 : Nat) : Int)) 32 = us 32 := upd_other (by decide)
            have U33 : updA us 34 (.int .i64 ((0 : Nat) : Int)) 33 = us 33 := upd_other (by decide)
            have U34 : updA us 34 (.int .i64 ((0 : Nat) : Int)) 34 = (.int .i64 ((0 : Nat) : Int)) := upd_same _ _ _
            have U35 : updA us 34 (.int .i64 ((0 : Nat) : Int)) 35 = us 35 := upd_other (by decide)
            have U36 : updA us 34 (.int .i64 ((0 : Nat) : Int)) 36 = us 36 := upd_other (by decide)
            have U37 : updA us 34 (.int .i64 ((0 : Nat) : Int)) 37 = us 37 := upd_other (by decide)
            have U38 : updA us 34 (.int .i64 ((0 : Nat) : Int)) 38 = us 38 := upd_other (by decide)
            have U39 : updA us 34 (.int .i64 ((0 : Nat) : Int)) 39 = us 39 := upd_other (by decide)
            have U40 : updA us 34 (.int .i64 ((0 : Nat) : Int)) 40 = us 40 := upd_other (by decide)
            have U41 : updA us 34 (.int .i64 ((0 : Nat) : Int)) 41 = us 41 := upd_other (by decide)
            have U42 : updA us 34 (.int .i64 ((0 : Nat) : Int)) 42 = us 42 := upd_other (by decide)
            have U43 : updA us 34 (.int .i64 ((0 : Nat) : Int)) 43 = us 43 := upd_other (by decide)
            refine wpOp_step rfl (fun K hK => ?_)
            simp only [frA, e0, e3, e6]
            go_simp
            refine hK _ _ ⟨updA us 34 (.int .i64 ((0 : Nat) : Int)), by simp [frA, updA, e0, e3, e6], { u0 := (U0.trans I.u0), u3 := (U3.trans I.u3), u6 := (U6.trans I.u6), bel := (I.bel), o1 := (fun h => U33.trans (I.o1 (D1.symm.trans h))), o2 := (fun _ => U34), o3 := (fun h => U35.trans (I.o3 (D3.symm.trans h))), o5 := (fun h => U37.trans (I.o5 (D5.symm.trans h))), o8 := (fun h => U40.trans (I.o8 (D8.symm.trans h))), o9 := (fun h => U41.trans (I.o9 (D9.symm.trans h))), o10 := (fun h => U42.trans (I.o10 (D10.symm.trans h))), o6 := (fun h0 h1 => by rw [U38]; exact I.o6 (D6.symm.trans h0) (D7.symm.trans h1)), r0 := (fun h0 h1 => by rw [U32]; exact I.r0 (D0.symm.trans h0) (D4.symm.trans h1)), r4 := (fun h0 h1 => by rw [U36]; exact I.r4 (D4.symm.trans h0) (D7.symm.trans h1)), r7 := (fun h0 h1 => by rw [U39]; exact I.r7 (D7.symm.trans h0) (D11.symm.trans h1)), r11 := (fun h0 => by rw [U43]; exact I.r11 (D11.symm.trans h0)), s0 := (fun h0 h1 h2 h3 => by rw [U32, U38]; exact I.s0 (D0.symm.trans h0) (D4.symm.trans h1) (D6.symm.trans h2) (D7.symm.trans h3)), s4 := (fun h0 h1 h2 => by rw [U36, U38]; exact I.s4 (D4.symm.trans h0) (D7.symm.trans h1) (D6.symm.trans h2)), o12 := (fun h => by rw [U7, U43, D11]; exact I.o12 (D12.symm.trans h)), i7 := (fun h => D4.trans (I.i7 (D7.symm.trans h))), i11 := (fun h => D7.trans (I.i11 (D11.symm.trans h))) }⟩
          · skip
            have D0 : (d.setIfInBounds 3 true).getD 0 false = d.getD 0 false := getD_set_ne false (by decide)
            have D1 : (d.setIfInBounds 3 true).getD 1 false = d.getD 1 false := getD_set_ne false (by decide)
            have D2 : (d.setIfInBounds 3 true).getD 2 false = d.getD 2 false := getD_set_ne false (by decide)
            have D3 : (d.setIfInBounds 3 true).getD 3 false = true := getD_set_same hun
            have D4 : (d.setIfInBounds 3 true).getD 4 false = d.getD 4 false := getD_set_ne false (by decide)
            have D5 : (d.setIfInBounds 3 true).getD 5 false = d.getD 5 false := getD_set_ne false (by decide)
            have D6 : (d.setIfInBounds 3 true).getD 6 false = d.getD 6 false := getD_set_ne false (by decide)
            have D7 : (d.setIfInBounds 3 true).getD 7 false = d.getD 7 false := getD_set_ne false (by decide)
            have D8 : (d.setIfInBounds 3 true).getD 8 false = d.getD 8 false := getD_set_ne false (by decide)
            have D9 : (d.setIfInBounds 3 true).getD 9 false = d.getD 9 false := getD_set_ne false (by decide)
            have D10 : (d.setIfInBounds 3 true).getD 10 false = d.getD 10 false := getD_set_ne false (by decide)
            have D11 : (d.setIfInBounds 3 true).getD 11 false = d.getD 11 false := getD_set_ne false (by decide)
            have D12 : (d.setIfInBounds 3 true).getD 12 false = d.getD 12 false := getD_set_ne false (by decide)
            have e33 := I.o1 (hall ⟨1, .data⟩ (by simp) rfl)
            have e34 := I.o2 (hall ⟨2, .data⟩ (by simp) rfl)
            have U0 : updA us 35 (.slice none 0 0) 0 = us 0 := upd_other (by decide)
            have U3 : updA us 35 (.slice none 0 0) 3 = us 3 := upd_other (by decide)
            have U6 : updA us 35 (.slice none 0 0) 6 = us 6 := upd_other (by decide)
            have U7 : updA us 35 (.slice none 0 0) 7 = us 7 := upd_other (by decide)
            have U32 : updA us 35 (.slice none 0 0) 32 = us 32 := upd_other (by decide)
            have U33 : updA us 35 (.slice none 0 0) 33 = us 33 := upd_other (by decide)
            have U34 : updA us 35 (.slice none 0 0) 34 = us 34 := upd_other (by decide)
            have U35 : updA us 35 (.slice none 0 0) 35 = (.slice none 0 0) := upd_same _ _ _
            have U36 : updA us 35 (.slice none 0 0) 36 = us 36 := upd_other (by decide)
            have U37 : updA us 35 (.slice none 0 0) 37 = us 37 := upd_other (by decide)
            have U38 : updA us 35 (.slice none 0 0) 38 = us 38 := upd_other (by decide)
            have U39 : updA us 35 (.slice none 0 0) 39 = us 39 := upd_other (by decide)
            have U40 : updA us 35 (.slice none 0 0) 40 = us 40 := upd_other (by decide)
            have U41 : updA us 35 (.slice none 0 0) 41 = us 41 := upd_other (by decide)
            have U42 : updA us 35 (.slice none 0 0) 42 = us 42 := upd_other (by decide)
            have U43 : updA us 35 (.slice none 0 0) 43 = us 43 := upd_other (by decide)
            refine wpOp_step rfl (fun K hK => ?_)
            simp only [frA, e0, e3, e6, e33, e34]
            go_simp
            try (rw [if_pos (by omega)]; go_simp)
            refine hK _ _ ⟨updA us 35 (.slice none 0 0), by simp [frA, updA, e0, e3, e6, e33, e34], { u0 := (U0.trans I.u0), u3 := (U3.trans I.u3), u6 := (U6.trans I.u6), bel := (I.bel), o1 := (fun h => U33.trans (I.o1 (D1.symm.trans h))), o2 := (fun h => U34.trans (I.o2 (D2.symm.trans h))), o3 := (fun _ => U35), o5 := (fun h => U37.trans (I.o5 (D5.symm.trans h))), o8 := (fun h => U40.trans (I.o8 (D8.symm.trans h))), o9 := (fun h => U41.trans (I.o9 (D9.symm.trans h))), o10 := (fun h => U42.trans (I.o10 (D10.symm.trans h))), o6 := (fun h0 h1 => by rw [U38]; exact I.o6 (D6.symm.trans h0) (D7.symm.trans h1)), r0 := (fun h0 h1 => by rw [U32]; exact I.r0 (D0.symm.trans h0) (D4.symm.trans h1)), r4 := (fun h0 h1 => by rw [U36]; exact I.r4 (D4.symm.trans h0) (D7.symm.trans h1)), r7 := (fun h0 h1 => by rw [U39]; exact I.r7 (D7.symm.trans h0) (D11.symm.trans h1)), r11 := (fun h0 => by rw [U43]; exact I.r11 (D11.symm.trans h0)), s0 := (fun h0 h1 h2 h3 => by rw [U32, U38]; exact I.s0 (D0.symm.trans h0) (D4.symm.trans h1) (D6.symm.trans h2) (D7.symm.trans h3)), s4 := (fun h0 h1 h2 => by rw [U36, U38]; exact I.s4 (D4.symm.trans h0) (D7.symm.trans h1) (D6.symm.trans h2)), o12 := (fun h => by rw [U7, U43, D11]; exact I.o12 (D12.symm.trans h)), i7 := (fun h => D4.trans (I.i7 (D7.symm.trans h))), i11 := (fun h => D7.trans (I.i11 (D11.symm.trans h))) }⟩
          · skip
            have D0 : (d.setIfInBounds 4 true).getD 0 false = d.getD 0 false := getD_set_ne false (by decide)
            have D1 : (d.setIfInBounds 4 true).getD 1 false = d.getD 1 false := getD_set_ne false (by decide)
            have D2 : (d.setIfInBounds 4 true).getD 2 false = d.getD 2 false := getD_set_ne false (by decide)
            have D3 : (d.setIfInBounds 4 true).getD 3 false = d.getD 3 false := getD_set_ne false (by decide)
            have D4 : (d.setIfInBounds 4 true).getD 4 false = true := getD_set_same hun
            have D5 : (d.setIfInBounds 4 true).getD 5 false = d.getD 5 false := getD_set_ne false (by decide)
            have D6 : (d.setIfInBounds 4 true).getD 6 false = d.getD 6 false := getD_set_ne false (by decide)
            have D7 : (d.setIfInBounds 4 true).getD 7 false = d.getD 7 false := getD_set_ne false (by decide)
            have D8 : (d.setIfInBounds 4 true).getD 8 false = d.getD 8 false := getD_set_ne false (by decide)
            have D9 : (d.setIfInBounds 4 true).getD 9 false = d.getD 9 false := getD_set_ne false (by decide)
            have D10 : (d.setIfInBounds 4 true).getD 10 false = d.getD 10 false := getD_set_ne false (by decide)
            have D11 : (d.setIfInBounds 4 true).getD 11 false = d.getD 11 false := getD_set_ne false (by decide)
            have D12 : (d.setIfInBounds 4 true).getD 12 false = d.getD 12 false := getD_set_ne false (by decide)
            have e35 := I.o3 (hall ⟨3, .data⟩ (by simp) rfl)
            have h00 := hall ⟨0, .data⟩ (by simp) rfl
            have hRow := I.r0 (hall ⟨0, .data⟩ (by simp) rfl) (getD_tf hun)
            refine wpOp_append_pty rfl rfl (.tmp 32) (.tmp 35) rfl wq.heap.size (us 32) [] rfl hRow (none) (0) (([] : List Pty)) (by show us 35 = _; rw [e35] <;> simp [hl1]) (q1.below I.bel) (.inl rfl) (by simp [hl1, hl3] <;> omega) hsz ?_
            intro v W2 hR2 hB hg hv
            have U0 : updA us 36 (v) 0 = us 0 := upd_other (by decide)
            have U3 : updA us 36 (v) 3 = us 3 := upd_other (by decide)
            have U6 : updA us 36 (v) 6 = us 6 := upd_other (by decide)
            have U7 : updA us 36 (v) 7 = us 7 := upd_other (by decide)
            have U32 : updA us 36 (v) 32 = us 32 := upd_other (by decide)
            have U33 : updA us 36 (v) 33 = us 33 := upd_other (by decide)
            have U34 : updA us 36 (v) 34 = us 34 := upd_other (by decide)
            have U35 : updA us 36 (v) 35 = us 35 := upd_other (by decide)
            have U36 : updA us 36 (v) 36 = (v) := upd_same _ _ _
            have U37 : updA us 36 (v) 37 = us 37 := upd_other (by decide)
            have U38 : updA us 36 (v) 38 = us 38 := upd_other (by decide)
            have U39 : updA us 36 (v) 39 = us 39 := upd_other (by decide)
            have U40 : updA us 36 (v) 40 = us 40 := upd_other (by decide)
            have U41 : updA us 36 (v) 41 = us 41 := upd_other (by decide)
            have U42 : updA us 36 (v) 42 = us 42 := upd_other (by decide)
            have U43 : updA us 36 (v) 43 = us 43 := upd_other (by decide)
            refine ⟨updA us 36 v, by simp [frA, updA, Act.put], { u0 := (U0.trans I.u0), u3 := (U3.trans I.u3), u6 := (U6.trans I.u6), bel := (I.bel.trans hB), o1 := (fun h => U33.trans (I.o1 (D1.symm.trans h))), o2 := (fun h => U34.trans (I.o2 (D2.symm.trans h))), o3 := (fun h => U35.trans (I.o3 (D3.symm.trans h))), o5 := (fun h => U37.trans (I.o5 (D5.symm.trans h))), o8 := (fun h => U40.trans (I.o8 (D8.symm.trans h))), o9 := (fun h => U41.trans (I.o9 (D9.symm.trans h))), o10 := (fun h => U42.trans (I.o10 (D10.symm.trans h))), o6 := (fun h0 h1 => by rw [U38]; exact (I.o6 (D6.symm.trans h0) (D7.symm.trans h1)).sep (I.s0 h00 (getD_tf hun) (D6.symm.trans h0) (D7.symm.trans h1)) hg), r0 := (fun h0 h1 => by rw [D4] at h1; cases h1), r4 := (fun _ _ => by rw [U36]; simpa using hR2), r7 := (fun h0 h1 => absurd (I.i7 (D7.symm.trans h0)) (by rw [getD_tf hun]; exact Bool.false_ne_true)), r11 := (fun h0 => absurd (I.i7 (I.i11 (D11.symm.trans h0))) (by rw [getD_tf hun]; exact Bool.false_ne_true)), s0 := (fun h0 h1 h2 h3 => by rw [D4] at h1; cases h1), s4 := (fun h0 h1 h2 => by rw [U36, U38]; exact sep_app (I.o6 (D6.symm.trans h2) (D7.symm.trans h1)) (I.s0 h00 (getD_tf hun) (D6.symm.trans h2) (D7.symm.trans h1)) hv), o12 := (fun h => by rw [U7, U43, D11]; exact I.o12 (D12.symm.trans h)), i7 := (fun _ => D4), i11 := (fun h => D7.trans (I.i11 (D11.symm.trans h))) }⟩
          · skip
            have D0 : (d.setIfInBounds 5 true).getD 0 false = d.getD 0 false := getD_set_ne false (by decide)
            have D1 : (d.setIfInBounds 5 true).getD 1 false = d.getD 1 false := getD_set_ne false (by decide)
            have D2 : (d.setIfInBounds 5 true).getD 2 false = d.getD 2 false := getD_set_ne false (by decide)
            have D3 : (d.setIfInBounds 5 true).getD 3 false = d.getD 3 false := getD_set_ne false (by decide)
            have D4 : (d.setIfInBounds 5 true).getD 4 false = d.getD 4 false := getD_set_ne false (by decide)
            have D5 : (d.setIfInBounds 5 true).getD 5 false = true := getD_set_same hun
            have D6 : (d.setIfInBounds 5 true).getD 6 false = d.getD 6 false := getD_set_ne false (by decide)
            have D7 : (d.setIfInBounds 5 true).getD 7 false = d.getD 7 false := getD_set_ne false (by decide)
            have D8 : (d.setIfInBounds 5 true).getD 8 false = d.getD 8 false := getD_set_ne false (by decide)
            have D9 : (d.setIfInBounds 5 true).getD 9 false = d.getD 9 false := getD_set_ne false (by decide)
            have D10 : (d.setIfInBounds 5 true).getD 10 false = d.getD 10 false := getD_set_ne false (by decide)
            have D11 : (d.setIfInBounds 5 true).getD 11 false = d.getD 11 false := getD_set_ne false (by decide)
            have D12 : (d.setIfInBounds 5 true).getD 12 false = d.getD 12 false := getD_set_ne false (by decide)
            have hbx := hbox.belowB hb0 I.bel
            have c0 := hbx.c0
            have c1 := hbx.c1
            have c2 := hbx.c2
            have U0 : updA us 37 (.agg #[.string ⟨x.c.toArray⟩, .int .i64 x.k, .string ⟨x.a.toArray⟩]) 0 = us 0 := upd_other (by decide)
            have U3 : updA us 37 (.agg #[.string ⟨x.c.toArray⟩, .int .i64 x.k, .string ⟨x.a.toArray⟩]) 3 = us 3 := upd_other (by decide)
            have U6 : updA us 37 (.agg #[.string ⟨x.c.toArray⟩, .int .i64 x.k, .string ⟨x.a.toArray⟩]) 6 = us 6 := upd_other (by decide)
            have U7 : updA us 37 (.agg #[.string ⟨x.c.toArray⟩, .int .i64 x.k, .string ⟨x.a.toArray⟩]) 7 = us 7 := upd_other (by decide)
            have U32 : updA us 37 (.agg #[.string ⟨x.c.toArray⟩, .int .i64 x.k, .string ⟨x.a.toArray⟩]) 32 = us 32 := upd_other (by decide)
            have U33 : updA us 37 (.agg #[.string ⟨x.c.toArray⟩, .int .i64 x.k, .string ⟨x.a.toArray⟩]) 33 = us 33 := upd_other (by decide)
            have U34 : updA us 37 (.agg #[.string ⟨x.c.toArray⟩, .int .i64 x.k, .string ⟨x.a.toArray⟩]) 34 = us 34 := upd_other (by decide)
            have U35 : updA us 37 (.agg #[.string ⟨x.c.toArray⟩, .int .i64 x.k, .string ⟨x.a.toArray⟩]) 35 = us 35 := upd_other (by decide)
            have U36 : updA us 37 (.agg #[.string ⟨x.c.toArray⟩, .int .i64 x.k, .string ⟨x.a.toArray⟩]) 36 = us 36 := upd_other (by decide)
            have U37 : updA us 37 (.agg #[.string ⟨x.c.toArray⟩, .int .i64 x.k, .string ⟨x.a.toArray⟩]) 37 = (.agg #[.string ⟨x.c.toArray⟩, .int .i64 x.k, .string ⟨x.a.toArray⟩]) := upd_same _ _ _
            have U38 : updA us 37 (.agg #[.string ⟨x.c.toArray⟩, .int .i64 x.k, .string ⟨x.a.toArray⟩]) 38 = us 38 := upd_other (by decide)
            have U39 : updA us 37 (.agg #[.string ⟨x.c.toArray⟩, .int .i64 x.k, .string ⟨x.a.toArray⟩]) 39 = us 39 := upd_other (by decide)
            have U40 : updA us 37 (.agg #[.string ⟨x.c.toArray⟩, .int .i64 x.k, .string ⟨x.a.toArray⟩]) 40 = us 40 := upd_other (by decide)
            have U41 : updA us 37 (.agg #[.string ⟨x.c.toArray⟩, .int .i64 x.k, .string ⟨x.a.toArray⟩]) 41 = us 41 := upd_other (by decide)
            have U42 : updA us 37 (.agg #[.string ⟨x.c.toArray⟩, .int .i64 x.k, .string ⟨x.a.toArray⟩]) 42 = us 42 := upd_other (by decide)
            have U43 : updA us 37 (.agg #[.string ⟨x.c.toArray⟩, .int .i64 x.k, .string ⟨x.a.toArray⟩]) 43 = us 43 := upd_other (by decide)
            refine wpOp_step rfl (fun K hK => ?_)
            simp only [frA, e0, e3, e6, c0, c1, c2]
            go_simp
            refine hK _ _ ⟨updA us 37 (.agg #[.string ⟨x.c.toArray⟩, .int .i64 x.k, .string ⟨x.a.toArray⟩]), by simp [frA, updA, e0, e3, e6, c0, c1, c2], { u0 := (U0.trans I.u0), u3 := (U3.trans I.u3), u6 := (U6.trans I.u6), bel := (I.bel), o1 := (fun h => U33.trans (I.o1 (D1.symm.trans h))), o2 := (fun h => U34.trans (I.o2 (D2.symm.trans h))), o3 := (fun h => U35.trans (I.o3 (D3.symm.trans h))), o5 := (fun _ => U37), o8 := (fun h => U40.trans (I.o8 (D8.symm.trans h))), o9 := (fun h => U41.trans (I.o9 (D9.symm.trans h))), o10 := (fun h => U42.trans (I.o10 (D10.symm.trans h))), o6 := (fun h0 h1 => by rw [U38]; exact I.o6 (D6.symm.trans h0) (D7.symm.trans h1)), r0 := (fun h0 h1 => by rw [U32]; exact I.r0 (D0.symm.trans h0) (D4.symm.trans h1)), r4 := (fun h0 h1 => by rw [U36]; exact I.r4 (D4.symm.trans h0) (D7.symm.trans h1)), r7 := (fun h0 h1 => by rw [U39]; exact I.r7 (D7.symm.trans h0) (D11.symm.trans h1)), r11 := (fun h0 => by rw [U43]; exact I.r11 (D11.symm.trans h0)), s0 := (fun h0 h1 h2 h3 => by rw [U32, U38]; exact I.s0 (D0.symm.trans h0) (D4.symm.trans h1) (D6.symm.trans h2) (D7.symm.trans h3)), s4 := (fun h0 h1 h2 => by rw [U36, U38]; exact I.s4 (D4.symm.trans h0) (D7.symm.trans h1) (D6.symm.trans h2)), o12 := (fun h => by rw [U7, U43, D11]; exact I.o12 (D12.symm.trans h)), i7 := (fun h => D4.trans (I.i7 (D7.symm.trans h))), i11 := (fun h => D7.trans (I.i11 (D11.symm.trans h))) }⟩
          · skip
            have D0 : (d.setIfInBounds 6 true).getD 0 false = d.getD 0 false := getD_set_ne false (by decide)
            have D1 : (d.setIfInBounds 6 true).getD 1 false = d.getD 1 false := getD_set_ne false (by decide)
            have D2 : (d.setIfInBounds 6 true).getD 2 false = d.getD 2 false := getD_set_ne false (by decide)
            have D3 : (d.setIfInBounds 6 true).getD 3 false = d.getD 3 false := getD_set_ne false (by decide)
            have D4 : (d.setIfInBounds 6 true).getD 4 false = d.getD 4 false := getD_set_ne false (by decide)
            have D5 : (d.setIfInBounds 6 true).getD 5 false = d.getD 5 false := getD_set_ne false (by decide)
            have D6 : (d.setIfInBounds 6 true).getD 6 false = true := getD_set_same hun
            have D7 : (d.setIfInBounds 6 true).getD 7 false = d.getD 7 false := getD_set_ne false (by decide)
            have D8 : (d.setIfInBounds 6 true).getD 8 false = d.getD 8 false := getD_set_ne false (by decide)
            have D9 : (d.setIfInBounds 6 true).getD 9 false = d.getD 9 false := getD_set_ne false (by decide)
            have D10 : (d.setIfInBounds 6 true).getD 10 false = d.getD 10 false := getD_set_ne false (by decide)
            have D11 : (d.setIfInBounds 6 true).getD 11 false = d.getD 11 false := getD_set_ne false (by decide)
            have D12 : (d.setIfInBounds 6 true).getD 12 false = d.getD 12 false := getD_set_ne false (by decide)
            have e37 := I.o5 (hall ⟨5, .data⟩ (by simp) rfl)
            have U0 : updA us 38 (.slice (some ⟨W.heap.size, 0, none⟩) 1 1) 0 = us 0 := upd_other (by decide)
            have U3 : updA us 38 (.slice (some ⟨W.heap.size, 0, none⟩) 1 1) 3 = us 3 := upd_other (by decide)
            have U6 : updA us 38 (.slice (some ⟨W.heap.size, 0, none⟩) 1 1) 6 = us 6 := upd_other (by decide)
            have U7 : updA us 38 (.slice (some ⟨W.heap.size, 0, none⟩) 1 1) 7 = us 7 := upd_other (by decide)
            have U32 : updA us 38 (.slice (some ⟨W.heap.size, 0, none⟩) 1 1) 32 = us 32 := upd_other (by decide)
            have U33 : updA us 38 (.slice (some ⟨W.heap.size, 0, none⟩) 1 1) 33 = us 33 := upd_other (by decide)
            have U34 : updA us 38 (.slice (some ⟨W.heap.size, 0, none⟩) 1 1) 34 = us 34 := upd_other (by decide)
            have U35 : updA us 38 (.slice (some ⟨W.heap.size, 0, none⟩) 1 1) 35 = us 35 := upd_other (by decide)
            have U36 : updA us 38 (.slice (some ⟨W.heap.size, 0, none⟩) 1 1) 36 = us 36 := upd_other (by decide)
            have U37 : updA us 38 (.slice (some ⟨W.heap.size, 0, none⟩) 1 1) 37 = us 37 := upd_other (by decide)
            have U38 : updA us 38 (.slice (some ⟨W.heap.size, 0, none⟩) 1 1) 38 = (.slice (some ⟨W.heap.size, 0, none⟩) 1 1) := upd_same _ _ _
            have U39 : updA us 38 (.slice (some ⟨W.heap.size, 0, none⟩) 1 1) 39 = us 39 := upd_other (by decide)
            have U40 : updA us 38 (.slice (some ⟨W.heap.size, 0, none⟩) 1 1) 40 = us 40 := upd_other (by decide)
            have U41 : updA us 38 (.slice (some ⟨W.heap.size, 0, none⟩) 1 1) 41 = us 41 := upd_other (by decide)
            have U42 : updA us 38 (.slice (some ⟨W.heap.size, 0, none⟩) 1 1) 42 = us 42 := upd_other (by decide)
            have U43 : updA us 38 (.slice (some ⟨W.heap.size, 0, none⟩) 1 1) 43 = us 43 := upd_other (by decide)
            refine wpOp_step rfl (fun K hK => ?_)
            simp only [frA, e0, e3, e6, e37]
            go_simp
            refine hK _ _ ⟨updA us 38 (.slice (some ⟨W.heap.size, 0, none⟩) 1 1), by simp [frA, updA, e0, e3, e6, e37], { u0 := (U0.trans I.u0), u3 := (U3.trans I.u3), u6 := (U6.trans I.u6), bel := (I.bel.alloc hsz _), o1 := (fun h => U33.trans (I.o1 (D1.symm.trans h))), o2 := (fun h => U34.trans (I.o2 (D2.symm.trans h))), o3 := (fun h => U35.trans (I.o3 (D3.symm.trans h))), o5 := (fun h => U37.trans (I.o5 (D5.symm.trans h))), o8 := (fun h => U40.trans (I.o8 (D8.symm.trans h))), o9 := (fun h => U41.trans (I.o9 (D9.symm.trans h))), o10 := (fun h => U42.trans (I.o10 (D10.symm.trans h))), o6 := (fun _ _ => by rw [U38]; exact ⟨_, rfl, heap_alloc_new W _, hsz⟩), r0 := (fun h0 h1 => by rw [U32]; exact (I.r0 (D0.symm.trans h0) (D4.symm.trans h1)).below (below_alloc _ _)), r4 := (fun h0 h1 => by rw [U36]; exact (I.r4 (D4.symm.trans h0) (D7.symm.trans h1)).below (below_alloc _ _)), r7 := (fun h0 h1 => by rw [U39]; exact (I.r7 (D7.symm.trans h0) (D11.symm.trans h1)).below (below_alloc _ _)), r11 := (fun h0 => by rw [U43]; exact (I.r11 (D11.symm.trans h0)).below (below_alloc _ _)), s0 := (fun h0 h1 h2 h3 => by rw [U32, U38]; exact sep_lt fun k hk => (I.r0 (D0.symm.trans h0) (D4.symm.trans h1)).lt hk), s4 := (fun h0 h1 h2 => by rw [U36, U38]; exact sep_lt fun k hk => (I.r4 (D4.symm.trans h0) (D7.symm.trans h1)).lt hk), o12 := (fun h => by rw [U7, U43, D11]; exact I.o12 (D12.symm.trans h)), i7 := (fun h => D4.trans (I.i7 (D7.symm.trans h))), i11 := (fun h => D7.trans (I.i11 (D11.symm.trans h))) }⟩
          · skip
            have D0 : (d.setIfInBounds 7 true).getD 0 false = d.getD 0 false := getD_set_ne false (by decide)
            have D1 : (d.setIfInBounds 7 true).getD 1 false = d.getD 1 false := getD_set_ne false (by decide)
            have D2 : (d.setIfInBounds 7 true).getD 2 false = d.getD 2 false := getD_set_ne false (by decide)
            have D3 : (d.setIfInBounds 7 true).getD 3 false = d.getD 3 false := getD_set_ne false (by decide)
            have D4 : (d.setIfInBounds 7 true).getD 4 false = d.getD 4 false := getD_set_ne false (by decide)
            have D5 : (d.setIfInBounds 7 true).getD 5 false = d.getD 5 false := getD_set_ne false (by decide)
            have D6 : (d.setIfInBounds 7 true).getD 6 false = d.getD 6 false := getD_set_ne false (by decide)
            have D7 : (d.setIfInBounds 7 true).getD 7 false = true := getD_set_same hun
            have D8 : (d.setIfInBounds 7 true).getD 8 false = d.getD 8 false := getD_set_ne false (by decide)
            have D9 : (d.setIfInBounds 7 true).getD 9 false = d.getD 9 false := getD_set_ne false (by decide)
            have D10 : (d.setIfInBounds 7 true).getD 10 false = d.getD 10 false := getD_set_ne false (by decide)
            have D11 : (d.setIfInBounds 7 true).getD 11 false = d.getD 11 false := getD_set_ne false (by decide)
            have D12 : (d.setIfInBounds 7 true).getD 12 false = d.getD 12 false := getD_set_ne false (by decide)
            have h44 := hall ⟨4, .data⟩ (by simp) rfl
            obtain ⟨B, e38, hRB⟩ := (I.o6 (hall ⟨6, .data⟩ (by simp) rfl) (getD_tf hun)).row
            have hRow := I.r4 (hall ⟨4, .data⟩ (by simp) rfl) (getD_tf hun)
            refine wpOp_append_pty rfl rfl (.tmp 36) (.tmp 38) rfl wq.heap.size (us 36) (([] : List Pty)) rfl hRow (some ⟨B, 0, none⟩) 1 [x] e38 hRB (.inr ⟨_, _, rfl⟩) (by simp [hl1, hl3] <;> omega) hsz ?_
            intro v W2 hR2 hB hg hv
            have U0 : updA us 39 (v) 0 = us 0 := upd_other (by decide)
            have U3 : updA us 39 (v) 3 = us 3 := upd_other (by decide)
            have U6 : updA us 39 (v) 6 = us 6 := upd_other (by decide)
            have U7 : updA us 39 (v) 7 = us 7 := upd_other (by decide)
            have U32 : updA us 39 (v) 32 = us 32 := upd_other (by decide)
            have U33 : updA us 39 (v) 33 = us 33 := upd_other (by decide)
            have U34 : updA us 39 (v) 34 = us 34 := upd_other (by decide)
            have U35 : updA us 39 (v) 35 = us 35 := upd_other (by decide)
            have U36 : updA us 39 (v) 36 = us 36 := upd_other (by decide)
            have U37 : updA us 39 (v) 37 = us 37 := upd_other (by decide)
            have U38 : updA us 39 (v) 38 = us 38 := upd_other (by decide)
            have U39 : updA us 39 (v) 39 = (v) := upd_same _ _ _
            have U40 : updA us 39 (v) 40 = us 40 := upd_other (by decide)
            have U41 : updA us 39 (v) 41 = us 41 := upd_other (by decide)
            have U42 : updA us 39 (v) 42 = us 42 := upd_other (by decide)
            have U43 : updA us 39 (v) 43 = us 43 := upd_other (by decide)
            refine ⟨updA us 39 v, by simp [frA, updA, Act.put], { u0 := (U0.trans I.u0), u3 := (U3.trans I.u3), u6 := (U6.trans I.u6), bel := (I.bel.trans hB), o1 := (fun h => U33.trans (I.o1 (D1.symm.trans h))), o2 := (fun h => U34.trans (I.o2 (D2.symm.trans h))), o3 := (fun h => U35.trans (I.o3 (D3.symm.trans h))), o5 := (fun h => U37.trans (I.o5 (D5.symm.trans h))), o8 := (fun h => U40.trans (I.o8 (D8.symm.trans h))), o9 := (fun h => U41.trans (I.o9 (D9.symm.trans h))), o10 := (fun h => U42.trans (I.o10 (D10.symm.trans h))), o6 := (fun h0 h1 => by rw [D7] at h1; cases h1), r0 := (fun h0 h1 => absurd h44 (by rw [D4.symm.trans h1]; exact Bool.false_ne_true)), r4 := (fun h0 h1 => by rw [D7] at h1; cases h1), r7 := (fun _ _ => by rw [U39]; exact hR2), r11 := (fun h0 => absurd (I.i11 (D11.symm.trans h0)) (by rw [getD_tf hun]; exact Bool.false_ne_true)), s0 := (fun h0 h1 h2 h3 => by rw [D7] at h3; cases h3), s4 := (fun h0 h1 h2 => by rw [D7] at h1; cases h1), o12 := (fun h => by rw [U7, U43, D11]; exact I.o12 (D12.symm.trans h)), i7 := (fun _ => D4.trans h44), i11 := (fun _ => D7) }⟩
          · skip
            have D0 : (d.setIfInBounds 8 true).getD 0 false = d.getD 0 false := getD_set_ne false (by decide)
            have D1 : (d.setIfInBounds 8 true).getD 1 false = d.getD 1 false := getD_set_ne false (by decide)
            have D2 : (d.setIfInBounds 8 true).getD 2 false = d.getD 2 false := getD_set_ne false (by decide)
            have D3 : (d.setIfInBounds 8 true).getD 3 false = d.getD 3 false := getD_set_ne false (by decide)
            have D4 : (d.setIfInBounds 8 true).getD 4 false = d.getD 4 false := getD_set_ne false (by decide)
            have D5 : (d.setIfInBounds 8 true).getD 5 false = d.getD 5 false := getD_set_ne false (by decide)
            have D6 : (d.setIfInBounds 8 true).getD 6 false = d.getD 6 false := getD_set_ne false (by decide)
            have D7 : (d.setIfInBounds 8 true).getD 7 false = d.getD 7 false := getD_set_ne false (by decide)
            have D8 : (d.setIfInBounds 8 true).getD 8 false = true := getD_set_same hun
            have D9 : (d.setIfInBounds 8 true).getD 9 false = d.getD 9 false := getD_set_ne false (by decide)
            have D10 : (d.setIfInBounds 8 true).getD 10 false = d.getD 10 false := getD_set_ne false (by decide)
            have D11 : (d.setIfInBounds 8 true).getD 11 false = d.getD 11 false := getD_set_ne false (by decide)
            have D12 : (d.setIfInBounds 8 true).getD 12 false = d.getD 12 false := getD_set_ne false (by decide)
            have U0 : updA us 40 (.slice (none) 0 0) 0 = us 0 := upd_other (by decide)
            have U3 : updA us 40 (.slice (none) 0 0) 3 = us 3 := upd_other (by decide)
            have U6 : updA us 40 (.slice (none) 0 0) 6 = us 6 := upd_other (by decide)
            have U7 : updA us 40 (.slice (none) 0 0) 7 = us 7 := upd_other (by decide)
            have U32 : updA us 40 (.slice (none) 0 0) 32 = us 32 := upd_other (by decide)
            have U33 : updA us 40 (.slice (none) 0 0) 33 = us 33 := upd_other (by decide)
            have U34 : updA us 40 (.slice (none) 0 0) 34 = us 34 := upd_other (by decide)
            have U35 : updA us 40 (.slice (none) 0 0) 35 = us 35 := upd_other (by decide)
            have U36 : updA us 40 (.slice (none) 0 0) 36 = us 36 := upd_other (by decide)
            have U37 : updA us 40 (.slice (none) 0 0) 37 = us 37 := upd_other (by decide)
            have U38 : updA us 40 (.slice (none) 0 0) 38 = us 38 := upd_other (by decide)
            have U39 : updA us 40 (.slice (none) 0 0) 39 = us 39 := upd_other (by decide)
            have U40 : updA us 40 (.slice (none) 0 0) 40 = (.slice (none) 0 0) := upd_same _ _ _
            have U41 : updA us 40 (.slice (none) 0 0) 41 = us 41 := upd_other (by decide)
            have U42 : updA us 40 (.slice (none) 0 0) 42 = us 42 := upd_other (by decide)
            have U43 : updA us 40 (.slice (none) 0 0) 43 = us 43 := upd_other (by decide)
            refine wpOp_step rfl (fun K hK => ?_)
            simp only [frA, e0, e3, e6]
            go_simp
            refine hK _ _ ⟨updA us 40 (.slice (none) 0 0), by simp [frA, updA, e0, e3, e6], { u0 := (U0.trans I.u0), u3 := (U3.trans I.u3), u6 := (U6.trans I.u6), bel := (I.bel), o1 := (fun h => U33.trans (I.o1 (D1.symm.trans h))), o2 := (fun h => U34.trans (I.o2 (D2.symm.trans h))), o3 := (fun h => U35.trans (I.o3 (D3.symm.trans h))), o5 := (fun h => U37.trans (I.o5 (D5.symm.trans h))), o8 := (fun _ => U40), o9 := (fun h => U41.trans (I.o9 (D9.symm.trans h))), o10 := (fun h => U42.trans (I.o10 (D10.symm.trans h))), o6 := (fun h0 h1 => by rw [U38]; exact I.o6 (D6.symm.trans h0) (D7.symm.trans h1)), r0 := (fun h0 h1 => by rw [U32]; exact I.r0 (D0.symm.trans h0) (D4.symm.trans h1)), r4 := (fun h0 h1 => by rw [U36]; exact I.r4 (D4.symm.trans h0) (D7.symm.trans h1)), r7 := (fun h0 h1 => by rw [U39]; exact I.r7 (D7.symm.trans h0) (D11.symm.trans h1)), r11 := (fun h0 => by rw [U43]; exact I.r11 (D11.symm.trans h0)), s0 := (fun h0 h1 h2 h3 => by rw [U32, U38]; exact I.s0 (D0.symm.trans h0) (D4.symm.trans h1) (D6.symm.trans h2) (D7.symm.trans h3)), s4 := (fun h0 h1 h2 => by rw [U36, U38]; exact I.s4 (D4.symm.trans h0) (D7.symm.trans h1) (D6.symm.trans h2)), o12 := (fun h => by rw [U7, U43, D11]; exact I.o12 (D12.symm.trans h)), i7 := (fun h => D4.trans (I.i7 (D7.symm.trans h))), i11 := (fun h => D7.trans (I.i11 (D11.symm.trans h))) }⟩
          · skip
            have D0 : (d.setIfInBounds 9 true).getD 0 false = d.getD 0 false := getD_set_ne false (by decide)
            have D1 : (d.setIfInBounds 9 true).getD 1 false = d.getD 1 false := getD_set_ne false (by decide)
            have D2 : (d.setIfInBounds 9 true).getD 2 false = d.getD 2 false := getD_set_ne false (by decide)
            have D3 : (d.setIfInBounds 9 true).getD 3 false = d.getD 3 false := getD_set_ne false (by decide)
            have D4 : (d.setIfInBounds 9 true).getD 4 false = d.getD 4 false := getD_set_ne false (by decide)
            have D5 : (d.setIfInBounds 9 true).getD 5 false = d.getD 5 false := getD_set_ne false (by decide)
            have D6 : (d.setIfInBounds 9 true).getD 6 false = d.getD 6 false := getD_set_ne false (by decide)
            have D7 : (d.setIfInBounds 9 true).getD 7 false = d.getD 7 false := getD_set_ne false (by decide)
            have D8 : (d.setIfInBounds 9 true).getD 8 false = d.getD 8 false := getD_set_ne false (by decide)
            have D9 : (d.setIfInBounds 9 true).getD 9 false = true := getD_set_same hun
            have D10 : (d.setIfInBounds 9 true).getD 10 false = d.getD 10 false := getD_set_ne false (by decide)
            have D11 : (d.setIfInBounds 9 true).getD 11 false = d.getD 11 false := getD_set_ne false (by decide)
            have D12 : (d.setIfInBounds 9 true).getD 12 false = d.getD 12 false := getD_set_ne false (by decide)
            have U0 : updA us 41 (.int .i64 ((0 : Nat) : Int)) 0 = us 0 := upd_other (by decide)
            have U3 : updA us 41 (.int .i64 ((0 : Nat) : Int)) 3 = us 3 := upd_other (by decide)
            have U6 : updA us 41 (.int .i64 ((0 : Nat) : Int)) 6 = us 6 := upd_other (by decide)
            have U7 : updA us 41 (.int .i64 ((0 : Nat) : Int)) 7 = us 7 := upd_other (by decide)
            have U32 : updA us 41 (.int .i64 ((0 : Nat) : Int)) 32 = us 32 := upd_other (by decide)
            have U33 : updA us 41 (.int .i64 ((0 : Nat) : Int)) 33 = us 33 := upd_other (by decide)
            have U34 : updA us 41 (.int .i64 ((0 : Nat) : Int)) 34 = us 34 := upd_other (by decide)
            have U35 : updA us 41 (.int .i64 ((0 : Nat) : Int)) 35 = us 35 := upd_other (by decide)
            have U36 : updA us 41 (.int .i64 ((0 : Nat) : Int)) 36 = us 36 := upd_other (by decide)
            have U37 : updA us 41 (.int .i64 ((0 : Nat) : Int)) 37 = us 37 := upd_other (by decide)
            have U38 : updA us 41 (.int .i64 ((0 : Nat) : Int)) 38 = us 38 := upd_other (by decide)
            have U39 : updA us 41 (.int .i64 ((0 : Nat) : Int)) 39 = us 39 := upd_other (by decide)
            have U40 : updA us 41 (.int .i64 ((0 : Nat) : Int)) 40 = us 40 := upd_other (by decide)
            have U41 : updA us 41 (.int .i64 ((0 : Nat) : Int)) 41 = (.int .i64 ((0 : Nat) : Int)) := upd_same _ _ _
            have U42 : updA us 41 (.int .i64 ((0 : Nat) : Int)) 42 = us 42 := upd_other (by decide)
            have U43 : updA us 41 (.int .i64 ((0 : Nat) : Int)) 43 = us 43 := upd_other (by decide)
            refine wpOp_step rfl (fun K hK => ?_)
            simp only [frA, e0, e3, e6]
            go_simp
            refine hK _ _ ⟨updA us 41 (.int .i64 ((0 : Nat) : Int)), by simp [frA, updA, e0, e3, e6], { u0 := (U0.trans I.u0), u3 := (U3.trans I.u3), u6 := (U6.trans I.u6), bel := (I.bel), o1 := (fun h => U33.trans (I.o1 (D1.symm.trans h))), o2 := (fun h => U34.trans (I.o2 (D2.symm.trans h))), o3 := (fun h => U35.trans (I.o3 (D3.symm.trans h))), o5 := (fun h => U37.trans (I.o5 (D5.symm.trans h))), o8 := (fun h => U40.trans (I.o8 (D8.symm.trans h))), o9 := (fun _ => U41), o10 := (fun h => U42.trans (I.o10 (D10.symm.trans h))), o6 := (fun h0 h1 => by rw [U38]; exact I.o6 (D6.symm.trans h0) (D7.symm.trans h1)), r0 := (fun h0 h1 => by rw [U32]; exact I.r0 (D0.symm.trans h0) (D4.symm.trans h1)), r4 := (fun h0 h1 => by rw [U36]; exact I.r4 (D4.symm.trans h0) (D7.symm.trans h1)), r7 := (fun h0 h1 => by rw [U39]; exact I.r7 (D7.symm.trans h0) (D11.symm.trans h1)), r11 := (fun h0 => by rw [U43]; exact I.r11 (D11.symm.trans h0)), s0 := (fun h0 h1 h2 h3 => by rw [U32, U38]; exact I.s0 (D0.symm.trans h0) (D4.symm.trans h1) (D6.symm.trans h2) (D7.symm.trans h3)), s4 := (fun h0 h1 h2 => by rw [U36, U38]; exact I.s4 (D4.symm.trans h0) (D7.symm.trans h1) (D6.symm.trans h2)), o12 := (fun h => by rw [U7, U43, D11]; exact I.o12 (D12.symm.trans h)), i7 := (fun h => D4.trans (I.i7 (D7.symm.trans h))), i11 := (fun h => D7.trans (I.i11 (D11.symm.trans h))) }⟩
          · skip
            have D0 : (d.setIfInBounds 10 true).getD 0 false = d.getD 0 false := getD_set_ne false (by decide)
            have D1 : (d.setIfInBounds 10 true).getD 1 false = d.getD 1 false := getD_set_ne false (by decide)
            have D2 : (d.setIfInBounds 10 true).getD 2 false = d.getD 2 false := getD_set_ne false (by decide)
            have D3 : (d.setIfInBounds 10 true).getD 3 false = d.getD 3 false := getD_set_ne false (by decide)
            have D4 : (d.setIfInBounds 10 true).getD 4 false = d.getD 4 false := getD_set_ne false (by decide)
            have D5 : (d.setIfInBounds 10 true).getD 5 false = d.getD 5 false := getD_set_ne false (by decide)
            have D6 : (d.setIfInBounds 10 true).getD 6 false = d.getD 6 false := getD_set_ne false (by decide)
            have D7 : (d.setIfInBounds 10 true).getD 7 false = d.getD 7 false := getD_set_ne false (by decide)
            have D8 : (d.setIfInBounds 10 true).getD 8 false = d.getD 8 false := getD_set_ne false (by decide)
            have D9 : (d.setIfInBounds 10 true).getD 9 false = d.getD 9 false := getD_set_ne false (by decide)
            have D10 : (d.setIfInBounds 10 true).getD 10 false = true := getD_set_same hun
            have D11 : (d.setIfInBounds 10 true).getD 11 false = d.getD 11 false := getD_set_ne false (by decide)
            have D12 : (d.setIfInBounds 10 true).getD 12 false = d.getD 12 false := getD_set_ne false (by decide)
            have e40 := I.o8 (hall ⟨8, .data⟩ (by simp) rfl)
            have e41 := I.o9 (hall ⟨9, .data⟩ (by simp) rfl)
            have U0 : updA us 42 (.slice none 0 0) 0 = us 0 := upd_other (by decide)
            have U3 : updA us 42 (.slice none 0 0) 3 = us 3 := upd_other (by decide)
            have U6 : updA us 42 (.slice none 0 0) 6 = us 6 := upd_other (by decide)
            have U7 : updA us 42 (.slice none 0 0) 7 = us 7 := upd_other (by decide)
            have U32 : updA us 42 (.slice none 0 0) 32 = us 32 := upd_other (by decide)
            have U33 : updA us 42 (.slice none 0 0) 33 = us 33 := upd_other (by decide)
            have U34 : updA us 42 (.slice none 0 0) 34 = us 34 := upd_other (by decide)
            have U35 : updA us 42 (.slice none 0 0) 35 = us 35 := upd_other (by decide)
            have U36 : updA us 42 (.slice none 0 0) 36 = us 36 := upd_other (by decide)
            have U37 : updA us 42 (.slice none 0 0) 37 = us 37 := upd_other (by decide)
            have U38 : updA us 42 (.slice none 0 0) 38 = us 38 := upd_other (by decide)
            have U39 : updA us 42 (.slice none 0 0) 39 = us 39 := upd_other (by decide)
            have U40 : updA us 42 (.slice none 0 0) 40 = us 40 := upd_other (by decide)
            have U41 : updA us 42 (.slice none 0 0) 41 = us 41 := upd_other (by decide)
            have U42 : updA us 42 (.slice none 0 0) 42 = (.slice none 0 0) := upd_same _ _ _
            have U43 : updA us 42 (.slice none 0 0) 43 = us 43 := upd_other (by decide)
            refine wpOp_step rfl (fun K hK => ?_)
            simp only [frA, e0, e3, e6, e40, e41]
            go_simp
            try (rw [if_pos (by omega)]; go_simp)
            refine hK _ _ ⟨updA us 42 (.slice none 0 0), by simp [frA, updA, e0, e3, e6, e40, e41], { u0 := (U0.trans I.u0), u3 := (U3.trans I.u3), u6 := (U6.trans I.u6), bel := (I.bel), o1 := (fun h => U33.trans (I.o1 (D1.symm.trans h))), o2 := (fun h => U34.trans (I.o2 (D2.symm.trans h))), o3 := (fun h => U35.trans (I.o3 (D3.symm.trans h))), o5 := (fun h => U37.trans (I.o5 (D5.symm.trans h))), o8 := (fun h => U40.trans (I.o8 (D8.symm.trans h))), o9 := (fun h => U41.trans (I.o9 (D9.symm.trans h))), o10 := (fun _ => U42), o6 := (fun h0 h1 => by rw [U38]; exact I.o6 (D6.symm.trans h0) (D7.symm.trans h1)), r0 := (fun h0 h1 => by rw [U32]; exact I.r0 (D0.symm.trans h0) (D4.symm.trans h1)), r4 := (fun h0 h1 => by rw [U36]; exact I.r4 (D4.symm.trans h0) (D7.symm.trans h1)), r7 := (fun h0 h1 => by rw [U39]; exact I.r7 (D7.symm.trans h0) (D11.symm.trans h1)), r11 := (fun h0 => by rw [U43]; exact I.r11 (D11.symm.trans h0)), s0 := (fun h0 h1 h2 h3 => by rw [U32, U38]; exact I.s0 (D0.symm.trans h0) (D4.symm.trans h1) (D6.symm.trans h2) (D7.symm.trans h3)), s4 := (fun h0 h1 h2 => by rw [U36, U38]; exact I.s4 (D4.symm.trans h0) (D7.symm.trans h1) (D6.symm.trans h2)), o12 := (fun h => by rw [U7, U43, D11]; exact I.o12 (D12.symm.trans h)), i7 := (fun h => D4.trans (I.i7 (D7.symm.trans h))), i11 := (fun h => D7.trans (I.i11 (D11.symm.trans h))) }⟩
          · skip
            have D0 : (d.setIfInBounds 11 true).getD 0 false = d.getD 0 false := getD_set_ne false (by decide)
            have D1 : (d.setIfInBounds 11 true).getD 1 false = d.getD 1 false := getD_set_ne false (by decide)
            have D2 : (d.setIfInBounds 11 true).getD 2 false = d.getD 2 false := getD_set_ne false (by decide)
            have D3 : (d.setIfInBounds 11 true).getD 3 false = d.getD 3 false := getD_set_ne false (by decide)
            have D4 : (d.setIfInBounds 11 true).getD 4 false = d.getD 4 false := getD_set_ne false (by decide)
            have D5 : (d.setIfInBounds 11 true).getD 5 false = d.getD 5 false := getD_set_ne false (by decide)
            have D6 : (d.setIfInBounds 11 true).getD 6 false = d.getD 6 false := getD_set_ne false (by decide)
            have D7 : (d.setIfInBounds 11 true).getD 7 false = d.getD 7 false := getD_set_ne false (by decide)
            have D8 : (d.setIfInBounds 11 true).getD 8 false = d.getD 8 false := getD_set_ne false (by decide)
            have D9 : (d.setIfInBounds 11 true).getD 9 false = d.getD 9 false := getD_set_ne false (by decide)
            have D10 : (d.setIfInBounds 11 true).getD 10 false = d.getD 10 false := getD_set_ne false (by decide)
            have D11 : (d.setIfInBounds 11 true).getD 11 false = true := getD_set_same hun
            have D12 : (d.setIfInBounds 11 true).getD 12 false = d.getD 12 false := getD_set_ne false (by decide)
            have e42 := I.o10 (hall ⟨10, .data⟩ (by simp) rfl)
            have h77 := hall ⟨7, .data⟩ (by simp) rfl
            have hRow := I.r7 (hall ⟨7, .data⟩ (by simp) rfl) (getD_tf hun)
            refine wpOp_append_pty rfl rfl (.tmp 39) (.tmp 42) rfl wq.heap.size (us 39) (([] : List Pty) ++ [x]) rfl hRow (none) (0) (([] : List Pty)) (by show us 42 = _; rw [e42] <;> simp [hl3]) (q3.below I.bel) (.inl rfl) (by simp [hl1, hl3] <;> omega) hsz ?_
            intro v W2 hR2 hB hg hv
            have U0 : updA us 43 (v) 0 = us 0 := upd_other (by decide)
            have U3 : updA us 43 (v) 3 = us 3 := upd_other (by decide)
            have U6 : updA us 43 (v) 6 = us 6 := upd_other (by decide)
            have U7 : updA us 43 (v) 7 = us 7 := upd_other (by decide)
            have U32 : updA us 43 (v) 32 = us 32 := upd_other (by decide)
            have U33 : updA us 43 (v) 33 = us 33 := upd_other (by decide)
            have U34 : updA us 43 (v) 34 = us 34 := upd_other (by decide)
            have U35 : updA us 43 (v) 35 = us 35 := upd_other (by decide)
            have U36 : updA us 43 (v) 36 = us 36 := upd_other (by decide)
            have U37 : updA us 43 (v) 37 = us 37 := upd_other (by decide)
            have U38 : updA us 43 (v) 38 = us 38 := upd_other (by decide)
            have U39 : updA us 43 (v) 39 = us 39 := upd_other (by decide)
            have U40 : updA us 43 (v) 40 = us 40 := upd_other (by decide)
            have U41 : updA us 43 (v) 41 = us 41 := upd_other (by decide)
            have U42 : updA us 43 (v) 42 = us 42 := upd_other (by decide)
            have U43 : updA us 43 (v) 43 = (v) := upd_same _ _ _
            refine ⟨updA us 43 v, by simp [frA, updA, Act.put], { u0 := (U0.trans I.u0), u3 := (U3.trans I.u3), u6 := (U6.trans I.u6), bel := (I.bel.trans hB), o1 := (fun h => U33.trans (I.o1 (D1.symm.trans h))), o2 := (fun h => U34.trans (I.o2 (D2.symm.trans h))), o3 := (fun h => U35.trans (I.o3 (D3.symm.trans h))), o5 := (fun h => U37.trans (I.o5 (D5.symm.trans h))), o8 := (fun h => U40.trans (I.o8 (D8.symm.trans h))), o9 := (fun h => U41.trans (I.o9 (D9.symm.trans h))), o10 := (fun h => U42.trans (I.o10 (D10.symm.trans h))), o6 := (fun h0 h1 => absurd h77 (by rw [D7.symm.trans h1]; exact Bool.false_ne_true)), r0 := (fun h0 h1 => absurd (I.i7 h77) (by rw [D4.symm.trans h1]; exact Bool.false_ne_true)), r4 := (fun h0 h1 => absurd h77 (by rw [D7.symm.trans h1]; exact Bool.false_ne_true)), r7 := (fun h0 h1 => by rw [D11] at h1; cases h1), r11 := (fun _ => by rw [U43]; exact hR2), s0 := (fun h0 h1 h2 h3 => by rw [U32, U38]; exact I.s0 (D0.symm.trans h0) (D4.symm.trans h1) (D6.symm.trans h2) (D7.symm.trans h3)), s4 := (fun h0 h1 h2 => by rw [U36, U38]; exact I.s4 (D4.symm.trans h0) (D7.symm.trans h1) (D6.symm.trans h2)), o12 := (fun h => absurd (I.o12 (D12.symm.trans h)).2 (by rw [getD_tf hun]; exact Bool.false_ne_true)), i7 := (fun h => D4.trans (I.i7 (D7.symm.trans h))), i11 := (fun _ => D7.trans h77) }⟩
          · skip
            have D0 : (d.setIfInBounds 12 true).getD 0 false = d.getD 0 false := getD_set_ne false (by decide)
            have D1 : (d.setIfInBounds 12 true).getD 1 false = d.getD 1 false := getD_set_ne false (by decide)
            have D2 : (d.setIfInBounds 12 true).getD 2 false = d.getD 2 false := getD_set_ne false (by decide)
            have D3 : (d.setIfInBounds 12 true).getD 3 false = d.getD 3 false := getD_set_ne false (by decide)
            have D4 : (d.setIfInBounds 12 true).getD 4 false = d.getD 4 false := getD_set_ne false (by decide)
            have D5 : (d.setIfInBounds 12 true).getD 5 false = d.getD 5 false := getD_set_ne false (by decide)
            have D6 : (d.setIfInBounds 12 true).getD 6 false = d.getD 6 false := getD_set_ne false (by decide)
            have D7 : (d.setIfInBounds 12 true).getD 7 false = d.getD 7 false := getD_set_ne false (by decide)
            have D8 : (d.setIfInBounds 12 true).getD 8 false = d.getD 8 false := getD_set_ne false (by decide)
            have D9 : (d.setIfInBounds 12 true).getD 9 false = d.getD 9 false := getD_set_ne false (by decide)
            have D10 : (d.setIfInBounds 12 true).getD 10 false = d.getD 10 false := getD_set_ne false (by decide)
            have D11 : (d.setIfInBounds 12 true).getD 11 false = d.getD 11 false := getD_set_ne false (by decide)
            have D12 : (d.setIfInBounds 12 true).getD 12 false = true := getD_set_same hun
            have h11 := hall ⟨11, .data⟩ (by simp) rfl
            have U0 : updA us 7 (us 43) 0 = us 0 := upd_other (by decide)
            have U3 : updA us 7 (us 43) 3 = us 3 := upd_other (by decide)
            have U6 : updA us 7 (us 43) 6 = us 6 := upd_other (by decide)
            have U7 : updA us 7 (us 43) 7 = (us 43) := upd_same _ _ _
            have U32 : updA us 7 (us 43) 32 = us 32 := upd_other (by decide)
            have U33 : updA us 7 (us 43) 33 = us 33 := upd_other (by decide)
            have U34 : updA us 7 (us 43) 34 = us 34 := upd_other (by decide)
            have U35 : updA us 7 (us 43) 35 = us 35 := upd_other (by decide)
            have U36 : updA us 7 (us 43) 36 = us 36 := upd_other (by decide)
            have U37 : updA us 7 (us 43) 37 = us 37 := upd_other (by decide)
            have U38 : updA us 7 (us 43) 38 = us 38 := upd_other (by decide)
            have U39 : updA us 7 (us 43) 39 = us 39 := upd_other (by decide)
            have U40 : updA us 7 (us 43) 40 = us 40 := upd_other (by decide)
            have U41 : updA us 7 (us 43) 41 = us 41 := upd_other (by decide)
            have U42 : updA us 7 (us 43) 42 = us 42 := upd_other (by decide)
            have U43 : updA us 7 (us 43) 43 = us 43 := upd_other (by decide)
            refine wpOp_step rfl (fun K hK => ?_)
            simp only [frA, e0, e3, e6]
            go_simp
            refine hK _ _ ⟨updA us 7 (us 43), by simp [frA, updA, e0, e3, e6], { u0 := (U0.trans I.u0), u3 := (U3.trans I.u3), u6 := (U6.trans I.u6), bel := (I.bel), o1 := (fun h => U33.trans (I.o1 (D1.symm.trans h))), o2 := (fun h => U34.trans (I.o2 (D2.symm.trans h))), o3 := (fun h => U35.trans (I.o3 (D3.symm.trans h))), o5 := (fun h => U37.trans (I.o5 (D5.symm.trans h))), o8 := (fun h => U40.trans (I.o8 (D8.symm.trans h))), o9 := (fun h => U41.trans (I.o9 (D9.symm.trans h))), o10 := (fun h => U42.trans (I.o10 (D10.symm.trans h))), o6 := (fun h0 h1 => by rw [U38]; exact I.o6 (D6.symm.trans h0) (D7.symm.trans h1)), r0 := (fun h0 h1 => by rw [U32]; exact I.r0 (D0.symm.trans h0) (D4.symm.trans h1)), r4 := (fun h0 h1 => by rw [U36]; exact I.r4 (D4.symm.trans h0) (D7.symm.trans h1)), r7 := (fun h0 h1 => by rw [U39]; exact I.r7 (D7.symm.trans h0) (D11.symm.trans h1)), r11 := (fun h0 => by rw [U43]; exact I.r11 (D11.symm.trans h0)), s0 := (fun h0 h1 h2 h3 => by rw [U32, U38]; exact I.s0 (D0.symm.trans h0) (D4.symm.trans h1) (D6.symm.trans h2) (D7.symm.trans h3)), s4 := (fun h0 h1 h2 => by rw [U36, U38]; exact I.s4 (D4.symm.trans h0) (D7.symm.trans h1) (D6.symm.trans h2)), o12 := (fun _ => ⟨by rw [U7, U43], by rw [D11]; exact h11⟩), i7 := (fun h => D4.trans (I.i7 (D7.symm.trans h))), i11 := (fun h => D7.trans (I.i11 (D11.symm.trans h))) }⟩
        · intro d a W hd hall hI
          obtain ⟨us, rfl, I⟩ := hI
          have D : ∀ k, k < 13 → d.getD k false = true := fun k hk => by
            have := hall k hk
            have hk2 : k < d.size := by rw [hd]; exact hk
            simp [hk2] at this ⊢; exact this
          obtain ⟨h7, h11⟩ := I.o12 (D 12 (by decide))
          obtain ⟨O, q, e43, hO⟩ := I.r11 h11
          have e7 := h7.trans e43
          have e3 := I.u3
          have hbel := I.bel
          rw [hjoin] at e7 hO
          clear I hall D h7 e43
          have htx : ∀ p ∈ addP ([] : List Pty) x, p.sz ≤ 1048576 := fun p hp => (addP_mem hp).elim (fun h => h ▸ hx) (fun h => hst p h)
          have tb : PTbl W O (addP ([] : List Pty) x) := ⟨hO.row, htx, by rw [addP_len]; (try simp only [List.length_nil]); omega⟩
          simp only [frA, e7, e3]
          rcases Bool.eq_false_or_eq_true (regB (addP ([] : List Pty) x)) with hb | hb
          · have E := Lib.hid (addPR_0 hr hv hb)
            go_wp2_with (go_at_call 51; refine (isRegS_q tb hb).mono ?_; rintro e w4 ⟨rfl, b4⟩)
            go_ret2
            rw [E.out]
            exact ⟨O, q, rfl, (hO.mono hkq.bel.size).below b4, belowGo (hkq.bel.trans (hbel.mono hkq.bel.size)) b4⟩
          · have E := Lib.hid (addPR_5 hr hv hb)
            go_wp2_with (go_at_call 51; refine (isRegS_q tb hb).mono ?_; rintro e w4 ⟨rfl, b4⟩)
            go_ret2
            rw [E.out]
            exact ⟨none, 0, rfl, PtyO.nil _ _, belowGo (hkq.bel.trans (hbel.mono hkq.bel.size)) b4⟩
      · by_cases hcc : ps.length = c
        · subst hcc
          rw [List.take_length, List.drop_length] at hjoin
          have q1 := hRq
          have q3 : PtyR wq (some ⟨g, off, none⟩) ([] : List Pty) := PtyR.none
          have hl1 : (ps).length = ps.length := by rfl
          have hl3 : (([] : List Pty)).length = 0 := by rfl
          refine region_inv (by kernel_rfl) (by kernel_rfl) (fun d a W => ∃ us, a = frA us ∧ InvA wq.heap.size (w.heap.size) (ps.length) (ps.length) (ps.length) (some ⟨g, off, none⟩) (.slice (some ⟨g, off, none⟩) ps.length ps.length) (.slice (some ⟨g, off, none⟩) 0 0) (ps) (([] : List Pty)) x wq d us W) ?_ ?_ ?_
          · refine ⟨_, frA_of, ?_⟩
            have Z : ∀ k, (Array.replicate 13 false).getD k false = false := fun k => by
              rcases Nat.lt_or_ge k 13 with h | h
              · simp [h]
              · simp [Array.getElem?_eq_none, h]
            have Zn : ∀ {k : Nat} {p : Prop}, (Array.replicate 13 false).getD k false = true → p := fun {k p} h => by rw [Z k] at h; cases h
            exact { u0 := rfl, u3 := rfl, u6 := rfl, bel := (Below.refl _ _).drew, o1 := Zn, o2 := Zn, o3 := Zn, o5 := Zn, o8 := Zn, o9 := Zn, o10 := Zn, o6 := Zn, r0 := Zn, r4 := Zn, r7 := Zn, r11 := Zn, s0 := Zn, s4 := Zn, o12 := Zn, i7 := Zn, i11 := Zn }
          · intro i d a W hi hI
            obtain ⟨hun, oi, hoi, hall⟩ := mem_ready.1 hi
            have hlt : i < 13 := (Array.getElem?_eq_some_iff.1 hoi).1
            obtain ⟨us, rfl, I⟩ := hI
            have hsz : wq.heap.size ≤ W.heap.size := I.bel.size
            have e0 := I.u0
            have e3 := I.u3
            have e6 := I.u6
            rcases (by omega : i = 0 ∨ i = 1 ∨ i = 2 ∨ i = 3 ∨ i = 4 ∨ i = 5 ∨ i = 6 ∨ i = 7 ∨ i = 8 ∨ i = 9 ∨ i = 10 ∨ i = 11 ∨ i = 12) with rfl | rfl | rfl | rfl | rfl | rfl | rfl | rfl | rfl | rfl | rfl | rfl | rfl
            all_goals
              obtain rfl := Option.some.inj hoi
              clear hoi hlt hi
            · skip
              have D0 : (d.setIfInBounds 0 true).getD 0 false = true := getD_set_same hun
              have D1 : (d.setIfInBounds 0 true).getD 1 false = d.getD 1 false := getD_set_ne false (by decide)
              have D2 : (d.setIfInBounds 0 true).getD 2 false = d.getD 2 false := getD_set_ne false (by decide)
              have D3 : (d.setIfInBounds 0 true).getD 3 false = d.getD 3 false := getD_set_ne false (by decide)
              have D4 : (d.setIfInBounds 0 true).getD 4 false = d.getD 4 false := getD_set_ne false (by decide)
              have D5 : (d.setIfInBounds 0 true).getD 5 false = d.getD 5 false := getD_set_ne false (by decide)
              have D6 : (d.setIfInBounds 0 true).getD 6 false = d.getD 6 false := getD_set_ne false (by decide)
              have D7 : (d.setIfInBounds 0 true).getD 7 false = d.getD 7 false := getD_set_ne false (by decide)
              have D8 : (d.setIfInBounds 0 true).getD 8 false = d.getD 8 false := getD_set_ne false (by decide)
              have D9 : (d.setIfInBounds 0 true).getD 9 false = d.getD 9 false := getD_set_ne false (by decide)
              have D10 : (d.setIfInBounds 0 true).getD 10 false = d.getD 10 false := getD_set_ne false (by decide)
              have D11 : (d.setIfInBounds 0 true).getD 11 false = d.getD 11 false := getD_set_ne false (by decide)
              have D12 : (d.setIfInBounds 0 true).getD 12 false = d.getD 12 false := getD_set_ne false (by decide)
              have U0 : updA us 32 (.slice (some ⟨W.heap.size, 0, none⟩) 0 0) 0 = us 0 := upd_other (by decide)
              have U3 : updA us 32 (.slice (some ⟨W.heap.size, 0, none⟩) 0 0) 3 = us 3 := upd_other (by decide)
              have U6 : updA us 32 (.slice (some ⟨W.heap.size, 0, none⟩) 0 0) 6 = us 6 := upd_other (by decide)
              have U7 : updA us 32 (.slice (some ⟨W.heap.size, 0, none⟩) 0 0) 7 = us 7 := upd_other (by decide)
              have U32 : updA us 32 (.slice (some ⟨W.heap.size, 0, none⟩) 0 0) 32 = (.slice (some ⟨W.heap.size, 0, none⟩) 0 0) := upd_same _ _ _
              have U33 : updA us 32 (.slice (some ⟨W.heap.size, 0, none⟩) 0 0) 33 = us 33 := upd_other (by decide)
              have U34 : updA us 32 (.slice (some ⟨W.heap.size, 0, none⟩) 0 0) 34 = us 34 := upd_other (by decide)
              have U35 : updA us 32 (.slice (some ⟨W.heap.size, 0, none⟩) 0 0) 35 = us 35 := upd_other (by decide)
              have U36 : updA us 32 (.slice (some ⟨W.heap.size, 0, none⟩) 0 0) 36 = us 36 := upd_other (by decide)
              have U37 : updA us 32 (.slice (some ⟨W.heap.size, 0, none⟩) 0 0) 37 = us 37 := upd_other (by decide)
              have U38 : updA us 32 (.slice (some ⟨W.heap.size, 0, none⟩) 0 0) 38 = us 38 := upd_other (by decide)
              have U39 : updA us 32 (.slice (some ⟨W.heap.size, 0, none⟩) 0 0) 39 = us 39 := upd_other (by decide)
              have U40 : updA us 32 (.slice (some ⟨W.heap.size, 0, none⟩) 0 0) 40 = us 40 := upd_other (by decide)
              have U41 : updA us 32 (.slice (some ⟨W.heap.size, 0, none⟩) 0 0) 41 = us 41 := upd_other (by decide)
              have U42 : updA us 32 (.slice (some ⟨W.heap.size, 0, none⟩) 0 0) 42 = us 42 := upd_other (by decide)
              have U43 : updA us 32 (.slice (some ⟨W.heap.size, 0, none⟩) 0 0) 43 = us 43 := upd_other (by decide)
              refine wpOp_step rfl (fun K hK => ?_)
              simp only [frA, e0, e3, e6]
              go_simp
              refine hK _ _ ⟨updA us 32 (.slice (some ⟨W.heap.size, 0, none⟩) 0 0), by simp [frA, updA, e0, e3, e6], { u0 := (U0.trans I.u0), u3 := (U3.trans I.u3), u6 := (U6.trans I.u6), bel := (I.bel.alloc hsz _), o1 := (fun h => U33.trans (I.o1 (D1.symm.trans h))), o2 := (fun h => U34.trans (I.o2 (D2.symm.trans h))), o3 := (fun h => U35.trans (I.o3 (D3.symm.trans h))), o5 := (fun h => U37.trans (I.o5 (D5.symm.trans h))), o8 := (fun h => U40.trans (I.o8 (D8.symm.trans h))), o9 := (fun h => U41.trans (I.o9 (D9.symm.trans h))), o10 := (fun h => U42.trans (I.o10 (D10.symm.trans h))), o6 := (fun h0 h1 => by rw [U38]; exact (I.o6 (D6.symm.trans h0) (D7.symm.trans h1)).below (below_alloc _ _)), r0 := (fun h0 h1 => by rw [U32]; exact ⟨_, _, rfl, made0p _ _ _ _ hsz⟩), r4 := (fun h0 h1 => by rw [U36]; exact (I.r4 (D4.symm.trans h0) (D7.symm.trans h1)).below (below_alloc _ _)), r7 := (fun h0 h1 => by rw [U39]; exact (I.r7 (D7.symm.trans h0) (D11.symm.trans h1)).below (below_alloc _ _)), r11 := (fun h0 => by rw [U43]; exact (I.r11 (D11.symm.trans h0)).below (below_alloc _ _)), s0 := (fun h0 h1 h2 h3 => by rw [U32, U38]; exact sep_gt fun k hk => (I.o6 (D6.symm.trans h2) (D7.symm.trans h3)).lt hk), s4 := (fun h0 h1 h2 => by rw [U36, U38]; exact I.s4 (D4.symm.trans h0) (D7.symm.trans h1) (D6.symm.trans h2)), o12 := (fun h => by rw [U7, U43, D11]; exact I.o12 (D12.symm.trans h)), i7 := (fun h => D4.trans (I.i7 (D7.symm.trans h))), i11 := (fun h => D7.trans (I.i11 (D11.symm.trans h))) }⟩
            · skip
              have D0 : (d.setIfInBounds 1 true).getD 0 false = d.getD 0 false := getD_set_ne false (by decide)
              have D1 : (d.setIfInBounds 1 true).getD 1 false = true := getD_set_same hun
              have D2 : (d.setIfInBounds 1 true).getD 2 false = d.getD 2 false := getD_set_ne false (by decide)
              have D3 : (d.setIfInBounds 1 true).getD 3 false = d.getD 3 false := getD_set_ne false (by decide)
              have D4 : (d.setIfInBounds 1 true).getD 4 false = d.getD 4 false := getD_set_ne false (by decide)
              have D5 : (d.setIfInBounds 1 true).getD 5 false = d.getD 5 false := getD_set_ne false (by decide)
              have D6 : (d.setIfInBounds 1 true).getD 6 false = d.getD 6 false := getD_set_ne false (by decide)
              have D7 : (d.setIfInBounds 1 true).getD 7 false = d.getD 7 false := getD_set_ne false (by decide)
              have D8 : (d.setIfInBounds 1 true).getD 8 false = d.getD 8 false := getD_set_ne false (by decide)
              have D9 : (d.setIfInBounds 1 true).getD 9 false = d.getD 9 false := getD_set_ne false (by decide)
              have D10 : (d.setIfInBounds 1 true).getD 10 false = d.getD 10 false := getD_set_ne false (by decide)
              have D11 : (d.setIfInBounds 1 true).getD 11 false = d.getD 11 false := getD_set_ne false (by decide)
              have D12 : (d.setIfInBounds 1 true).getD 12 false = d.getD 12 false := getD_set_ne false (by decide)
              have U0 : updA us 33 (.slice (some ⟨g, off, none⟩) ps.length ps.length) 0 = us 0 := upd_other (by decide)
              have U3 : updA us 33 (.slice (some ⟨g, off, none⟩) ps.length ps.length) 3 = us 3 := upd_other (by decide)
              have U6 : updA us 33 (.slice (some ⟨g, off, none⟩) ps.length ps.length) 6 = us 6 := upd_other (by decide)
              have U7 : updA us 33 (.slice (some ⟨g, off, none⟩) ps.length ps.length) 7 = us 7 := upd_other (by decide)
              have U32 : updA us 33 (.slice (some ⟨g, off, none⟩) ps.length ps.length) 32 = us 32 := upd_other (by decide)
              have U33 : updA us 33 (.slice (some ⟨g, off, none⟩) ps.length ps.length) 33 = (.slice (some ⟨g, off, none⟩) ps.length ps.length) := upd_same _ _ _
              have U34 : updA us 33 (.slice (some ⟨g, off, none⟩) ps.length ps.length) 34 = us 34 := upd_other (by decide)
              have U35 : updA us 33 (.slice (some ⟨g, off, none⟩) ps.length ps.length) 35 = us 35 := upd_other (by decide)
              have U36 : updA us 33 (.slice (some ⟨g, off, none⟩) ps.length ps.length) 36 = us 36 := upd_other (by decide)
              have U37 : updA us 33 (.slice (some ⟨g, off, none⟩) ps.length ps.length) 37 = us 37 := upd_other (by decide)
              have U38 : updA us 33 (.slice (some ⟨g, off, none⟩) ps.length ps.length) 38 = us 38 := upd_other (by decide)
              have U39 : updA us 33 (.slice (some ⟨g, off, none⟩) ps.length ps.length) 39 = us 39 := upd_other (by decide)
              have U40 : updA us 33 (.slice (some ⟨g, off, none⟩) ps.length ps.length) 40 = us 40 := upd_other (by decide)
              have U41 : updA us 33 (.slice (some ⟨g, off, none⟩) ps.length ps.length) 41 = us 41 := upd_other (by decide)
              have U42 : updA us 33 (.slice (some ⟨g, off, none⟩) ps.length ps.length) 42 = us 42 := upd_other (by decide)
              have U43 : updA us 33 (.slice (some ⟨g, off, none⟩) ps.length ps.length) 43 = us 43 := upd_other (by decide)
              refine wpOp_step rfl (fun K hK => ?_)
              simp only [frA, e0, e3, e6]
              go_simp
              refine hK _ _ ⟨updA us 33 (.slice (some ⟨g, off, none⟩) ps.length ps.length), by simp [frA, updA, e0, e3, e6], { u0 := (U0.trans I.u0), u3 := (U3.trans I.u3), u6 := (U6.trans I.u6), bel := (I.bel), o1 := (fun _ => U33), o2 := (fun h => U34.trans (I.o2 (D2.symm.trans h))), o3 := (fun h => U35.trans (I.o3 (D3.symm.trans h))), o5 := (fun h => U37.trans (I.o5 (D5.symm.trans h))), o8 := (fun h => U40.trans (I.o8 (D8.symm.trans h))), o9 := (fun h => U41.trans (I.o9 (D9.symm.trans h))), o10 := (fun h => U42.trans (I.o10 (D10.symm.trans h))), o6 := (fun h0 h1 => by rw [U38]; exact I.o6 (D6.symm.trans h0) (D7.symm.trans h1)), r0 := (fun h0 h1 => by rw [U32]; exact I.r0 (D0.symm.trans h0) (D4.symm.trans h1)), r4 := (fun h0 h1 => by rw [U36]; exact I.r4 (D4.symm.trans h0) (D7.symm.trans h1)), r7 := (fun h0 h1 => by rw [U39]; exact I.r7 (D7.symm.trans h0) (D11.symm.trans h1)), r11 := (fun h0 => by rw [U43]; exact I.r11 (D11.symm.trans h0)), s0 := (fun h0 h1 h2 h3 => by rw [U32, U38]; exact I.s0 (D0.symm.trans h0) (D4.symm.trans h1) (D6.symm.trans h2) (D7.symm.trans h3)), s4 := (fun h0 h1 h2 => by rw [U36, U38]; exact I.s4 (D4.symm.trans h0) (D7.symm.trans h1) (D6.symm.trans h2)), o12 := (fun h => by rw [U7, U43, D11]; exact I.o12 (D12.symm.trans h)), i7 := (fun h => D4.trans (I.i7 (D7.symm.trans h))), i11 := (fun h => D7.trans (I.i11 (D11.symm.trans h))) }⟩
            · skip
              have D0 : (d.setIfInBounds 2 true).getD 0 false = d.getD 0 false := getD_set_ne false (by decide)
              have D1 : (d.setIfInBounds 2 true).getD 1 false = d.getD 1 false := getD_set_ne false (by decide)
              have D2 : (d.setIfInBounds 2 true).getD 2 false = true := getD_set_same hun
              have D3 : (d.setIfInBounds 2 true).getD 3 false = d.getD 3 false := getD_set_ne false (by decide)
              have D4 : (d.setIfInBounds 2 true).getD 4 false = d.getD 4 false := getD_set_ne false (by decide)
              have D5 : (d.setIfInBounds 2 true).getD 5 false = d.getD 5 false := getD_set_ne false (by decide)
              have D6 : (d.setIfInBounds 2 true).getD 6 false = d.getD 6 false := getD_set_ne false (by decide)
              have D7 : (d.setIfInBounds 2 true).getD 7 false = d.getD 7 false := getD_set_ne false (by decide)
              have D8 : (d.setIfInBounds 2 true).getD 8 false = d.getD 8 false := getD_set_ne false (by decide)
              have D9 : (d.setIfInBounds 2 true).getD 9 false = d.getD 9 false := getD_set_ne false (by decide)
              have D10 : (d.setIfInBounds 2 true).getD 10 false = d.getD 10 false := getD_set_ne false (by decide)
              have D11 : (d.setIfInBounds 2 true).getD 11 false = d.getD 11 false := getD_set_ne false (by decide)
              have D12 : (d.setIfInBounds 2 true).getD 12 false = d.getD 12 false := getD_set_ne false (by decide)
              have U0 : updA us 34 (.int .i64 ((ps.length : Nat) : Int)) 0 = us 0 := upd_other (by decide)
              have U3 : updA us 34 (.int .i64 ((ps.length : Nat) : Int)) 3 = us 3 := upd_other (by decide)
              have U6 : updA us 34 (.int .i64 ((ps.length : Nat) : Int)) 6 = us 6 := upd_other (by decide)
              have U7 : updA us 34 (.int .i64 ((ps.length : Nat) : Int)) 7 = us 7 := upd_other (by decide)
              have U32 : updA us 34 (.int .i64 ((ps.length : Nat) : Int)) 32 = us 32 := upd_other (by decide)
              have U33 : updA us 34 (.int .i64 ((ps.length : Nat) : Int)) 33 = us 33 := upd_other (by decide)
              have U34 : updA us 34 (.int .i64 ((ps.length : Nat) : Int)) 34 = (.int .i64 ((ps.length : Nat) : Int)) := upd_same _ _ _
              have U35 : updA us 34 (.int .i64 ((ps.length : Nat) : Int)) 35 = us 35 := upd_other (by decide)
              have U36 : updA us 34 (.int .i64 ((ps.length : Nat) : Int)) 36 = us 36 := upd_other (by decide)
              have U37 : updA us 34 (.int .i64 ((ps.length : Nat) : Int)) 37 = us 37 := upd_other (by decide)
              have U38 : updA us 34 (.int .i64 ((ps.length : Nat) : Int)) 38 = us 38 := upd_other (by decide)
              have U39 : updA us 34 (.int .i64 ((ps.length : Nat) : Int)) 39 = us 39 := upd_other (by decide)
              have U40 : updA us 34 (.int .i64 ((ps.length : Nat) : Int)) 40 = us 40 := upd_other (by decide)
              have U41 : updA us 34 (.int .i64 ((ps.length : Nat) : Int)) 41 = us 41 := upd_other (by decide)
              have U42 : updA us 34 (.int .i64 ((ps.length : Nat) : Int)) 42 = us 42 := upd_other (by decide)
              have U43 : updA us 34 (.int .i64 ((ps.length : Nat) : Int)) 43 = us 43 := upd_other (by decide)
              refine wpOp_step rfl (fun K hK => ?_)
              simp only [frA, e0, e3, e6]
              go_simp
              refine hK _ _ ⟨updA us 34 (.int .i64 ((ps.length : Nat) : Int)), by simp [frA, updA, e0, e3, e6], { u0 := (U0.trans I.u0), u3 := (U3.trans I.u3), u6 := (U6.trans I.u6), bel := (I.bel), o1 := (fun h => U33.trans (I.o1 (D1.symm.trans h))), o2 := (fun _ => U34), o3 := (fun h => U35.trans (I.o3 (D3.symm.trans h))), o5 := (fun h => U37.trans (I.o5 (D5.symm.trans h))), o8 := (fun h => U40.trans (I.o8 (D8.symm.trans h))), o9 := (fun h => U41.trans (I.o9 (D9.symm.trans h))), o10 := (fun h => U42.trans (I.o10 (D10.symm.trans h))), o6 := (fun h0 h1 => by rw [U38]; exact I.o6 (D6.symm.trans h0) (D7.symm.trans h1)), r0 := (fun h0 h1 => by rw [U32]; exact I.r0 (D0.symm.trans h0) (D4.symm.trans h1)), r4 := (fun h0 h1 => by rw [U36]; exact I.r4 (D4.symm.trans h0) (D7.symm.trans h1)), r7 := (fun h0 h1 => by rw [U39]; exact I.r7 (D7.symm.trans h0) (D11.symm.trans h1)), r11 := (fun h0 => by rw [U43]; exact I.r11 (D11.symm.trans h0)), s0 := (fun h0 h1 h2 h3 => by rw [U32, U38]; exact I.s0 (D0.symm.trans h0) (D4.symm.trans h1) (D6.symm.trans h2) (D7.symm.trans h3)), s4 := (fun h0 h1 h2 => by rw [U36, U38]; exact I.s4 (D4.symm.trans h0) (D7.symm.trans h1) (D6.symm.trans h2)), o12 := (fun h => by rw [U7, U43, D11]; exact I.o12 (D12.symm.trans h)), i7 := (fun h => D4.trans (I.i7 (D7.symm.trans h))), i11 := (fun h => D7.trans (I.i11 (D11.symm.trans h))) }⟩
            · skip
              have D0 : (d.setIfInBounds 3 true).getD 0 false = d.getD 0 false := getD_set_ne false (by decide)
              have D1 : (d.setIfInBounds 3 true).getD 1 false = d.getD 1 false := getD_set_ne false (by decide)
              have D2 : (d.setIfInBounds 3 true).getD 2 false = d.getD 2 false := getD_set_ne false (by decide)
              have D3 : (d.setIfInBounds 3 true).getD 3 false = true := getD_set_same hun
              have D4 : (d.setIfInBounds 3 true).getD 4 false = d.getD 4 false := getD_set_ne false (by decide)
              have D5 : (d.setIfInBounds 3 true).getD 5 false = d.getD 5 false := getD_set_ne false (by decide)
              have D6 : (d.setIfInBounds 3 true).getD 6 false = d.getD 6 false := getD_set_ne false (by decide)
              have D7 : (d.setIfInBounds 3 true).getD 7 false = d.getD 7 false := getD_set_ne false (by decide)
              have D8 : (d.setIfInBounds 3 true).getD 8 false = d.getD 8 false := getD_set_ne false (by decide)
              have D9 : (d.setIfInBounds 3 true).getD 9 false = d.getD 9 false := getD_set_ne false (by decide)
              have D10 : (d.setIfInBounds 3 true).getD 10 false = d.getD 10 false := getD_set_ne false (by decide)
              have D11 : (d.setIfInBounds 3 true).getD 11 false = d.getD 11 false := getD_set_ne false (by decide)
              have D12 : (d.setIfInBounds 3 true).getD 12 false = d.getD 12 false := getD_set_ne false (by decide)
              have e33 := I.o1 (hall ⟨1, .data⟩ (by simp) rfl)
              have e34 := I.o2 (hall ⟨2, .data⟩ (by simp) rfl)
              have U0 : updA us 35 (.slice (some ⟨g, off, none⟩) ps.length ps.length) 0 = us 0 := upd_other (by decide)
              have U3 : updA us 35 (.slice (some ⟨g, off, none⟩) ps.length ps.length) 3 = us 3 := upd_other (by decide)
              have U6 : updA us 35 (.slice (some ⟨g, off, none⟩) ps.length ps.length) 6 = us 6 := upd_other (by decide)
              have U7 : updA us 35 (.slice (some ⟨g, off, none⟩) ps.length ps.length) 7 = us 7 := upd_other (by decide)
              have U32 : updA us 35 (.slice (some ⟨g, off, none⟩) ps.length ps.length) 32 = us 32 := upd_other (by decide)
              have U33 : updA us 35 (.slice (some ⟨g, off, none⟩) ps.length ps.length) 33 = us 33 := upd_other (by decide)
              have U34 : updA us 35 (.slice (some ⟨g, off, none⟩) ps.length ps.length) 34 = us 34 := upd_other (by decide)
              have U35 : updA us 35 (.slice (some ⟨g, off, none⟩) ps.length ps.length) 35 = (.slice (some ⟨g, off, none⟩) ps.length ps.length) := upd_same _ _ _
              have U36 : updA us 35 (.slice (some ⟨g, off, none⟩) ps.length ps.length) 36 = us 36 := upd_other (by decide)
              have U37 : updA us 35 (.slice (some ⟨g, off, none⟩) ps.length ps.length) 37 = us 37 := upd_other (by decide)
              have U38 : updA us 35 (.slice (some ⟨g, off, none⟩) ps.length ps.length) 38 = us 38 := upd_other (by decide)
              have U39 : updA us 35 (.slice (some ⟨g, off, none⟩) ps.length ps.length) 39 = us 39 := upd_other (by decide)
              have U40 : updA us 35 (.slice (some ⟨g, off, none⟩) ps.length ps.length) 40 = us 40 := upd_other (by decide)
              have U41 : updA us 35 (.slice (some ⟨g, off, none⟩) ps.length ps.length) 41 = us 41 := upd_other (by decide)
              have U42 : updA us 35 (.slice (some ⟨g, off, none⟩) ps.length ps.length) 42 = us 42 := upd_other (by decide)
              have U43 : updA us 35 (.slice (some ⟨g, off, none⟩) ps.length ps.length) 43 = us 43 := upd_other (by decide)
              refine wpOp_step rfl (fun K hK => ?_)
              simp only [frA, e0, e3, e6, e33, e34]
              go_simp
              try (rw [if_pos (by omega)]; go_simp)
              refine hK _ _ ⟨updA us 35 (.slice (some ⟨g, off, none⟩) ps.length ps.length), by simp [frA, updA, e0, e3, e6, e33, e34], { u0 := (U0.trans I.u0), u3 := (U3.trans I.u3), u6 := (U6.trans I.u6), bel := (I.bel), o1 := (fun h => U33.trans (I.o1 (D1.symm.trans h))), o2 := (fun h => U34.trans (I.o2 (D2.symm.trans h))), o3 := (fun _ => U35), o5 := (fun h => U37.trans (I.o5 (D5.symm.trans h))), o8 := (fun h => U40.trans (I.o8 (D8.symm.trans h))), o9 := (fun h => U41.trans (I.o9 (D9.symm.trans h))), o10 := (fun h => U42.trans (I.o10 (D10.symm.trans h))), o6 := (fun h0 h1 => by rw [U38]; exact I.o6 (D6.symm.trans h0) (D7.symm.trans h1)), r0 := (fun h0 h1 => by rw [U32]; exact I.r0 (D0.symm.trans h0) (D4.symm.trans h1)), r4 := (fun h0 h1 => by rw [U36]; exact I.r4 (D4.symm.trans h0) (D7.symm.trans h1)), r7 := (fun h0 h1 => by rw [U39]; exact I.r7 (D7.symm.trans h0) (D11.symm.trans h1)), r11 := (fun h0 => by rw [U43]; exact I.r11 (D11.symm.trans h0)), s0 := (fun h0 h1 h2 h3 => by rw [U32, U38]; exact I.s0 (D0.symm.trans h0) (D4.symm.trans h1) (D6.symm.trans h2) (D7.symm.trans h3)), s4 := (fun h0 h1 h2 => by rw [U36, U38]; exact I.s4 (D4.symm.trans h0) (D7.symm.trans h1) (D6.symm.trans h2)), o12 := (fun h => by rw [U7, U43, D11]; exact I.o12 (D12.symm.trans h)), i7 := (fun h => D4.trans (I.i7 (D7.symm.trans h))), i11 := (fun h => D7.trans (I.i11 (D11.symm.trans h))) }⟩
            · skip
              have D0 : (d.setIfInBounds 4 true).getD 0 false = d.getD 0 false := getD_set_ne false (by decide)
              have D1 : (d.setIfInBounds 4 true).getD 1 false = d.getD 1 false := getD_set_ne false (by decide)
              have D2 : (d.setIfInBounds 4 true).getD 2 false = d.getD 2 false := getD_set_ne false (by decide)
              have D3 : (d.setIfInBounds 4 true).getD 3 false = d.getD 3 false := getD_set_ne false (by decide)
              have D4 : (d.setIfInBounds 4 true).getD 4 false = true := getD_set_same hun
              have D5 : (d.setIfInBounds 4 true).getD 5 false = d.getD 5 false := getD_set_ne false (by decide)
              have D6 : (d.setIfInBounds 4 true).getD 6 false = d.getD 6 false := getD_set_ne false (by decide)
              have D7 : (d.setIfInBounds 4 true).getD 7 false = d.getD 7 false := getD_set_ne false (by decide)
              have D8 : (d.setIfInBounds 4 true).getD 8 false = d.getD 8 false := getD_set_ne false (by decide)
              have D9 : (d.setIfInBounds 4 true).getD 9 false = d.getD 9 false := getD_set_ne false (by decide)
              have D10 : (d.setIfInBounds 4 true).getD 10 false = d.getD 10 false := getD_set_ne false (by decide)
              have D11 : (d.setIfInBounds 4 true).getD 11 false = d.getD 11 false := getD_set_ne false (by decide)
              have D12 : (d.setIfInBounds 4 true).getD 12 false = d.getD 12 false := getD_set_ne false (by decide)
              have e35 := I.o3 (hall ⟨3, .data⟩ (by simp) rfl)
              have h00 := hall ⟨0, .data⟩ (by simp) rfl
              have hRow := I.r0 (hall ⟨0, .data⟩ (by simp) rfl) (getD_tf hun)
              refine wpOp_append_pty rfl rfl (.tmp 32) (.tmp 35) rfl wq.heap.size (us 32) [] rfl hRow (some ⟨g, off, none⟩) (ps.length) (ps) (by show us 35 = _; rw [e35] <;> simp [hl1]) (q1.below I.bel) (.inr ⟨_, _, rfl⟩) (by simp [hl1, hl3] <;> omega) hsz ?_
              intro v W2 hR2 hB hg hv
              have U0 : updA us 36 (v) 0 = us 0 := upd_other (by decide)
              have U3 : updA us 36 (v) 3 = us 3 := upd_other (by decide)
              have U6 : updA us 36 (v) 6 = us 6 := upd_other (by decide)
              have U7 : updA us 36 (v) 7 = us 7 := upd_other (by decide)
              have U32 : updA us 36 (v) 32 = us 32 := upd_other (by decide)
              have U33 : updA us 36 (v) 33 = us 33 := upd_other (by decide)
              have U34 : updA us 36 (v) 34 = us 34 := upd_other (by decide)
              have U35 : updA us 36 (v) 35 = us 35 := upd_other (by decide)
              have U36 : updA us 36 (v) 36 = (v) := upd_same _ _ _
              have U37 : updA us 36 (v) 37 = us 37 := upd_other (by decide)
              have U38 : updA us 36 (v) 38 = us 38 := upd_other (by decide)
              have U39 : updA us 36 (v) 39 = us 39 := upd_other (by decide)
              have U40 : updA us 36 (v) 40 = us 40 := upd_other (by decide)
              have U41 : updA us 36 (v) 41 = us 41 := upd_other (by decide)
              have U42 : updA us 36 (v) 42 = us 42 := upd_other (by decide)
              have U43 : updA us 36 (v) 43 = us 43 := upd_other (by decide)
              refine ⟨updA us 36 v, by simp [frA, updA, Act.put], { u0 := (U0.trans I.u0), u3 := (U3.trans I.u3), u6 := (U6.trans I.u6), bel := (I.bel.trans hB), o1 := (fun h => U33.trans (I.o1 (D1.symm.trans h))), o2 := (fun h => U34.trans (I.o2 (D2.symm.trans h))), o3 := (fun h => U35.trans (I.o3 (D3.symm.trans h))), o5 := (fun h => U37.trans (I.o5 (D5.symm.trans h))), o8 := (fun h => U40.trans (I.o8 (D8.symm.trans h))), o9 := (fun h => U41.trans (I.o9 (D9.symm.trans h))), o10 := (fun h => U42.trans (I.o10 (D10.symm.trans h))), o6 := (fun h0 h1 => by rw [U38]; exact (I.o6 (D6.symm.trans h0) (D7.symm.trans h1)).sep (I.s0 h00 (getD_tf hun) (D6.symm.trans h0) (D7.symm.trans h1)) hg), r0 := (fun h0 h1 => by rw [D4] at h1; cases h1), r4 := (fun _ _ => by rw [U36]; simpa using hR2), r7 := (fun h0 h1 => absurd (I.i7 (D7.symm.trans h0)) (by rw [getD_tf hun]; exact Bool.false_ne_true)), r11 := (fun h0 => absurd (I.i7 (I.i11 (D11.symm.trans h0))) (by rw [getD_tf hun]; exact Bool.false_ne_true)), s0 := (fun h0 h1 h2 h3 => by rw [D4] at h1; cases h1), s4 := (fun h0 h1 h2 => by rw [U36, U38]; exact sep_app (I.o6 (D6.symm.trans h2) (D7.symm.trans h1)) (I.s0 h00 (getD_tf hun) (D6.symm.trans h2) (D7.symm.trans h1)) hv), o12 := (fun h => by rw [U7, U43, D11]; exact I.o12 (D12.symm.trans h)), i7 := (fun _ => D4), i11 := (fun h => D7.trans (I.i11 (D11.symm.trans h))) }⟩
            · skip
              have D0 : (d.setIfInBounds 5 true).getD 0 false = d.getD 0 false := getD_set_ne false (by decide)
              have D1 : (d.setIfInBounds 5 true).getD 1 false = d.getD 1 false := getD_set_ne false (by decide)
              have D2 : (d.setIfInBounds 5 true).getD 2 false = d.getD 2 false := getD_set_ne false (by decide)
              have D3 : (d.setIfInBounds 5 true).getD 3 false = d.getD 3 false := getD_set_ne false (by decide)
              have D4 : (d.setIfInBounds 5 true).getD 4 false = d.getD 4 false := getD_set_ne false (by decide)
              have D5 : (d.setIfInBounds 5 true).getD 5 false = true := getD_set_same hun
              have D6 : (d.setIfInBounds 5 true).getD 6 false = d.getD 6 false := getD_set_ne false (by decide)
              have D7 : (d.setIfInBounds 5 true).getD 7 false = d.getD 7 false := getD_set_ne false (by decide)
              have D8 : (d.setIfInBounds 5 true).getD 8 false = d.getD 8 false := getD_set_ne false (by decide)
              have D9 : (d.setIfInBounds 5 true).getD 9 false = d.getD 9 false := getD_set_ne false (by decide)
              have D10 : (d.setIfInBounds 5 true).getD 10 false = d.getD 10 false := getD_set_ne false (by decide)
              have D11 : (d.setIfInBounds 5 true).getD 11 false = d.getD 11 false := getD_set_ne false (by decide)
              have D12 : (d.setIfInBounds 5 true).getD 12 false = d.getD 12 false := getD_set_ne false (by decide)
              have hbx := hbox.belowB hb0 I.bel
              have c0 := hbx.c0
              have c1 := hbx.c1
              have c2 := hbx.c2
              have U0 : updA us 37 (.agg #[.string ⟨x.c.toArray⟩, .int .i64 x.k, .string ⟨x.a.toArray⟩]) 0 = us 0 := upd_other (by decide)
              have U3 : updA us 37 (.agg #[.string ⟨x.c.toArray⟩, .int .i64 x.k, .string ⟨x.a.toArray⟩]) 3 = us 3 := upd_other (by decide)
              have U6 : updA us 37 (.agg #[.string ⟨x.c.toArray⟩, .int .i64 x.k, .string ⟨x.a.toArray⟩]) 6 = us 6 := upd_other (by decide)
              have U7 : updA us 37 (.agg #[.string ⟨x.c.toArray⟩, .int .i64 x.k, .string ⟨x.a.toArray⟩]) 7 = us 7 := upd_other (by decide)
              have U32 : updA us 37 (.agg #[.string ⟨x.c.toArray⟩, .int .i64 x.k, .string ⟨x.a.toArray⟩]) 32 = us 32 := upd_other (by decide)
              have U33 : updA us 37 (.agg #[.string ⟨x.c.toArray⟩, .int .i64 x.k, .string ⟨x.a.toArray⟩]) 33 = us 33 := upd_other (by decide)
              have U34 : updA us 37 (.agg #[.string ⟨x.c.toArray⟩, .int .i64 x.k, .string ⟨x.a.toArray⟩]) 34 = us 34 := upd_other (by decide)
              have U35 : updA us 37 (.agg #[.string ⟨x.c.toArray⟩, .int .i64 x.k, .string ⟨x.a.toArray⟩]) 35 = us 35 := upd_other (by decide)
              have U36 : updA us 37 (.agg #[.string ⟨x.c.toArray⟩, .int .i64 x.k, .string ⟨x.a.toArray⟩]) 36 = us 36 := upd_other (by decide)
              have U37 : updA us 37 (.agg #[.string ⟨x.c.toArray⟩, .int .i64 x.k, .string ⟨x.a.toArray⟩]) 37 = (.agg #[.string ⟨x.c.toArray⟩, .int .i64 x.k, .string ⟨x.a.toArray⟩]) := upd_same _ _ _
              have U38 : updA us 37 (.agg #[.string ⟨x.c.toArray⟩, .int .i64 x.k, .string ⟨x.a.toArray⟩]) 38 = us 38 := upd_other (by decide)
              have U39 : updA us 37 (.agg #[.string ⟨x.c.toArray⟩, .int .i64 x.k, .string ⟨x.a.toArray⟩]) 39 = us 39 := upd_other (by decide)
              have U40 : updA us 37 (.agg #[.string ⟨x.c.toArray⟩, .int .i64 x.k, .string ⟨x.a.toArray⟩]) 40 = us 40 := upd_other (by decide)
              have U41 : updA us 37 (.agg #[.string ⟨x.c.toArray⟩, .int .i64 x.k, .string ⟨x.a.toArray⟩]) 41 = us 41 := upd_other (by decide)
              have U42 : updA us 37 (.agg #[.string ⟨x.c.toArray⟩, .int .i64 x.k, .string ⟨x.a.toArray⟩]) 42 = us 42 := upd_other (by decide)
              have U43 : updA us 37 (.agg #[.string ⟨x.c.toArray⟩, .int .i64 x.k, .string ⟨x.a.toArray⟩]) 43 = us 43 := upd_other (by decide)
              refine wpOp_step rfl (fun K hK => ?_)
              simp only [frA, e0, e3, e6, c0, c1, c2]
              go_simp
              refine hK _ _ ⟨updA us 37 (.agg #[.string ⟨x.c.toArray⟩, .int .i64 x.k, .string ⟨x.a.toArray⟩]), by simp [frA, updA, e0, e3, e6, c0, c1, c2], { u0 := (U0.trans I.u0), u3 := (U3.trans I.u3), u6 := (U6.trans I.u6), bel := (I.bel), o1 := (fun h => U33.trans (I.o1 (D1.symm.trans h))), o2 := (fun h => U34.trans (I.o2 (D2.symm.trans h))), o3 := (fun h => U35.trans (I.o3 (D3.symm.trans h))), o5 := (fun _ => U37), o8 := (fun h => U40.trans (I.o8 (D8.symm.trans h))), o9 := (fun h => U41.trans (I.o9 (D9.symm.trans h))), o10 := (fun h => U42.trans (I.o10 (D10.symm.trans h))), o6 := (fun h0 h1 => by rw [U38]; exact I.o6 (D6.symm.trans h0) (D7.symm.trans h1)), r0 := (fun h0 h1 => by rw [U32]; exact I.r0 (D0.symm.trans h0) (D4.symm.trans h1)), r4 := (fun h0 h1 => by rw [U36]; exact I.r4 (D4.symm.trans h0) (D7.symm.trans h1)), r7 := (fun h0 h1 => by rw [U39]; exact I.r7 (D7.symm.trans h0) (D11.symm.trans h1)), r11 := (fun h0 => by rw [U43]; exact I.r11 (D11.symm.trans h0)), s0 := (fun h0 h1 h2 h3 => by rw [U32, U38]; exact I.s0 (D0.symm.trans h0) (D4.symm.trans h1) (D6.symm.trans h2) (D7.symm.trans h3)), s4 := (fun h0 h1 h2 => by rw [U36, U38]; exact I.s4 (D4.symm.trans h0) (D7.symm.trans h1) (D6.symm.trans h2)), o12 := (fun h => by rw [U7, U43, D11]; exact I.o12 (D12.symm.trans h)), i7 := (fun h => D4.trans (I.i7 (D7.symm.trans h))), i11 := (fun h => D7.trans (I.i11 (D11.symm.trans h))) }⟩
            · skip
              have D0 : (d.setIfInBounds 6 true).getD 0 false = d.getD 0 false := getD_set_ne false (by decide)
              have D1 : (d.setIfInBounds 6 true).getD 1 false = d.getD 1 false := getD_set_ne false (by decide)
              have D2 : (d.setIfInBounds 6 true).getD 2 false = d.getD 2 false := getD_set_ne false (by decide)
              have D3 : (d.setIfInBounds 6 true).getD 3 false = d.getD 3 false := getD_set_ne false (by decide)
              have D4 : (d.setIfInBounds 6 true).getD 4 false = d.getD 4 false := getD_set_ne false (by decide)
              have D5 : (d.setIfInBounds 6 true).getD 5 false = d.getD 5 false := getD_set_ne false (by decide)
              have D6 : (d.setIfInBounds 6 true).getD 6 false = true := getD_set_same hun
              have D7 : (d.setIfInBounds 6 true).getD 7 false = d.getD 7 false := getD_set_ne false (by decide)
              have D8 : (d.setIfInBounds 6 true).getD 8 false = d.getD 8 false := getD_set_ne false (by decide)
              have D9 : (d.setIfInBounds 6 true).getD 9 false = d.getD 9 false := getD_set_ne false (by decide)
              have D10 : (d.setIfInBounds 6 true).getD 10 false = d.getD 10 false := getD_set_ne false (by decide)
              have D11 : (d.setIfInBounds 6 true).getD 11 false = d.getD 11 false := getD_set_ne false (by decide)
              have D12 : (d.setIfInBounds 6 true).getD 12 false = d.getD 12 false := getD_set_ne false (by decide)
              have e37 := I.o5 (hall ⟨5, .data⟩ (by simp) rfl)
              have U0 : updA us 38 (.slice (some ⟨W.heap.size, 0, none⟩) 1 1) 0 = us 0 := upd_other (by decide)
              have U3 : updA us 38 (.slice (some ⟨W.heap.size, 0, none⟩) 1 1) 3 = us 3 := upd_other (by decide)
              have U6 : updA us 38 (.slice (some ⟨W.heap.size, 0, none⟩) 1 1) 6 = us 6 := upd_other (by decide)
              have U7 : updA us 38 (.slice (some ⟨W.heap.size, 0, none⟩) 1 1) 7 = us 7 := upd_other (by decide)
              have U32 : updA us 38 (.slice (some ⟨W.heap.size, 0, none⟩) 1 1) 32 = us 32 := upd_other (by decide)
              have U33 : updA us 38 (.slice (some ⟨W.heap.size, 0, none⟩) 1 1) 33 = us 33 := upd_other (by decide)
              have U34 : updA us 38 (.slice (some ⟨W.heap.size, 0, none⟩) 1 1) 34 = us 34 := upd_other (by decide)
              have U35 : updA us 38 (.slice (some ⟨W.heap.size, 0, none⟩) 1 1) 35 = us 35 := upd_other (by decide)
              have U36 : updA us 38 (.slice (some ⟨W.heap.size, 0, none⟩) 1 1) 36 = us 36 := upd_other (by decide)
              have U37 : updA us 38 (.slice (some ⟨W.heap.size, 0, none⟩) 1 1) 37 = us 37 := upd_other (by decide)
              have U38 : updA us 38 (.slice (some ⟨W.heap.size, 0, none⟩) 1 1) 38 = (.slice (some ⟨W.heap.size, 0, none⟩) 1 1) := upd_same _ _ _
              have U39 : updA us 38 (.slice (some ⟨W.heap.size, 0, none⟩) 1 1) 39 = us 39 := upd_other (by decide)
              have U40 : updA us 38 (.slice (some ⟨W.heap.size, 0, none⟩) 1 1) 40 = us 40 := upd_other (by decide)
              have U41 : updA us 38 (.slice (some ⟨W.heap.size, 0, none⟩) 1 1) 41 = us 41 := upd_other (by decide)
              have U42 : updA us 38 (.slice (some ⟨W.heap.size, 0, none⟩) 1 1) 42 = us 42 := upd_other (by decide)
              have U43 : updA us 38 (.slice (some ⟨W.heap.size, 0, none⟩) 1 1) 43 = us 43 := upd_other (by decide)
              refine wpOp_step rfl (fun K hK => ?_)
              simp only [frA, e0, e3, e6, e37]
              go_simp
              refine hK _ _ ⟨updA us 38 (.slice (some ⟨W.heap.size, 0, none⟩) 1 1), by simp [frA, updA, e0, e3, e6, e37], { u0 := (U0.trans I.u0), u3 := (U3.trans I.u3), u6 := (U6.trans I.u6), bel := (I.bel.alloc hsz _), o1 := (fun h => U33.trans (I.o1 (D1.symm.trans h))), o2 := (fun h => U34.trans (I.o2 (D2.symm.trans h))), o3 := (fun h => U35.trans (I.o3 (D3.symm.trans h))), o5 := (fun h => U37.trans (I.o5 (D5.symm.trans h))), o8 := (fun h => U40.trans (I.o8 (D8.symm.trans h))), o9 := (fun h => U41.trans (I.o9 (D9.symm.trans h))), o10 := (fun h => U42.trans (I.o10 (D10.symm.trans h))), o6 := (fun _ _ => by rw [U38]; exact ⟨_, rfl, heap_alloc_new W _, hsz⟩), r0 := (fun h0 h1 => by rw [U32]; exact (I.r0 (D0.symm.trans h0) (D4.symm.trans h1)).below (below_alloc _ _)), r4 := (fun h0 h1 => by rw [U36]; exact (I.r4 (D4.symm.trans h0) (D7.symm.trans h1)).below (below_alloc _ _)), r7 := (fun h0 h1 => by rw [U39]; exact (I.r7 (D7.symm.trans h0) (D11.symm.trans h1)).below (below_alloc _ _)), r11 := (fun h0 => by rw [U43]; exact (I.r11 (D11.symm.trans h0)).below (below_alloc _ _)), s0 := (fun h0 h1 h2 h3 => by rw [U32, U38]; exact sep_lt fun k hk => (I.r0 (D0.symm.trans h0) (D4.symm.trans h1)).lt hk), s4 := (fun h0 h1 h2 => by rw [U36, U38]; exact sep_lt fun k hk => (I.r4 (D4.symm.trans h0) (D7.symm.trans h1)).lt hk), o12 := (fun h => by rw [U7, U43, D11]; exact I.o12 (D12.symm.trans h)), i7 := (fun h => D4.trans (I.i7 (D7.symm.trans h))), i11 := (fun h => D7.trans (I.i11 (D11.symm.trans h))) }⟩
            · skip
              have D0 : (d.setIfInBounds 7 true).getD 0 false = d.getD 0 false := getD_set_ne false (by decide)
              have D1 : (d.setIfInBounds 7 true).getD 1 false = d.getD 1 false := getD_set_ne false (by decide)
              have D2 : (d.setIfInBounds 7 true).getD 2 false = d.getD 2 false := getD_set_ne false (by decide)
              have D3 : (d.setIfInBounds 7 true).getD 3 false = d.getD 3 false := getD_set_ne false (by decide)
              have D4 : (d.setIfInBounds 7 true).getD 4 false = d.getD 4 false := getD_set_ne false (by decide)
              have D5 : (d.setIfInBounds 7 true).getD 5 false = d.getD 5 false := getD_set_ne false (by decide)
              have D6 : (d.setIfInBounds 7 true).getD 6 false = d.getD 6 false := getD_set_ne false (by decide)
              have D7 : (d.setIfInBounds 7 true).getD 7 false = true := getD_set_same hun
              have D8 : (d.setIfInBounds 7 true).getD 8 false = d.getD 8 false := getD_set_ne false (by decide)
              have D9 : (d.setIfInBounds 7 true).getD 9 false = d.getD 9 false := getD_set_ne false (by decide)
              have D10 : (d.setIfInBounds 7 true).getD 10 false = d.getD 10 false := getD_set_ne false (by decide)
              have D11 : (d.setIfInBounds 7 true).getD 11 false = d.getD 11 false := getD_set_ne false (by decide)
              have D12 : (d.setIfInBounds 7 true).getD 12 false = d.getD 12 false := getD_set_ne false (by decide)
              have h44 := hall ⟨4, .data⟩ (by simp) rfl
              obtain ⟨B, e38, hRB⟩ := (I.o6 (hall ⟨6, .data⟩ (by simp) rfl) (getD_tf hun)).row
              have hRow := I.r4 (hall ⟨4, .data⟩ (by simp) rfl) (getD_tf hun)
              refine wpOp_append_pty rfl rfl (.tmp 36) (.tmp 38) rfl wq.heap.size (us 36) (ps) rfl hRow (some ⟨B, 0, none⟩) 1 [x] e38 hRB (.inr ⟨_, _, rfl⟩) (by simp [hl1, hl3] <;> omega) hsz ?_
              intro v W2 hR2 hB hg hv
              have U0 : updA us 39 (v) 0 = us 0 := upd_other (by decide)
              have U3 : updA us 39 (v) 3 = us 3 := upd_other (by decide)
              have U6 : updA us 39 (v) 6 = us 6 := upd_other (by decide)
              have U7 : updA us 39 (v) 7 = us 7 := upd_other (by decide)
              have U32 : updA us 39 (v) 32 = us 32 := upd_other (by decide)
              have U33 : updA us 39 (v) 33 = us 33 := upd_other (by decide)
              have U34 : updA us 39 (v) 34 = us 34 := upd_other (by decide)
              have U35 : updA us 39 (v) 35 = us 35 := upd_other (by decide)
              have U36 : updA us 39 (v) 36 = us 36 := upd_other (by decide)
              have U37 : updA us 39 (v) 37 = us 37 := upd_other (by decide)
              have U38 : updA us 39 (v) 38 = us 38 := upd_other (by decide)
              have U39 : updA us 39 (v) 39 = (v) := upd_same _ _ _
              have U40 : updA us 39 (v) 40 = us 40 := upd_other (by decide)
              have U41 : updA us 39 (v) 41 = us 41 := upd_other (by decide)
              have U42 : updA us 39 (v) 42 = us 42 := upd_other (by decide)
              have U43 : updA us 39 (v) 43 = us 43 := upd_other (by decide)
              refine ⟨updA us 39 v, by simp [frA, updA, Act.put], { u0 := (U0.trans I.u0), u3 := (U3.trans I.u3), u6 := (U6.trans I.u6), bel := (I.bel.trans hB), o1 := (fun h => U33.trans (I.o1 (D1.symm.trans h))), o2 := (fun h => U34.trans (I.o2 (D2.symm.trans h))), o3 := (fun h => U35.trans (I.o3 (D3.symm.trans h))), o5 := (fun h => U37.trans (I.o5 (D5.symm.trans h))), o8 := (fun h => U40.trans (I.o8 (D8.symm.trans h))), o9 := (fun h => U41.trans (I.o9 (D9.symm.trans h))), o10 := (fun h => U42.trans (I.o10 (D10.symm.trans h))), o6 := (fun h0 h1 => by rw [D7] at h1; cases h1), r0 := (fun h0 h1 => absurd h44 (by rw [D4.symm.trans h1]; exact Bool.false_ne_true)), r4 := (fun h0 h1 => by rw [D7] at h1; cases h1), r7 := (fun _ _ => by rw [U39]; exact hR2), r11 := (fun h0 => absurd (I.i11 (D11.symm.trans h0)) (by rw [getD_tf hun]; exact Bool.false_ne_true)), s0 := (fun h0 h1 h2 h3 => by rw [D7] at h3; cases h3), s4 := (fun h0 h1 h2 => by rw [D7] at h1; cases h1), o12 := (fun h => by rw [U7, U43, D11]; exact I.o12 (D12.symm.trans h)), i7 := (fun _ => D4.trans h44), i11 := (fun _ => D7) }⟩
            · skip
              have D0 : (d.setIfInBounds 8 true).getD 0 false = d.getD 0 false := getD_set_ne false (by decide)
              have D1 : (d.setIfInBounds 8 true).getD 1 false = d.getD 1 false := getD_set_ne false (by decide)
              have D2 : (d.setIfInBounds 8 true).getD 2 false = d.getD 2 false := getD_set_ne false (by decide)
              have D3 : (d.setIfInBounds 8 true).getD 3 false = d.getD 3 false := getD_set_ne false (by decide)
              have D4 : (d.setIfInBounds 8 true).getD 4 false = d.getD 4 false := getD_set_ne false (by decide)
              have D5 : (d.setIfInBounds 8 true).getD 5 false = d.getD 5 false := getD_set_ne false (by decide)
              have D6 : (d.setIfInBounds 8 true).getD 6 false = d.getD 6 false := getD_set_ne false (by decide)
              have D7 : (d.setIfInBounds 8 true).getD 7 false = d.getD 7 false := getD_set_ne false (by decide)
              have D8 : (d.setIfInBounds 8 true).getD 8 false = true := getD_set_same hun
              have D9 : (d.setIfInBounds 8 true).getD 9 false = d.getD 9 false := getD_set_ne false (by decide)
              have D10 : (d.setIfInBounds 8 true).getD 10 false = d.getD 10 false := getD_set_ne false (by decide)
              have D11 : (d.setIfInBounds 8 true).getD 11 false = d.getD 11 false := getD_set_ne false (by decide)
              have D12 : (d.setIfInBounds 8 true).getD 12 false = d.getD 12 false := getD_set_ne false (by decide)
              have U0 : updA us 40 (.slice (some ⟨g, off, none⟩) ps.length ps.length) 0 = us 0 := upd_other (by decide)
              have U3 : updA us 40 (.slice (some ⟨g, off, none⟩) ps.length ps.length) 3 = us 3 := upd_other (by decide)
              have U6 : updA us 40 (.slice (some ⟨g, off, none⟩) ps.length ps.length) 6 = us 6 := upd_other (by decide)
              have U7 : updA us 40 (.slice (some ⟨g, off, none⟩) ps.length ps.length) 7 = us 7 := upd_other (by decide)
              have U32 : updA us 40 (.slice (some ⟨g, off, none⟩) ps.length ps.length) 32 = us 32 := upd_other (by decide)
              have U33 : updA us 40 (.slice (some ⟨g, off, none⟩) ps.length ps.length) 33 = us 33 := upd_other (by decide)
              have U34 : updA us 40 (.slice (some ⟨g, off, none⟩) ps.length ps.length) 34 = us 34 := upd_other (by decide)
              have U35 : updA us 40 (.slice (some ⟨g, off, none⟩) ps.length ps.length) 35 = us 35 := upd_other (by decide)
              have U36 : updA us 40 (.slice (some ⟨g, off, none⟩) ps.length ps.length) 36 = us 36 := upd_other (by decide)
              have U37 : updA us 40 (.slice (some ⟨g, off, none⟩) ps.length ps.length) 37 = us 37 := upd_other (by decide)
              have U38 : updA us 40 (.slice (some ⟨g, off, none⟩) ps.length ps.length) 38 = us 38 := upd_other (by decide)
              have U39 : updA us 40 (.slice (some ⟨g, off, none⟩) ps.length ps.length) 39 = us 39 := upd_other (by decide)
              have U40 : updA us 40 (.slice (some ⟨g, off, none⟩) ps.length ps.length) 40 = (.slice (some ⟨g, off, none⟩) ps.length ps.length) := upd_same _ _ _
              have U41 : updA us 40 (.slice (some ⟨g, off, none⟩) ps.length ps.length) 41 = us 41 := upd_other (by decide)
              have U42 : updA us 40 (.slice (some ⟨g, off, none⟩) ps.length ps.length) 42 = us 42 := upd_other (by decide)
              have U43 : updA us 40 (.slice (some ⟨g, off, none⟩) ps.length ps.length) 43 = us 43 := upd_other (by decide)
              refine wpOp_step rfl (fun K hK => ?_)
              simp only [frA, e0, e3, e6]
              go_simp
              refine hK _ _ ⟨updA us 40 (.slice (some ⟨g, off, none⟩) ps.length ps.length), by simp [frA, updA, e0, e3, e6], { u0 := (U0.trans I.u0), u3 := (U3.trans I.u3), u6 := (U6.trans I.u6), bel := (I.bel), o1 := (fun h => U33.trans (I.o1 (D1.symm.trans h))), o2 := (fun h => U34.trans (I.o2 (D2.symm.trans h))), o3 := (fun h => U35.trans (I.o3 (D3.symm.trans h))), o5 := (fun h => U37.trans (I.o5 (D5.symm.trans h))), o8 := (fun _ => U40), o9 := (fun h => U41.trans (I.o9 (D9.symm.trans h))), o10 := (fun h => U42.trans (I.o10 (D10.symm.trans h))), o6 := (fun h0 h1 => by rw [U38]; exact I.o6 (D6.symm.trans h0) (D7.symm.trans h1)), r0 := (fun h0 h1 => by rw [U32]; exact I.r0 (D0.symm.trans h0) (D4.symm.trans h1)), r4 := (fun h0 h1 => by rw [U36]; exact I.r4 (D4.symm.trans h0) (D7.symm.trans h1)), r7 := (fun h0 h1 => by rw [U39]; exact I.r7 (D7.symm.trans h0) (D11.symm.trans h1)), r11 := (fun h0 => by rw [U43]; exact I.r11 (D11.symm.trans h0)), s0 := (fun h0 h1 h2 h3 => by rw [U32, U38]; exact I.s0 (D0.symm.trans h0) (D4.symm.trans h1) (D6.symm.trans h2) (D7.symm.trans h3)), s4 := (fun h0 h1 h2 => by rw [U36, U38]; exact I.s4 (D4.symm.trans h0) (D7.symm.trans h1) (D6.symm.trans h2)), o12 := (fun h => by rw [U7, U43, D11]; exact I.o12 (D12.symm.trans h)), i7 := (fun h => D4.trans (I.i7 (D7.symm.trans h))), i11 := (fun h => D7.trans (I.i11 (D11.symm.trans h))) }⟩
            · skip
              have D0 : (d.setIfInBounds 9 true).getD 0 false = d.getD 0 false := getD_set_ne false (by decide)
              have D1 : (d.setIfInBounds 9 true).getD 1 false = d.getD 1 false := getD_set_ne false (by decide)
              have D2 : (d.setIfInBounds 9 true).getD 2 false = d.getD 2 false := getD_set_ne false (by decide)
              have D3 : (d.setIfInBounds 9 true).getD 3 false = d.getD 3 false := getD_set_ne false (by decide)
              have D4 : (d.setIfInBounds 9 true).getD 4 false = d.getD 4 false := getD_set_ne false (by decide)
              have D5 : (d.setIfInBounds 9 true).getD 5 false = d.getD 5 false := getD_set_ne false (by decide)
              have D6 : (d.setIfInBounds 9 true).getD 6 false = d.getD 6 false := getD_set_ne false (by decide)
              have D7 : (d.setIfInBounds 9 true).getD 7 false = d.getD 7 false := getD_set_ne false (by decide)
              have D8 : (d.setIfInBounds 9 true).getD 8 false = d.getD 8 false := getD_set_ne false (by decide)
              have D9 : (d.setIfInBounds 9 true).getD 9 false = true := getD_set_same hun
              have D10 : (d.setIfInBounds 9 true).getD 10 false = d.getD 10 false := getD_set_ne false (by decide)
              have D11 : (d.setIfInBounds 9 true).getD 11 false = d.getD 11 false := getD_set_ne false (by decide)
              have D12 : (d.setIfInBounds 9 true).getD 12 false = d.getD 12 false := getD_set_ne false (by decide)
              have U0 : updA us 41 (.int .i64 ((ps.length : Nat) : Int)) 0 = us 0 := upd_other (by decide)
              have U3 : updA us 41 (.int .i64 ((ps.length : Nat) : Int)) 3 = us 3 := upd_other (by decide)
              have U6 : updA us 41 (.int .i64 ((ps.length : Nat) : Int)) 6 = us 6 := upd_other (by decide)
              have U7 : updA us 41 (.int .i64 ((ps.length : Nat) : Int)) 7 = us 7 := upd_other (by decide)
              have U32 : updA us 41 (.int .i64 ((ps.length : Nat) : Int)) 32 = us 32 := upd_other (by decide)
              have U33 : updA us 41 (.int .i64 ((ps.length : Nat) : Int)) 33 = us 33 := upd_other (by decide)
              have U34 : updA us 41 (.int .i64 ((ps.length : Nat) : Int)) 34 = us 34 := upd_other (by decide)
              have U35 : updA us 41 (.int .i64 ((ps.length : Nat) : Int)) 35 = us 35 := upd_other (by decide)
              have U36 : updA us 41 (.int .i64 ((ps.length : Nat) : Int)) 36 = us 36 := upd_other (by decide)
              have U37 : updA us 41 (.int .i64 ((ps.length : Nat) : Int)) 37 = us 37 := upd_other (by decide)
              have U38 : updA us 41 (.int .i64 ((ps.length : Nat) : Int)) 38 = us 38 := upd_other (by decide)
              have U39 : updA us 41 (.int .i64 ((ps.length : Nat) : Int)) 39 = us 39 := upd_other (by decide)
              have U40 : updA us 41 (.int .i64 ((ps.length : Nat) : Int)) 40 = us 40 := upd_other (by decide)
              have U41 : updA us 41 (.int .i64 ((ps.length : Nat) : Int)) 41 = (.int .i64 ((ps.length : Nat) : Int)) := upd_same _ _ _
              have U42 : updA us 41 (.int .i64 ((ps.length : Nat) : Int)) 42 = us 42 := upd_other (by decide)
              have U43 : updA us 41 (.int .i64 ((ps.length : Nat) : Int)) 43 = us 43 := upd_other (by decide)
              refine wpOp_step rfl (fun K hK => ?_)
              simp only [frA, e0, e3, e6]
              go_simp
              refine hK _ _ ⟨updA us 41 (.int .i64 ((ps.length : Nat) : Int)), by simp [frA, updA, e0, e3, e6], { u0 := (U0.trans I.u0), u3 := (U3.trans I.u3), u6 := (U6.trans I.u6), bel := (I.bel), o1 := (fun h => U33.trans (I.o1 (D1.symm.trans h))), o2 := (fun h => U34.trans (I.o2 (D2.symm.trans h))), o3 := (fun h => U35.trans (I.o3 (D3.symm.trans h))), o5 := (fun h => U37.trans (I.o5 (D5.symm.trans h))), o8 := (fun h => U40.trans (I.o8 (D8.symm.trans h))), o9 := (fun _ => U41), o10 := (fun h => U42.trans (I.o10 (D10.symm.trans h))), o6 := (fun h0 h1 => by rw [U38]; exact I.o6 (D6.symm.trans h0) (D7.symm.trans h1)), r0 := (fun h0 h1 => by rw [U32]; exact I.r0 (D0.symm.trans h0) (D4.symm.trans h1)), r4 := (fun h0 h1 => by rw [U36]; exact I.r4 (D4.symm.trans h0) (D7.symm.trans h1)), r7 := (fun h0 h1 => by rw [U39]; exact I.r7 (D7.symm.trans h0) (D11.symm.trans h1)), r11 := (fun h0 => by rw [U43]; exact I.r11 (D11.symm.trans h0)), s0 := (fun h0 h1 h2 h3 => by rw [U32, U38]; exact I.s0 (D0.symm.trans h0) (D4.symm.trans h1) (D6.symm.trans h2) (D7.symm.trans h3)), s4 := (fun h0 h1 h2 => by rw [U36, U38]; exact I.s4 (D4.symm.trans h0) (D7.symm.trans h1) (D6.symm.trans h2)), o12 := (fun h => by rw [U7, U43, D11]; exact I.o12 (D12.symm.trans h)), i7 := (fun h => D4.trans (I.i7 (D7.symm.trans h))), i11 := (fun h => D7.trans (I.i11 (D11.symm.trans h))) }⟩
            · skip
              have D0 : (d.setIfInBounds 10 true).getD 0 false = d.getD 0 false := getD_set_ne false (by decide)
              have D1 : (d.setIfInBounds 10 true).getD 1 false = d.getD 1 false := getD_set_ne false (by decide)
              have D2 : (d.setIfInBounds 10 true).getD 2 false = d.getD 2 false := getD_set_ne false (by decide)
              have D3 : (d.setIfInBounds 10 true).getD 3 false = d.getD 3 false := getD_set_ne false (by decide)
              have D4 : (d.setIfInBounds 10 true).getD 4 false = d.getD 4 false := getD_set_ne false (by decide)
              have D5 : (d.setIfInBounds 10 true).getD 5 false = d.getD 5 false := getD_set_ne false (by decide)
              have D6 : (d.setIfInBounds 10 true).getD 6 false = d.getD 6 false := getD_set_ne false (by decide)
              have D7 : (d.setIfInBounds 10 true).getD 7 false = d.getD 7 false := getD_set_ne false (by decide)
              have D8 : (d.setIfInBounds 10 true).getD 8 false = d.getD 8 false := getD_set_ne false (by decide)
              have D9 : (d.setIfInBounds 10 true).getD 9 false = d.getD 9 false := getD_set_ne false (by decide)
              have D10 : (d.setIfInBounds 10 true).getD 10 false = true := getD_set_same hun
              have D11 : (d.setIfInBounds 10 true).getD 11 false = d.getD 11 false := getD_set_ne false (by decide)
              have D12 : (d.setIfInBounds 10 true).getD 12 false = d.getD 12 false := getD_set_ne false (by decide)
              have e40 := I.o8 (hall ⟨8, .data⟩ (by simp) rfl)
              have e41 := I.o9 (hall ⟨9, .data⟩ (by simp) rfl)
              have U0 : updA us 42 (.slice (some ⟨g, off, none⟩) 0 0) 0 = us 0 := upd_other (by decide)
              have U3 : updA us 42 (.slice (some ⟨g, off, none⟩) 0 0) 3 = us 3 := upd_other (by decide)
              have U6 : updA us 42 (.slice (some ⟨g, off, none⟩) 0 0) 6 = us 6 := upd_other (by decide)
              have U7 : updA us 42 (.slice (some ⟨g, off, none⟩) 0 0) 7 = us 7 := upd_other (by decide)
              have U32 : updA us 42 (.slice (some ⟨g, off, none⟩) 0 0) 32 = us 32 := upd_other (by decide)
              have U33 : updA us 42 (.slice (some ⟨g, off, none⟩) 0 0) 33 = us 33 := upd_other (by decide)
              have U34 : updA us 42 (.slice (some ⟨g, off, none⟩) 0 0) 34 = us 34 := upd_other (by decide)
              have U35 : updA us 42 (.slice (some ⟨g, off, none⟩) 0 0) 35 = us 35 := upd_other (by decide)
              have U36 : updA us 42 (.slice (some ⟨g, off, none⟩) 0 0) 36 = us 36 := upd_other (by decide)
              have U37 : updA us 42 (.slice (some ⟨g, off, none⟩) 0 0) 37 = us 37 := upd_other (by decide)
              have U38 : updA us 42 (.slice (some ⟨g, off, none⟩) 0 0) 38 = us 38 := upd_other (by decide)
              have U39 : updA us 42 (.slice (some ⟨g, off, none⟩) 0 0) 39 = us 39 := upd_other (by decide)
              have U40 : updA us 42 (.slice (some ⟨g, off, none⟩) 0 0) 40 = us 40 := upd_other (by decide)
              have U41 : updA us 42 (.slice (some ⟨g, off, none⟩) 0 0) 41 = us 41 := upd_other (by decide)
              have U42 : updA us 42 (.slice (some ⟨g, off, none⟩) 0 0) 42 = (.slice (some ⟨g, off, none⟩) 0 0) := upd_same _ _ _
              have U43 : updA us 42 (.slice (some ⟨g, off, none⟩) 0 0) 43 = us 43 := upd_other (by decide)
              refine wpOp_step rfl (fun K hK => ?_)
              simp only [frA, e0, e3, e6, e40, e41]
              go_simp
              try (rw [if_pos (by omega)]; go_simp)
              refine hK _ _ ⟨updA us 42 (.slice (some ⟨g, off, none⟩) 0 0), by simp [frA, updA, e0, e3, e6, e40, e41], { u0 := (U0.trans I.u0), u3 := (U3.trans I.u3), u6 := (U6.trans I.u6), bel := (I.bel), o1 := (fun h => U33.trans (I.o1 (D1.symm.trans h))), o2 := (fun h => U34.trans (I.o2 (D2.symm.trans h))), o3 := (fun h => U35.trans (I.o3 (D3.symm.trans h))), o5 := (fun h => U37.trans (I.o5 (D5.symm.trans h))), o8 := (fun h => U40.trans (I.o8 (D8.symm.trans h))), o9 := (fun h => U41.trans (I.o9 (D9.symm.trans h))), o10 := (fun _ => U42), o6 := (fun h0 h1 => by rw [U38]; exact I.o6 (D6.symm.trans h0) (D7.symm.trans h1)), r0 := (fun h0 h1 => by rw [U32]; exact I.r0 (D0.symm.trans h0) (D4.symm.trans h1)), r4 := (fun h0 h1 => by rw [U36]; exact I.r4 (D4.symm.trans h0) (D7.symm.trans h1)), r7 := (fun h0 h1 => by rw [U39]; exact I.r7 (D7.symm.trans h0) (D11.symm.trans h1)), r11 := (fun h0 => by rw [U43]; exact I.r11 (D11.symm.trans h0)), s0 := (fun h0 h1 h2 h3 => by rw [U32, U38]; exact I.s0 (D0.symm.trans h0) (D4.symm.trans h1) (D6.symm.trans h2) (D7.symm.trans h3)), s4 := (fun h0 h1 h2 => by rw [U36, U38]; exact I.s4 (D4.symm.trans h0) (D7.symm.trans h1) (D6.symm.trans h2)), o12 := (fun h => by rw [U7, U43, D11]; exact I.o12 (D12.symm.trans h)), i7 := (fun h => D4.trans (I.i7 (D7.symm.trans h))), i11 := (fun h => D7.trans (I.i11 (D11.symm.trans h))) }⟩
            · skip
              have D0 : (d.setIfInBounds 11 true).getD 0 false = d.getD 0 false := getD_set_ne false (by decide)
              have D1 : (d.setIfInBounds 11 true).getD 1 false = d.getD 1 false := getD_set_ne false (by decide)
              have D2 : (d.setIfInBounds 11 true).getD 2 false = d.getD 2 false := getD_set_ne false (by decide)
              have D3 : (d.setIfInBounds 11 true).getD 3 false = d.getD 3 false := getD_set_ne false (by decide)
              have D4 : (d.setIfInBounds 11 true).getD 4 false = d.getD 4 false := getD_set_ne false (by decide)
              have D5 : (d.setIfInBounds 11 true).getD 5 false = d.getD 5 false := getD_set_ne false (by decide)
              have D6 : (d.setIfInBounds 11 true).getD 6 false = d.getD 6 false := getD_set_ne false (by decide)
              have D7 : (d.setIfInBounds 11 true).getD 7 false = d.getD 7 false := getD_set_ne false (by decide)
              have D8 : (d.setIfInBounds 11 true).getD 8 false = d.getD 8 false := getD_set_ne false (by decide)
              have D9 : (d.setIfInBounds 11 true).getD 9 false = d.getD 9 false := getD_set_ne false (by decide)
              have D10 : (d.setIfInBounds 11 true).getD 10 false = d.getD 10 false := getD_set_ne false (by decide)
              have D11 : (d.setIfInBounds 11 true).getD 11 false = true := getD_set_same hun
              have D12 : (d.setIfInBounds 11 true).getD 12 false = d.getD 12 false := getD_set_ne false (by decide)
              have e42 := I.o10 (hall ⟨10, .data⟩ (by simp) rfl)
              have h77 := hall ⟨7, .data⟩ (by simp) rfl
              have hRow := I.r7 (hall ⟨7, .data⟩ (by simp) rfl) (getD_tf hun)
              refine wpOp_append_pty rfl rfl (.tmp 39) (.tmp 42) rfl wq.heap.size (us 39) (ps ++ [x]) rfl hRow (some ⟨g, off, none⟩) (0) (([] : List Pty)) (by show us 42 = _; rw [e42] <;> simp [hl3]) (q3.below I.bel) (.inr ⟨_, _, rfl⟩) (by simp [hl1, hl3] <;> omega) hsz ?_
              intro v W2 hR2 hB hg hv
              have U0 : updA us 43 (v) 0 = us 0 := upd_other (by decide)
              have U3 : updA us 43 (v) 3 = us 3 := upd_other (by decide)
              have U6 : updA us 43 (v) 6 = us 6 := upd_other (by decide)
              have U7 : updA us 43 (v) 7 = us 7 := upd_other (by decide)
              have U32 : updA us 43 (v) 32 = us 32 := upd_other (by decide)
              have U33 : updA us 43 (v) 33 = us 33 := upd_other (by decide)
              have U34 : updA us 43 (v) 34 = us 34 := upd_other (by decide)
              have U35 : updA us 43 (v) 35 = us 35 := upd_other (by decide)
              have U36 : updA us 43 (v) 36 = us 36 := upd_other (by decide)
              have U37 : updA us 43 (v) 37 = us 37 := upd_other (by decide)
              have U38 : updA us 43 (v) 38 = us 38 := upd_other (by decide)
              have U39 : updA us 43 (v) 39 = us 39 := upd_other (by decide)
              have U40 : updA us 43 (v) 40 = us 40 := upd_other (by decide)
              have U41 : updA us 43 (v) 41 = us 41 := upd_other (by decide)
              have U42 : updA us 43 (v) 42 = us 42 := upd_other (by decide)
              have U43 : updA us 43 (v) 43 = (v) := upd_same _ _ _
              refine ⟨updA us 43 v, by simp [frA, updA, Act.put], { u0 := (U0.trans I.u0), u3 := (U3.trans I.u3), u6 := (U6.trans I.u6), bel := (I.bel.trans hB), o1 := (fun h => U33.trans (I.o1 (D1.symm.trans h))), o2 := (fun h => U34.trans (I.o2 (D2.symm.trans h))), o3 := (fun h => U35.trans (I.o3 (D3.symm.trans h))), o5 := (fun h => U37.trans (I.o5 (D5.symm.trans h))), o8 := (fun h => U40.trans (I.o8 (D8.symm.trans h))), o9 := (fun h => U41.trans (I.o9 (D9.symm.trans h))), o10 := (fun h => U42.trans (I.o10 (D10.symm.trans h))), o6 := (fun h0 h1 => absurd h77 (by rw [D7.symm.trans h1]; exact Bool.false_ne_true)), r0 := (fun h0 h1 => absurd (I.i7 h77) (by rw [D4.symm.trans h1]; exact Bool.false_ne_true)), r4 := (fun h0 h1 => absurd h77 (by rw [D7.symm.trans h1]; exact Bool.false_ne_true)), r7 := (fun h0 h1 => by rw [D11] at h1; cases h1), r11 := (fun _ => by rw [U43]; exact hR2), s0 := (fun h0 h1 h2 h3 => by rw [U32, U38]; exact I.s0 (D0.symm.trans h0) (D4.symm.trans h1) (D6.symm.trans h2) (D7.symm.trans h3)), s4 := (fun h0 h1 h2 => by rw [U36, U38]; exact I.s4 (D4.symm.trans h0) (D7.symm.trans h1) (D6.symm.trans h2)), o12 := (fun h => absurd (I.o12 (D12.symm.trans h)).2 (by rw [getD_tf hun]; exact Bool.false_ne_true)), i7 := (fun h => D4.trans (I.i7 (D7.symm.trans h))), i11 := (fun _ => D7.trans h77) }⟩
            · skip
              have D0 : (d.setIfInBounds 12 true).getD 0 false = d.getD 0 false := getD_set_ne false (by decide)
              have D1 : (d.setIfInBounds 12 true).getD 1 false = d.getD 1 false := getD_set_ne false (by decide)
              have D2 : (d.setIfInBounds 12 true).getD 2 false = d.getD 2 false := getD_set_ne false (by decide)
              have D3 : (d.setIfInBounds 12 true).getD 3 false = d.getD 3 false := getD_set_ne false (by decide)
              have D4 : (d.setIfInBounds 12 true).getD 4 false = d.getD 4 false := getD_set_ne false (by decide)
              have D5 : (d.setIfInBounds 12 true).getD 5 false = d.getD 5 false := getD_set_ne false (by decide)
              have D6 : (d.setIfInBounds 12 true).getD 6 false = d.getD 6 false := getD_set_ne false (by decide)
              have D7 : (d.setIfInBounds 12 true).getD 7 false = d.getD 7 false := getD_set_ne false (by decide)
              have D8 : (d.setIfInBounds 12 true).getD 8 false = d.getD 8 false := getD_set_ne false (by decide)
              have D9 : (d.setIfInBounds 12 true).getD 9 false = d.getD 9 false := getD_set_ne false (by decide)
              have D10 : (d.setIfInBounds 12 true).getD 10 false = d.getD 10 false := getD_set_ne false (by decide)
              have D11 : (d.setIfInBounds 12 true).getD 11 false = d.getD 11 false := getD_set_ne false (by decide)
              have D12 : (d.setIfInBounds 12 true).getD 12 false = true := getD_set_same hun
              have h11 := hall ⟨11, .data⟩ (by simp) rfl
              have U0 : updA us 7 (us 43) 0 = us 0 := upd_other (by decide)
              have U3 : updA us 7 (us 43) 3 = us 3 := upd_other (by decide)
              have U6 : updA us 7 (us 43) 6 = us 6 := upd_other (by decide)
              have U7 : updA us 7 (us 43) 7 = (us 43) := upd_same _ _ _
              have U32 : updA us 7 (us 43) 32 = us 32 := upd_other (by decide)
              have U33 : updA us 7 (us 43) 33 = us 33 := upd_other (by decide)
              have U34 : updA us 7 (us 43) 34 = us 34 := upd_other (by decide)
              have U35 : updA us 7 (us 43) 35 = us 35 := upd_other (by decide)
              have U36 : updA us 7 (us 43) 36 = us 36 := upd_other (by decide)
              have U37 : updA us 7 (us 43) 37 = us 37 := upd_other (by decide)
              have U38 : updA us 7 (us 43) 38 = us 38 := upd_other (by decide)
              have U39 : updA us 7 (us 43) 39 = us 39 := upd_other (by decide)
              have U40 : updA us 7 (us 43) 40 = us 40 := upd_other (by decide)
              have U41 : updA us 7 (us 43) 41 = us 41 := upd_other (by decide)
              have U42 : updA us 7 (us 43) 42 = us 42 := upd_other (by decide)
              have U43 : updA us 7 (us 43) 43 = us 43 := upd_other (by decide)
              refine wpOp_step rfl (fun K hK => ?_)
              simp only [frA, e0, e3, e6]
              go_simp
              refine hK _ _ ⟨updA us 7 (us 43), by simp [frA, updA, e0, e3, e6], { u0 := (U0.trans I.u0), u3 := (U3.trans I.u3), u6 := (U6.trans I.u6), bel := (I.bel), o1 := (fun h => U33.trans (I.o1 (D1.symm.trans h))), o2 := (fun h => U34.trans (I.o2 (D2.symm.trans h))), o3 := (fun h => U35.trans (I.o3 (D3.symm.trans h))), o5 := (fun h => U37.trans (I.o5 (D5.symm.trans h))), o8 := (fun h => U40.trans (I.o8 (D8.symm.trans h))), o9 := (fun h => U41.trans (I.o9 (D9.symm.trans h))), o10 := (fun h => U42.trans (I.o10 (D10.symm.trans h))), o6 := (fun h0 h1 => by rw [U38]; exact I.o6 (D6.symm.trans h0) (D7.symm.trans h1)), r0 := (fun h0 h1 => by rw [U32]; exact I.r0 (D0.symm.trans h0) (D4.symm.trans h1)), r4 := (fun h0 h1 => by rw [U36]; exact I.r4 (D4.symm.trans h0) (D7.symm.trans h1)), r7 := (fun h0 h1 => by rw [U39]; exact I.r7 (D7.symm.trans h0) (D11.symm.trans h1)), r11 := (fun h0 => by rw [U43]; exact I.r11 (D11.symm.trans h0)), s0 := (fun h0 h1 h2 h3 => by rw [U32, U38]; exact I.s0 (D0.symm.trans h0) (D4.symm.trans h1) (D6.symm.trans h2) (D7.symm.trans h3)), s4 := (fun h0 h1 h2 => by rw [U36, U38]; exact I.s4 (D4.symm.trans h0) (D7.symm.trans h1) (D6.symm.trans h2)), o12 := (fun _ => ⟨by rw [U7, U43], by rw [D11]; exact h11⟩), i7 := (fun h => D4.trans (I.i7 (D7.symm.trans h))), i11 := (fun h => D7.trans (I.i11 (D11.symm.trans h))) }⟩
          · intro d a W hd hall hI
            obtain ⟨us, rfl, I⟩ := hI
            have D : ∀ k, k < 13 → d.getD k false = true := fun k hk => by
              have := hall k hk
              have hk2 : k < d.size := by rw [hd]; exact hk
              simp [hk2] at this ⊢; exact this
            obtain ⟨h7, h11⟩ := I.o12 (D 12 (by decide))
            obtain ⟨O, q, e43, hO⟩ := I.r11 h11
            have e7 := h7.trans e43
            have e3 := I.u3
            have hbel := I.bel
            rw [hjoin] at e7 hO
            clear I hall D h7 e43
            have htx : ∀ p ∈ addP ps x, p.sz ≤ 1048576 := fun p hp => (addP_mem hp).elim (fun h => h ▸ hx) (fun h => hst p h)
            have tb : PTbl W O (addP ps x) := ⟨hO.row, htx, by rw [addP_len]; (try simp only [List.length_nil]); omega⟩
            simp only [frA, e7, e3]
            rcases Bool.eq_false_or_eq_true (regB (addP ps x)) with hb | hb
            · have E := Lib.hid (addPR_0 hr hv hb)
              go_wp2_with (go_at_call 51; refine (isRegS_q tb hb).mono ?_; rintro e w4 ⟨rfl, b4⟩)
              go_ret2
              rw [E.out]
              exact ⟨O, q, rfl, (hO.mono hkq.bel.size).below b4, belowGo (hkq.bel.trans (hbel.mono hkq.bel.size)) b4⟩
            · have E := Lib.hid (addPR_5 hr hv hb)
              go_wp2_with (go_at_call 51; refine (isRegS_q tb hb).mono ?_; rintro e w4 ⟨rfl, b4⟩)
              go_ret2
              rw [E.out]
              exact ⟨none, 0, rfl, PtyO.nil _ _, belowGo (hkq.bel.trans (hbel.mono hkq.bel.size)) b4⟩
        · have q1 := hRq.take ps.length
          have q3 := hRq.drop ps.length
          have e1 : ps.length ≠ c := by omega
          have e1s : ¬ c = ps.length := by omega
          have e2 : ps.length < c := by omega
          have hl1 : ((ps.take ps.length)).length = ps.length := by rw [List.length_take]; omega
          have hl3 : ((ps.drop ps.length)).length = (ps.length - ps.length) := by rw [List.length_drop]
          refine region_inv (by kernel_rfl) (by kernel_rfl) (fun d a W => ∃ us, a = frA us ∧ InvA wq.heap.size (w.heap.size) (ps.length) (c) (ps.length) (some ⟨g, off, none⟩) (.slice (some ⟨g, off, none⟩) ps.length c) (.slice (some ⟨g, off + ps.length * 3, none⟩) (ps.length - ps.length) (c - ps.length)) ((ps.take ps.length)) ((ps.drop ps.length)) x wq d us W) ?_ ?_ ?_
          · refine ⟨_, frA_of, ?_⟩
            have Z : ∀ k, (Array.replicate 13 false).getD k false = false := fun k => by
              rcases Nat.lt_or_ge k 13 with h | h
              · simp [h]
              · simp [Array.getElem?_eq_none, h]
            have Zn : ∀ {k : Nat} {p : Prop}, (Array.replicate 13 false).getD k false = true → p := fun {k p} h => by rw [Z k] at h; cases h
            exact { u0 := rfl, u3 := rfl, u6 := rfl, bel := (Below.refl _ _).drew, o1 := Zn, o2 := Zn, o3 := Zn, o5 := Zn, o8 := Zn, o9 := Zn, o10 := Zn, o6 := Zn, r0 := Zn, r4 := Zn, r7 := Zn, r11 := Zn, s0 := Zn, s4 := Zn, o12 := Zn, i7 := Zn, i11 := Zn }
          · intro i d a W hi hI
            obtain ⟨hun, oi, hoi, hall⟩ := mem_ready.1 hi
            have hlt : i < 13 := (Array.getElem?_eq_some_iff.1 hoi).1
            obtain ⟨us, rfl, I⟩ := hI
            have hsz : wq.heap.size ≤ W.heap.size := I.bel.size
            have e0 := I.u0
            have e3 := I.u3
            have e6 := I.u6
            rcases (by omega : i = 0 ∨ i = 1 ∨ i = 2 ∨ i = 3 ∨ i = 4 ∨ i = 5 ∨ i = 6 ∨ i = 7 ∨ i = 8 ∨ i = 9 ∨ i = 10 ∨ i = 11 ∨ i = 12) with rfl | rfl | rfl | rfl | rfl | rfl | rfl | rfl | rfl | rfl | rfl | rfl | rfl
            all_goals
              obtain rfl := Option.some.inj hoi
              clear hoi hlt hi
            · skip
              have D0 : (d.setIfInBounds 0 true).getD 0 false = true := getD_set_same hun
              have D1 : (d.setIfInBounds 0 true).getD 1 false = d.getD 1 false := getD_set_ne false (by decide)
              have D2 : (d.setIfInBounds 0 true).getD 2 false = d.getD 2 false := getD_set_ne false (by decide)
              have D3 : (d.setIfInBounds 0 true).getD 3 false = d.getD 3 false := getD_set_ne false (by decide)
              have D4 : (d.setIfInBounds 0 true).getD 4 false = d.getD 4 false := getD_set_ne false (by decide)
              have D5 : (d.setIfInBounds 0 true).getD 5 false = d.getD 5 false := getD_set_ne false (by decide)
              have D6 : (d.setIfInBounds 0 true).getD 6 false = d.getD 6 false := getD_set_ne false (by decide)
              have D7 : (d.setIfInBounds 0 true).getD 7 false = d.getD 7 false := getD_set_ne false (by decide)
              have D8 : (d.setIfInBounds 0 true).getD 8 false = d.getD 8 false := getD_set_ne false (by decide)
              have D9 : (d.setIfInBounds 0 true).getD 9 false = d.getD 9 false := getD_set_ne false (by decide)
              have D10 : (d.setIfInBounds 0 true).getD 10 false = d.getD 10 false := getD_set_ne false (by decide)
              have D11 : (d.setIfInBounds 0 true).getD 11 false = d.getD 11 false := getD_set_ne false (by decide)
              have D12 : (d.setIfInBounds 0 true).getD 12 false = d.getD 12 false := getD_set_ne false (by decide)
              have U0 : updA us 32 (.slice (some ⟨W.heap.size, 0, none⟩) 0 0) 0 = us 0 := upd_other (by decide)
              have U3 : updA us 32 (.slice (some ⟨W.heap.size, 0, none⟩) 0 0) 3 = us 3 := upd_other (by decide)
              have U6 : updA us 32 (.slice (some ⟨W.heap.size, 0, none⟩) 0 0) 6 = us 6 := upd_other (by decide)
              have U7 : updA us 32 (.slice (some ⟨W.heap.size, 0, none⟩) 0 0) 7 = us 7 := upd_other (by decide)
              have U32 : updA us 32 (.slice (some ⟨W.heap.size, 0, none⟩) 0 0) 32 = (.slice (some ⟨W.heap.size, 0, none⟩) 0 0) := upd_same _ _ _
              have U33 : updA us 32 (.slice (some ⟨W.heap.size, 0, none⟩) 0 0) 33 = us 33 := upd_other (by decide)
              have U34 : updA us 32 (.slice (some ⟨W.heap.size, 0, none⟩) 0 0) 34 = us 34 := upd_other (by decide)
              have U35 : updA us 32 (.slice (some ⟨W.heap.size, 0, none⟩) 0 0) 35 = us 35 := upd_other (by decide)
              have U36 : updA us 32 (.slice (some ⟨W.heap.size, 0, none⟩) 0 0) 36 = us 36 := upd_other (by decide)
              have U37 : updA us 32 (.slice (some ⟨W.heap.size, 0, none⟩) 0 0) 37 = us 37 := upd_other (by decide)
              have U38 : updA us 32 (.slice (some ⟨W.heap.size, 0, none⟩) 0 0) 38 = us 38 := upd_other (by decide)
              have U39 : updA us 32 (.slice (some ⟨W.heap.size, 0, none⟩) 0 0) 39 = us 39 := upd_other (by decide)
              have U40 : updA us 32 (.slice (some ⟨W.heap.size, 0, none⟩) 0 0) 40 = us 40 := upd_other (by decide)
              have U41 : updA us 32 (.slice (some ⟨W.heap.size, 0, none⟩) 0 0) 41 = us 41 := upd_other (by decide)
              have U42 : updA us 32 (.slice (some ⟨W.heap.size, 0, none⟩) 0 0) 42 = us 42 := upd_other (by decide)
              have U43 : updA us 32 (.slice (some ⟨W.heap.size, 0, none⟩) 0 0) 43 = us 43 := upd_other (by decide)
              refine wpOp_step rfl (fun K hK => ?_)
              simp only [frA, e0, e3, e6]
              go_simp
              refine hK _ _ ⟨updA us 32 (.slice (some ⟨W.heap.size, 0, none⟩) 0 0), by simp [frA, updA, e0, e3, e6], { u0 := (U0.trans I.u0), u3 := (U3.trans I.u3), u6 := (U6.trans I.u6), bel := (I.bel.alloc hsz _), o1 := (fun h => U33.trans (I.o1 (D1.symm.trans h))), o2 := (fun h => U34.trans (I.o2 (D2.symm.trans h))), o3 := (fun h => U35.trans (I.o3 (D3.symm.trans h))), o5 := (fun h => U37.trans (I.o5 (D5.symm.trans h))), o8 := (fun h => U40.trans (I.o8 (D8.symm.trans h))), o9 := (fun h => U41.trans (I.o9 (D9.symm.trans h))), o10 := (fun h => U42.trans (I.o10 (D10.symm.trans h))), o6 := (fun h0 h1 => by rw [U38]; exact (I.o6 (D6.symm.trans h0) (D7.symm.trans h1)).below (below_alloc _ _)), r0 := (fun h0 h1 => by rw [U32]; exact ⟨_, _, rfl, made0p _ _ _ _ hsz⟩), r4 := (fun h0 h1 => by rw [U36]; exact (I.r4 (D4.symm.trans h0) (D7.symm.trans h1)).below (below_alloc _ _)), r7 := (fun h0 h1 => by rw [U39]; exact (I.r7 (D7.symm.trans h0) (D11.symm.trans h1)).below (below_alloc _ _)), r11 := (fun h0 => by rw [U43]; exact (I.r11 (D11.symm.trans h0)).below (below_alloc _ _)), s0 := (fun h0 h1 h2 h3 => by rw [U32, U38]; exact sep_gt fun k hk => (I.o6 (D6.symm.trans h2) (D7.symm.trans h3)).lt hk), s4 := (fun h0 h1 h2 => by rw [U36, U38]; exact I.s4 (D4.symm.trans h0) (D7.symm.trans h1) (D6.symm.trans h2)), o12 := (fun h => by rw [U7, U43, D11]; exact I.o12 (D12.symm.trans h)), i7 := (fun h => D4.trans (I.i7 (D7.symm.trans h))), i11 := (fun h => D7.trans (I.i11 (D11.symm.trans h))) }⟩
            · skip
              have D0 : (d.setIfInBounds 1 true).getD 0 false = d.getD 0 false := getD_set_ne false (by decide)
              have D1 : (d.setIfInBounds 1 true).getD 1 false = true := getD_set_same hun
              have D2 : (d.setIfInBounds 1 true).getD 2 false = d.getD 2 false := getD_set_ne false (by decide)
              have D3 : (d.setIfInBounds 1 true).getD 3 false = d.getD 3 false := getD_set_ne false (by decide)
              have D4 : (d.setIfInBounds 1 true).getD 4 false = d.getD 4 false := getD_set_ne false (by decide)
              have D5 : (d.setIfInBounds 1 true).getD 5 false = d.getD 5 false := getD_set_ne false (by decide)
              have D6 : (d.setIfInBounds 1 true).getD 6 false = d.getD 6 false := getD_set_ne false (by decide)
              have D7 : (d.setIfInBounds 1 true).getD 7 false = d.getD 7 false := getD_set_ne false (by decide)
              have D8 : (d.setIfInBounds 1 true).getD 8 false = d.getD 8 false := getD_set_ne false (by decide)
              have D9 : (d.setIfInBounds 1 true).getD 9 false = d.getD 9 false := getD_set_ne false (by decide)
              have D10 : (d.setIfInBounds 1 true).getD 10 false = d.getD 10 false := getD_set_ne false (by decide)
              have D11 : (d.setIfInBounds 1 true).getD 11 false = d.getD 11 false := getD_set_ne false (by decide)
              have D12 : (d.setIfInBounds 1 true).getD 12 false = d.getD 12 false := getD_set_ne false (by decide)
              have U0 : updA us 33 (.slice (some ⟨g, off, none⟩) ps.length c) 0 = us 0 := upd_other (by decide)
              have U3 : updA us 33 (.slice (some ⟨g, off, none⟩) ps.length c) 3 = us 3 := upd_other (by decide)
              have U6 : updA us 33 (.slice (some ⟨g, off, none⟩) ps.length c) 6 = us 6 := upd_other (by decide)
              have U7 : updA us 33 (.slice (some ⟨g, off, none⟩) ps.length c) 7 = us 7 := upd_other (by decide)
              have U32 : updA us 33 (.slice (some ⟨g, off, none⟩) ps.length c) 32 = us 32 := upd_other (by decide)
              have U33 : updA us 33 (.slice (some ⟨g, off, none⟩) ps.length c) 33 = (.slice (some ⟨g, off, none⟩) ps.length c) := upd_same _ _ _
              have U34 : updA us 33 (.slice (some ⟨g, off, none⟩) ps.length c) 34 = us 34 := upd_other (by decide)
              have U35 : updA us 33 (.slice (some ⟨g, off, none⟩) ps.length c) 35 = us 35 := upd_other (by decide)
              have U36 : updA us 33 (.slice (some ⟨g, off, none⟩) ps.length c) 36 = us 36 := upd_other (by decide)
              have U37 : updA us 33 (.slice (some ⟨g, off, none⟩) ps.length c) 37 = us 37 := upd_other (by decide)
              have U38 : updA us 33 (.slice (some ⟨g, off, none⟩) ps.length c) 38 = us 38 := upd_other (by decide)
              have U39 : updA us 33 (.slice (some ⟨g, off, none⟩) ps.length c) 39 = us 39 := upd_other (by decide)
              have U40 : updA us 33 (.slice (some ⟨g, off, none⟩) ps.length c) 40 = us 40 := upd_other (by decide)
              have U41 : updA us 33 (.slice (some ⟨g, off, none⟩) ps.length c) 41 = us 41 := upd_other (by decide)
              have U42 : updA us 33 (.slice (some ⟨g, off, none⟩) ps.length c) 42 = us 42 := upd_other (by decide)
              have U43 : updA us 33 (.slice (some ⟨g, off, none⟩) ps.length c) 43 = us 43 := upd_other (by decide)
              refine wpOp_step rfl (fun K hK => ?_)
              simp only [frA, e0, e3, e6]
              go_simp
              refine hK _ _ ⟨updA us 33 (.slice (some ⟨g, off, none⟩) ps.length c), by simp [frA, updA, e0, e3, e6], { u0 := (U0.trans I.u0), u3 := (U3.trans I.u3), u6 := (U6.trans I.u6), bel := (I.bel), o1 := (fun _ => U33), o2 := (fun h => U34.trans (I.o2 (D2.symm.trans h))), o3 := (fun h => U35.trans (I.o3 (D3.symm.trans h))), o5 := (fun h => U37.trans (I.o5 (D5.symm.trans h))), o8 := (fun h => U40.trans (I.o8 (D8.symm.trans h))), o9 := (fun h => U41.trans (I.o9 (D9.symm.trans h))), o10 := (fun h => U42.trans (I.o10 (D10.symm.trans h))), o6 := (fun h0 h1 => by rw [U38]; exact I.o6 (D6.symm.trans h0) (D7.symm.trans h1)), r0 := (fun h0 h1 => by rw [U32]; exact I.r0 (D0.symm.trans h0) (D4.symm.trans h1)), r4 := (fun h0 h1 => by rw [U36]; exact I.r4 (D4.symm.trans h0) (D7.symm.trans h1)), r7 := (fun h0 h1 => by rw [U39]; exact I.r7 (D7.symm.trans h0) (D11.symm.trans h1)), r11 := (fun h0 => by rw [U43]; exact I.r11 (D11.symm.trans h0)), s0 := (fun h0 h1 h2 h3 => by rw [U32, U38]; exact I.s0 (D0.symm.trans h0) (D4.symm.trans h1) (D6.symm.trans h2) (D7.symm.trans h3)), s4 := (fun h0 h1 h2 => by rw [U36, U38]; exact I.s4 (D4.symm.trans h0) (D7.symm.trans h1) (D6.symm.trans h2)), o12 := (fun h => by rw [U7, U43, D11]; exact I.o12 (D12.symm.trans h)), i7 := (fun h => D4.trans (I.i7 (D7.symm.trans h))), i11 := (fun h => D7.trans (I.i11 (D11.symm.trans h))) }⟩
            · skip
              have D0 : (d.setIfInBounds 2 true).getD 0 false = d.getD 0 false := getD_set_ne false (by decide)
              have D1 : (d.setIfInBounds 2 true).getD 1 false = d.getD 1 false := getD_set_ne false (by decide)
              have D2 : (d.setIfInBounds 2 true).getD 2 false = true := getD_set_same hun
              have D3 : (d.setIfInBounds 2 true).getD 3 false = d.getD 3 false := getD_set_ne false (by decide)
              have D4 : (d.setIfInBounds 2 true).getD 4 false = d.getD 4 false := getD_set_ne false (by decide)
              have D5 : (d.setIfInBounds 2 true).getD 5 false = d.getD 5 false := getD_set_ne false (by decide)
              have D6 : (d.setIfInBounds 2 true).getD 6 false = d.getD 6 false := getD_set_ne false (by decide)
              have D7 : (d.setIfInBounds 2 true).getD 7 false = d.getD 7 false := getD_set_ne false (by decide)
              have D8 : (d.setIfInBounds 2 true).getD 8 false = d.getD 8 false := getD_set_ne false (by decide)
              have D9 : (d.setIfInBounds 2 true).getD 9 false = d.getD 9 false := getD_set_ne false (by decide)
              have D10 : (d.setIfInBounds 2 true).getD 10 false = d.getD 10 false := getD_set_ne false (by decide)
              have D11 : (d.setIfInBounds 2 true).getD 11 false = d.getD 11 false := getD_set_ne false (by decide)
              have D12 : (d.setIfInBounds 2 true).getD 12 false = d.getD 12 false := getD_set_ne false (by decide)
              have U0 : updA us 34 (.int .i64 ((ps.length : Nat) : Int)) 0 = us 0 := upd_other (by decide)
              have U3 : updA us 34 (.int .i64 ((ps.length : Nat) : Int)) 3 = us 3 := upd_other (by decide)
              have U6 : updA us 34 (.int .i64 ((ps.length : Nat) : Int)) 6 = us 6 := upd_other (by decide)
              have U7 : updA us 34 (.int .i64 ((ps.length : Nat) : Int)) 7 = us 7 := upd_other (by decide)
              have U32 : updA us 34 (.int .i64 ((ps.length : Nat) : Int)) 32 = us 32 := upd_other (by decide)
              have U33 : updA us 34 (.int .i64 ((ps.length : Nat) : Int)) 33 = us 33 := upd_other (by decide)
              have U34 : updA us 34 (.int .i64 ((ps.length : Nat) : Int)) 34 = (.int .i64 ((ps.length : Nat) : Int)) := upd_same _ _ _
              have U35 : updA us 34 (.int .i64 ((ps.length : Nat) : Int)) 35 = us 35 := upd_other (by decide)
              have U36 : updA us 34 (.int .i64 ((ps.length : Nat) : Int)) 36 = us 36 := upd_other (by decide)
              have U37 : updA us 34 (.int .i64 ((ps.length : Nat) : Int)) 37 = us 37 := upd_other (by decide)
              have U38 : updA us 34 (.int .i64 ((ps.length : Nat) : Int)) 38 = us 38 := upd_other (by decide)
              have U39 : updA us 34 (.int .i64 ((ps.length : Nat) : Int)) 39 = us 39 := upd_other (by decide)
              have U40 : updA us 34 (.int .i64 ((ps.length : Nat) : Int)) 40 = us 40 := upd_other (by decide)
              have U41 : updA us 34 (.int .i64 ((ps.length : Nat) : Int)) 41 = us 41 := upd_other (by decide)
              have U42 : updA us 34 (.int .i64 ((ps.length : Nat) : Int)) 42 = us 42 := upd_other (by decide)
              have U43 : updA us 34 (.int .i64 ((ps.length : Nat) : Int)) 43 = us 43 := upd_other (by decide)
              refine wpOp_step rfl (fun K hK => ?_)
              simp only [frA, e0, e3, e6]
              go_simp
              refine hK _ _ ⟨updA us 34 (.int .i64 ((ps.length : Nat) : Int)), by simp [frA, updA, e0, e3, e6], { u0 := (U0.trans I.u0), u3 := (U3.trans I.u3), u6 := (U6.trans I.u6), bel := (I.bel), o1 := (fun h => U33.trans (I.o1 (D1.symm.trans h))), o2 := (fun _ => U34), o3 := (fun h => U35.trans (I.o3 (D3.symm.trans h))), o5 := (fun h => U37.trans (I.o5 (D5.symm.trans h))), o8 := (fun h => U40.trans (I.o8 (D8.symm.trans h))), o9 := (fun h => U41.trans (I.o9 (D9.symm.trans h))), o10 := (fun h => U42.trans (I.o10 (D10.symm.trans h))), o6 := (fun h0 h1 => by rw [U38]; exact I.o6 (D6.symm.trans h0) (D7.symm.trans h1)), r0 := (fun h0 h1 => by rw [U32]; exact I.r0 (D0.symm.trans h0) (D4.symm.trans h1)), r4 := (fun h0 h1 => by rw [U36]; exact I.r4 (D4.symm.trans h0) (D7.symm.trans h1)), r7 := (fun h0 h1 => by rw [U39]; exact I.r7 (D7.symm.trans h0) (D11.symm.trans h1)), r11 := (fun h0 => by rw [U43]; exact I.r11 (D11.symm.trans h0)), s0 := (fun h0 h1 h2 h3 => by rw [U32, U38]; exact I.s0 (D0.symm.trans h0) (D4.symm.trans h1) (D6.symm.trans h2) (D7.symm.trans h3)), s4 := (fun h0 h1 h2 => by rw [U36, U38]; exact I.s4 (D4.symm.trans h0) (D7.symm.trans h1) (D6.symm.trans h2)), o12 := (fun h => by rw [U7, U43, D11]; exact I.o12 (D12.symm.trans h)), i7 := (fun h => D4.trans (I.i7 (D7.symm.trans h))), i11 := (fun h => D7.trans (I.i11 (D11.symm.trans h))) }⟩
            · skip
              have D0 : (d.setIfInBounds 3 true).getD 0 false = d.getD 0 false := getD_set_ne false (by decide)
              have D1 : (d.setIfInBounds 3 true).getD 1 false = d.getD 1 false := getD_set_ne false (by decide)
              have D2 : (d.setIfInBounds 3 true).getD 2 false = d.getD 2 false := getD_set_ne false (by decide)
              have D3 : (d.setIfInBounds 3 true).getD 3 false = true := getD_set_same hun
              have D4 : (d.setIfInBounds 3 true).getD 4 false = d.getD 4 false := getD_set_ne false (by decide)
              have D5 : (d.setIfInBounds 3 true).getD 5 false = d.getD 5 false := getD_set_ne false (by decide)
              have D6 : (d.setIfInBounds 3 true).getD 6 false = d.getD 6 false := getD_set_ne false (by decide)
              have D7 : (d.setIfInBounds 3 true).getD 7 false = d.getD 7 false := getD_set_ne false (by decide)
              have D8 : (d.setIfInBounds 3 true).getD 8 false = d.getD 8 false := getD_set_ne false (by decide)
              have D9 : (d.setIfInBounds 3 true).getD 9 false = d.getD 9 false := getD_set_ne false (by decide)
              have D10 : (d.setIfInBounds 3 true).getD 10 false = d.getD 10 false := getD_set_ne false (by decide)
              have D11 : (d.setIfInBounds 3 true).getD 11 false = d.getD 11 false := getD_set_ne false (by decide)
              have D12 : (d.setIfInBounds 3 true).getD 12 false = d.getD 12 false := getD_set_ne false (by decide)
              have e33 := I.o1 (hall ⟨1, .data⟩ (by simp) rfl)
              have e34 := I.o2 (hall ⟨2, .data⟩ (by simp) rfl)
              have U0 : updA us 35 (.slice (some ⟨g, off, none⟩) ps.length c) 0 = us 0 := upd_other (by decide)
              have U3 : updA us 35 (.slice (some ⟨g, off, none⟩) ps.length c) 3 = us 3 := upd_other (by decide)
              have U6 : updA us 35 (.slice (some ⟨g, off, none⟩) ps.length c) 6 = us 6 := upd_other (by decide)
              have U7 : updA us 35 (.slice (some ⟨g, off, none⟩) ps.length c) 7 = us 7 := upd_other (by decide)
              have U32 : updA us 35 (.slice (some ⟨g, off, none⟩) ps.length c) 32 = us 32 := upd_other (by decide)
              have U33 : updA us 35 (.slice (some ⟨g, off, none⟩) ps.length c) 33 = us 33 := upd_other (by decide)
              have U34 : updA us 35 (.slice (some ⟨g, off, none⟩) ps.length c) 34 = us 34 := upd_other (by decide)
              have U35 : updA us 35 (.slice (some ⟨g, off, none⟩) ps.length c) 35 = (.slice (some ⟨g, off, none⟩) ps.length c) := upd_same _ _ _
              have U36 : updA us 35 (.slice (some ⟨g, off, none⟩) ps.length c) 36 = us 36 := upd_other (by decide)
              have U37 : updA us 35 (.slice (some ⟨g, off, none⟩) ps.length c) 37 = us 37 := upd_other (by decide)
              have U38 : updA us 35 (.slice (some ⟨g, off, none⟩) ps.length c) 38 = us 38 := upd_other (by decide)
              have U39 : updA us 35 (.slice (some ⟨g, off, none⟩) ps.length c) 39 = us 39 := upd_other (by decide)
              have U40 : updA us 35 (.slice (some ⟨g, off, none⟩) ps.length c) 40 = us 40 := upd_other (by decide)
              have U41 : updA us 35 (.slice (some ⟨g, off, none⟩) ps.length c) 41 = us 41 := upd_other (by decide)
              have U42 : updA us 35 (.slice (some ⟨g, off, none⟩) ps.length c) 42 = us 42 := upd_other (by decide)
              have U43 : updA us 35 (.slice (some ⟨g, off, none⟩) ps.length c) 43 = us 43 := upd_other (by decide)
              refine wpOp_step rfl (fun K hK => ?_)
              simp only [frA, e0, e3, e6, e33, e34]
              go_simp
              try (rw [if_pos (by omega)]; go_simp)
              refine hK _ _ ⟨updA us 35 (.slice (some ⟨g, off, none⟩) ps.length c), by simp [frA, updA, e0, e3, e6, e33, e34], { u0 := (U0.trans I.u0), u3 := (U3.trans I.u3), u6 := (U6.trans I.u6), bel := (I.bel), o1 := (fun h => U33.trans (I.o1 (D1.symm.trans h))), o2 := (fun h => U34.trans (I.o2 (D2.symm.trans h))), o3 := (fun _ => U35), o5 := (fun h => U37.trans (I.o5 (D5.symm.trans h))), o8 := (fun h => U40.trans (I.o8 (D8.symm.trans h))), o9 := (fun h => U41.trans (I.o9 (D9.symm.trans h))), o10 := (fun h => U42.trans (I.o10 (D10.symm.trans h))), o6 := (fun h0 h1 => by rw [U38]; exact I.o6 (D6.symm.trans h0) (D7.symm.trans h1)), r0 := (fun h0 h1 => by rw [U32]; exact I.r0 (D0.symm.trans h0) (D4.symm.trans h1)), r4 := (fun h0 h1 => by rw [U36]; exact I.r4 (D4.symm.trans h0) (D7.symm.trans h1)), r7 := (fun h0 h1 => by rw [U39]; exact I.r7 (D7.symm.trans h0) (D11.symm.trans h1)), r11 := (fun h0 => by rw [U43]; exact I.r11 (D11.symm.trans h0)), s0 := (fun h0 h1 h2 h3 => by rw [U32, U38]; exact I.s0 (D0.symm.trans h0) (D4.symm.trans h1) (D6.symm.trans h2) (D7.symm.trans h3)), s4 := (fun h0 h1 h2 => by rw [U36, U38]; exact I.s4 (D4.symm.trans h0) (D7.symm.trans h1) (D6.symm.trans h2)), o12 := (fun h => by rw [U7, U43, D11]; exact I.o12 (D12.symm.trans h)), i7 := (fun h => D4.trans (I.i7 (D7.symm.trans h))), i11 := (fun h => D7.trans (I.i11 (D11.symm.trans h))) }⟩
            · skip
              have D0 : (d.setIfInBounds 4 true).getD 0 false = d.getD 0 false := getD_set_ne false (by decide)
              have D1 : (d.setIfInBounds 4 true).getD 1 false = d.getD 1 false := getD_set_ne false (by decide)
              have D2 : (d.setIfInBounds 4 true).getD 2 false = d.getD 2 false := getD_set_ne false (by decide)
              have D3 : (d.setIfInBounds 4 true).getD 3 false = d.getD 3 false := getD_set_ne false (by decide)
              have D4 : (d.setIfInBounds 4 true).getD 4 false = true := getD_set_same hun
              have D5 : (d.setIfInBounds 4 true).getD 5 false = d.getD 5 false := getD_set_ne false (by decide)
              have D6 : (d.setIfInBounds 4 true).getD 6 false = d.getD 6 false := getD_set_ne false (by decide)
              have D7 : (d.setIfInBounds 4 true).getD 7 false = d.getD 7 false := getD_set_ne false (by decide)
              have D8 : (d.setIfInBounds 4 true).getD 8 false = d.getD 8 false := getD_set_ne false (by decide)
              have D9 : (d.setIfInBounds 4 true).getD 9 false = d.getD 9 false := getD_set_ne false (by decide)
              have D10 : (d.setIfInBounds 4 true).getD 10 false = d.getD 10 false := getD_set_ne false (by decide)
              have D11 : (d.setIfInBounds 4 true).getD 11 false = d.getD 11 false := getD_set_ne false (by decide)
              have D12 : (d.setIfInBounds 4 true).getD 12 false = d.getD 12 false := getD_set_ne false (by decide)
              have e35 := I.o3 (hall ⟨3, .data⟩ (by simp) rfl)
              have h00 := hall ⟨0, .data⟩ (by simp) rfl
              have hRow := I.r0 (hall ⟨0, .data⟩ (by simp) rfl) (getD_tf hun)
              refine wpOp_append_pty rfl rfl (.tmp 32) (.tmp 35) rfl wq.heap.size (us 32) [] rfl hRow (some ⟨g, off, none⟩) (c) ((ps.take ps.length)) (by show us 35 = _; rw [e35] <;> simp [hl1]) (q1.below I.bel) (.inr ⟨_, _, rfl⟩) (by simp [hl1, hl3] <;> omega) hsz ?_
              intro v W2 hR2 hB hg hv
              have U0 : updA us 36 (v) 0 = us 0 := upd_other (by decide)
              have U3 : updA us 36 (v) 3 = us 3 := upd_other (by decide)
              have U6 : updA us 36 (v) 6 = us 6 := upd_other (by decide)
              have U7 : updA us 36 (v) 7 = us 7 := upd_other (by decide)
              have U32 : updA us 36 (v) 32 = us 32 := upd_other (by decide)
              have U33 : updA us 36 (v) 33 = us 33 := upd_other (by decide)
              have U34 : updA us 36 (v) 34 = us 34 := upd_other (by decide)
              have U35 : updA us 36 (v) 35 = us 35 := upd_other (by decide)
              have U36 : updA us 36 (v) 36 = (v) := upd_same _ _ _
              have U37 : updA us 36 (v) 37 = us 37 := upd_other (by decide)
              have U38 : updA us 36 (v) 38 = us 38 := upd_other (by decide)
              have U39 : updA us 36 (v) 39 = us 39 := upd_other (by decide)
              have U40 : updA us 36 (v) 40 = us 40 := upd_other (by decide)
              have U41 : updA us 36 (v) 41 = us 41 := upd_other (by decide)
              have U42 : updA us 36 (v) 42 = us 42 := upd_other (by decide)
              have U43 : updA us 36 (v) 43 = us 43 := upd_other (by decide)
              refine ⟨updA us 36 v, by simp [frA, updA, Act.put], { u0 := (U0.trans I.u0), u3 := (U3.trans I.u3), u6 := (U6.trans I.u6), bel := (I.bel.trans hB), o1 := (fun h => U33.trans (I.o1 (D1.symm.trans h))), o2 := (fun h => U34.trans (I.o2 (D2.symm.trans h))), o3 := (fun h => U35.trans (I.o3 (D3.symm.trans h))), o5 := (fun h => U37.trans (I.o5 (D5.symm.trans h))), o8 := (fun h => U40.trans (I.o8 (D8.symm.trans h))), o9 := (fun h => U41.trans (I.o9 (D9.symm.trans h))), o10 := (fun h => U42.trans (I.o10 (D10.symm.trans h))), o6 := (fun h0 h1 => by rw [U38]; exact (I.o6 (D6.symm.trans h0) (D7.symm.trans h1)).sep (I.s0 h00 (getD_tf hun) (D6.symm.trans h0) (D7.symm.trans h1)) hg), r0 := (fun h0 h1 => by rw [D4] at h1; cases h1), r4 := (fun _ _ => by rw [U36]; simpa using hR2), r7 := (fun h0 h1 => absurd (I.i7 (D7.symm.trans h0)) (by rw [getD_tf hun]; exact Bool.false_ne_true)), r11 := (fun h0 => absurd (I.i7 (I.i11 (D11.symm.trans h0))) (by rw [getD_tf hun]; exact Bool.false_ne_true)), s0 := (fun h0 h1 h2 h3 => by rw [D4] at h1; cases h1), s4 := (fun h0 h1 h2 => by rw [U36, U38]; exact sep_app (I.o6 (D6.symm.trans h2) (D7.symm.trans h1)) (I.s0 h00 (getD_tf hun) (D6.symm.trans h2) (D7.symm.trans h1)) hv), o12 := (fun h => by rw [U7, U43, D11]; exact I.o12 (D12.symm.trans h)), i7 := (fun _ => D4), i11 := (fun h => D7.trans (I.i11 (D11.symm.trans h))) }⟩
            · skip
              have D0 : (d.setIfInBounds 5 true).getD 0 false = d.getD 0 false := getD_set_ne false (by decide)
              have D1 : (d.setIfInBounds 5 true).getD 1 false = d.getD 1 false := getD_set_ne false (by decide)
              have D2 : (d.setIfInBounds 5 true).getD 2 false = d.getD 2 false := getD_set_ne false (by decide)
              have D3 : (d.setIfInBounds 5 true).getD 3 false = d.getD 3 false := getD_set_ne false (by decide)
              have D4 : (d.setIfInBounds 5 true).getD 4 false = d.getD 4 false := getD_set_ne false (by decide)
              have D5 : (d.setIfInBounds 5 true).getD 5 false = true := getD_set_same hun
              have D6 : (d.setIfInBounds 5 true).getD 6 false = d.getD 6 false := getD_set_ne false (by decide)
              have D7 : (d.setIfInBounds 5 true).getD 7 false = d.getD 7 false := getD_set_ne false (by decide)
              have D8 : (d.setIfInBounds 5 true).getD 8 false = d.getD 8 false := getD_set_ne false (by decide)
              have D9 : (d.setIfInBounds 5 true).getD 9 false = d.getD 9 false := getD_set_ne false (by decide)
              have D10 : (d.setIfInBounds 5 true).getD 10 false = d.getD 10 false := getD_set_ne false (by decide)
              have D11 : (d.setIfInBounds 5 true).getD 11 false = d.getD 11 false := getD_set_ne false (by decide)
              have D12 : (d.setIfInBounds 5 true).getD 12 false = d.getD 12 false := getD_set_ne false (by decide)
              have hbx := hbox.belowB hb0 I.bel
              have c0 := hbx.c0
              have c1 := hbx.c1
              have c2 := hbx.c2
              have U0 : updA us 37 (.agg #[.string ⟨x.c.toArray⟩, .int .i64 x.k, .string ⟨x.a.toArray⟩]) 0 = us 0 := upd_other (by decide)
              have U3 : updA us 37 (.agg #[.string ⟨x.c.toArray⟩, .int .i64 x.k, .string ⟨x.a.toArray⟩]) 3 = us 3 := upd_other (by decide)
              have U6 : updA us 37 (.agg #[.string ⟨x.c.toArray⟩, .int .i64 x.k, .string ⟨x.a.toArray⟩]) 6 = us 6 := upd_other (by decide)
              have U7 : updA us 37 (.agg #[.string ⟨x.c.toArray⟩, .int .i64 x.k, .string ⟨x.a.toArray⟩]) 7 = us 7 := upd_other (by decide)
              have U32 : updA us 37 (.agg #[.string ⟨x.c.toArray⟩, .int .i64 x.k, .string ⟨x.a.toArray⟩]) 32 = us 32 := upd_other (by decide)
              have U33 : updA us 37 (.agg #[.string ⟨x.c.toArray⟩, .int .i64 x.k, .string ⟨x.a.toArray⟩]) 33 = us 33 := upd_other (by decide)
              have U34 : updA us 37 (.agg #[.string ⟨x.c.toArray⟩, .int .i64 x.k, .string ⟨x.a.toArray⟩]) 34 = us 34 := upd_other (by decide)
              have U35 : updA us 37 (.agg #[.string ⟨x.c.toArray⟩, .int .i64 x.k, .string ⟨x.a.toArray⟩]) 35 = us 35 := upd_other (by decide)
              have U36 : updA us 37 (.agg #[.string ⟨x.c.toArray⟩, .int .i64 x.k, .string ⟨x.a.toArray⟩]) 36 = us 36 := upd_other (by decide)
              have U37 : updA us 37 (.agg #[.string ⟨x.c.toArray⟩, .int .i64 x.k, .string ⟨x.a.toArray⟩]) 37 = (.agg #[.string ⟨x.c.toArray⟩, .int .i64 x.k, .string ⟨x.a.toArray⟩]) := upd_same _ _ _
              have U38 : updA us 37 (.agg #[.string ⟨x.c.toArray⟩, .int .i64 x.k, .string ⟨x.a.toArray⟩]) 38 = us 38 := upd_other (by decide)
              have U39 : updA us 37 (.agg #[.string ⟨x.c.toArray⟩, .int .i64 x.k, .string ⟨x.a.toArray⟩]) 39 = us 39 := upd_other (by decide)
              have U40 : updA us 37 (.agg #[.string ⟨x.c.toArray⟩, .int .i64 x.k, .string ⟨x.a.toArray⟩]) 40 = us 40 := upd_other (by decide)
              have U41 : updA us 37 (.agg #[.string ⟨x.c.toArray⟩, .int .i64 x.k, .string ⟨x.a.toArray⟩]) 41 = us 41 := upd_other (by decide)
              have U42 : updA us 37 (.agg #[.string ⟨x.c.toArray⟩, .int .i64 x.k, .string ⟨x.a.toArray⟩]) 42 = us 42 := upd_other (by decide)
              have U43 : updA us 37 (.agg #[.string ⟨x.c.toArray⟩, .int .i64 x.k, .string ⟨x.a.toArray⟩]) 43 = us 43 := upd_other (by decide)
              refine wpOp_step rfl (fun K hK => ?_)
              simp only [frA, e0, e3, e6, c0, c1, c2]
              go_simp
              refine hK _ _ ⟨updA us 37 (.agg #[.string ⟨x.c.toArray⟩, .int .i64 x.k, .string ⟨x.a.toArray⟩]), by simp [frA, updA, e0, e3, e6, c0, c1, c2], { u0 := (U0.trans I.u0), u3 := (U3.trans I.u3), u6 := (U6.trans I.u6), bel := (I.bel), o1 := (fun h => U33.trans (I.o1 (D1.symm.trans h))), o2 := (fun h => U34.trans (I.o2 (D2.symm.trans h))), o3 := (fun h => U35.trans (I.o3 (D3.symm.trans h))), o5 := (fun _ => U37), o8 := (fun h => U40.trans (I.o8 (D8.symm.trans h))), o9 := (fun h => U41.trans (I.o9 (D9.symm.trans h))), o10 := (fun h => U42.trans (I.o10 (D10.symm.trans h))), o6 := (fun h0 h1 => by rw [U38]; exact I.o6 (D6.symm.trans h0) (D7.symm.trans h1)), r0 := (fun h0 h1 => by rw [U32]; exact I.r0 (D0.symm.trans h0) (D4.symm.trans h1)), r4 := (fun h0 h1 => by rw [U36]; exact I.r4 (D4.symm.trans h0) (D7.symm.trans h1)), r7 := (fun h0 h1 => by rw [U39]; exact I.r7 (D7.symm.trans h0) (D11.symm.trans h1)), r11 := (fun h0 => by rw [U43]; exact I.r11 (D11.symm.trans h0)), s0 := (fun h0 h1 h2 h3 => by rw [U32, U38]; exact I.s0 (D0.symm.trans h0) (D4.symm.trans h1) (D6.symm.trans h2) (D7.symm.trans h3)), s4 := (fun h0 h1 h2 => by rw [U36, U38]; exact I.s4 (D4.symm.trans h0) (D7.symm.trans h1) (D6.symm.trans h2)), o12 := (fun h => by rw [U7, U43, D11]; exact I.o12 (D12.symm.trans h)), i7 := (fun h => D4.trans (I.i7 (D7.symm.trans h))), i11 := (fun h => D7.trans (I.i11 (D11.symm.trans h))) }⟩
            · skip
              have D0 : (d.setIfInBounds 6 true).getD 0 false = d.getD 0 false := getD_set_ne false (by decide)
              have D1 : (d.setIfInBounds 6 true).getD 1 false = d.getD 1 false := getD_set_ne false (by decide)
              have D2 : (d.setIfInBounds 6 true).getD 2 false = d.getD 2 false := getD_set_ne false (by decide)
              have D3 : (d.setIfInBounds 6 true).getD 3 false = d.getD 3 false := getD_set_ne false (by decide)
              have D4 : (d.setIfInBounds 6 true).getD 4 false = d.getD 4 false := getD_set_ne false (by decide)
              have D5 : (d.setIfInBounds 6 true).getD 5 false = d.getD 5 false := getD_set_ne false (by decide)
              have D6 : (d.setIfInBounds 6 true).getD 6 false = true := getD_set_same hun
              have D7 : (d.setIfInBounds 6 true).getD 7 false = d.getD 7 false := getD_set_ne false (by decide)
              have D8 : (d.setIfInBounds 6 true).getD 8 false = d.getD 8 false := getD_set_ne false (by decide)
              have D9 : (d.setIfInBounds 6 true).getD 9 false = d.getD 9 false := getD_set_ne false (by decide)
              have D10 : (d.setIfInBounds 6 true).getD 10 false = d.getD 10 false := getD_set_ne false (by decide)
              have D11 : (d.setIfInBounds 6 true).getD 11 false = d.getD 11 false := getD_set_ne false (by decide)
              have D12 : (d.setIfInBounds 6 true).getD 12 false = d.getD 12 false := getD_set_ne false (by decide)
              have e37 := I.o5 (hall ⟨5, .data⟩ (by simp) rfl)
              have U0 : updA us 38 (.slice (some ⟨W.heap.size, 0, none⟩) 1 1) 0 = us 0 := upd_other (by decide)
              have U3 : updA us 38 (.slice (some ⟨W.heap.size, 0, none⟩) 1 1) 3 = us 3 := upd_other (by decide)
              have U6 : updA us 38 (.slice (some ⟨W.heap.size, 0, none⟩) 1 1) 6 = us 6 := upd_other (by decide)
              have U7 : updA us 38 (.slice (some ⟨W.heap.size, 0, none⟩) 1 1) 7 = us 7 := upd_other (by decide)
              have U32 : updA us 38 (.slice (some ⟨W.heap.size, 0, none⟩) 1 1) 32 = us 32 := upd_other (by decide)
              have U33 : updA us 38 (.slice (some ⟨W.heap.size, 0, none⟩) 1 1) 33 = us 33 := upd_other (by decide)
              have U34 : updA us 38 (.slice (some ⟨W.heap.size, 0, none⟩) 1 1) 34 = us 34 := upd_other (by decide)
              have U35 : updA us 38 (.slice (some ⟨W.heap.size, 0, none⟩) 1 1) 35 = us 35 := upd_other (by decide)
              have U36 : updA us 38 (.slice (some ⟨W.heap.size, 0, none⟩) 1 1) 36 = us 36 := upd_other (by decide)
              have U37 : updA us 38 (.slice (some ⟨W.heap.size, 0, none⟩) 1 1) 37 = us 37 := upd_other (by decide)
              have U38 : updA us 38 (.slice (some ⟨W.heap.size, 0, none⟩) 1 1) 38 = (.slice (some ⟨W.heap.size, 0, none⟩) 1 1) := upd_same _ _ _
              have U39 : updA us 38 (.slice (some ⟨W.heap.size, 0, none⟩) 1 1) 39 = us 39 := upd_other (by decide)
              have U40 : updA us 38 (.slice (some ⟨W.heap.size, 0, none⟩) 1 1) 40 = us 40 := upd_other (by decide)
              have U41 : updA us 38 (.slice (some ⟨W.heap.size, 0, none⟩) 1 1) 41 = us 41 := upd_other (by decide)
              have U42 : updA us 38 (.slice (some ⟨W.heap.size, 0, none⟩) 1 1) 42 = us 42 := upd_other (by decide)
              have U43 : updA us 38 (.slice (some ⟨W.heap.size, 0, none⟩) 1 1) 43 = us 43 := upd_other (by decide)
              refine wpOp_step rfl (fun K hK => ?_)
              simp only [frA, e0, e3, e6, e37]
              go_simp
              refine hK _ _ ⟨updA us 38 (.slice (some ⟨W.heap.size, 0, none⟩) 1 1), by simp [frA, updA, e0, e3, e6, e37], { u0 := (U0.trans I.u0), u3 := (U3.trans I.u3), u6 := (U6.trans I.u6), bel := (I.bel.alloc hsz _), o1 := (fun h => U33.trans (I.o1 (D1.symm.trans h))), o2 := (fun h => U34.trans (I.o2 (D2.symm.trans h))), o3 := (fun h => U35.trans (I.o3 (D3.symm.trans h))), o5 := (fun h => U37.trans (I.o5 (D5.symm.trans h))), o8 := (fun h => U40.trans (I.o8 (D8.symm.trans h))), o9 := (fun h => U41.trans (I.o9 (D9.symm.trans h))), o10 := (fun h => U42.trans (I.o10 (D10.symm.trans h))), o6 := (fun _ _ => by rw [U38]; exact ⟨_, rfl, heap_alloc_new W _, hsz⟩), r0 := (fun h0 h1 => by rw [U32]; exact (I.r0 (D0.symm.trans h0) (D4.symm.trans h1)).below (below_alloc _ _)), r4 := (fun h0 h1 => by rw [U36]; exact (I.r4 (D4.symm.trans h0) (D7.symm.trans h1)).below (below_alloc _ _)), r7 := (fun h0 h1 => by rw [U39]; exact (I.r7 (D7.symm.trans h0) (D11.symm.trans h1)).below (below_alloc _ _)), r11 := (fun h0 => by rw [U43]; exact (I.r11 (D11.symm.trans h0)).below (below_alloc _ _)), s0 := (fun h0 h1 h2 h3 => by rw [U32, U38]; exact sep_lt fun k hk => (I.r0 (D0.symm.trans h0) (D4.symm.trans h1)).lt hk), s4 := (fun h0 h1 h2 => by rw [U36, U38]; exact sep_lt fun k hk => (I.r4 (D4.symm.trans h0) (D7.symm.trans h1)).lt hk), o12 := (fun h => by rw [U7, U43, D11]; exact I.o12 (D12.symm.trans h)), i7 := (fun h => D4.trans (I.i7 (D7.symm.trans h))), i11 := (fun h => D7.trans (I.i11 (D11.symm.trans h))) }⟩
            · skip
              have D0 : (d.setIfInBounds 7 true).getD 0 false = d.getD 0 false := getD_set_ne false (by decide)
              have D1 : (d.setIfInBounds 7 true).getD 1 false = d.getD 1 false := getD_set_ne false (by decide)
              have D2 : (d.setIfInBounds 7 true).getD 2 false = d.getD 2 false := getD_set_ne false (by decide)
              have D3 : (d.setIfInBounds 7 true).getD 3 false = d.getD 3 false := getD_set_ne false (by decide)
              have D4 : (d.setIfInBounds 7 true).getD 4 false = d.getD 4 false := getD_set_ne false (by decide)
              have D5 : (d.setIfInBounds 7 true).getD 5 false = d.getD 5 false := getD_set_ne false (by decide)
              have D6 : (d.setIfInBounds 7 true).getD 6 false = d.getD 6 false := getD_set_ne false (by decide)
              have D7 : (d.setIfInBounds 7 true).getD 7 false = true := getD_set_same hun
              have D8 : (d.setIfInBounds 7 true).getD 8 false = d.getD 8 false := getD_set_ne false (by decide)
              have D9 : (d.setIfInBounds 7 true).getD 9 false = d.getD 9 false := getD_set_ne false (by decide)
              have D10 : (d.setIfInBounds 7 true).getD 10 false = d.getD 10 false := getD_set_ne false (by decide)
              have D11 : (d.setIfInBounds 7 true).getD 11 false = d.getD 11 false := getD_set_ne false (by decide)
              have D12 : (d.setIfInBounds 7 true).getD 12 false = d.getD 12 false := getD_set_ne false (by decide)
              have h44 := hall ⟨4, .data⟩ (by simp) rfl
              obtain ⟨B, e38, hRB⟩ := (I.o6 (hall ⟨6, .data⟩ (by simp) rfl) (getD_tf hun)).row
              have hRow := I.r4 (hall ⟨4, .data⟩ (by simp) rfl) (getD_tf hun)
              refine wpOp_append_pty rfl rfl (.tmp 36) (.tmp 38) rfl wq.heap.size (us 36) ((ps.take ps.length)) rfl hRow (some ⟨B, 0, none⟩) 1 [x] e38 hRB (.inr ⟨_, _, rfl⟩) (by simp [hl1, hl3] <;> omega) hsz ?_
              intro v W2 hR2 hB hg hv
              have U0 : updA us 39 (v) 0 = us 0 := upd_other (by decide)
              have U3 : updA us 39 (v) 3 = us 3 := upd_other (by decide)
              have U6 : updA us 39 (v) 6 = us 6 := upd_other (by decide)
              have U7 : updA us 39 (v) 7 = us 7 := upd_other (by decide)
              have U32 : updA us 39 (v) 32 = us 32 := upd_other (by decide)
              have U33 : updA us 39 (v) 33 = us 33 := upd_other (by decide)
              have U34 : updA us 39 (v) 34 = us 34 := upd_other (by decide)
              have U35 : updA us 39 (v) 35 = us 35 := upd_other (by decide)
              have U36 : updA us 39 (v) 36 = us 36 := upd_other (by decide)
              have U37 : updA us 39 (v) 37 = us 37 := upd_other (by decide)
              have U38 : updA us 39 (v) 38 = us 38 := upd_other (by decide)
              have U39 : updA us 39 (v) 39 = (v) := upd_same _ _ _
              have U40 : updA us 39 (v) 40 = us 40 := upd_other (by decide)
              have U41 : updA us 39 (v) 41 = us 41 := upd_other (by decide)
              have U42 : updA us 39 (v) 42 = us 42 := upd_other (by decide)
              have U43 : updA us 39 (v) 43 = us 43 := upd_other (by decide)
              refine ⟨updA us 39 v, by simp [frA, updA, Act.put], { u0 := (U0.trans I.u0), u3 := (U3.trans I.u3), u6 := (U6.trans I.u6), bel := (I.bel.trans hB), o1 := (fun h => U33.trans (I.o1 (D1.symm.trans h))), o2 := (fun h => U34.trans (I.o2 (D2.symm.trans h))), o3 := (fun h => U35.trans (I.o3 (D3.symm.trans h))), o5 := (fun h => U37.trans (I.o5 (D5.symm.trans h))), o8 := (fun h => U40.trans (I.o8 (D8.symm.trans h))), o9 := (fun h => U41.trans (I.o9 (D9.symm.trans h))), o10 := (fun h => U42.trans (I.o10 (D10.symm.trans h))), o6 := (fun h0 h1 => by rw [D7] at h1; cases h1), r0 := (fun h0 h1 => absurd h44 (by rw [D4.symm.trans h1]; exact Bool.false_ne_true)), r4 := (fun h0 h1 => by rw [D7] at h1; cases h1), r7 := (fun _ _ => by rw [U39]; exact hR2), r11 := (fun h0 => absurd (I.i11 (D11.symm.trans h0)) (by rw [getD_tf hun]; exact Bool.false_ne_true)), s0 := (fun h0 h1 h2 h3 => by rw [D7] at h3; cases h3), s4 := (fun h0 h1 h2 => by rw [D7] at h1; cases h1), o12 := (fun h => by rw [U7, U43, D11]; exact I.o12 (D12.symm.trans h)), i7 := (fun _ => D4.trans h44), i11 := (fun _ => D7) }⟩
            · skip
              have D0 : (d.setIfInBounds 8 true).getD 0 false = d.getD 0 false := getD_set_ne false (by decide)
              have D1 : (d.setIfInBounds 8 true).getD 1 false = d.getD 1 false := getD_set_ne false (by decide)
              have D2 : (d.setIfInBounds 8 true).getD 2 false = d.getD 2 false := getD_set_ne false (by decide)
              have D3 : (d.setIfInBounds 8 true).getD 3 false = d.getD 3 false := getD_set_ne false (by decide)
              have D4 : (d.setIfInBounds 8 true).getD 4 false = d.getD 4 false := getD_set_ne false (by decide)
              have D5 : (d.setIfInBounds 8 true).getD 5 false = d.getD 5 false := getD_set_ne false (by decide)
              have D6 : (d.setIfInBounds 8 true).getD 6 false = d.getD 6 false := getD_set_ne false (by decide)
              have D7 : (d.setIfInBounds 8 true).getD 7 false = d.getD 7 false := getD_set_ne false (by decide)
              have D8 : (d.setIfInBounds 8 true).getD 8 false = true := getD_set_same hun
              have D9 : (d.setIfInBounds 8 true).getD 9 false = d.getD 9 false := getD_set_ne false (by decide)
              have D10 : (d.setIfInBounds 8 true).getD 10 false = d.getD 10 false := getD_set_ne false (by decide)
              have D11 : (d.setIfInBounds 8 true).getD 11 false = d.getD 11 false := getD_set_ne false (by decide)
              have D12 : (d.setIfInBounds 8 true).getD 12 false = d.getD 12 false := getD_set_ne false (by decide)
              have U0 : updA us 40 (.slice (some ⟨g, off, none⟩) ps.length c) 0 = us 0 := upd_other (by decide)
              have U3 : updA us 40 (.slice (some ⟨g, off, none⟩) ps.length c) 3 = us 3 := upd_other (by decide)
              have U6 : updA us 40 (.slice (some ⟨g, off, none⟩) ps.length c) 6 = us 6 := upd_other (by decide)
              have U7 : updA us 40 (.slice (some ⟨g, off, none⟩) ps.length c) 7 = us 7 := upd_other (by decide)
              have U32 : updA us 40 (.slice (some ⟨g, off, none⟩) ps.length c) 32 = us 32 := upd_other (by decide)
              have U33 : updA us 40 (.slice (some ⟨g, off, none⟩) ps.length c) 33 = us 33 := upd_other (by decide)
              have U34 : updA us 40 (.slice (some ⟨g, off, none⟩) ps.length c) 34 = us 34 := upd_other (by decide)
              have U35 : updA us 40 (.slice (some ⟨g, off, none⟩) ps.length c) 35 = us 35 := upd_other (by decide)
              have U36 : updA us 40 (.slice (some ⟨g, off, none⟩) ps.length c) 36 = us 36 := upd_other (by decide)
              have U37 : updA us 40 (.slice (some ⟨g, off, none⟩) ps.length c) 37 = us 37 := upd_other (by decide)
              have U38 : updA us 40 (.slice (some ⟨g, off, none⟩) ps.length c) 38 = us 38 := upd_other (by decide)
              have U39 : updA us 40 (.slice (some ⟨g, off, none⟩) ps.length c) 39 = us 39 := upd_other (by decide)
              have U40 : updA us 40 (.slice (some ⟨g, off, none⟩) ps.length c) 40 = (.slice (some ⟨g, off, none⟩) ps.length c) := upd_same _ _ _
              have U41 : updA us 40 (.slice (some ⟨g, off, none⟩) ps.length c) 41 = us 41 := upd_other (by decide)
              have U42 : updA us 40 (.slice (some ⟨g, off, none⟩) ps.length c) 42 = us 42 := upd_other (by decide)
              have U43 : updA us 40 (.slice (some ⟨g, off, none⟩) ps.length c) 43 = us 43 := upd_other (by decide)
              refine wpOp_step rfl (fun K hK => ?_)
              simp only [frA, e0, e3, e6]
              go_simp
              refine hK _ _ ⟨updA us 40 (.slice (some ⟨g, off, none⟩) ps.length c), by simp [frA, updA, e0, e3, e6], { u0 := (U0.trans I.u0), u3 := (U3.trans I.u3), u6 := (U6.trans I.u6), bel := (I.bel), o1 := (fun h => U33.trans (I.o1 (D1.symm.trans h))), o2 := (fun h => U34.trans (I.o2 (D2.symm.trans h))), o3 := (fun h => U35.trans (I.o3 (D3.symm.trans h))), o5 := (fun h => U37.trans (I.o5 (D5.symm.trans h))), o8 := (fun _ => U40), o9 := (fun h => U41.trans (I.o9 (D9.symm.trans h))), o10 := (fun h => U42.trans (I.o10 (D10.symm.trans h))), o6 := (fun h0 h1 => by rw [U38]; exact I.o6 (D6.symm.trans h0) (D7.symm.trans h1)), r0 := (fun h0 h1 => by rw [U32]; exact I.r0 (D0.symm.trans h0) (D4.symm.trans h1)), r4 := (fun h0 h1 => by rw [U36]; exact I.r4 (D4.symm.trans h0) (D7.symm.trans h1)), r7 := (fun h0 h1 => by rw [U39]; exact I.r7 (D7.symm.trans h0) (D11.symm.trans h1)), r11 := (fun h0 => by rw [U43]; exact I.r11 (D11.symm.trans h0)), s0 := (fun h0 h1 h2 h3 => by rw [U32, U38]; exact I.s0 (D0.symm.trans h0) (D4.symm.trans h1) (D6.symm.trans h2) (D7.symm.trans h3)), s4 := (fun h0 h1 h2 => by rw [U36, U38]; exact I.s4 (D4.symm.trans h0) (D7.symm.trans h1) (D6.symm.trans h2)), o12 := (fun h => by rw [U7, U43, D11]; exact I.o12 (D12.symm.trans h)), i7 := (fun h => D4.trans (I.i7 (D7.symm.trans h))), i11 := (fun h => D7.trans (I.i11 (D11.symm.trans h))) }⟩
            · skip
              have D0 : (d.setIfInBounds 9 true).getD 0 false = d.getD 0 false := getD_set_ne false (by decide)
              have D1 : (d.setIfInBounds 9 true).getD 1 false = d.getD 1 false := getD_set_ne false (by decide)
              have D2 : (d.setIfInBounds 9 true).getD 2 false = d.getD 2 false := getD_set_ne false (by decide)
              have D3 : (d.setIfInBounds 9 true).getD 3 false = d.getD 3 false := getD_set_ne false (by decide)
              have D4 : (d.setIfInBounds 9 true).getD 4 false = d.getD 4 false := getD_set_ne false (by decide)
              have D5 : (d.setIfInBounds 9 true).getD 5 false = d.getD 5 false := getD_set_ne false (by decide)
              have D6 : (d.setIfInBounds 9 true).getD 6 false = d.getD 6 false := getD_set_ne false (by decide)
              have D7 : (d.setIfInBounds 9 true).getD 7 false = d.getD 7 false := getD_set_ne false (by decide)
              have D8 : (d.setIfInBounds 9 true).getD 8 false = d.getD 8 false := getD_set_ne false (by decide)
              have D9 : (d.setIfInBounds 9 true).getD 9 false = true := getD_set_same hun
              have D10 : (d.setIfInBounds 9 true).getD 10 false = d.getD 10 false := getD_set_ne false (by decide)
              have D11 : (d.setIfInBounds 9 true).getD 11 false = d.getD 11 false := getD_set_ne false (by decide)
              have D12 : (d.setIfInBounds 9 true).getD 12 false = d.getD 12 false := getD_set_ne false (by decide)
              have U0 : updA us 41 (.int .i64 ((ps.length : Nat) : Int)) 0 = us 0 := upd_other (by decide)
              have U3 : updA us 41 (.int .i64 ((ps.length : Nat) : Int)) 3 = us 3 := upd_other (by decide)
              have U6 : updA us 41 (.int .i64 ((ps.length : Nat) : Int)) 6 = us 6 := upd_other (by decide)
              have U7 : updA us 41 (.int .i64 ((ps.length : Nat) : Int)) 7 = us 7 := upd_other (by decide)
              have U32 : updA us 41 (.int .i64 ((ps.length : Nat) : Int)) 32 = us 32 := upd_other (by decide)
              have U33 : updA us 41 (.int .i64 ((ps.length : Nat) : Int)) 33 = us 33 := upd_other (by decide)
              have U34 : updA us 41 (.int .i64 ((ps.length : Nat) : Int)) 34 = us 34 := upd_other (by decide)
              have U35 : updA us 41 (.int .i64 ((ps.length : Nat) : Int)) 35 = us 35 := upd_other (by decide)
              have U36 : updA us 41 (.int .i64 ((ps.length : Nat) : Int)) 36 = us 36 := upd_other (by decide)
              have U37 : updA us 41 (.int .i64 ((ps.length : Nat) : Int)) 37 = us 37 := upd_other (by decide)
              have U38 : updA us 41 (.int .i64 ((ps.length : Nat) : Int)) 38 = us 38 := upd_other (by decide)
              have U39 : updA us 41 (.int .i64 ((ps.length : Nat) : Int)) 39 = us 39 := upd_other (by decide)
              have U40 : updA us 41 (.int .i64 ((ps.length : Nat) : Int)) 40 = us 40 := upd_other (by decide)
              have U41 : updA us 41 (.int .i64 ((ps.length : Nat) : Int)) 41 = (.int .i64 ((ps.length : Nat) : Int)) := upd_same _ _ _
              have U42 : updA us 41 (.int .i64 ((ps.length : Nat) : Int)) 42 = us 42 := upd_other (by decide)
              have U43 : updA us 41 (.int .i64 ((ps.length : Nat) : Int)) 43 = us 43 := upd_other (by decide)
              refine wpOp_step rfl (fun K hK => ?_)
              simp only [frA, e0, e3, e6]
              go_simp
              refine hK _ _ ⟨updA us 41 (.int .i64 ((ps.length : Nat) : Int)), by simp [frA, updA, e0, e3, e6], { u0 := (U0.trans I.u0), u3 := (U3.trans I.u3), u6 := (U6.trans I.u6), bel := (I.bel), o1 := (fun h => U33.trans (I.o1 (D1.symm.trans h))), o2 := (fun h => U34.trans (I.o2 (D2.symm.trans h))), o3 := (fun h => U35.trans (I.o3 (D3.symm.trans h))), o5 := (fun h => U37.trans (I.o5 (D5.symm.trans h))), o8 := (fun h => U40.trans (I.o8 (D8.symm.trans h))), o9 := (fun _ => U41), o10 := (fun h => U42.trans (I.o10 (D10.symm.trans h))), o6 := (fun h0 h1 => by rw [U38]; exact I.o6 (D6.symm.trans h0) (D7.symm.trans h1)), r0 := (fun h0 h1 => by rw [U32]; exact I.r0 (D0.symm.trans h0) (D4.symm.trans h1)), r4 := (fun h0 h1 => by rw [U36]; exact I.r4 (D4.symm.trans h0) (D7.symm.trans h1)), r7 := (fun h0 h1 => by rw [U39]; exact I.r7 (D7.symm.trans h0) (D11.symm.trans h1)), r11 := (fun h0 => by rw [U43]; exact I.r11 (D11.symm.trans h0)), s0 := (fun h0 h1 h2 h3 => by rw [U32, U38]; exact I.s0 (D0.symm.trans h0) (D4.symm.trans h1) (D6.symm.trans h2) (D7.symm.trans h3)), s4 := (fun h0 h1 h2 => by rw [U36, U38]; exact I.s4 (D4.symm.trans h0) (D7.symm.trans h1) (D6.symm.trans h2)), o12 := (fun h => by rw [U7, U43, D11]; exact I.o12 (D12.symm.trans h)), i7 := (fun h => D4.trans (I.i7 (D7.symm.trans h))), i11 := (fun h => D7.trans (I.i11 (D11.symm.trans h))) }⟩
            · skip
              have D0 : (d.setIfInBounds 10 true).getD 0 false = d.getD 0 false := getD_set_ne false (by decide)
              have D1 : (d.setIfInBounds 10 true).getD 1 false = d.getD 1 false := getD_set_ne false (by decide)
              have D2 : (d.setIfInBounds 10 true).getD 2 false = d.getD 2 false := getD_set_ne false (by decide)
              have D3 : (d.setIfInBounds 10 true).getD 3 false = d.getD 3 false := getD_set_ne false (by decide)
              have D4 : (d.setIfInBounds 10 true).getD 4 false = d.getD 4 false := getD_set_ne false (by decide)
              have D5 : (d.setIfInBounds 10 true).getD 5 false = d.getD 5 false := getD_set_ne false (by decide)
              have D6 : (d.setIfInBounds 10 true).getD 6 false = d.getD 6 false := getD_set_ne false (by decide)
              have D7 : (d.setIfInBounds 10 true).getD 7 false = d.getD 7 false := getD_set_ne false (by decide)
              have D8 : (d.setIfInBounds 10 true).getD 8 false = d.getD 8 false := getD_set_ne false (by decide)
              have D9 : (d.setIfInBounds 10 true).getD 9 false = d.getD 9 false := getD_set_ne false (by decide)
              have D10 : (d.setIfInBounds 10 true).getD 10 false = true := getD_set_same hun
              have D11 : (d.setIfInBounds 10 true).getD 11 false = d.getD 11 false := getD_set_ne false (by decide)
              have D12 : (d.setIfInBounds 10 true).getD 12 false = d.getD 12 false := getD_set_ne false (by decide)
              have e40 := I.o8 (hall ⟨8, .data⟩ (by simp) rfl)
              have e41 := I.o9 (hall ⟨9, .data⟩ (by simp) rfl)
              have U0 : updA us 42 (.slice (some ⟨g, off + ps.length * 3, none⟩) (ps.length - ps.length) (c - ps.length)) 0 = us 0 := upd_other (by decide)
              have U3 : updA us 42 (.slice (some ⟨g, off + ps.length * 3, none⟩) (ps.length - ps.length) (c - ps.length)) 3 = us 3 := upd_other (by decide)
              have U6 : updA us 42 (.slice (some ⟨g, off + ps.length * 3, none⟩) (ps.length - ps.length) (c - ps.length)) 6 = us 6 := upd_other (by decide)
              have U7 : updA us 42 (.slice (some ⟨g, off + ps.length * 3, none⟩) (ps.length - ps.length) (c - ps.length)) 7 = us 7 := upd_other (by decide)
              have U32 : updA us 42 (.slice (some ⟨g, off + ps.length * 3, none⟩) (ps.length - ps.length) (c - ps.length)) 32 = us 32 := upd_other (by decide)
              have U33 : updA us 42 (.slice (some ⟨g, off + ps.length * 3, none⟩) (ps.length - ps.length) (c - ps.length)) 33 = us 33 := upd_other (by decide)
              have U34 : updA us 42 (.slice (some ⟨g, off + ps.length * 3, none⟩) (ps.length - ps.length) (c - ps.length)) 34 = us 34 := upd_other (by decide)
              have U35 : updA us 42 (.slice (some ⟨g, off + ps.length * 3, none⟩) (ps.length - ps.length) (c - ps.length)) 35 = us 35 := upd_other (by decide)
              have U36 : updA us 42 (.slice (some ⟨g, off + ps.length * 3, none⟩) (ps.length - ps.length) (c - ps.length)) 36 = us 36 := upd_other (by decide)
              have U37 : updA us 42 (.slice (some ⟨g, off + ps.length * 3, none⟩) (ps.length - ps.length) (c - ps.length)) 37 = us 37 := upd_other (by decide)
              have U38 : updA us 42 (.slice (some ⟨g, off + ps.length * 3, none⟩) (ps.length - ps.length) (c - ps.length)) 38 = us 38 := upd_other (by decide)
              have U39 : updA us 42 (.slice (some ⟨g, off + ps.length * 3, none⟩) (ps.length - ps.length) (c - ps.length)) 39 = us 39 := upd_other (by decide)
              have U40 : updA us 42 (.slice (some ⟨g, off + ps.length * 3, none⟩) (ps.length - ps.length) (c - ps.length)) 40 = us 40 := upd_other (by decide)
              have U41 : updA us 42 (.slice (some ⟨g, off + ps.length * 3, none⟩) (ps.length - ps.length) (c - ps.length)) 41 = us 41 := upd_other (by decide)
              have U42 : updA us 42 (.slice (some ⟨g, off + ps.length * 3, none⟩) (ps.length - ps.length) (c - ps.length)) 42 = (.slice (some ⟨g, off + ps.length * 3, none⟩) (ps.length - ps.length) (c - ps.length)) := upd_same _ _ _
              have U43 : updA us 42 (.slice (some ⟨g, off + ps.length * 3, none⟩) (ps.length - ps.length) (c - ps.length)) 43 = us 43 := upd_other (by decide)
              refine wpOp_step rfl (fun K hK => ?_)
              simp only [frA, e0, e3, e6, e40, e41]
              go_simp
              try (rw [if_pos (by omega)]; go_simp)
              refine hK _ _ ⟨updA us 42 (.slice (some ⟨g, off + ps.length * 3, none⟩) (ps.length - ps.length) (c - ps.length)), by simp [frA, updA, e0, e3, e6, e40, e41, e1s], { u0 := (U0.trans I.u0), u3 := (U3.trans I.u3), u6 := (U6.trans I.u6), bel := (I.bel), o1 := (fun h => U33.trans (I.o1 (D1.symm.trans h))), o2 := (fun h => U34.trans (I.o2 (D2.symm.trans h))), o3 := (fun h => U35.trans (I.o3 (D3.symm.trans h))), o5 := (fun h => U37.trans (I.o5 (D5.symm.trans h))), o8 := (fun h => U40.trans (I.o8 (D8.symm.trans h))), o9 := (fun h => U41.trans (I.o9 (D9.symm.trans h))), o10 := (fun _ => U42), o6 := (fun h0 h1 => by rw [U38]; exact I.o6 (D6.symm.trans h0) (D7.symm.trans h1)), r0 := (fun h0 h1 => by rw [U32]; exact I.r0 (D0.symm.trans h0) (D4.symm.trans h1)), r4 := (fun h0 h1 => by rw [U36]; exact I.r4 (D4.symm.trans h0) (D7.symm.trans h1)), r7 := (fun h0 h1 => by rw [U39]; exact I.r7 (D7.symm.trans h0) (D11.symm.trans h1)), r11 := (fun h0 => by rw [U43]; exact I.r11 (D11.symm.trans h0)), s0 := (fun h0 h1 h2 h3 => by rw [U32, U38]; exact I.s0 (D0.symm.trans h0) (D4.symm.trans h1) (D6.symm.trans h2) (D7.symm.trans h3)), s4 := (fun h0 h1 h2 => by rw [U36, U38]; exact I.s4 (D4.symm.trans h0) (D7.symm.trans h1) (D6.symm.trans h2)), o12 := (fun h => by rw [U7, U43, D11]; exact I.o12 (D12.symm.trans h)), i7 := (fun h => D4.trans (I.i7 (D7.symm.trans h))), i11 := (fun h => D7.trans (I.i11 (D11.symm.trans h))) }⟩
            · skip
              have D0 : (d.setIfInBounds 11 true).getD 0 false = d.getD 0 false := getD_set_ne false (by decide)
              have D1 : (d.setIfInBounds 11 true).getD 1 false = d.getD 1 false := getD_set_ne false (by decide)
              have D2 : (d.setIfInBounds 11 true).getD 2 false = d.getD 2 false := getD_set_ne false (by decide)
              have D3 : (d.setIfInBounds 11 true).getD 3 false = d.getD 3 false := getD_set_ne false (by decide)
              have D4 : (d.setIfInBounds 11 true).getD 4 false = d.getD 4 false := getD_set_ne false (by decide)
              have D5 : (d.setIfInBounds 11 true).getD 5 false = d.getD 5 false := getD_set_ne false (by decide)
              have D6 : (d.setIfInBounds 11 true).getD 6 false = d.getD 6 false := getD_set_ne false (by decide)
              have D7 : (d.setIfInBounds 11 true).getD 7 false = d.getD 7 false := getD_set_ne false (by decide)
              have D8 : (d.setIfInBounds 11 true).getD 8 false = d.getD 8 false := getD_set_ne false (by decide)
              have D9 : (d.setIfInBounds 11 true).getD 9 false = d.getD 9 false := getD_set_ne false (by decide)
              have D10 : (d.setIfInBounds 11 true).getD 10 false = d.getD 10 false := getD_set_ne false (by decide)
              have D11 : (d.setIfInBounds 11 true).getD 11 false = true := getD_set_same hun
              have D12 : (d.setIfInBounds 11 true).getD 12 false = d.getD 12 false := getD_set_ne false (by decide)
              have e42 := I.o10 (hall ⟨10, .data⟩ (by simp) rfl)
              have h77 := hall ⟨7, .data⟩ (by simp) rfl
              have hRow := I.r7 (hall ⟨7, .data⟩ (by simp) rfl) (getD_tf hun)
              refine wpOp_append_pty rfl rfl (.tmp 39) (.tmp 42) rfl wq.heap.size (us 39) ((ps.take ps.length) ++ [x]) rfl hRow (some ⟨g, off + ps.length * 3, none⟩) ((c - ps.length)) ((ps.drop ps.length)) (by show us 42 = _; rw [e42] <;> simp [hl3]) (q3.below I.bel) (.inr ⟨_, _, rfl⟩) (by simp [hl1, hl3] <;> omega) hsz ?_
              intro v W2 hR2 hB hg hv
              have U0 : updA us 43 (v) 0 = us 0 := upd_other (by decide)
              have U3 : updA us 43 (v) 3 = us 3 := upd_other (by decide)
              have U6 : updA us 43 (v) 6 = us 6 := upd_other (by decide)
              have U7 : updA us 43 (v) 7 = us 7 := upd_other (by decide)
              have U32 : updA us 43 (v) 32 = us 32 := upd_other (by decide)
              have U33 : updA us 43 (v) 33 = us 33 := upd_other (by decide)
              have U34 : updA us 43 (v) 34 = us 34 := upd_other (by decide)
              have U35 : updA us 43 (v) 35 = us 35 := upd_other (by decide)
              have U36 : updA us 43 (v) 36 = us 36 := upd_other (by decide)
              have U37 : updA us 43 (v) 37 = us 37 := upd_other (by decide)
              have U38 : updA us 43 (v) 38 = us 38 := upd_other (by decide)
              have U39 : updA us 43 (v) 39 = us 39 := upd_other (by decide)
              have U40 : updA us 43 (v) 40 = us 40 := upd_other (by decide)
              have U41 : updA us 43 (v) 41 = us 41 := upd_other (by decide)
              have U42 : updA us 43 (v) 42 = us 42 := upd_other (by decide)
              have U43 : updA us 43 (v) 43 = (v) := upd_same _ _ _
              refine ⟨updA us 43 v, by simp [frA, updA, Act.put], { u0 := (U0.trans I.u0), u3 := (U3.trans I.u3), u6 := (U6.trans I.u6), bel := (I.bel.trans hB), o1 := (fun h => U33.trans (I.o1 (D1.symm.trans h))), o2 := (fun h => U34.trans (I.o2 (D2.symm.trans h))), o3 := (fun h => U35.trans (I.o3 (D3.symm.trans h))), o5 := (fun h => U37.trans (I.o5 (D5.symm.trans h))), o8 := (fun h => U40.trans (I.o8 (D8.symm.trans h))), o9 := (fun h => U41.trans (I.o9 (D9.symm.trans h))), o10 := (fun h => U42.trans (I.o10 (D10.symm.trans h))), o6 := (fun h0 h1 => absurd h77 (by rw [D7.symm.trans h1]; exact Bool.false_ne_true)), r0 := (fun h0 h1 => absurd (I.i7 h77) (by rw [D4.symm.trans h1]; exact Bool.false_ne_true)), r4 := (fun h0 h1 => absurd h77 (by rw [D7.symm.trans h1]; exact Bool.false_ne_true)), r7 := (fun h0 h1 => by rw [D11] at h1; cases h1), r11 := (fun _ => by rw [U43]; exact hR2), s0 := (fun h0 h1 h2 h3 => by rw [U32, U38]; exact I.s0 (D0.symm.trans h0) (D4.symm.trans h1) (D6.symm.trans h2) (D7.symm.trans h3)), s4 := (fun h0 h1 h2 => by rw [U36, U38]; exact I.s4 (D4.symm.trans h0) (D7.symm.trans h1) (D6.symm.trans h2)), o12 := (fun h => absurd (I.o12 (D12.symm.trans h)).2 (by rw [getD_tf hun]; exact Bool.false_ne_true)), i7 := (fun h => D4.trans (I.i7 (D7.symm.trans h))), i11 := (fun _ => D7.trans h77) }⟩
            · skip
              have D0 : (d.setIfInBounds 12 true).getD 0 false = d.getD 0 false := getD_set_ne false (by decide)
              have D1 : (d.setIfInBounds 12 true).getD 1 false = d.getD 1 false := getD_set_ne false (by decide)
              have D2 : (d.setIfInBounds 12 true).getD 2 false = d.getD 2 false := getD_set_ne false (by decide)
              have D3 : (d.setIfInBounds 12 true).getD 3 false = d.getD 3 false := getD_set_ne false (by decide)
              have D4 : (d.setIfInBounds 12 true).getD 4 false = d.getD 4 false := getD_set_ne false (by decide)
              have D5 : (d.setIfInBounds 12 true).getD 5 false = d.getD 5 false := getD_set_ne false (by decide)
              have D6 : (d.setIfInBounds 12 true).getD 6 false = d.getD 6 false := getD_set_ne false (by decide)
              have D7 : (d.setIfInBounds 12 true).getD 7 false = d.getD 7 false := getD_set_ne false (by decide)
              have D8 : (d.setIfInBounds 12 true).getD 8 false = d.getD 8 false := getD_set_ne false (by decide)
              have D9 : (d.setIfInBounds 12 true).getD 9 false = d.getD 9 false := getD_set_ne false (by decide)
              have D10 : (d.setIfInBounds 12 true).getD 10 false = d.getD 10 false := getD_set_ne false (by decide)
              have D11 : (d.setIfInBounds 12 true).getD 11 false = d.getD 11 false := getD_set_ne false (by decide)
              have D12 : (d.setIfInBounds 12 true).getD 12 false = true := getD_set_same hun
              have h11 := hall ⟨11, .data⟩ (by simp) rfl
              have U0 : updA us 7 (us 43) 0 = us 0 := upd_other (by decide)
              have U3 : updA us 7 (us 43) 3 = us 3 := upd_other (by decide)
              have U6 : updA us 7 (us 43) 6 = us 6 := upd_other (by decide)
              have U7 : updA us 7 (us 43) 7 = (us 43) := upd_same _ _ _
              have U32 : updA us 7 (us 43) 32 = us 32 := upd_other (by decide)
              have U33 : updA us 7 (us 43) 33 = us 33 := upd_other (by decide)
              have U34 : updA us 7 (us 43) 34 = us 34 := upd_other (by decide)
              have U35 : updA us 7 (us 43) 35 = us 35 := upd_other (by decide)
              have U36 : updA us 7 (us 43) 36 = us 36 := upd_other (by decide)
              have U37 : updA us 7 (us 43) 37 = us 37 := upd_other (by decide)
              have U38 : updA us 7 (us 43) 38 = us 38 := upd_other (by decide)
              have U39 : updA us 7 (us 43) 39 = us 39 := upd_other (by decide)
              have U40 : updA us 7 (us 43) 40 = us 40 := upd_other (by decide)
              have U41 : updA us 7 (us 43) 41 = us 41 := upd_other (by decide)
              have U42 : updA us 7 (us 43) 42 = us 42 := upd_other (by decide)
              have U43 : updA us 7 (us 43) 43 = us 43 := upd_other (by decide)
              refine wpOp_step rfl (fun K hK => ?_)
              simp only [frA, e0, e3, e6]
              go_simp
              refine hK _ _ ⟨updA us 7 (us 43), by simp [frA, updA, e0, e3, e6], { u0 := (U0.trans I.u0), u3 := (U3.trans I.u3), u6 := (U6.trans I.u6), bel := (I.bel), o1 := (fun h => U33.trans (I.o1 (D1.symm.trans h))), o2 := (fun h => U34.trans (I.o2 (D2.symm.trans h))), o3 := (fun h => U35.trans (I.o3 (D3.symm.trans h))), o5 := (fun h => U37.trans (I.o5 (D5.symm.trans h))), o8 := (fun h => U40.trans (I.o8 (D8.symm.trans h))), o9 := (fun h => U41.trans (I.o9 (D9.symm.trans h))), o10 := (fun h => U42.trans (I.o10 (D10.symm.trans h))), o6 := (fun h0 h1 => by rw [U38]; exact I.o6 (D6.symm.trans h0) (D7.symm.trans h1)), r0 := (fun h0 h1 => by rw [U32]; exact I.r0 (D0.symm.trans h0) (D4.symm.trans h1)), r4 := (fun h0 h1 => by rw [U36]; exact I.r4 (D4.symm.trans h0) (D7.symm.trans h1)), r7 := (fun h0 h1 => by rw [U39]; exact I.r7 (D7.symm.trans h0) (D11.symm.trans h1)), r11 := (fun h0 => by rw [U43]; exact I.r11 (D11.symm.trans h0)), s0 := (fun h0 h1 h2 h3 => by rw [U32, U38]; exact I.s0 (D0.symm.trans h0) (D4.symm.trans h1) (D6.symm.trans h2) (D7.symm.trans h3)), s4 := (fun h0 h1 h2 => by rw [U36, U38]; exact I.s4 (D4.symm.trans h0) (D7.symm.trans h1) (D6.symm.trans h2)), o12 := (fun _ => ⟨by rw [U7, U43], by rw [D11]; exact h11⟩), i7 := (fun h => D4.trans (I.i7 (D7.symm.trans h))), i11 := (fun h => D7.trans (I.i11 (D11.symm.trans h))) }⟩
          · intro d a W hd hall hI
            obtain ⟨us, rfl, I⟩ := hI
            have D : ∀ k, k < 13 → d.getD k false = true := fun k hk => by
              have := hall k hk
              have hk2 : k < d.size := by rw [hd]; exact hk
              simp [hk2] at this ⊢; exact this
            obtain ⟨h7, h11⟩ := I.o12 (D 12 (by decide))
            obtain ⟨O, q, e43, hO⟩ := I.r11 h11
            have e7 := h7.trans e43
            have e3 := I.u3
            have hbel := I.bel
            rw [hjoin] at e7 hO
            clear I hall D h7 e43
            have htx : ∀ p ∈ addP ps x, p.sz ≤ 1048576 := fun p hp => (addP_mem hp).elim (fun h => h ▸ hx) (fun h => hst p h)
            have tb : PTbl W O (addP ps x) := ⟨hO.row, htx, by rw [addP_len]; (try simp only [List.length_nil]); omega⟩
            simp only [frA, e7, e3]
            rcases Bool.eq_false_or_eq_true (regB (addP ps x)) with hb | hb
            · have E := Lib.hid (addPR_0 hr hv hb)
              go_wp2_with (go_at_call 51; refine (isRegS_q tb hb).mono ?_; rintro e w4 ⟨rfl, b4⟩)
              go_ret2
              rw [E.out]
              exact ⟨O, q, rfl, (hO.mono hkq.bel.size).below b4, belowGo (hkq.bel.trans (hbel.mono hkq.bel.size)) b4⟩
            · have E := Lib.hid (addPR_5 hr hv hb)
              go_wp2_with (go_at_call 51; refine (isRegS_q tb hb).mono ?_; rintro e w4 ⟨rfl, b4⟩)
              go_ret2
              rw [E.out]
              exact ⟨none, 0, rfl, PtyO.nil _ _, belowGo (hkq.bel.trans (hbel.mono hkq.bel.size)) b4⟩
end Go.Proofs.YtjgagiigpijaiaaDoor
