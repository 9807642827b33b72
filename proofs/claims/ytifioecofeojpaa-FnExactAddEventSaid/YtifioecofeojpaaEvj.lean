/- impl.AddEvent. (by gen_evj.py) -/
import Derived.Test.YtifioecofeojpaaEvg
import Derived.Test.YtifioecofeojpaaEvb
import Derived.Deep.CutRange
namespace Go.Proofs.Ytifioecofeojpaa
open Go.ChangeShapes Go.WideShapes Go.ChangeAt Go.RowKit
set_option linter.unusedVariables false


set_option maxRecDepth 100000 in
set_option maxHeartbeats 8000000 in
theorem adde_wa (x : Evt) (w : World) (h : ETbl w (none) ([] : List Evt)) (hx : x.sz ≤ 1048600) (hr : logB ([] : List Evt) = true) (hv : x.ok = true) (h15 : ([] : List Evt).length ≠ 15) (hpl : plcE ([] : List Evt) x.d = 0)  :
    Calls Try.prog 13 #[.slice (none) 0 0, .agg #[.int .i64 x.d, .int .i64 x.k, .string ⟨x.c.toArray⟩, .int .i64 x.a, .bool x.p, .bool x.v, .bool x.r]] w (NewEvtsC w (addR ([] : List Evt) x)) := by
  have kb := KeepE.new w x
  have h0 := h.below kb.bel
  have hxc := sz_e hx
  have HT := Lib.hid (logI_q (c := 0) h0 hr)
  have HV := Lib.hid (fun w => evalid_i x w hxc)
  rw [hv] at HV
  have HE := Lib.hid (addR_ok hr hv h15)
  have hn : ([] : List Evt).length ≤ 15 := (log_iff.1 hr).2
  have hday := (eok hv).1
  have z15 : ((0 : Int) == 15) = false := beq_eq_false_iff_ne.2 (by (try simp only [List.length_nil] at h15 ⊢); omega)
  have HS := Lib.hid (fun w hR => binE_i (none) (0) ([] : List Evt) x.d w hR (by omega) hday.1 hday.2 hr)
  have hput : Hid (addE ([] : List Evt) x = ([] : List Evt).take (0) ++ [x] ++ ([] : List Evt).drop (0)) := Lib.hid (by unfold addE; rw [hpl]; simp)
  rw [hpl] at HS
  generalize hasE ([] : List Evt) x.d = fb at HS
  clear h hpl hv hr h15
  go_enter Try.func13, Try.ntmps13
  go_wp2_with (first
    | (go_at_call 29; refine HT.out.mono ?_; rintro e w1 ⟨rfl, b1⟩; have kb1 := kb.step b1; have h1 := h0.below b1; have c0 := kb1.cells.c0; have c1 := kb1.cells.c1; have c2 := kb1.cells.c2; have c3 := kb1.cells.c3; have c4 := kb1.cells.c4; have c5 := kb1.cells.c5; have c6 := kb1.cells.c6)
    | (go_at_call 34; refine (HV.out _).mono ?_; rintro e w2 ⟨rfl, b2⟩; have kb2 := kb1.step b2; have h2 := h1.below b2; clear c0 c1 c2 c3 c4 c5 c6; have c0 := kb2.cells.c0; have c1 := kb2.cells.c1; have c2 := kb2.cells.c2; have c3 := kb2.cells.c3; have c4 := kb2.cells.c4; have c5 := kb2.cells.c5; have c6 := kb2.cells.c6)
    | (go_at_call 50; refine (HS.out _ h2.row).mono ?_; rintro e w3 ⟨rfl, b3⟩; have kb3 := kb2.step b3; have h3 := h2.below b3; clear c0 c1 c2 c3 c4 c5 c6; have c0 := kb3.cells.c0; have c1 := kb3.cells.c1; have c2 := kb3.cells.c2; have c3 := kb3.cells.c3; have c4 := kb3.cells.c4; have c5 := kb3.cells.c5; have c6 := kb3.cells.c6; clear HS HV))
  have hR3 := h3.row
  have q1 := (EvtR.none : EvtR w3 none [])
  have q3 := (EvtR.none : EvtR w3 none [])
  have l1 : ([] : List Evt).length = 0 := by rfl
  have l3 : ([] : List Evt).length = 0 := by rfl
  have hj : joinE [(none, 0, ([] : List Evt)), (some ⟨w3.heap.size, 0, none⟩, 1, [x]), (none, 0, ([] : List Evt))] = addE ([] : List Evt) x := by rw [hput.out]; simp [joinE]
  have HCQ := Lib.hid (concat_qE (g := w3.heap.size + 1) (n := 3) (c := 3) (L := addE ([] : List Evt) x) ((pieces3E (w := w3) (A1 := none) (A3 := none) (c1 := 0) (c3 := 0) (n1 := 0) (n3 := 0) x q1 q3 (.inl rfl) (.inl rfl) l1 l3).below (Below.refl _ _).drew) rfl (by decide) hj (by have := addE_len ([] : List Evt) x; omega))
  have HBL := ((kb3.bel.alloc kb3.bel.size (.cells #[.int .i64 x.d, .int .i64 x.k, .string ⟨x.c.toArray⟩, .int .i64 x.a, .bool x.p, .bool x.v, .bool x.r] 26)).alloc (Nat.le_trans kb3.bel.size (by simp)) (.cells #[.slice (none) 0 (0), .slice (some ⟨w3.heap.size, 0, none⟩) 1 1, .slice (none) 0 0] 24)).drew
  go_cut [4, 5] from 27 to 36 (fun v u wx => ∃ O q, v = .slice O (addE ([] : List Evt) x).length q ∧ u = .int .i64 0 ∧ EvtO wx w.heap.size O (addE ([] : List Evt) x).length q (addE ([] : List Evt) x) ∧ Below w.heap.size w wx)
  case first =>
    go_region_with (go_at_call 52; refine HCQ.out.mono ?_; rintro e w4 ⟨O, q, rfl, ho, b4⟩)
    all_goals
      go_wp2_with fail
      go_meet
      exact ⟨O, q, rfl, rfl, ho.mono HBL.size, belowGo HBL b4⟩
  case rest =>
    obtain ⟨O, q, rfl, rfl, ho, hbw⟩ := hcut
    go_wp2_with fail
    go_ret2
    unfold NewEvtsC
    rw [HE.out]
    exact ⟨O, q, rfl, ho, hbw⟩

set_option maxRecDepth 100000 in
set_option maxHeartbeats 8000000 in
theorem adde_wb (g off : Nat) (ps : List Evt) (x : Evt) (w : World) (h : ETbl w (some ⟨g, off, none⟩) ps) (hx : x.sz ≤ 1048600) (hr : logB ps = true) (hv : x.ok = true) (h15 : ps.length ≠ 15) (hpl : plcE ps x.d = ps.length)  :
    Calls Try.prog 13 #[.slice (some ⟨g, off, none⟩) ps.length ps.length, .agg #[.int .i64 x.d, .int .i64 x.k, .string ⟨x.c.toArray⟩, .int .i64 x.a, .bool x.p, .bool x.v, .bool x.r]] w (NewEvtsC w (addR ps x)) := by
  have kb := KeepE.new w x
  have h0 := h.below kb.bel
  have hxc := sz_e hx
  have HT := Lib.hid (logI_q (c := ps.length) h0 hr)
  have HV := Lib.hid (fun w => evalid_i x w hxc)
  rw [hv] at HV
  have HE := Lib.hid (addR_ok hr hv h15)
  have hn : ps.length ≤ 15 := (log_iff.1 hr).2
  have hday := (eok hv).1
  have z15 : ((ps.length : Int) == 15) = false := beq_eq_false_iff_ne.2 (by (try simp only [List.length_nil] at h15 ⊢); omega)
  have HS := Lib.hid (fun w hR => binE_i (some ⟨g, off, none⟩) (ps.length) ps x.d w hR (by omega) hday.1 hday.2 hr)
  have hput : Hid (addE ps x = ps.take (ps.length) ++ [x] ++ ps.drop (ps.length)) := Lib.hid (by unfold addE; rw [hpl]; simp)
  rw [hpl] at HS
  generalize hasE ps x.d = fb at HS
  clear h hpl hv hr h15
  go_enter Try.func13, Try.ntmps13
  go_wp2_with (first
    | (go_at_call 29; refine HT.out.mono ?_; rintro e w1 ⟨rfl, b1⟩; have kb1 := kb.step b1; have h1 := h0.below b1; have c0 := kb1.cells.c0; have c1 := kb1.cells.c1; have c2 := kb1.cells.c2; have c3 := kb1.cells.c3; have c4 := kb1.cells.c4; have c5 := kb1.cells.c5; have c6 := kb1.cells.c6)
    | (go_at_call 34; refine (HV.out _).mono ?_; rintro e w2 ⟨rfl, b2⟩; have kb2 := kb1.step b2; have h2 := h1.below b2; clear c0 c1 c2 c3 c4 c5 c6; have c0 := kb2.cells.c0; have c1 := kb2.cells.c1; have c2 := kb2.cells.c2; have c3 := kb2.cells.c3; have c4 := kb2.cells.c4; have c5 := kb2.cells.c5; have c6 := kb2.cells.c6)
    | (go_at_call 50; refine (HS.out _ h2.row).mono ?_; rintro e w3 ⟨rfl, b3⟩; have kb3 := kb2.step b3; have h3 := h2.below b3; clear c0 c1 c2 c3 c4 c5 c6; have c0 := kb3.cells.c0; have c1 := kb3.cells.c1; have c2 := kb3.cells.c2; have c3 := kb3.cells.c3; have c4 := kb3.cells.c4; have c5 := kb3.cells.c5; have c6 := kb3.cells.c6; clear HS HV))
  have hR3 := h3.row
  have q1 := (by rw [List.take_length]; exact hR3 : EvtR w3 (some ⟨g, off, none⟩) (ps.take ps.length))
  have q3 := (by rw [List.drop_length]; exact EvtR.none : EvtR w3 (some ⟨g, off, none⟩) (ps.drop ps.length))
  have l1 : (ps.take ps.length).length = ps.length := by rw [List.take_length]
  have l3 : (ps.drop ps.length).length = 0 := by rw [List.drop_length]; rfl
  have hj : joinE [(some ⟨g, off, none⟩, ps.length, (ps.take ps.length)), (some ⟨w3.heap.size, 0, none⟩, 1, [x]), (some ⟨g, off, none⟩, 0, (ps.drop ps.length))] = addE ps x := by rw [hput.out]; simp [joinE]
  have HCQ := Lib.hid (concat_qE (g := w3.heap.size + 1) (n := 3) (c := 3) (L := addE ps x) ((pieces3E (w := w3) (A1 := some ⟨g, off, none⟩) (A3 := some ⟨g, off, none⟩) (c1 := ps.length) (c3 := 0) (n1 := ps.length) (n3 := 0) x q1 q3 (.inr ⟨_, _, rfl⟩) (.inr ⟨_, _, rfl⟩) l1 l3).below (Below.refl _ _).drew) rfl (by decide) hj (by have := addE_len ps x; omega))
  have HBL := ((kb3.bel.alloc kb3.bel.size (.cells #[.int .i64 x.d, .int .i64 x.k, .string ⟨x.c.toArray⟩, .int .i64 x.a, .bool x.p, .bool x.v, .bool x.r] 26)).alloc (Nat.le_trans kb3.bel.size (by simp)) (.cells #[.slice (some ⟨g, off, none⟩) ps.length (ps.length), .slice (some ⟨w3.heap.size, 0, none⟩) 1 1, .slice (some ⟨g, off, none⟩) 0 0] 24)).drew
  go_cut [4, 5] from 27 to 36 (fun v u wx => ∃ O q, v = .slice O (addE ps x).length q ∧ u = .int .i64 0 ∧ EvtO wx w.heap.size O (addE ps x).length q (addE ps x) ∧ Below w.heap.size w wx)
  case first =>
    go_region_with (go_at_call 52; refine HCQ.out.mono ?_; rintro e w4 ⟨O, q, rfl, ho, b4⟩)
    all_goals
      go_wp2_with fail
      go_meet
      exact ⟨O, q, rfl, rfl, ho.mono HBL.size, belowGo HBL b4⟩
  case rest =>
    obtain ⟨O, q, rfl, rfl, ho, hbw⟩ := hcut
    go_wp2_with fail
    go_ret2
    unfold NewEvtsC
    rw [HE.out]
    exact ⟨O, q, rfl, ho, hbw⟩

set_option maxRecDepth 100000 in
set_option maxHeartbeats 8000000 in
theorem adde_wc (g off c p : Nat) (ps : List Evt) (x : Evt) (w : World) (h : ETbl w (some ⟨g, off, none⟩) ps) (hx : x.sz ≤ 1048600) (hr : logB ps = true) (hv : x.ok = true) (h15 : ps.length ≠ 15) (hpl : plcE ps x.d = p) (hp : p ≤ ps.length) (hc : ps.length ≤ c) (e1 : p ≠ c) (e2 : p < c) :
    Calls Try.prog 13 #[.slice (some ⟨g, off, none⟩) ps.length c, .agg #[.int .i64 x.d, .int .i64 x.k, .string ⟨x.c.toArray⟩, .int .i64 x.a, .bool x.p, .bool x.v, .bool x.r]] w (NewEvtsC w (addR ps x)) := by
  have kb := KeepE.new w x
  have h0 := h.below kb.bel
  have hxc := sz_e hx
  have HT := Lib.hid (logI_q (c := c) h0 hr)
  have HV := Lib.hid (fun w => evalid_i x w hxc)
  rw [hv] at HV
  have HE := Lib.hid (addR_ok hr hv h15)
  have hn : ps.length ≤ 15 := (log_iff.1 hr).2
  have hday := (eok hv).1
  have z15 : ((ps.length : Int) == 15) = false := beq_eq_false_iff_ne.2 (by (try simp only [List.length_nil] at h15 ⊢); omega)
  have HS := Lib.hid (fun w hR => binE_i (some ⟨g, off, none⟩) (c) ps x.d w hR (by omega) hday.1 hday.2 hr)
  have hput : Hid (addE ps x = ps.take (p) ++ [x] ++ ps.drop (p)) := Lib.hid (by unfold addE; rw [hpl]; simp)
  rw [hpl] at HS
  generalize hasE ps x.d = fb at HS
  clear h hpl hv hr h15
  go_enter Try.func13, Try.ntmps13
  go_wp2_with (first
    | (go_at_call 29; refine HT.out.mono ?_; rintro e w1 ⟨rfl, b1⟩; have kb1 := kb.step b1; have h1 := h0.below b1; have c0 := kb1.cells.c0; have c1 := kb1.cells.c1; have c2 := kb1.cells.c2; have c3 := kb1.cells.c3; have c4 := kb1.cells.c4; have c5 := kb1.cells.c5; have c6 := kb1.cells.c6)
    | (go_at_call 34; refine (HV.out _).mono ?_; rintro e w2 ⟨rfl, b2⟩; have kb2 := kb1.step b2; have h2 := h1.below b2; clear c0 c1 c2 c3 c4 c5 c6; have c0 := kb2.cells.c0; have c1 := kb2.cells.c1; have c2 := kb2.cells.c2; have c3 := kb2.cells.c3; have c4 := kb2.cells.c4; have c5 := kb2.cells.c5; have c6 := kb2.cells.c6)
    | (go_at_call 50; refine (HS.out _ h2.row).mono ?_; rintro e w3 ⟨rfl, b3⟩; have kb3 := kb2.step b3; have h3 := h2.below b3; clear c0 c1 c2 c3 c4 c5 c6; have c0 := kb3.cells.c0; have c1 := kb3.cells.c1; have c2 := kb3.cells.c2; have c3 := kb3.cells.c3; have c4 := kb3.cells.c4; have c5 := kb3.cells.c5; have c6 := kb3.cells.c6; clear HS HV))
  have hR3 := h3.row
  have q1 := hR3.take p
  have q3 := hR3.drop p
  have l1 : (ps.take p).length = p := by rw [List.length_take]; omega
  have l3 : (ps.drop p).length = (ps.length - p) := by exact List.length_drop
  have hj : joinE [(some ⟨g, off, none⟩, c, (ps.take p)), (some ⟨w3.heap.size, 0, none⟩, 1, [x]), (some ⟨g, off + p * 7, none⟩, (c - p), (ps.drop p))] = addE ps x := by rw [hput.out]; simp [joinE]
  have HCQ := Lib.hid (concat_qE (g := w3.heap.size + 1) (n := 3) (c := 3) (L := addE ps x) ((pieces3E (w := w3) (A1 := some ⟨g, off, none⟩) (A3 := some ⟨g, off + p * 7, none⟩) (c1 := c) (c3 := (c - p)) (n1 := p) (n3 := (ps.length - p)) x q1 q3 (.inr ⟨_, _, rfl⟩) (.inr ⟨_, _, rfl⟩) l1 l3).below (Below.refl _ _).drew) rfl (by decide) hj (by have := addE_len ps x; omega))
  have HBL := ((kb3.bel.alloc kb3.bel.size (.cells #[.int .i64 x.d, .int .i64 x.k, .string ⟨x.c.toArray⟩, .int .i64 x.a, .bool x.p, .bool x.v, .bool x.r] 26)).alloc (Nat.le_trans kb3.bel.size (by simp)) (.cells #[.slice (some ⟨g, off, none⟩) p (c), .slice (some ⟨w3.heap.size, 0, none⟩) 1 1, .slice (some ⟨g, off + p * 7, none⟩) (ps.length - p) (c - p)] 24)).drew
  go_cut [4, 5] from 27 to 36 (fun v u wx => ∃ O q, v = .slice O (addE ps x).length q ∧ u = .int .i64 0 ∧ EvtO wx w.heap.size O (addE ps x).length q (addE ps x) ∧ Below w.heap.size w wx)
  case first =>
    go_region_with (go_at_call 52; refine HCQ.out.mono ?_; rintro e w4 ⟨O, q, rfl, ho, b4⟩)
    all_goals
      go_wp2_with fail
      go_meet
      exact ⟨O, q, rfl, rfl, ho.mono HBL.size, belowGo HBL b4⟩
  case rest =>
    obtain ⟨O, q, rfl, rfl, ho, hbw⟩ := hcut
    go_wp2_with fail
    go_ret2
    unfold NewEvtsC
    rw [HE.out]
    exact ⟨O, q, rfl, ho, hbw⟩

set_option maxHeartbeats 2000000 in
theorem adde_i (A : Option Addr) (c : Nat) (ps : List Evt) (x : Evt) (w : World) (h : ETblC w A c ps) (hx : x.sz ≤ 1048600) :
    Calls Try.prog 13 #[.slice A ps.length c, .agg #[.int .i64 x.d, .int .i64 x.k, .string ⟨x.c.toArray⟩, .int .i64 x.a, .bool x.p, .bool x.v, .bool x.r]] w (NewEvtsC w (addR ps x)) := by
  have kb := KeepE.new w x
  have hxc := sz_e hx
  rcases Bool.eq_false_or_eq_true (logB ps) with hr | hr
  · rcases Bool.eq_false_or_eq_true x.ok with hv | hv
    · by_cases h15 : ps.length = 15
      · have HT := Lib.hid (logI_q (c := c) (h.below kb.bel).tbl hr)
        have HV := Lib.hid (fun w => evalid_i x w hxc)
        rw [hv] at HV
        have E := Lib.hid (addR_lim hr hv h15)
        have z15 : ((ps.length : Int) == 15) = true := by rw [beq_iff_eq]; omega
        clear h hv hr h15
        go_enter Try.func13, Try.ntmps13
        go_wp2_with (first
          | (go_at_call 29; refine HT.out.mono ?_; rintro e w1 ⟨rfl, b1⟩; have kb1 := kb.step b1; have c0 := kb1.cells.c0; have c1 := kb1.cells.c1; have c2 := kb1.cells.c2; have c3 := kb1.cells.c3; have c4 := kb1.cells.c4; have c5 := kb1.cells.c5; have c6 := kb1.cells.c6)
          | (go_at_call 34; refine (HV.out _).mono ?_; rintro e w2 ⟨rfl, b2⟩; have kb2 := kb1.step b2))
        go_ret2
        unfold NewEvtsC
        rw [E.out]
        exact ⟨none, 0, rfl, World.ownsRow_nil _ _ _ _, kb2.bel⟩
      · have hle := plc_leE ps x.d
        obtain ⟨p, hp⟩ : ∃ p, plcE ps x.d = p := ⟨_, rfl⟩
        have h0 := h.tbl
        have hcap := h.cap
        rcases h.adr with ⟨rfl, rfl⟩ | ⟨g, off, rfl⟩
        · obtain rfl : ps = [] := List.eq_nil_of_length_eq_zero (by omega)
          exact adde_wa x w h0 hx hr hv h15 (by simp at hle; omega)
        · rcases (by omega : (p = ps.length ∧ c = ps.length) ∨ (p ≠ c ∧ p < c)) with ⟨e1, e2⟩ | ⟨e1, e2⟩
          · subst e2; exact adde_wb g off ps x w h0 hx hr hv h15 (hp.trans e1)
          · exact adde_wc g off c p ps x w h0 hx hr hv h15 hp (by omega) hcap e1 e2
    · have HT := Lib.hid (logI_q (c := c) (h.below kb.bel).tbl hr)
      have HV := Lib.hid (fun w => evalid_i x w hxc)
      rw [hv] at HV
      have E := Lib.hid (@addR_no ps x (.inr hv))
      clear h hv
      go_enter Try.func13, Try.ntmps13
      go_wp2_with (first
        | (go_at_call 29; refine HT.out.mono ?_; rintro e w1 ⟨rfl, b1⟩; have kb1 := kb.step b1; have c0 := kb1.cells.c0; have c1 := kb1.cells.c1; have c2 := kb1.cells.c2; have c3 := kb1.cells.c3; have c4 := kb1.cells.c4; have c5 := kb1.cells.c5; have c6 := kb1.cells.c6)
        | (go_at_call 34; refine (HV.out _).mono ?_; rintro e w2 ⟨rfl, b2⟩; have kb2 := kb1.step b2))
      go_ret2
      unfold NewEvtsC
      rw [E.out]
      exact ⟨none, 0, rfl, World.ownsRow_nil _ _ _ _, kb2.bel⟩
  · have HT := Lib.hid (logI_q (c := c) (h.below kb.bel).tbl hr)
    have E := Lib.hid (@addR_no ps x (.inl hr))
    clear h hr
    go_enter Try.func13, Try.ntmps13
    go_wp2_with (go_at_call 29; refine HT.out.mono ?_; rintro e w1 ⟨rfl, b1⟩)
    go_ret2
    unfold NewEvtsC
    rw [E.out]
    exact ⟨none, 0, rfl, World.ownsRow_nil _ _ _ _, belowGo kb.bel b1⟩
end Go.Proofs.Ytifioecofeojpaa
