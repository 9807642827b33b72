/- impl.withParty, impl.AddParty; the rest of spec.AddParty. (by gen_adp.py) -/
import Derived.Test.YtjgagiigpijaiaaDoorPtyg
import Derived.Deep.CutRange
namespace Go.Proofs.YtjgagiigpijaiaaDoor
open Go.ChangeShapes Go.WideShapes Go.ChangeAt Go.RowKit
set_option linter.unusedVariables false

/-- What withParty gives. -/
def AddRes (w : World) (r : List Pty × Int) (e : Ending) (w' : World) : Prop :=
  ∃ O q v, e = .returned (.tuple #[.slice O r.1.length q, v]) ∧ PtyO w' w.heap.size O r.1.length q r.1 ∧ ((r.2 = 0 ∧ v = .nilIface) ∨ (r.2 ≠ 0 ∧ ErrV r.2 v)) ∧ Below w.heap.size w w'

set_option maxRecDepth 100000 in
set_option maxHeartbeats 8000000 in
theorem with_wa (x : Pty) (w : World) (h : PTbl w (none) ([] : List Pty)) (hx : x.sz ≤ 1048576) (hr : regB ([] : List Pty) = true) (hv : x.ok = true) (hpl : plc ([] : List Pty) x.c = 0)  :
    Calls Tryd.prog 53 #[.slice (none) 0 0, .agg #[.string ⟨x.c.toArray⟩, .int .i64 x.k, .string ⟨x.a.toArray⟩]] w (AddRes w (addPR ([] : List Pty) x)) := by
  have kb := KeepP.new w x
  have h0 := h.below kb.bel
  obtain ⟨hxc, hxa⟩ := sz_c hx
  have HT := Lib.hid (check_i (none) (0) ([] : List Pty) _ h0)
  have HV := Lib.hid (fun w => pvalid_i x w hxc hxa)
  rw [hv] at HV
  have H1 := Lib.hid (fun h2 => @addPR_5 ([] : List Pty) x hr hv h2)
  have H0 := Lib.hid (fun h2 => @addPR_0 ([] : List Pty) x hr hv h2)
  have hn : ([] : List Pty).length ≤ 12 := (regB_iff.1 hr).1
  have hst := h.txt
  have hput : Hid (addP ([] : List Pty) x = ([] : List Pty).take (0) ++ [x] ++ ([] : List Pty).drop (0)) := Lib.hid (by unfold addP; rw [hpl])
  have HS := Lib.hid (fun w hR => search_i (none) (0) ([] : List Pty) x.c w hR (by omega) (regB_iff.1 hr).2.1)
  rw [hpl] at HS
  have HEr := Lib.hid (fun w => errorAbout_i x.c 5 w)
  generalize hasP ([] : List Pty) x.c = fb at HS
  clear h hpl
  go_enter Tryd.func53, Tryd.ntmps53
  go_wp2_with fail
  refine HT.out.mono ?_
  rintro e w1 ⟨v, rfl, hvv, b1⟩
  obtain rfl := errR_yes hr hvv
  clear hvv HT
  have kb1 := kb.step b1
  have h1 := h0.below b1
  have c0 := kb1.cells.c0; have c1 := kb1.cells.c1; have c2 := kb1.cells.c2
  go_wp2_with (first
    | (go_at_call 60; refine (HV.out _).mono ?_; rintro e w2 ⟨rfl, b2⟩; have kb2 := kb1.step b2; have h2 := h1.below b2; have c0 := kb2.cells.c0; have c1 := kb2.cells.c1; have c2 := kb2.cells.c2)
    | (go_at_call 77; refine (HS.out _ h2.row).mono ?_; rintro e w3 ⟨rfl, b3⟩; have kb3 := kb2.step b3; have h3 := h2.below b3; have c0 := kb3.cells.c0; have c1 := kb3.cells.c1; have c2 := kb3.cells.c2; clear HS HV))
  have hR3 := h3.row
  have q1 := (PtyR.none : PtyR w3 none [])
  have q3 := (PtyR.none : PtyR w3 none [])
  have l1 : ([] : List Pty).length = 0 := by rfl
  have l3 : ([] : List Pty).length = 0 := by rfl
  have hj : joinQ [(none, 0, ([] : List Pty)), (some ⟨w3.heap.size, 0, none⟩, 1, [x]), (none, 0, ([] : List Pty))] = addP ([] : List Pty) x := by rw [hput.out]; simp [joinQ]
  have HCQ := Lib.hid (concat_qP (g := w3.heap.size + 1) (n := 3) (c := 3) (L := addP ([] : List Pty) x) ((pieces3P (w := w3) (A1 := none) (A3 := none) (c1 := 0) (c3 := 0) (n1 := 0) (n3 := 0) x q1 q3 (.inl rfl) (.inl rfl) l1 l3).below (Below.refl _ _).drew) rfl (by decide) hj (by have := addP_len ([] : List Pty) x; omega))
  have HBL := ((kb3.bel.alloc kb3.bel.size (.cells #[.string ⟨x.c.toArray⟩, .int .i64 x.k, .string ⟨x.a.toArray⟩] 35)).alloc (Nat.le_trans kb3.bel.size (by simp)) (.cells #[.slice (none) 0 (0), .slice (some ⟨w3.heap.size, 0, none⟩) 1 1, .slice (none) 0 0] 26)).drew
  go_cut [9] from 28 to 37 (fun v wx => ∃ O q, v = .slice O (addP ([] : List Pty) x).length q ∧ PtyO wx w.heap.size O (addP ([] : List Pty) x).length q (addP ([] : List Pty) x) ∧ KeepP w x wx)
  case first =>
    go_region_with (go_at_call 79; refine HCQ.out.mono ?_; rintro e w4 ⟨O, q, rfl, ho, b4⟩)
    all_goals
      go_wp2_with fail
      go_meet
      exact ⟨O, q, rfl, ho.mono HBL.size, ⟨(b4.block _ (Nat.lt_of_lt_of_le (lt_some kb3.a) (Nat.le_of_lt (by simp; omega)))).trans (((Below.heap_alloc _ _ _ (by have := lt_some kb3.a; simp; omega)).trans (Below.heap_alloc _ _ _ (lt_some kb3.a))).trans kb3.a), belowGo HBL b4⟩⟩
  case rest =>
    obtain ⟨O, q, rfl, ho, hkeep⟩ := hcut
    have d0 := hkeep.cells.c0
    have htx : ∀ p ∈ addP ([] : List Pty) x, p.sz ≤ 1048576 := fun p hp => (addP_mem hp).elim (fun h => h ▸ hx) (fun h => hst p h)
    have tb3 : PTbl _ O (addP ([] : List Pty) x) := ⟨PtyO.row ho, htx, by have := addP_len ([] : List Pty) x; omega⟩
    rcases Bool.eq_false_or_eq_true (regB (addP ([] : List Pty) x)) with hb | hb
    · have E := Lib.hid (H0.out hb)
      go_wp2_with (go_at_call 44; refine (isRegI_q tb3 hb).mono ?_; rintro e w5 ⟨rfl, b5⟩)
      go_ret2
      unfold AddRes
      rw [E.out]
      exact ⟨O, q, _, rfl, PtyO.below ho b5, .inl ⟨rfl, rfl⟩, belowGo hkeep.bel b5⟩
    · have E := Lib.hid (H1.out hb)
      go_wp2_with (first
        | (go_at_call 44; refine (isRegI_q tb3 hb).mono ?_; rintro e w5 ⟨rfl, b5⟩; have d0 := (hkeep.step b5).cells.c0)
        | (go_at_call 76; refine (HEr.out _).mono ?_; rintro e w' ⟨rfl, rfl⟩))
      go_ret2
      unfold AddRes
      rw [E.out]
      exact ⟨none, 0, _, rfl, PtyO.nil _ _, .inr ⟨by decide, .inr ⟨_, rfl⟩⟩, belowGo hkeep.bel b5⟩

set_option maxRecDepth 100000 in
set_option maxHeartbeats 8000000 in
theorem with_wb (g off : Nat) (ps : List Pty) (x : Pty) (w : World) (h : PTbl w (some ⟨g, off, none⟩) ps) (hx : x.sz ≤ 1048576) (hr : regB ps = true) (hv : x.ok = true) (hpl : plc ps x.c = ps.length)  :
    Calls Tryd.prog 53 #[.slice (some ⟨g, off, none⟩) ps.length ps.length, .agg #[.string ⟨x.c.toArray⟩, .int .i64 x.k, .string ⟨x.a.toArray⟩]] w (AddRes w (addPR ps x)) := by
  have kb := KeepP.new w x
  have h0 := h.below kb.bel
  obtain ⟨hxc, hxa⟩ := sz_c hx
  have HT := Lib.hid (check_i (some ⟨g, off, none⟩) (ps.length) ps _ h0)
  have HV := Lib.hid (fun w => pvalid_i x w hxc hxa)
  rw [hv] at HV
  have H1 := Lib.hid (fun h2 => @addPR_5 ps x hr hv h2)
  have H0 := Lib.hid (fun h2 => @addPR_0 ps x hr hv h2)
  have hn : ps.length ≤ 12 := (regB_iff.1 hr).1
  have hst := h.txt
  have hput : Hid (addP ps x = ps.take (ps.length) ++ [x] ++ ps.drop (ps.length)) := Lib.hid (by unfold addP; rw [hpl])
  have HS := Lib.hid (fun w hR => search_i (some ⟨g, off, none⟩) (ps.length) ps x.c w hR (by omega) (regB_iff.1 hr).2.1)
  rw [hpl] at HS
  have HEr := Lib.hid (fun w => errorAbout_i x.c 5 w)
  generalize hasP ps x.c = fb at HS
  clear h hpl
  go_enter Tryd.func53, Tryd.ntmps53
  go_wp2_with fail
  refine HT.out.mono ?_
  rintro e w1 ⟨v, rfl, hvv, b1⟩
  obtain rfl := errR_yes hr hvv
  clear hvv HT
  have kb1 := kb.step b1
  have h1 := h0.below b1
  have c0 := kb1.cells.c0; have c1 := kb1.cells.c1; have c2 := kb1.cells.c2
  go_wp2_with (first
    | (go_at_call 60; refine (HV.out _).mono ?_; rintro e w2 ⟨rfl, b2⟩; have kb2 := kb1.step b2; have h2 := h1.below b2; have c0 := kb2.cells.c0; have c1 := kb2.cells.c1; have c2 := kb2.cells.c2)
    | (go_at_call 77; refine (HS.out _ h2.row).mono ?_; rintro e w3 ⟨rfl, b3⟩; have kb3 := kb2.step b3; have h3 := h2.below b3; have c0 := kb3.cells.c0; have c1 := kb3.cells.c1; have c2 := kb3.cells.c2; clear HS HV))
  have hR3 := h3.row
  have q1 := (by rw [List.take_length]; exact hR3 : PtyR w3 (some ⟨g, off, none⟩) (ps.take ps.length))
  have q3 := (by rw [List.drop_length]; exact PtyR.none : PtyR w3 (some ⟨g, off, none⟩) (ps.drop ps.length))
  have l1 : (ps.take ps.length).length = ps.length := by rw [List.take_length]
  have l3 : (ps.drop ps.length).length = 0 := by rw [List.drop_length]; rfl
  have hj : joinQ [(some ⟨g, off, none⟩, ps.length, (ps.take ps.length)), (some ⟨w3.heap.size, 0, none⟩, 1, [x]), (some ⟨g, off, none⟩, 0, (ps.drop ps.length))] = addP ps x := by rw [hput.out]; simp [joinQ]
  have HCQ := Lib.hid (concat_qP (g := w3.heap.size + 1) (n := 3) (c := 3) (L := addP ps x) ((pieces3P (w := w3) (A1 := some ⟨g, off, none⟩) (A3 := some ⟨g, off, none⟩) (c1 := ps.length) (c3 := 0) (n1 := ps.length) (n3 := 0) x q1 q3 (.inr ⟨_, _, rfl⟩) (.inr ⟨_, _, rfl⟩) l1 l3).below (Below.refl _ _).drew) rfl (by decide) hj (by have := addP_len ps x; omega))
  have HBL := ((kb3.bel.alloc kb3.bel.size (.cells #[.string ⟨x.c.toArray⟩, .int .i64 x.k, .string ⟨x.a.toArray⟩] 35)).alloc (Nat.le_trans kb3.bel.size (by simp)) (.cells #[.slice (some ⟨g, off, none⟩) ps.length (ps.length), .slice (some ⟨w3.heap.size, 0, none⟩) 1 1, .slice (some ⟨g, off, none⟩) 0 0] 26)).drew
  go_cut [9] from 28 to 37 (fun v wx => ∃ O q, v = .slice O (addP ps x).length q ∧ PtyO wx w.heap.size O (addP ps x).length q (addP ps x) ∧ KeepP w x wx)
  case first =>
    go_region_with (go_at_call 79; refine HCQ.out.mono ?_; rintro e w4 ⟨O, q, rfl, ho, b4⟩)
    all_goals
      go_wp2_with fail
      go_meet
      exact ⟨O, q, rfl, ho.mono HBL.size, ⟨(b4.block _ (Nat.lt_of_lt_of_le (lt_some kb3.a) (Nat.le_of_lt (by simp; omega)))).trans (((Below.heap_alloc _ _ _ (by have := lt_some kb3.a; simp; omega)).trans (Below.heap_alloc _ _ _ (lt_some kb3.a))).trans kb3.a), belowGo HBL b4⟩⟩
  case rest =>
    obtain ⟨O, q, rfl, ho, hkeep⟩ := hcut
    have d0 := hkeep.cells.c0
    have htx : ∀ p ∈ addP ps x, p.sz ≤ 1048576 := fun p hp => (addP_mem hp).elim (fun h => h ▸ hx) (fun h => hst p h)
    have tb3 : PTbl _ O (addP ps x) := ⟨PtyO.row ho, htx, by have := addP_len ps x; omega⟩
    rcases Bool.eq_false_or_eq_true (regB (addP ps x)) with hb | hb
    · have E := Lib.hid (H0.out hb)
      go_wp2_with (go_at_call 44; refine (isRegI_q tb3 hb).mono ?_; rintro e w5 ⟨rfl, b5⟩)
      go_ret2
      unfold AddRes
      rw [E.out]
      exact ⟨O, q, _, rfl, PtyO.below ho b5, .inl ⟨rfl, rfl⟩, belowGo hkeep.bel b5⟩
    · have E := Lib.hid (H1.out hb)
      go_wp2_with (first
        | (go_at_call 44; refine (isRegI_q tb3 hb).mono ?_; rintro e w5 ⟨rfl, b5⟩; have d0 := (hkeep.step b5).cells.c0)
        | (go_at_call 76; refine (HEr.out _).mono ?_; rintro e w' ⟨rfl, rfl⟩))
      go_ret2
      unfold AddRes
      rw [E.out]
      exact ⟨none, 0, _, rfl, PtyO.nil _ _, .inr ⟨by decide, .inr ⟨_, rfl⟩⟩, belowGo hkeep.bel b5⟩

set_option maxRecDepth 100000 in
set_option maxHeartbeats 8000000 in
theorem with_wc (g off c p : Nat) (ps : List Pty) (x : Pty) (w : World) (h : PTbl w (some ⟨g, off, none⟩) ps) (hx : x.sz ≤ 1048576) (hr : regB ps = true) (hv : x.ok = true) (hpl : plc ps x.c = p) (hp : p ≤ ps.length) (hc : ps.length ≤ c) (e1 : p ≠ c) (e2 : p < c) :
    Calls Tryd.prog 53 #[.slice (some ⟨g, off, none⟩) ps.length c, .agg #[.string ⟨x.c.toArray⟩, .int .i64 x.k, .string ⟨x.a.toArray⟩]] w (AddRes w (addPR ps x)) := by
  have kb := KeepP.new w x
  have h0 := h.below kb.bel
  obtain ⟨hxc, hxa⟩ := sz_c hx
  have HT := Lib.hid (check_i (some ⟨g, off, none⟩) (c) ps _ h0)
  have HV := Lib.hid (fun w => pvalid_i x w hxc hxa)
  rw [hv] at HV
  have H1 := Lib.hid (fun h2 => @addPR_5 ps x hr hv h2)
  have H0 := Lib.hid (fun h2 => @addPR_0 ps x hr hv h2)
  have hn : ps.length ≤ 12 := (regB_iff.1 hr).1
  have hst := h.txt
  have hput : Hid (addP ps x = ps.take (p) ++ [x] ++ ps.drop (p)) := Lib.hid (by unfold addP; rw [hpl])
  have HS := Lib.hid (fun w hR => search_i (some ⟨g, off, none⟩) (c) ps x.c w hR (by omega) (regB_iff.1 hr).2.1)
  rw [hpl] at HS
  have HEr := Lib.hid (fun w => errorAbout_i x.c 5 w)
  generalize hasP ps x.c = fb at HS
  clear h hpl
  go_enter Tryd.func53, Tryd.ntmps53
  go_wp2_with fail
  refine HT.out.mono ?_
  rintro e w1 ⟨v, rfl, hvv, b1⟩
  obtain rfl := errR_yes hr hvv
  clear hvv HT
  have kb1 := kb.step b1
  have h1 := h0.below b1
  have c0 := kb1.cells.c0; have c1 := kb1.cells.c1; have c2 := kb1.cells.c2
  go_wp2_with (first
    | (go_at_call 60; refine (HV.out _).mono ?_; rintro e w2 ⟨rfl, b2⟩; have kb2 := kb1.step b2; have h2 := h1.below b2; have c0 := kb2.cells.c0; have c1 := kb2.cells.c1; have c2 := kb2.cells.c2)
    | (go_at_call 77; refine (HS.out _ h2.row).mono ?_; rintro e w3 ⟨rfl, b3⟩; have kb3 := kb2.step b3; have h3 := h2.below b3; have c0 := kb3.cells.c0; have c1 := kb3.cells.c1; have c2 := kb3.cells.c2; clear HS HV))
  have hR3 := h3.row
  have q1 := hR3.take p
  have q3 := hR3.drop p
  have l1 : (ps.take p).length = p := by rw [List.length_take]; omega
  have l3 : (ps.drop p).length = (ps.length - p) := by exact List.length_drop
  have hj : joinQ [(some ⟨g, off, none⟩, c, (ps.take p)), (some ⟨w3.heap.size, 0, none⟩, 1, [x]), (some ⟨g, off + p * 3, none⟩, (c - p), (ps.drop p))] = addP ps x := by rw [hput.out]; simp [joinQ]
  have HCQ := Lib.hid (concat_qP (g := w3.heap.size + 1) (n := 3) (c := 3) (L := addP ps x) ((pieces3P (w := w3) (A1 := some ⟨g, off, none⟩) (A3 := some ⟨g, off + p * 3, none⟩) (c1 := c) (c3 := (c - p)) (n1 := p) (n3 := (ps.length - p)) x q1 q3 (.inr ⟨_, _, rfl⟩) (.inr ⟨_, _, rfl⟩) l1 l3).below (Below.refl _ _).drew) rfl (by decide) hj (by have := addP_len ps x; omega))
  have HBL := ((kb3.bel.alloc kb3.bel.size (.cells #[.string ⟨x.c.toArray⟩, .int .i64 x.k, .string ⟨x.a.toArray⟩] 35)).alloc (Nat.le_trans kb3.bel.size (by simp)) (.cells #[.slice (some ⟨g, off, none⟩) p (c), .slice (some ⟨w3.heap.size, 0, none⟩) 1 1, .slice (some ⟨g, off + p * 3, none⟩) (ps.length - p) (c - p)] 26)).drew
  go_cut [9] from 28 to 37 (fun v wx => ∃ O q, v = .slice O (addP ps x).length q ∧ PtyO wx w.heap.size O (addP ps x).length q (addP ps x) ∧ KeepP w x wx)
  case first =>
    go_region_with (go_at_call 79; refine HCQ.out.mono ?_; rintro e w4 ⟨O, q, rfl, ho, b4⟩)
    all_goals
      go_wp2_with fail
      go_meet
      exact ⟨O, q, rfl, ho.mono HBL.size, ⟨(b4.block _ (Nat.lt_of_lt_of_le (lt_some kb3.a) (Nat.le_of_lt (by simp; omega)))).trans (((Below.heap_alloc _ _ _ (by have := lt_some kb3.a; simp; omega)).trans (Below.heap_alloc _ _ _ (lt_some kb3.a))).trans kb3.a), belowGo HBL b4⟩⟩
  case rest =>
    obtain ⟨O, q, rfl, ho, hkeep⟩ := hcut
    have d0 := hkeep.cells.c0
    have htx : ∀ p ∈ addP ps x, p.sz ≤ 1048576 := fun p hp => (addP_mem hp).elim (fun h => h ▸ hx) (fun h => hst p h)
    have tb3 : PTbl _ O (addP ps x) := ⟨PtyO.row ho, htx, by have := addP_len ps x; omega⟩
    rcases Bool.eq_false_or_eq_true (regB (addP ps x)) with hb | hb
    · have E := Lib.hid (H0.out hb)
      go_wp2_with (go_at_call 44; refine (isRegI_q tb3 hb).mono ?_; rintro e w5 ⟨rfl, b5⟩)
      go_ret2
      unfold AddRes
      rw [E.out]
      exact ⟨O, q, _, rfl, PtyO.below ho b5, .inl ⟨rfl, rfl⟩, belowGo hkeep.bel b5⟩
    · have E := Lib.hid (H1.out hb)
      go_wp2_with (first
        | (go_at_call 44; refine (isRegI_q tb3 hb).mono ?_; rintro e w5 ⟨rfl, b5⟩; have d0 := (hkeep.step b5).cells.c0)
        | (go_at_call 76; refine (HEr.out _).mono ?_; rintro e w' ⟨rfl, rfl⟩))
      go_ret2
      unfold AddRes
      rw [E.out]
      exact ⟨none, 0, _, rfl, PtyO.nil _ _, .inr ⟨by decide, .inr ⟨_, rfl⟩⟩, belowGo hkeep.bel b5⟩

set_option maxHeartbeats 2000000 in
theorem with_i (A : Option Addr) (c : Nat) (ps : List Pty) (x : Pty) (w : World) (h : PTbl w A ps) (hA : (A = none ∧ c = 0) ∨ ∃ b off, A = some ⟨b, off, none⟩) (hcap : ps.length ≤ c) (hx : x.sz ≤ 1048576) :
    Calls Tryd.prog 53 #[.slice A ps.length c, .agg #[.string ⟨x.c.toArray⟩, .int .i64 x.k, .string ⟨x.a.toArray⟩]] w (AddRes w (addPR ps x)) := by
  rcases Bool.eq_false_or_eq_true (regB ps) with hr | hr
  · rcases Bool.eq_false_or_eq_true x.ok with hv | hv
    · have hle := plc_le ps x.c
      obtain ⟨p, hp⟩ : ∃ p, plc ps x.c = p := ⟨_, rfl⟩
      rcases hA with ⟨rfl, rfl⟩ | ⟨g, off, rfl⟩
      · obtain rfl : ps = [] := List.eq_nil_of_length_eq_zero (by omega)
        exact with_wa x w h hx hr hv (by simp at hle; omega)
      · rcases (by omega : (p = ps.length ∧ c = ps.length) ∨ (p ≠ c ∧ p < c)) with ⟨e1, e2⟩ | ⟨e1, e2⟩
        · subst e2; exact with_wb g off ps x w h hx hr hv (hp.trans e1)
        · exact with_wc g off c p ps x w h hx hr hv hp (by omega) hcap e1 e2
    · have kb := KeepP.new w x
      have h0 := h.below kb.bel
      obtain ⟨hxc, hxa⟩ := sz_c hx
      have HT := Lib.hid (check_i A c ps _ h0)
      have HV := Lib.hid (fun w => pvalid_i x w hxc hxa)
      rw [hv] at HV
      have HEr := Lib.hid (fun w => errorAbout_i x.c 1 w)
      have E := Lib.hid (@addPR_no ps x (.inr hv))
      clear h hv
      go_enter Tryd.func53, Tryd.ntmps53
      go_wp2_with fail
      refine HT.out.mono ?_
      rintro e w1 ⟨v, rfl, hvv, b1⟩
      obtain rfl := errR_yes hr hvv
      clear hvv HT
      have kb1 := kb.step b1
      have c0 := kb1.cells.c0; have c1 := kb1.cells.c1; have c2 := kb1.cells.c2
      go_wp2_with (first
        | (go_at_call 60; refine (HV.out _).mono ?_; rintro e w2 ⟨rfl, b2⟩; have kb2 := kb1.step b2; have c0 := kb2.cells.c0)
        | (go_at_call 76; refine (HEr.out _).mono ?_; rintro e w' ⟨rfl, rfl⟩))
      go_ret2
      unfold AddRes
      rw [E.out]
      exact ⟨none, 0, _, rfl, PtyO.nil _ _, .inr ⟨by decide, .inr ⟨_, rfl⟩⟩, kb2.bel⟩
  · have kb := KeepP.new w x
    have h0 := h.below kb.bel
    have HT := Lib.hid (check_i A c ps _ h0)
    have E := Lib.hid (@addPR_no ps x (.inl hr))
    clear h
    go_enter Tryd.func53, Tryd.ntmps53
    go_wp2_with fail
    refine HT.out.mono ?_
    rintro e w1 ⟨v, rfl, hvv, b1⟩
    have hv1 := errR_no hr hvv
    clear hvv
    rcases errV_cases hv1 with rfl | ⟨t, rfl⟩
    all_goals
      go_wp2_with fail
      go_ret2
      unfold AddRes
      rw [E.out]
      exact ⟨none, 0, _, rfl, PtyO.nil _ _, .inr ⟨by decide, hv1⟩, belowGo kb.bel b1⟩
theorem codeOf_any2 {n : Int} {v : Value} (hv : (n = 0 ∧ v = .nilIface) ∨ (n ≠ 0 ∧ ErrV n v)) (w : World) (hg : Ety w) : Calls Tryd.prog 50 #[v] w (Gives w (.int .i64 n)) := by
  rcases hv with ⟨rfl, rfl⟩ | ⟨_, h⟩
  · exact codeOf_nil w
  · exact codeOf_err _ v w h hg
theorem addp_i (A : Option Addr) (c : Nat) (ps : List Pty) (x : Pty) (w : World) (h : PTbl w A ps) (hA : (A = none ∧ c = 0) ∨ ∃ b off, A = some ⟨b, off, none⟩) (hcap : ps.length ≤ c) (hx : x.sz ≤ 1048576) (hg : Ety w) :
    Calls Tryd.prog 19 #[.slice A ps.length c, .agg #[.string ⟨x.c.toArray⟩, .int .i64 x.k, .string ⟨x.a.toArray⟩]] w (NewPtysC w (addPR ps x)) := by
  have kb := KeepP.new w x
  have HW := Lib.hid (with_i A c ps x _ (h.below kb.bel) hA hcap hx)
  generalize addPR ps x = r at *
  have c0 := kb.cells.c0; have c1 := kb.cells.c1; have c2 := kb.cells.c2
  go_enter Tryd.func19, Tryd.ntmps19
  go_wp2_with fail
  refine HW.out.mono ?_
  rintro e w1 ⟨O, q, v, rfl, ho, hv, b1⟩
  have hv := Lib.hid hv
  go_wp2_with fail
  refine (codeOf_any2 hv.out w1 ((hg.below kb.bel).below b1)).mono ?_
  rintro e w2 ⟨rfl, b2⟩
  go_wp2_with fail
  go_ret2
  exact ⟨O, q, rfl, (ho.mono kb.bel.size).below b2, belowGo (belowGo kb.bel b1) b2⟩
theorem addp_s (A : Option Addr) (c : Nat) (ps : List Pty) (x : Pty) (w : World) (h : PTbl w A ps) (hA : (A = none ∧ c = 0) ∨ ∃ b off, A = some ⟨b, off, none⟩) (hcap : ps.length ≤ c) (hx : x.sz ≤ 1048576) :
    Calls Tryd.prog 17 #[.slice A ps.length c, .agg #[.string ⟨x.c.toArray⟩, .int .i64 x.k, .string ⟨x.a.toArray⟩]] w (NewPtysC w (addPR ps x)) := by
  rcases Bool.eq_false_or_eq_true (regB ps) with hr | hr
  · rcases Bool.eq_false_or_eq_true x.ok with hv | hv
    · exact addp_s_ok A c ps x w h hA hcap hx hr hv
    · have kb := KeepP.new w x
      obtain ⟨hxc, hxa⟩ := sz_c hx
      have HT := Lib.hid (isRegS_q (c := c) (h.below kb.bel) hr)
      have HV := Lib.hid (fun w => (pvalid_s x w hxc hxa))
      rw [hv] at HV
      have E := Lib.hid (@addPR_no ps x (.inr hv))
      clear h hv
      go_enter Tryd.func17, Tryd.ntmps17
      go_wp2_with (first
        | (go_at_call 51; refine HT.out.mono ?_; rintro e w1 ⟨rfl, b1⟩; have kb1 := kb.step b1; have c0 := kb1.cells.c0; have c1 := kb1.cells.c1; have c2 := kb1.cells.c2)
        | (go_at_call 52; refine (HV.out _).mono ?_; rintro e w2 ⟨rfl, b2⟩; have kb2 := kb1.step b2))
      go_ret2
      unfold NewPtysC
      rw [E.out]
      exact ⟨none, 0, rfl, PtyO.nil _ _, kb2.bel⟩
  · have kb := KeepP.new w x
    have HT := Lib.hid (isRegS_q (c := c) (h.below kb.bel) hr)
    have E := Lib.hid (@addPR_no ps x (.inl hr))
    clear h
    go_enter Tryd.func17, Tryd.ntmps17
    go_wp2_with (go_at_call 51; refine HT.out.mono ?_; rintro e w1 ⟨rfl, b1⟩)
    go_ret2
    unfold NewPtysC
    rw [E.out]
    exact ⟨none, 0, rfl, PtyO.nil _ _, belowGo kb.bel b1⟩
/-- A table with the room that its slice has. -/
structure PTblC (w : World) (A : Option Addr) (c : Nat) (ps : List Pty) : Prop where
  tbl : PTbl w A ps
  adr : (A = none ∧ c = 0) ∨ ∃ b off, A = some ⟨b, off, none⟩
  cap : ps.length ≤ c
theorem ptblC_of {w : World} {base : Nat} {A : Option Addr} {c : Nat} {ps : List Pty} (h : PtyO w base A ps.length c ps) (htx : ∀ p ∈ ps, p.sz ≤ 1048576) (hn : ps.length ≤ 1048576) : PTblC w A c ps := by
  refine ⟨⟨h.row, htx, hn⟩, ?_, own_room' h⟩
  rcases h.2 with ⟨h1, _⟩ | ⟨g, cap, cur, h1, _⟩
  · injection h1 with h1 _ h3; exact .inl ⟨h1, h3⟩
  · injection h1 with h1 _ _; exact .inr ⟨g, 0, h1⟩
theorem addPR_13 (ps : List Pty) (x : Pty) : (addPR ps x).1.length ≤ 13 := by
  rcases Bool.eq_false_or_eq_true (regB ps) with hr | hr
  · have := @addPR_len ps x
    have := (regB_iff.1 hr).1
    omega
  · rw [addPR_no (.inl hr)]; simp
theorem addp_ic (A : Option Addr) (c : Nat) (ps : List Pty) (x : Pty) (w : World) (h : PTblC w A c ps) (hx : x.sz ≤ 1048576) (hg : Ety w) :
    Calls Tryd.prog 19 #[.slice A ps.length c, .agg #[.string ⟨x.c.toArray⟩, .int .i64 x.k, .string ⟨x.a.toArray⟩]] w (NewPtysC w (addPR ps x)) := addp_i A c ps x w h.tbl h.adr h.cap hx hg
theorem addp_sc (A : Option Addr) (c : Nat) (ps : List Pty) (x : Pty) (w : World) (h : PTblC w A c ps) (hx : x.sz ≤ 1048576) :
    Calls Tryd.prog 17 #[.slice A ps.length c, .agg #[.string ⟨x.c.toArray⟩, .int .i64 x.k, .string ⟨x.a.toArray⟩]] w (NewPtysC w (addPR ps x)) := addp_s A c ps x w h.tbl h.adr h.cap hx
end Go.Proofs.YtjgagiigpijaiaaDoor
