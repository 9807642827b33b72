/- impl.ReadEvent. (by gen_re8.py) -/
import Derived.Test.YtifioecofeojpaaGreatDoorMRip
import Derived.Test.YtifioecofeojpaaGreatDoorMEtx
namespace Go.Proofs.YtifioecofeojpaaGreatDoor
open Go.ChangeShapes Go.WideShapes Go.ChangeAt Go.RowKit
set_option linter.unusedVariables false

def frRe (us : Nat → Value) : Act := { tmps := #[us 0, us 1, us 2, us 3, us 4, us 5, us 6, us 7, us 8, us 9, us 10, us 11, us 12, us 13, us 14, us 15, us 16, us 17, us 18, us 19, us 20, us 21, us 22, us 23, us 24, us 25, us 26, us 27, us 28, us 29, us 30, us 31, us 32, us 33, us 34, us 35, us 36, us 37, us 38, us 39, us 40, us 41, us 42, us 43, us 44, us 45, us 46, us 47, us 48, us 49, us 50, us 51, us 52, us 53, us 54, us 55, us 56, us 57, us 58, us 59, us 60, us 61, us 62], defers := [] }
theorem frRe_of {x0 x1 x2 x3 x4 x5 x6 x7 x8 x9 x10 x11 x12 x13 x14 x15 x16 x17 x18 x19 x20 x21 x22 x23 x24 x25 x26 x27 x28 x29 x30 x31 x32 x33 x34 x35 x36 x37 x38 x39 x40 x41 x42 x43 x44 x45 x46 x47 x48 x49 x50 x51 x52 x53 x54 x55 x56 x57 x58 x59 x60 x61 x62 : Value} : ({ tmps := #[x0, x1, x2, x3, x4, x5, x6, x7, x8, x9, x10, x11, x12, x13, x14, x15, x16, x17, x18, x19, x20, x21, x22, x23, x24, x25, x26, x27, x28, x29, x30, x31, x32, x33, x34, x35, x36, x37, x38, x39, x40, x41, x42, x43, x44, x45, x46, x47, x48, x49, x50, x51, x52, x53, x54, x55, x56, x57, x58, x59, x60, x61, x62], defers := [] } : Act) = frRe (fun k => #[x0, x1, x2, x3, x4, x5, x6, x7, x8, x9, x10, x11, x12, x13, x14, x15, x16, x17, x18, x19, x20, x21, x22, x23, x24, x25, x26, x27, x28, x29, x30, x31, x32, x33, x34, x35, x36, x37, x38, x39, x40, x41, x42, x43, x44, x45, x46, x47, x48, x49, x50, x51, x52, x53, x54, x55, x56, x57, x58, x59, x60, x61, x62].getD k undef) := rfl
structure InvRe (S0 P2 : Value) (g cap : Nat) (a c f : List UInt8) (n0 x v : Int) (t1 t2 t3 : Bool) (w : World) (d : Array Bool) (us : Nat → Value) (W : World) : Prop where
  u0 : us 0 = S0
  u2 : us 2 = P2
  u4 : us 4 = .slice (some ⟨g, 0, none⟩) 5 cap
  u5 : us 5 = .int .i64 x
  u7 : us 7 = .int .i64 v
  bel : Below w.heap.size w W
  o0 : d.getD 0 false = true → us 33 = .slice (some ⟨g, 0, none⟩) 5 cap
  o1 : d.getD 1 false = true → us 34 = .pointer (some ⟨g, 0, none⟩)
  o2 : d.getD 2 false = true → us 35 = .string ⟨a.toArray⟩
  o3 : d.getD 3 false = true → us 36 = .int .i64 n0
  o4 : d.getD 4 false = true → us 37 = .int .i64 x
  o5 : d.getD 5 false = true → us 38 = .slice (some ⟨g, 0, none⟩) 5 cap
  o6 : d.getD 6 false = true → us 39 = .pointer (some ⟨g, 2, none⟩)
  o7 : d.getD 7 false = true → us 40 = .string ⟨c.toArray⟩
  o8 : d.getD 8 false = true → us 41 = .int .i64 v
  o9 : d.getD 9 false = true → us 42 = .slice (some ⟨g, 0, none⟩) 5 cap
  o10 : d.getD 10 false = true → us 43 = .pointer (some ⟨g, 4, none⟩)
  o11 : d.getD 11 false = true → us 44 = .string ⟨f.toArray⟩
  o12 : d.getD 12 false = true → us 45 = .agg #[.bool t1, .bool t2, .bool t3]
  o13 : d.getD 13 false = true → us 46 = .agg #[.int .i64 n0, .int .i64 x, .string ⟨c.toArray⟩, .int .i64 v, .bool t1, .bool t2, .bool t3]
  o14 : d.getD 14 false = true → ∃ B, us 9 = .pointer (some ⟨B, 0, none⟩) ∧ w.heap.size ≤ B ∧ W.heap[B]? = some (.cells (if d.getD 15 false = true then #[.int .i64 n0, .int .i64 x, .string ⟨c.toArray⟩, .int .i64 v, .bool t1, .bool t2, .bool t3] else #[.int .i64 0, .int .i64 0, .string ⟨#[]⟩, .int .i64 0, .bool false, .bool false, .bool false]) 41 (0, 0))
  o15 : d.getD 15 false = true → d.getD 14 false = true
set_option maxRecDepth 100000 in
set_option maxHeartbeats 16000000 in
theorem revt_i (s : List UInt8) (hl : s.length ≤ 1048576) (w : World) (h : Lib3 w) : Calls Tryz.prog 10 #[.string ⟨s.toArray⟩] w (GivRE w (reR s)) := by
  have o1 := heap_alloc_new w (.cells #[.int .i64 0, .int .i64 0, .string ⟨#[]⟩, .int .i64 0, .bool false, .bool false, .bool false] 25)
  have HB := below_alloc w (.cells #[.int .i64 0, .int .i64 0, .string ⟨#[]⟩, .int .i64 0, .bool false, .bool false, .bool false] 25)
  have HS := Lib.hid (fun w => splitn_i s hl w)
  have L1 := Lib.hid (h.below HB)
  have hsl := spn_len (if s.length < 4 then s.length else 4) s
  have hmem := Lib.hid (spn_mem (if s.length < 4 then s.length else 4) s)
  have HP := Lib.hid (fun (p : Evt) (hp : FitE s p) => fit_partsE hp)
  have HW := Lib.hid (fun (p : Evt) (n : Nat) (P : PartE s p n) => P.wn)
  have hK : (if s.length < 4 then s.length else 4) ≤ 4 := by split <;> omega
  generalize spn (if s.length < 4 then s.length else 4) s = ws at *
  have hw5 : ws.length ≤ 5 := by omega
  clear hsl hK
  by_cases h5 : ws.length = 5
  · obtain ⟨a, b, c, d, f, rfl⟩ : ∃ a b c d e, ws = [a, b, c, d, e] := by
      match ws, h5 with
      | [a, b, c, d, e], _ => exact ⟨a, b, c, d, e, rfl⟩
    have la : a.length ≤ 1048576 := Nat.le_trans (hmem.out a (by simp)) hl
    have lb : b.length ≤ 1048576 := Nat.le_trans (hmem.out b (by simp)) hl
    have lc : c.length ≤ 1048576 := Nat.le_trans (hmem.out c (by simp)) hl
    have ld : d.length ≤ 1048576 := Nat.le_trans (hmem.out d (by simp)) hl
    have HX : Hid (∀ (x : Int), (∀ u, Lib.parseIntB 64 b = .ok u → x = u) → ∀ p, FitE s p → p = evOf a x c (readR d).1 f) := Lib.hid fun x hx p hp => by
      obtain ⟨n, P⟩ := HP.out p hp
      have ew := HW.out p n P
      injection ew with e1 ew
      injection ew with e2 ew
      injection ew with e3 ew
      injection ew with e4 ew
      injection ew with e5 _
      have ek : x = (n : Int) := hx _ (by rw [e2]; exact parse_decI (by have := P.n6; omega))
      have ev : (readR d).1 = p.a := by rw [e4, read_ok P.v rfl]
      rw [e1, e3, e5, ek, ev]
      exact fit_ev P
    have PA := Lib.hid (fun w hw => readDay_i a la w hw)
    have PB := Lib.hid (fun w hw => parse_any b lb w hw)
    have PD := Lib.hid (fun w hw => read_i d ld w hw)
    have PF := Lib.hid (fun w => truths_i f w)
    have e5' : ((([a, b, c, d, f] : List (List UInt8)).length : Int) < 5) = False := by simp
    clear hmem HP HW h5 hw5 la lb ld
    unfold evOf at HX
    generalize rday a = n0 at *
    generalize has 112 f = t1 at *
    generalize has 118 f = t2 at *
    generalize has 114 f = t3 at *
    generalize readR d = rd at *
    obtain ⟨v, i8⟩ := rd
    simp only at HX PD
    go_enter Tryz.func10, Tryz.ntmps10
    go_wp2_with fail
    refine (HS.out _).mono ?_
    rintro _ w1 ⟨A, cap, rfl, ho, b1⟩
    obtain ⟨g, rfl, hg1, hcell⟩ := own_cellsS ho (by simp)
    have m0 : w1.cell? ⟨g, 0, none⟩ = some (.string ⟨a.toArray⟩) := hcell 0 _ rfl
    have m1 : w1.cell? ⟨g, 1, none⟩ = some (.string ⟨b.toArray⟩) := hcell 1 _ rfl
    have m2 : w1.cell? ⟨g, 2, none⟩ = some (.string ⟨c.toArray⟩) := hcell 2 _ rfl
    have m3 : w1.cell? ⟨g, 3, none⟩ = some (.string ⟨d.toArray⟩) := hcell 3 _ rfl
    have m4 : w1.cell? ⟨g, 4, none⟩ = some (.string ⟨f.toArray⟩) := hcell 4 _ rfl
    have o2 := keepR b1 o1
    have L2 := Lib.hid (L1.out.below b1)
    have t1' := b1
    clear hcell ho b1 o1 HS L1
    go_wp2_with fail
    refine (PB.out _ L2.out).mono ?_
    rintro _ w2 ⟨x, i6, rfl, hx, b2⟩
    have k0 := (b2.cell (p := ⟨g, 0, none⟩) hg1).trans m0
    have k2 := (b2.cell (p := ⟨g, 2, none⟩) hg1).trans m2
    have k3 := (b2.cell (p := ⟨g, 3, none⟩) hg1).trans m3
    have k4 := (b2.cell (p := ⟨g, 4, none⟩) hg1).trans m4
    have o3 := keepR b2 o2
    have L3 := Lib.hid (L2.out.below b2)
    have t2' := belowGo t1' b2
    have hg2 := Nat.lt_of_lt_of_le hg1 b2.size
    clear m0 m1 m2 m3 m4 o2 L2 b2 t1' hg1
    go_wp2_with fail
    refine (PD.out _ L3.out).mono ?_
    rintro _ wq ⟨rfl, b3⟩
    have n0c := (b3.cell (p := ⟨g, 0, none⟩) hg2).trans k0
    have n2c := (b3.cell (p := ⟨g, 2, none⟩) hg2).trans k2
    have n4c := (b3.cell (p := ⟨g, 4, none⟩) hg2).trans k4
    have o5 := keepR b3 o3
    have L5 := Lib.hid (L3.out.below b3)
    have t5 := belowGo t2' b3
    have hg := Nat.lt_of_lt_of_le hg2 b3.size
    clear k0 k2 k3 k4 o3 L3 b3 t2' hg2 PB PD
    obtain ⟨P, hP⟩ : ∃ P : Evt, P = ⟨n0, x, c, v, t1, t2, t3⟩ := ⟨_, rfl⟩
    have HX2 := Lib.hid (HX.out x hx)
    rw [← hP] at HX2
    have hsz : P.sz ≤ 1048600 := by rw [hP]; unfold Evt.sz; simp only; omega
    have HT0 := Lib.hid (fun w hw => evtext_i P w hsz hw)
    have HT : Hid (∀ w, Tab w → Calls Tryz.prog 7 #[.agg #[.int .i64 n0, .int .i64 x, .string ⟨c.toArray⟩, .int .i64 v, .bool t1, .bool t2, .bool t3]] w (Text2 w (etR P))) := Lib.hid (by
      intro w hw; have := HT0.out w hw; rw [hP] at this ⊢; exact this)
    have HEv : Hid (∀ w, Calls Tryz.prog 27 #[.agg #[.int .i64 n0, .int .i64 x, .string ⟨c.toArray⟩, .int .i64 v, .bool t1, .bool t2, .bool t3]] w (Gives w (.agg #[.int .i64 n0, .int .i64 x, .string ⟨c.toArray⟩, .int .i64 v, .bool t1, .bool t2, .bool t3]))) := Lib.hid (fun w => event_i ⟨n0, x, c, v, t1, t2, t3⟩ w)
    have hok : Hid ((etR P).2 = 0 ∧ (etR P).1 = s → reR s = (⟨n0, x, c, v, t1, t2, t3⟩, 0)) := Lib.hid fun ⟨h1, h2⟩ => by
      rw [← hP]
      rcases Bool.eq_false_or_eq_true P.ok with hv | hv
      · rw [etR_ok hv] at h2; exact reR_ok ⟨hv, h2⟩
      · rw [etR_no hv] at h1; exact absurd h1 (by decide)
    have hno : Hid (¬ ((etR P).2 = 0 ∧ (etR P).1 = s) → reR s = (zeroE, 6)) := Lib.hid fun hn => reR_no fun ⟨p, hp⟩ => hn (by
      obtain rfl := HX2.out p hp
      rw [etR_ok hp.1]; exact ⟨rfl, hp.2⟩)
    clear HX HX2 HT0 hP hsz hx lc
    generalize etR P = tr at *
    obtain ⟨tx, tc⟩ := tr
    simp only at hok hno
    generalize reR s = r at *
    go_wp2_with fail
    refine region_inv (by kernel_rfl) (by kernel_rfl) (fun d' a' W => ∃ us, a' = frRe us ∧ InvRe (.string ⟨s.toArray⟩) (.pointer (some ⟨w.heap.size, 0, none⟩)) g cap a c f n0 x v t1 t2 t3 wq d' us W) ?_ ?_ ?_
    · refine ⟨_, frRe_of, ?_⟩
      have Z : ∀ k, (Array.replicate 16 false).getD k false = false := fun k => by
        rcases Nat.lt_or_ge k 16 with h | h
        · simp [h]
        · simp [Array.getElem?_eq_none, h]
      have Zn : ∀ {k : Nat} {p : Prop}, (Array.replicate 16 false).getD k false = true → p := fun {k p} h => by rw [Z k] at h; cases h
      exact { u0 := rfl, u2 := rfl, u4 := rfl, u5 := rfl, u7 := rfl, bel := (Below.refl _ _).drew, o0 := Zn, o1 := Zn, o2 := Zn, o3 := Zn, o4 := Zn, o5 := Zn, o6 := Zn, o7 := Zn, o8 := Zn, o9 := Zn, o10 := Zn, o11 := Zn, o12 := Zn, o13 := Zn, o14 := Zn, o15 := Zn }
    · intro i d' a' W hi hI
      obtain ⟨hun, oi, hoi, hall⟩ := mem_ready.1 hi
      have hlt : i < 16 := (Array.getElem?_eq_some_iff.1 hoi).1
      obtain ⟨us, rfl, I⟩ := hI
      have hbel := I.bel
      have hsz : wq.heap.size ≤ W.heap.size := hbel.size
      have e0 := I.u0
      have e2 := I.u2
      have e4 := I.u4
      have e5 := I.u5
      have e7 := I.u7
      have m0 := (I.bel.cell (p := ⟨g, 0, none⟩) hg).trans n0c
      have m2 := (I.bel.cell (p := ⟨g, 2, none⟩) hg).trans n2c
      have m4 := (I.bel.cell (p := ⟨g, 4, none⟩) hg).trans n4c
      rcases (by omega : i = 0 ∨ i = 1 ∨ i = 2 ∨ i = 3 ∨ i = 4 ∨ i = 5 ∨ i = 6 ∨ i = 7 ∨ i = 8 ∨ i = 9 ∨ i = 10 ∨ i = 11 ∨ i = 12 ∨ i = 13 ∨ i = 14 ∨ i = 15) with rfl | rfl | rfl | rfl | rfl | rfl | rfl | rfl | rfl | rfl | rfl | rfl | rfl | rfl | rfl | rfl
      all_goals
        obtain rfl := Option.some.inj hoi
        clear hoi hlt hi
      · skip
        have DO : ∀ n, 0 ≠ n → (d'.setIfInBounds 0 true).getD n false = d'.getD n false := fun n h => getD_set_ne false h
        have D0 : (d'.setIfInBounds 0 true).getD 0 false = true := setB_same hun
        have D1 := DO 1 (by decide)
        have D2 := DO 2 (by decide)
        have D3 := DO 3 (by decide)
        have D4 := DO 4 (by decide)
        have D5 := DO 5 (by decide)
        have D6 := DO 6 (by decide)
        have D7 := DO 7 (by decide)
        have D8 := DO 8 (by decide)
        have D9 := DO 9 (by decide)
        have D10 := DO 10 (by decide)
        have D11 := DO 11 (by decide)
        have D12 := DO 12 (by decide)
        have D13 := DO 13 (by decide)
        have D14 := DO 14 (by decide)
        have D15 := DO 15 (by decide)
        have UO : ∀ n, n ≠ 33 → updB us 33 (.slice (some ⟨g, 0, none⟩) 5 cap) n = us n := fun n h => updB_other h
        have U33 : updB us 33 (.slice (some ⟨g, 0, none⟩) 5 cap) 33 = (.slice (some ⟨g, 0, none⟩) 5 cap) := updB_same _ _ _
        have U0 := UO 0 (by decide)
        have U2 := UO 2 (by decide)
        have U4 := UO 4 (by decide)
        have U5 := UO 5 (by decide)
        have U7 := UO 7 (by decide)
        have U9 := UO 9 (by decide)
        have U34 := UO 34 (by decide)
        have U35 := UO 35 (by decide)
        have U36 := UO 36 (by decide)
        have U37 := UO 37 (by decide)
        have U38 := UO 38 (by decide)
        have U39 := UO 39 (by decide)
        have U40 := UO 40 (by decide)
        have U41 := UO 41 (by decide)
        have U42 := UO 42 (by decide)
        have U43 := UO 43 (by decide)
        have U44 := UO 44 (by decide)
        have U45 := UO 45 (by decide)
        have U46 := UO 46 (by decide)
        refine wpOp_step rfl (fun K hK => ?_)
        simp only [frRe, e0, e2, e4, e5, e7]
        go_simp
        refine hK _ _ ⟨updB us 33 (.slice (some ⟨g, 0, none⟩) 5 cap), by simp [frRe, updB, e0, e2, e4, e5, e7], { u0 := (U0.trans I.u0), u2 := (U2.trans I.u2), u4 := (U4.trans I.u4), u5 := (U5.trans I.u5), u7 := (U7.trans I.u7), bel := (I.bel), o0 := (fun _ => U33), o1 := (fun h => U34.trans (I.o1 (D1.symm.trans h))), o2 := (fun h => U35.trans (I.o2 (D2.symm.trans h))), o3 := (fun h => U36.trans (I.o3 (D3.symm.trans h))), o4 := (fun h => U37.trans (I.o4 (D4.symm.trans h))), o5 := (fun h => U38.trans (I.o5 (D5.symm.trans h))), o6 := (fun h => U39.trans (I.o6 (D6.symm.trans h))), o7 := (fun h => U40.trans (I.o7 (D7.symm.trans h))), o8 := (fun h => U41.trans (I.o8 (D8.symm.trans h))), o9 := (fun h => U42.trans (I.o9 (D9.symm.trans h))), o10 := (fun h => U43.trans (I.o10 (D10.symm.trans h))), o11 := (fun h => U44.trans (I.o11 (D11.symm.trans h))), o12 := (fun h => U45.trans (I.o12 (D12.symm.trans h))), o13 := (fun h => U46.trans (I.o13 (D13.symm.trans h))), o14 := (fun h => by rw [U9, D15]; exact I.o14 (D14.symm.trans h)), o15 := (fun h => D14.trans (I.o15 (D15.symm.trans h))) }⟩
      · skip
        have DO : ∀ n, 1 ≠ n → (d'.setIfInBounds 1 true).getD n false = d'.getD n false := fun n h => getD_set_ne false h
        have D1 : (d'.setIfInBounds 1 true).getD 1 false = true := setB_same hun
        have D0 := DO 0 (by decide)
        have D2 := DO 2 (by decide)
        have D3 := DO 3 (by decide)
        have D4 := DO 4 (by decide)
        have D5 := DO 5 (by decide)
        have D6 := DO 6 (by decide)
        have D7 := DO 7 (by decide)
        have D8 := DO 8 (by decide)
        have D9 := DO 9 (by decide)
        have D10 := DO 10 (by decide)
        have D11 := DO 11 (by decide)
        have D12 := DO 12 (by decide)
        have D13 := DO 13 (by decide)
        have D14 := DO 14 (by decide)
        have D15 := DO 15 (by decide)
        have e33 := I.o0 (hall ⟨0, .data⟩ (by simp) rfl)
        have UO : ∀ n, n ≠ 34 → updB us 34 (.pointer (some ⟨g, 0, none⟩)) n = us n := fun n h => updB_other h
        have U34 : updB us 34 (.pointer (some ⟨g, 0, none⟩)) 34 = (.pointer (some ⟨g, 0, none⟩)) := updB_same _ _ _
        have U0 := UO 0 (by decide)
        have U2 := UO 2 (by decide)
        have U4 := UO 4 (by decide)
        have U5 := UO 5 (by decide)
        have U7 := UO 7 (by decide)
        have U9 := UO 9 (by decide)
        have U33 := UO 33 (by decide)
        have U35 := UO 35 (by decide)
        have U36 := UO 36 (by decide)
        have U37 := UO 37 (by decide)
        have U38 := UO 38 (by decide)
        have U39 := UO 39 (by decide)
        have U40 := UO 40 (by decide)
        have U41 := UO 41 (by decide)
        have U42 := UO 42 (by decide)
        have U43 := UO 43 (by decide)
        have U44 := UO 44 (by decide)
        have U45 := UO 45 (by decide)
        have U46 := UO 46 (by decide)
        refine wpOp_step rfl (fun K hK => ?_)
        simp only [frRe, e0, e2, e4, e5, e7, e33]
        go_simp
        refine hK _ _ ⟨updB us 34 (.pointer (some ⟨g, 0, none⟩)), by simp [frRe, updB, e0, e2, e4, e5, e7, e33], { u0 := (U0.trans I.u0), u2 := (U2.trans I.u2), u4 := (U4.trans I.u4), u5 := (U5.trans I.u5), u7 := (U7.trans I.u7), bel := (I.bel), o0 := (fun h => U33.trans (I.o0 (D0.symm.trans h))), o1 := (fun _ => U34), o2 := (fun h => U35.trans (I.o2 (D2.symm.trans h))), o3 := (fun h => U36.trans (I.o3 (D3.symm.trans h))), o4 := (fun h => U37.trans (I.o4 (D4.symm.trans h))), o5 := (fun h => U38.trans (I.o5 (D5.symm.trans h))), o6 := (fun h => U39.trans (I.o6 (D6.symm.trans h))), o7 := (fun h => U40.trans (I.o7 (D7.symm.trans h))), o8 := (fun h => U41.trans (I.o8 (D8.symm.trans h))), o9 := (fun h => U42.trans (I.o9 (D9.symm.trans h))), o10 := (fun h => U43.trans (I.o10 (D10.symm.trans h))), o11 := (fun h => U44.trans (I.o11 (D11.symm.trans h))), o12 := (fun h => U45.trans (I.o12 (D12.symm.trans h))), o13 := (fun h => U46.trans (I.o13 (D13.symm.trans h))), o14 := (fun h => by rw [U9, D15]; exact I.o14 (D14.symm.trans h)), o15 := (fun h => D14.trans (I.o15 (D15.symm.trans h))) }⟩
      · skip
        have DO : ∀ n, 2 ≠ n → (d'.setIfInBounds 2 true).getD n false = d'.getD n false := fun n h => getD_set_ne false h
        have D2 : (d'.setIfInBounds 2 true).getD 2 false = true := setB_same hun
        have D0 := DO 0 (by decide)
        have D1 := DO 1 (by decide)
        have D3 := DO 3 (by decide)
        have D4 := DO 4 (by decide)
        have D5 := DO 5 (by decide)
        have D6 := DO 6 (by decide)
        have D7 := DO 7 (by decide)
        have D8 := DO 8 (by decide)
        have D9 := DO 9 (by decide)
        have D10 := DO 10 (by decide)
        have D11 := DO 11 (by decide)
        have D12 := DO 12 (by decide)
        have D13 := DO 13 (by decide)
        have D14 := DO 14 (by decide)
        have D15 := DO 15 (by decide)
        have e34 := I.o1 (hall ⟨1, .data⟩ (by simp) rfl)
        have UO : ∀ n, n ≠ 35 → updB us 35 (.string ⟨a.toArray⟩) n = us n := fun n h => updB_other h
        have U35 : updB us 35 (.string ⟨a.toArray⟩) 35 = (.string ⟨a.toArray⟩) := updB_same _ _ _
        have U0 := UO 0 (by decide)
        have U2 := UO 2 (by decide)
        have U4 := UO 4 (by decide)
        have U5 := UO 5 (by decide)
        have U7 := UO 7 (by decide)
        have U9 := UO 9 (by decide)
        have U33 := UO 33 (by decide)
        have U34 := UO 34 (by decide)
        have U36 := UO 36 (by decide)
        have U37 := UO 37 (by decide)
        have U38 := UO 38 (by decide)
        have U39 := UO 39 (by decide)
        have U40 := UO 40 (by decide)
        have U41 := UO 41 (by decide)
        have U42 := UO 42 (by decide)
        have U43 := UO 43 (by decide)
        have U44 := UO 44 (by decide)
        have U45 := UO 45 (by decide)
        have U46 := UO 46 (by decide)
        refine wpOp_step rfl (fun K hK => ?_)
        simp only [frRe, e0, e2, e4, e5, e7, e34]
        go_simp
        refine hK _ _ ⟨updB us 35 (.string ⟨a.toArray⟩), by simp [frRe, updB, e0, e2, e4, e5, e7, e34], { u0 := (U0.trans I.u0), u2 := (U2.trans I.u2), u4 := (U4.trans I.u4), u5 := (U5.trans I.u5), u7 := (U7.trans I.u7), bel := (I.bel), o0 := (fun h => U33.trans (I.o0 (D0.symm.trans h))), o1 := (fun h => U34.trans (I.o1 (D1.symm.trans h))), o2 := (fun _ => U35), o3 := (fun h => U36.trans (I.o3 (D3.symm.trans h))), o4 := (fun h => U37.trans (I.o4 (D4.symm.trans h))), o5 := (fun h => U38.trans (I.o5 (D5.symm.trans h))), o6 := (fun h => U39.trans (I.o6 (D6.symm.trans h))), o7 := (fun h => U40.trans (I.o7 (D7.symm.trans h))), o8 := (fun h => U41.trans (I.o8 (D8.symm.trans h))), o9 := (fun h => U42.trans (I.o9 (D9.symm.trans h))), o10 := (fun h => U43.trans (I.o10 (D10.symm.trans h))), o11 := (fun h => U44.trans (I.o11 (D11.symm.trans h))), o12 := (fun h => U45.trans (I.o12 (D12.symm.trans h))), o13 := (fun h => U46.trans (I.o13 (D13.symm.trans h))), o14 := (fun h => by rw [U9, D15]; exact I.o14 (D14.symm.trans h)), o15 := (fun h => D14.trans (I.o15 (D15.symm.trans h))) }⟩
      · skip
        have DO : ∀ n, 3 ≠ n → (d'.setIfInBounds 3 true).getD n false = d'.getD n false := fun n h => getD_set_ne false h
        have D3 : (d'.setIfInBounds 3 true).getD 3 false = true := setB_same hun
        have D0 := DO 0 (by decide)
        have D1 := DO 1 (by decide)
        have D2 := DO 2 (by decide)
        have D4 := DO 4 (by decide)
        have D5 := DO 5 (by decide)
        have D6 := DO 6 (by decide)
        have D7 := DO 7 (by decide)
        have D8 := DO 8 (by decide)
        have D9 := DO 9 (by decide)
        have D10 := DO 10 (by decide)
        have D11 := DO 11 (by decide)
        have D12 := DO 12 (by decide)
        have D13 := DO 13 (by decide)
        have D14 := DO 14 (by decide)
        have D15 := DO 15 (by decide)
        have e35 := I.o2 (hall ⟨2, .data⟩ (by simp) rfl)
        have UO : ∀ n, n ≠ 36 → updB us 36 (.int .i64 n0) n = us n := fun n h => updB_other h
        have U36 : updB us 36 (.int .i64 n0) 36 = (.int .i64 n0) := updB_same _ _ _
        have U0 := UO 0 (by decide)
        have U2 := UO 2 (by decide)
        have U4 := UO 4 (by decide)
        have U5 := UO 5 (by decide)
        have U7 := UO 7 (by decide)
        have U9 := UO 9 (by decide)
        have U33 := UO 33 (by decide)
        have U34 := UO 34 (by decide)
        have U35 := UO 35 (by decide)
        have U37 := UO 37 (by decide)
        have U38 := UO 38 (by decide)
        have U39 := UO 39 (by decide)
        have U40 := UO 40 (by decide)
        have U41 := UO 41 (by decide)
        have U42 := UO 42 (by decide)
        have U43 := UO 43 (by decide)
        have U44 := UO 44 (by decide)
        have U45 := UO 45 (by decide)
        have U46 := UO 46 (by decide)
        refine wpOp_step rfl (fun K hK => ?_)
        simp only [frRe, e0, e2, e4, e5, e7, e35]
        go_simp
        go_wp2_with (go_at_call 25; refine (PA.out W (L5.out.below hbel)).mono ?_; rintro e w2 ⟨rfl, hb2⟩)
        exact ⟨updB us 36 (.int .i64 n0), by simp [frRe, updB, e0, e2, e4, e5, e7, e35], { u0 := (U0.trans I.u0), u2 := (U2.trans I.u2), u4 := (U4.trans I.u4), u5 := (U5.trans I.u5), u7 := (U7.trans I.u7), bel := (I.bel.trans (hb2.mono hsz)), o0 := (fun h => U33.trans (I.o0 (D0.symm.trans h))), o1 := (fun h => U34.trans (I.o1 (D1.symm.trans h))), o2 := (fun h => U35.trans (I.o2 (D2.symm.trans h))), o3 := (fun _ => U36), o4 := (fun h => U37.trans (I.o4 (D4.symm.trans h))), o5 := (fun h => U38.trans (I.o5 (D5.symm.trans h))), o6 := (fun h => U39.trans (I.o6 (D6.symm.trans h))), o7 := (fun h => U40.trans (I.o7 (D7.symm.trans h))), o8 := (fun h => U41.trans (I.o8 (D8.symm.trans h))), o9 := (fun h => U42.trans (I.o9 (D9.symm.trans h))), o10 := (fun h => U43.trans (I.o10 (D10.symm.trans h))), o11 := (fun h => U44.trans (I.o11 (D11.symm.trans h))), o12 := (fun h => U45.trans (I.o12 (D12.symm.trans h))), o13 := (fun h => U46.trans (I.o13 (D13.symm.trans h))), o14 := (fun h => by rw [U9, D15]; obtain ⟨B2, g1, g2, g3⟩ := I.o14 (D14.symm.trans h); exact ⟨B2, g1, g2, (hb2.block B2 (lt_some g3)).trans g3⟩), o15 := (fun h => D14.trans (I.o15 (D15.symm.trans h))) }⟩
      · skip
        have DO : ∀ n, 4 ≠ n → (d'.setIfInBounds 4 true).getD n false = d'.getD n false := fun n h => getD_set_ne false h
        have D4 : (d'.setIfInBounds 4 true).getD 4 false = true := setB_same hun
        have D0 := DO 0 (by decide)
        have D1 := DO 1 (by decide)
        have D2 := DO 2 (by decide)
        have D3 := DO 3 (by decide)
        have D5 := DO 5 (by decide)
        have D6 := DO 6 (by decide)
        have D7 := DO 7 (by decide)
        have D8 := DO 8 (by decide)
        have D9 := DO 9 (by decide)
        have D10 := DO 10 (by decide)
        have D11 := DO 11 (by decide)
        have D12 := DO 12 (by decide)
        have D13 := DO 13 (by decide)
        have D14 := DO 14 (by decide)
        have D15 := DO 15 (by decide)
        have UO : ∀ n, n ≠ 37 → updB us 37 (.int .i64 x) n = us n := fun n h => updB_other h
        have U37 : updB us 37 (.int .i64 x) 37 = (.int .i64 x) := updB_same _ _ _
        have U0 := UO 0 (by decide)
        have U2 := UO 2 (by decide)
        have U4 := UO 4 (by decide)
        have U5 := UO 5 (by decide)
        have U7 := UO 7 (by decide)
        have U9 := UO 9 (by decide)
        have U33 := UO 33 (by decide)
        have U34 := UO 34 (by decide)
        have U35 := UO 35 (by decide)
        have U36 := UO 36 (by decide)
        have U38 := UO 38 (by decide)
        have U39 := UO 39 (by decide)
        have U40 := UO 40 (by decide)
        have U41 := UO 41 (by decide)
        have U42 := UO 42 (by decide)
        have U43 := UO 43 (by decide)
        have U44 := UO 44 (by decide)
        have U45 := UO 45 (by decide)
        have U46 := UO 46 (by decide)
        refine wpOp_step rfl (fun K hK => ?_)
        simp only [frRe, e0, e2, e4, e5, e7]
        go_simp
        refine hK _ _ ⟨updB us 37 (.int .i64 x), by simp [frRe, updB, e0, e2, e4, e5, e7], { u0 := (U0.trans I.u0), u2 := (U2.trans I.u2), u4 := (U4.trans I.u4), u5 := (U5.trans I.u5), u7 := (U7.trans I.u7), bel := (I.bel), o0 := (fun h => U33.trans (I.o0 (D0.symm.trans h))), o1 := (fun h => U34.trans (I.o1 (D1.symm.trans h))), o2 := (fun h => U35.trans (I.o2 (D2.symm.trans h))), o3 := (fun h => U36.trans (I.o3 (D3.symm.trans h))), o4 := (fun _ => U37), o5 := (fun h => U38.trans (I.o5 (D5.symm.trans h))), o6 := (fun h => U39.trans (I.o6 (D6.symm.trans h))), o7 := (fun h => U40.trans (I.o7 (D7.symm.trans h))), o8 := (fun h => U41.trans (I.o8 (D8.symm.trans h))), o9 := (fun h => U42.trans (I.o9 (D9.symm.trans h))), o10 := (fun h => U43.trans (I.o10 (D10.symm.trans h))), o11 := (fun h => U44.trans (I.o11 (D11.symm.trans h))), o12 := (fun h => U45.trans (I.o12 (D12.symm.trans h))), o13 := (fun h => U46.trans (I.o13 (D13.symm.trans h))), o14 := (fun h => by rw [U9, D15]; exact I.o14 (D14.symm.trans h)), o15 := (fun h => D14.trans (I.o15 (D15.symm.trans h))) }⟩
      · skip
        have DO : ∀ n, 5 ≠ n → (d'.setIfInBounds 5 true).getD n false = d'.getD n false := fun n h => getD_set_ne false h
        have D5 : (d'.setIfInBounds 5 true).getD 5 false = true := setB_same hun
        have D0 := DO 0 (by decide)
        have D1 := DO 1 (by decide)
        have D2 := DO 2 (by decide)
        have D3 := DO 3 (by decide)
        have D4 := DO 4 (by decide)
        have D6 := DO 6 (by decide)
        have D7 := DO 7 (by decide)
        have D8 := DO 8 (by decide)
        have D9 := DO 9 (by decide)
        have D10 := DO 10 (by decide)
        have D11 := DO 11 (by decide)
        have D12 := DO 12 (by decide)
        have D13 := DO 13 (by decide)
        have D14 := DO 14 (by decide)
        have D15 := DO 15 (by decide)
        have UO : ∀ n, n ≠ 38 → updB us 38 (.slice (some ⟨g, 0, none⟩) 5 cap) n = us n := fun n h => updB_other h
        have U38 : updB us 38 (.slice (some ⟨g, 0, none⟩) 5 cap) 38 = (.slice (some ⟨g, 0, none⟩) 5 cap) := updB_same _ _ _
        have U0 := UO 0 (by decide)
        have U2 := UO 2 (by decide)
        have U4 := UO 4 (by decide)
        have U5 := UO 5 (by decide)
        have U7 := UO 7 (by decide)
        have U9 := UO 9 (by decide)
        have U33 := UO 33 (by decide)
        have U34 := UO 34 (by decide)
        have U35 := UO 35 (by decide)
        have U36 := UO 36 (by decide)
        have U37 := UO 37 (by decide)
        have U39 := UO 39 (by decide)
        have U40 := UO 40 (by decide)
        have U41 := UO 41 (by decide)
        have U42 := UO 42 (by decide)
        have U43 := UO 43 (by decide)
        have U44 := UO 44 (by decide)
        have U45 := UO 45 (by decide)
        have U46 := UO 46 (by decide)
        refine wpOp_step rfl (fun K hK => ?_)
        simp only [frRe, e0, e2, e4, e5, e7]
        go_simp
        refine hK _ _ ⟨updB us 38 (.slice (some ⟨g, 0, none⟩) 5 cap), by simp [frRe, updB, e0, e2, e4, e5, e7], { u0 := (U0.trans I.u0), u2 := (U2.trans I.u2), u4 := (U4.trans I.u4), u5 := (U5.trans I.u5), u7 := (U7.trans I.u7), bel := (I.bel), o0 := (fun h => U33.trans (I.o0 (D0.symm.trans h))), o1 := (fun h => U34.trans (I.o1 (D1.symm.trans h))), o2 := (fun h => U35.trans (I.o2 (D2.symm.trans h))), o3 := (fun h => U36.trans (I.o3 (D3.symm.trans h))), o4 := (fun h => U37.trans (I.o4 (D4.symm.trans h))), o5 := (fun _ => U38), o6 := (fun h => U39.trans (I.o6 (D6.symm.trans h))), o7 := (fun h => U40.trans (I.o7 (D7.symm.trans h))), o8 := (fun h => U41.trans (I.o8 (D8.symm.trans h))), o9 := (fun h => U42.trans (I.o9 (D9.symm.trans h))), o10 := (fun h => U43.trans (I.o10 (D10.symm.trans h))), o11 := (fun h => U44.trans (I.o11 (D11.symm.trans h))), o12 := (fun h => U45.trans (I.o12 (D12.symm.trans h))), o13 := (fun h => U46.trans (I.o13 (D13.symm.trans h))), o14 := (fun h => by rw [U9, D15]; exact I.o14 (D14.symm.trans h)), o15 := (fun h => D14.trans (I.o15 (D15.symm.trans h))) }⟩
      · skip
        have DO : ∀ n, 6 ≠ n → (d'.setIfInBounds 6 true).getD n false = d'.getD n false := fun n h => getD_set_ne false h
        have D6 : (d'.setIfInBounds 6 true).getD 6 false = true := setB_same hun
        have D0 := DO 0 (by decide)
        have D1 := DO 1 (by decide)
        have D2 := DO 2 (by decide)
        have D3 := DO 3 (by decide)
        have D4 := DO 4 (by decide)
        have D5 := DO 5 (by decide)
        have D7 := DO 7 (by decide)
        have D8 := DO 8 (by decide)
        have D9 := DO 9 (by decide)
        have D10 := DO 10 (by decide)
        have D11 := DO 11 (by decide)
        have D12 := DO 12 (by decide)
        have D13 := DO 13 (by decide)
        have D14 := DO 14 (by decide)
        have D15 := DO 15 (by decide)
        have e38 := I.o5 (hall ⟨5, .data⟩ (by simp) rfl)
        have UO : ∀ n, n ≠ 39 → updB us 39 (.pointer (some ⟨g, 2, none⟩)) n = us n := fun n h => updB_other h
        have U39 : updB us 39 (.pointer (some ⟨g, 2, none⟩)) 39 = (.pointer (some ⟨g, 2, none⟩)) := updB_same _ _ _
        have U0 := UO 0 (by decide)
        have U2 := UO 2 (by decide)
        have U4 := UO 4 (by decide)
        have U5 := UO 5 (by decide)
        have U7 := UO 7 (by decide)
        have U9 := UO 9 (by decide)
        have U33 := UO 33 (by decide)
        have U34 := UO 34 (by decide)
        have U35 := UO 35 (by decide)
        have U36 := UO 36 (by decide)
        have U37 := UO 37 (by decide)
        have U38 := UO 38 (by decide)
        have U40 := UO 40 (by decide)
        have U41 := UO 41 (by decide)
        have U42 := UO 42 (by decide)
        have U43 := UO 43 (by decide)
        have U44 := UO 44 (by decide)
        have U45 := UO 45 (by decide)
        have U46 := UO 46 (by decide)
        refine wpOp_step rfl (fun K hK => ?_)
        simp only [frRe, e0, e2, e4, e5, e7, e38]
        go_simp
        refine hK _ _ ⟨updB us 39 (.pointer (some ⟨g, 2, none⟩)), by simp [frRe, updB, e0, e2, e4, e5, e7, e38], { u0 := (U0.trans I.u0), u2 := (U2.trans I.u2), u4 := (U4.trans I.u4), u5 := (U5.trans I.u5), u7 := (U7.trans I.u7), bel := (I.bel), o0 := (fun h => U33.trans (I.o0 (D0.symm.trans h))), o1 := (fun h => U34.trans (I.o1 (D1.symm.trans h))), o2 := (fun h => U35.trans (I.o2 (D2.symm.trans h))), o3 := (fun h => U36.trans (I.o3 (D3.symm.trans h))), o4 := (fun h => U37.trans (I.o4 (D4.symm.trans h))), o5 := (fun h => U38.trans (I.o5 (D5.symm.trans h))), o6 := (fun _ => U39), o7 := (fun h => U40.trans (I.o7 (D7.symm.trans h))), o8 := (fun h => U41.trans (I.o8 (D8.symm.trans h))), o9 := (fun h => U42.trans (I.o9 (D9.symm.trans h))), o10 := (fun h => U43.trans (I.o10 (D10.symm.trans h))), o11 := (fun h => U44.trans (I.o11 (D11.symm.trans h))), o12 := (fun h => U45.trans (I.o12 (D12.symm.trans h))), o13 := (fun h => U46.trans (I.o13 (D13.symm.trans h))), o14 := (fun h => by rw [U9, D15]; exact I.o14 (D14.symm.trans h)), o15 := (fun h => D14.trans (I.o15 (D15.symm.trans h))) }⟩
      · skip
        have DO : ∀ n, 7 ≠ n → (d'.setIfInBounds 7 true).getD n false = d'.getD n false := fun n h => getD_set_ne false h
        have D7 : (d'.setIfInBounds 7 true).getD 7 false = true := setB_same hun
        have D0 := DO 0 (by decide)
        have D1 := DO 1 (by decide)
        have D2 := DO 2 (by decide)
        have D3 := DO 3 (by decide)
        have D4 := DO 4 (by decide)
        have D5 := DO 5 (by decide)
        have D6 := DO 6 (by decide)
        have D8 := DO 8 (by decide)
        have D9 := DO 9 (by decide)
        have D10 := DO 10 (by decide)
        have D11 := DO 11 (by decide)
        have D12 := DO 12 (by decide)
        have D13 := DO 13 (by decide)
        have D14 := DO 14 (by decide)
        have D15 := DO 15 (by decide)
        have e39 := I.o6 (hall ⟨6, .data⟩ (by simp) rfl)
        have UO : ∀ n, n ≠ 40 → updB us 40 (.string ⟨c.toArray⟩) n = us n := fun n h => updB_other h
        have U40 : updB us 40 (.string ⟨c.toArray⟩) 40 = (.string ⟨c.toArray⟩) := updB_same _ _ _
        have U0 := UO 0 (by decide)
        have U2 := UO 2 (by decide)
        have U4 := UO 4 (by decide)
        have U5 := UO 5 (by decide)
        have U7 := UO 7 (by decide)
        have U9 := UO 9 (by decide)
        have U33 := UO 33 (by decide)
        have U34 := UO 34 (by decide)
        have U35 := UO 35 (by decide)
        have U36 := UO 36 (by decide)
        have U37 := UO 37 (by decide)
        have U38 := UO 38 (by decide)
        have U39 := UO 39 (by decide)
        have U41 := UO 41 (by decide)
        have U42 := UO 42 (by decide)
        have U43 := UO 43 (by decide)
        have U44 := UO 44 (by decide)
        have U45 := UO 45 (by decide)
        have U46 := UO 46 (by decide)
        refine wpOp_step rfl (fun K hK => ?_)
        simp only [frRe, e0, e2, e4, e5, e7, e39]
        go_simp
        refine hK _ _ ⟨updB us 40 (.string ⟨c.toArray⟩), by simp [frRe, updB, e0, e2, e4, e5, e7, e39], { u0 := (U0.trans I.u0), u2 := (U2.trans I.u2), u4 := (U4.trans I.u4), u5 := (U5.trans I.u5), u7 := (U7.trans I.u7), bel := (I.bel), o0 := (fun h => U33.trans (I.o0 (D0.symm.trans h))), o1 := (fun h => U34.trans (I.o1 (D1.symm.trans h))), o2 := (fun h => U35.trans (I.o2 (D2.symm.trans h))), o3 := (fun h => U36.trans (I.o3 (D3.symm.trans h))), o4 := (fun h => U37.trans (I.o4 (D4.symm.trans h))), o5 := (fun h => U38.trans (I.o5 (D5.symm.trans h))), o6 := (fun h => U39.trans (I.o6 (D6.symm.trans h))), o7 := (fun _ => U40), o8 := (fun h => U41.trans (I.o8 (D8.symm.trans h))), o9 := (fun h => U42.trans (I.o9 (D9.symm.trans h))), o10 := (fun h => U43.trans (I.o10 (D10.symm.trans h))), o11 := (fun h => U44.trans (I.o11 (D11.symm.trans h))), o12 := (fun h => U45.trans (I.o12 (D12.symm.trans h))), o13 := (fun h => U46.trans (I.o13 (D13.symm.trans h))), o14 := (fun h => by rw [U9, D15]; exact I.o14 (D14.symm.trans h)), o15 := (fun h => D14.trans (I.o15 (D15.symm.trans h))) }⟩
      · skip
        have DO : ∀ n, 8 ≠ n → (d'.setIfInBounds 8 true).getD n false = d'.getD n false := fun n h => getD_set_ne false h
        have D8 : (d'.setIfInBounds 8 true).getD 8 false = true := setB_same hun
        have D0 := DO 0 (by decide)
        have D1 := DO 1 (by decide)
        have D2 := DO 2 (by decide)
        have D3 := DO 3 (by decide)
        have D4 := DO 4 (by decide)
        have D5 := DO 5 (by decide)
        have D6 := DO 6 (by decide)
        have D7 := DO 7 (by decide)
        have D9 := DO 9 (by decide)
        have D10 := DO 10 (by decide)
        have D11 := DO 11 (by decide)
        have D12 := DO 12 (by decide)
        have D13 := DO 13 (by decide)
        have D14 := DO 14 (by decide)
        have D15 := DO 15 (by decide)
        have UO : ∀ n, n ≠ 41 → updB us 41 (.int .i64 v) n = us n := fun n h => updB_other h
        have U41 : updB us 41 (.int .i64 v) 41 = (.int .i64 v) := updB_same _ _ _
        have U0 := UO 0 (by decide)
        have U2 := UO 2 (by decide)
        have U4 := UO 4 (by decide)
        have U5 := UO 5 (by decide)
        have U7 := UO 7 (by decide)
        have U9 := UO 9 (by decide)
        have U33 := UO 33 (by decide)
        have U34 := UO 34 (by decide)
        have U35 := UO 35 (by decide)
        have U36 := UO 36 (by decide)
        have U37 := UO 37 (by decide)
        have U38 := UO 38 (by decide)
        have U39 := UO 39 (by decide)
        have U40 := UO 40 (by decide)
        have U42 := UO 42 (by decide)
        have U43 := UO 43 (by decide)
        have U44 := UO 44 (by decide)
        have U45 := UO 45 (by decide)
        have U46 := UO 46 (by decide)
        refine wpOp_step rfl (fun K hK => ?_)
        simp only [frRe, e0, e2, e4, e5, e7]
        go_simp
        refine hK _ _ ⟨updB us 41 (.int .i64 v), by simp [frRe, updB, e0, e2, e4, e5, e7], { u0 := (U0.trans I.u0), u2 := (U2.trans I.u2), u4 := (U4.trans I.u4), u5 := (U5.trans I.u5), u7 := (U7.trans I.u7), bel := (I.bel), o0 := (fun h => U33.trans (I.o0 (D0.symm.trans h))), o1 := (fun h => U34.trans (I.o1 (D1.symm.trans h))), o2 := (fun h => U35.trans (I.o2 (D2.symm.trans h))), o3 := (fun h => U36.trans (I.o3 (D3.symm.trans h))), o4 := (fun h => U37.trans (I.o4 (D4.symm.trans h))), o5 := (fun h => U38.trans (I.o5 (D5.symm.trans h))), o6 := (fun h => U39.trans (I.o6 (D6.symm.trans h))), o7 := (fun h => U40.trans (I.o7 (D7.symm.trans h))), o8 := (fun _ => U41), o9 := (fun h => U42.trans (I.o9 (D9.symm.trans h))), o10 := (fun h => U43.trans (I.o10 (D10.symm.trans h))), o11 := (fun h => U44.trans (I.o11 (D11.symm.trans h))), o12 := (fun h => U45.trans (I.o12 (D12.symm.trans h))), o13 := (fun h => U46.trans (I.o13 (D13.symm.trans h))), o14 := (fun h => by rw [U9, D15]; exact I.o14 (D14.symm.trans h)), o15 := (fun h => D14.trans (I.o15 (D15.symm.trans h))) }⟩
      · skip
        have DO : ∀ n, 9 ≠ n → (d'.setIfInBounds 9 true).getD n false = d'.getD n false := fun n h => getD_set_ne false h
        have D9 : (d'.setIfInBounds 9 true).getD 9 false = true := setB_same hun
        have D0 := DO 0 (by decide)
        have D1 := DO 1 (by decide)
        have D2 := DO 2 (by decide)
        have D3 := DO 3 (by decide)
        have D4 := DO 4 (by decide)
        have D5 := DO 5 (by decide)
        have D6 := DO 6 (by decide)
        have D7 := DO 7 (by decide)
        have D8 := DO 8 (by decide)
        have D10 := DO 10 (by decide)
        have D11 := DO 11 (by decide)
        have D12 := DO 12 (by decide)
        have D13 := DO 13 (by decide)
        have D14 := DO 14 (by decide)
        have D15 := DO 15 (by decide)
        have UO : ∀ n, n ≠ 42 → updB us 42 (.slice (some ⟨g, 0, none⟩) 5 cap) n = us n := fun n h => updB_other h
        have U42 : updB us 42 (.slice (some ⟨g, 0, none⟩) 5 cap) 42 = (.slice (some ⟨g, 0, none⟩) 5 cap) := updB_same _ _ _
        have U0 := UO 0 (by decide)
        have U2 := UO 2 (by decide)
        have U4 := UO 4 (by decide)
        have U5 := UO 5 (by decide)
        have U7 := UO 7 (by decide)
        have U9 := UO 9 (by decide)
        have U33 := UO 33 (by decide)
        have U34 := UO 34 (by decide)
        have U35 := UO 35 (by decide)
        have U36 := UO 36 (by decide)
        have U37 := UO 37 (by decide)
        have U38 := UO 38 (by decide)
        have U39 := UO 39 (by decide)
        have U40 := UO 40 (by decide)
        have U41 := UO 41 (by decide)
        have U43 := UO 43 (by decide)
        have U44 := UO 44 (by decide)
        have U45 := UO 45 (by decide)
        have U46 := UO 46 (by decide)
        refine wpOp_step rfl (fun K hK => ?_)
        simp only [frRe, e0, e2, e4, e5, e7]
        go_simp
        refine hK _ _ ⟨updB us 42 (.slice (some ⟨g, 0, none⟩) 5 cap), by simp [frRe, updB, e0, e2, e4, e5, e7], { u0 := (U0.trans I.u0), u2 := (U2.trans I.u2), u4 := (U4.trans I.u4), u5 := (U5.trans I.u5), u7 := (U7.trans I.u7), bel := (I.bel), o0 := (fun h => U33.trans (I.o0 (D0.symm.trans h))), o1 := (fun h => U34.trans (I.o1 (D1.symm.trans h))), o2 := (fun h => U35.trans (I.o2 (D2.symm.trans h))), o3 := (fun h => U36.trans (I.o3 (D3.symm.trans h))), o4 := (fun h => U37.trans (I.o4 (D4.symm.trans h))), o5 := (fun h => U38.trans (I.o5 (D5.symm.trans h))), o6 := (fun h => U39.trans (I.o6 (D6.symm.trans h))), o7 := (fun h => U40.trans (I.o7 (D7.symm.trans h))), o8 := (fun h => U41.trans (I.o8 (D8.symm.trans h))), o9 := (fun _ => U42), o10 := (fun h => U43.trans (I.o10 (D10.symm.trans h))), o11 := (fun h => U44.trans (I.o11 (D11.symm.trans h))), o12 := (fun h => U45.trans (I.o12 (D12.symm.trans h))), o13 := (fun h => U46.trans (I.o13 (D13.symm.trans h))), o14 := (fun h => by rw [U9, D15]; exact I.o14 (D14.symm.trans h)), o15 := (fun h => D14.trans (I.o15 (D15.symm.trans h))) }⟩
      · skip
        have DO : ∀ n, 10 ≠ n → (d'.setIfInBounds 10 true).getD n false = d'.getD n false := fun n h => getD_set_ne false h
        have D10 : (d'.setIfInBounds 10 true).getD 10 false = true := setB_same hun
        have D0 := DO 0 (by decide)
        have D1 := DO 1 (by decide)
        have D2 := DO 2 (by decide)
        have D3 := DO 3 (by decide)
        have D4 := DO 4 (by decide)
        have D5 := DO 5 (by decide)
        have D6 := DO 6 (by decide)
        have D7 := DO 7 (by decide)
        have D8 := DO 8 (by decide)
        have D9 := DO 9 (by decide)
        have D11 := DO 11 (by decide)
        have D12 := DO 12 (by decide)
        have D13 := DO 13 (by decide)
        have D14 := DO 14 (by decide)
        have D15 := DO 15 (by decide)
        have e42 := I.o9 (hall ⟨9, .data⟩ (by simp) rfl)
        have UO : ∀ n, n ≠ 43 → updB us 43 (.pointer (some ⟨g, 4, none⟩)) n = us n := fun n h => updB_other h
        have U43 : updB us 43 (.pointer (some ⟨g, 4, none⟩)) 43 = (.pointer (some ⟨g, 4, none⟩)) := updB_same _ _ _
        have U0 := UO 0 (by decide)
        have U2 := UO 2 (by decide)
        have U4 := UO 4 (by decide)
        have U5 := UO 5 (by decide)
        have U7 := UO 7 (by decide)
        have U9 := UO 9 (by decide)
        have U33 := UO 33 (by decide)
        have U34 := UO 34 (by decide)
        have U35 := UO 35 (by decide)
        have U36 := UO 36 (by decide)
        have U37 := UO 37 (by decide)
        have U38 := UO 38 (by decide)
        have U39 := UO 39 (by decide)
        have U40 := UO 40 (by decide)
        have U41 := UO 41 (by decide)
        have U42 := UO 42 (by decide)
        have U44 := UO 44 (by decide)
        have U45 := UO 45 (by decide)
        have U46 := UO 46 (by decide)
        refine wpOp_step rfl (fun K hK => ?_)
        simp only [frRe, e0, e2, e4, e5, e7, e42]
        go_simp
        refine hK _ _ ⟨updB us 43 (.pointer (some ⟨g, 4, none⟩)), by simp [frRe, updB, e0, e2, e4, e5, e7, e42], { u0 := (U0.trans I.u0), u2 := (U2.trans I.u2), u4 := (U4.trans I.u4), u5 := (U5.trans I.u5), u7 := (U7.trans I.u7), bel := (I.bel), o0 := (fun h => U33.trans (I.o0 (D0.symm.trans h))), o1 := (fun h => U34.trans (I.o1 (D1.symm.trans h))), o2 := (fun h => U35.trans (I.o2 (D2.symm.trans h))), o3 := (fun h => U36.trans (I.o3 (D3.symm.trans h))), o4 := (fun h => U37.trans (I.o4 (D4.symm.trans h))), o5 := (fun h => U38.trans (I.o5 (D5.symm.trans h))), o6 := (fun h => U39.trans (I.o6 (D6.symm.trans h))), o7 := (fun h => U40.trans (I.o7 (D7.symm.trans h))), o8 := (fun h => U41.trans (I.o8 (D8.symm.trans h))), o9 := (fun h => U42.trans (I.o9 (D9.symm.trans h))), o10 := (fun _ => U43), o11 := (fun h => U44.trans (I.o11 (D11.symm.trans h))), o12 := (fun h => U45.trans (I.o12 (D12.symm.trans h))), o13 := (fun h => U46.trans (I.o13 (D13.symm.trans h))), o14 := (fun h => by rw [U9, D15]; exact I.o14 (D14.symm.trans h)), o15 := (fun h => D14.trans (I.o15 (D15.symm.trans h))) }⟩
      · skip
        have DO : ∀ n, 11 ≠ n → (d'.setIfInBounds 11 true).getD n false = d'.getD n false := fun n h => getD_set_ne false h
        have D11 : (d'.setIfInBounds 11 true).getD 11 false = true := setB_same hun
        have D0 := DO 0 (by decide)
        have D1 := DO 1 (by decide)
        have D2 := DO 2 (by decide)
        have D3 := DO 3 (by decide)
        have D4 := DO 4 (by decide)
        have D5 := DO 5 (by decide)
        have D6 := DO 6 (by decide)
        have D7 := DO 7 (by decide)
        have D8 := DO 8 (by decide)
        have D9 := DO 9 (by decide)
        have D10 := DO 10 (by decide)
        have D12 := DO 12 (by decide)
        have D13 := DO 13 (by decide)
        have D14 := DO 14 (by decide)
        have D15 := DO 15 (by decide)
        have e43 := I.o10 (hall ⟨10, .data⟩ (by simp) rfl)
        have UO : ∀ n, n ≠ 44 → updB us 44 (.string ⟨f.toArray⟩) n = us n := fun n h => updB_other h
        have U44 : updB us 44 (.string ⟨f.toArray⟩) 44 = (.string ⟨f.toArray⟩) := updB_same _ _ _
        have U0 := UO 0 (by decide)
        have U2 := UO 2 (by decide)
        have U4 := UO 4 (by decide)
        have U5 := UO 5 (by decide)
        have U7 := UO 7 (by decide)
        have U9 := UO 9 (by decide)
        have U33 := UO 33 (by decide)
        have U34 := UO 34 (by decide)
        have U35 := UO 35 (by decide)
        have U36 := UO 36 (by decide)
        have U37 := UO 37 (by decide)
        have U38 := UO 38 (by decide)
        have U39 := UO 39 (by decide)
        have U40 := UO 40 (by decide)
        have U41 := UO 41 (by decide)
        have U42 := UO 42 (by decide)
        have U43 := UO 43 (by decide)
        have U45 := UO 45 (by decide)
        have U46 := UO 46 (by decide)
        refine wpOp_step rfl (fun K hK => ?_)
        simp only [frRe, e0, e2, e4, e5, e7, e43]
        go_simp
        refine hK _ _ ⟨updB us 44 (.string ⟨f.toArray⟩), by simp [frRe, updB, e0, e2, e4, e5, e7, e43], { u0 := (U0.trans I.u0), u2 := (U2.trans I.u2), u4 := (U4.trans I.u4), u5 := (U5.trans I.u5), u7 := (U7.trans I.u7), bel := (I.bel), o0 := (fun h => U33.trans (I.o0 (D0.symm.trans h))), o1 := (fun h => U34.trans (I.o1 (D1.symm.trans h))), o2 := (fun h => U35.trans (I.o2 (D2.symm.trans h))), o3 := (fun h => U36.trans (I.o3 (D3.symm.trans h))), o4 := (fun h => U37.trans (I.o4 (D4.symm.trans h))), o5 := (fun h => U38.trans (I.o5 (D5.symm.trans h))), o6 := (fun h => U39.trans (I.o6 (D6.symm.trans h))), o7 := (fun h => U40.trans (I.o7 (D7.symm.trans h))), o8 := (fun h => U41.trans (I.o8 (D8.symm.trans h))), o9 := (fun h => U42.trans (I.o9 (D9.symm.trans h))), o10 := (fun h => U43.trans (I.o10 (D10.symm.trans h))), o11 := (fun _ => U44), o12 := (fun h => U45.trans (I.o12 (D12.symm.trans h))), o13 := (fun h => U46.trans (I.o13 (D13.symm.trans h))), o14 := (fun h => by rw [U9, D15]; exact I.o14 (D14.symm.trans h)), o15 := (fun h => D14.trans (I.o15 (D15.symm.trans h))) }⟩
      · skip
        have DO : ∀ n, 12 ≠ n → (d'.setIfInBounds 12 true).getD n false = d'.getD n false := fun n h => getD_set_ne false h
        have D12 : (d'.setIfInBounds 12 true).getD 12 false = true := setB_same hun
        have D0 := DO 0 (by decide)
        have D1 := DO 1 (by decide)
        have D2 := DO 2 (by decide)
        have D3 := DO 3 (by decide)
        have D4 := DO 4 (by decide)
        have D5 := DO 5 (by decide)
        have D6 := DO 6 (by decide)
        have D7 := DO 7 (by decide)
        have D8 := DO 8 (by decide)
        have D9 := DO 9 (by decide)
        have D10 := DO 10 (by decide)
        have D11 := DO 11 (by decide)
        have D13 := DO 13 (by decide)
        have D14 := DO 14 (by decide)
        have D15 := DO 15 (by decide)
        have e44 := I.o11 (hall ⟨11, .data⟩ (by simp) rfl)
        have UO : ∀ n, n ≠ 45 → updB us 45 (.agg #[.bool t1, .bool t2, .bool t3]) n = us n := fun n h => updB_other h
        have U45 : updB us 45 (.agg #[.bool t1, .bool t2, .bool t3]) 45 = (.agg #[.bool t1, .bool t2, .bool t3]) := updB_same _ _ _
        have U0 := UO 0 (by decide)
        have U2 := UO 2 (by decide)
        have U4 := UO 4 (by decide)
        have U5 := UO 5 (by decide)
        have U7 := UO 7 (by decide)
        have U9 := UO 9 (by decide)
        have U33 := UO 33 (by decide)
        have U34 := UO 34 (by decide)
        have U35 := UO 35 (by decide)
        have U36 := UO 36 (by decide)
        have U37 := UO 37 (by decide)
        have U38 := UO 38 (by decide)
        have U39 := UO 39 (by decide)
        have U40 := UO 40 (by decide)
        have U41 := UO 41 (by decide)
        have U42 := UO 42 (by decide)
        have U43 := UO 43 (by decide)
        have U44 := UO 44 (by decide)
        have U46 := UO 46 (by decide)
        refine wpOp_step rfl (fun K hK => ?_)
        simp only [frRe, e0, e2, e4, e5, e7, e44]
        go_simp
        go_wp2_with (go_at_call 26; refine (PF.out W).mono ?_; rintro e w2 ⟨rfl, hb2⟩)
        exact ⟨updB us 45 (.agg #[.bool t1, .bool t2, .bool t3]), by simp [frRe, updB, e0, e2, e4, e5, e7, e44], { u0 := (U0.trans I.u0), u2 := (U2.trans I.u2), u4 := (U4.trans I.u4), u5 := (U5.trans I.u5), u7 := (U7.trans I.u7), bel := (I.bel.trans (hb2.mono hsz)), o0 := (fun h => U33.trans (I.o0 (D0.symm.trans h))), o1 := (fun h => U34.trans (I.o1 (D1.symm.trans h))), o2 := (fun h => U35.trans (I.o2 (D2.symm.trans h))), o3 := (fun h => U36.trans (I.o3 (D3.symm.trans h))), o4 := (fun h => U37.trans (I.o4 (D4.symm.trans h))), o5 := (fun h => U38.trans (I.o5 (D5.symm.trans h))), o6 := (fun h => U39.trans (I.o6 (D6.symm.trans h))), o7 := (fun h => U40.trans (I.o7 (D7.symm.trans h))), o8 := (fun h => U41.trans (I.o8 (D8.symm.trans h))), o9 := (fun h => U42.trans (I.o9 (D9.symm.trans h))), o10 := (fun h => U43.trans (I.o10 (D10.symm.trans h))), o11 := (fun h => U44.trans (I.o11 (D11.symm.trans h))), o12 := (fun _ => U45), o13 := (fun h => U46.trans (I.o13 (D13.symm.trans h))), o14 := (fun h => by rw [U9, D15]; obtain ⟨B2, g1, g2, g3⟩ := I.o14 (D14.symm.trans h); exact ⟨B2, g1, g2, (hb2.block B2 (lt_some g3)).trans g3⟩), o15 := (fun h => D14.trans (I.o15 (D15.symm.trans h))) }⟩
      · skip
        have DO : ∀ n, 13 ≠ n → (d'.setIfInBounds 13 true).getD n false = d'.getD n false := fun n h => getD_set_ne false h
        have D13 : (d'.setIfInBounds 13 true).getD 13 false = true := setB_same hun
        have D0 := DO 0 (by decide)
        have D1 := DO 1 (by decide)
        have D2 := DO 2 (by decide)
        have D3 := DO 3 (by decide)
        have D4 := DO 4 (by decide)
        have D5 := DO 5 (by decide)
        have D6 := DO 6 (by decide)
        have D7 := DO 7 (by decide)
        have D8 := DO 8 (by decide)
        have D9 := DO 9 (by decide)
        have D10 := DO 10 (by decide)
        have D11 := DO 11 (by decide)
        have D12 := DO 12 (by decide)
        have D14 := DO 14 (by decide)
        have D15 := DO 15 (by decide)
        have e36 := I.o3 (hall ⟨3, .data⟩ (by simp) rfl)
        have e37 := I.o4 (hall ⟨4, .data⟩ (by simp) rfl)
        have e40 := I.o7 (hall ⟨7, .data⟩ (by simp) rfl)
        have e41 := I.o8 (hall ⟨8, .data⟩ (by simp) rfl)
        have e45 := I.o12 (hall ⟨12, .data⟩ (by simp) rfl)
        have UO : ∀ n, n ≠ 46 → updB us 46 (.agg #[.int .i64 n0, .int .i64 x, .string ⟨c.toArray⟩, .int .i64 v, .bool t1, .bool t2, .bool t3]) n = us n := fun n h => updB_other h
        have U46 : updB us 46 (.agg #[.int .i64 n0, .int .i64 x, .string ⟨c.toArray⟩, .int .i64 v, .bool t1, .bool t2, .bool t3]) 46 = (.agg #[.int .i64 n0, .int .i64 x, .string ⟨c.toArray⟩, .int .i64 v, .bool t1, .bool t2, .bool t3]) := updB_same _ _ _
        have U0 := UO 0 (by decide)
        have U2 := UO 2 (by decide)
        have U4 := UO 4 (by decide)
        have U5 := UO 5 (by decide)
        have U7 := UO 7 (by decide)
        have U9 := UO 9 (by decide)
        have U33 := UO 33 (by decide)
        have U34 := UO 34 (by decide)
        have U35 := UO 35 (by decide)
        have U36 := UO 36 (by decide)
        have U37 := UO 37 (by decide)
        have U38 := UO 38 (by decide)
        have U39 := UO 39 (by decide)
        have U40 := UO 40 (by decide)
        have U41 := UO 41 (by decide)
        have U42 := UO 42 (by decide)
        have U43 := UO 43 (by decide)
        have U44 := UO 44 (by decide)
        have U45 := UO 45 (by decide)
        refine wpOp_step rfl (fun K hK => ?_)
        simp only [frRe, e0, e2, e4, e5, e7, e36, e37, e40, e41, e45]
        go_simp
        refine hK _ _ ⟨updB us 46 (.agg #[.int .i64 n0, .int .i64 x, .string ⟨c.toArray⟩, .int .i64 v, .bool t1, .bool t2, .bool t3]), by simp [frRe, updB, e0, e2, e4, e5, e7, e36, e37, e40, e41, e45], { u0 := (U0.trans I.u0), u2 := (U2.trans I.u2), u4 := (U4.trans I.u4), u5 := (U5.trans I.u5), u7 := (U7.trans I.u7), bel := (I.bel), o0 := (fun h => U33.trans (I.o0 (D0.symm.trans h))), o1 := (fun h => U34.trans (I.o1 (D1.symm.trans h))), o2 := (fun h => U35.trans (I.o2 (D2.symm.trans h))), o3 := (fun h => U36.trans (I.o3 (D3.symm.trans h))), o4 := (fun h => U37.trans (I.o4 (D4.symm.trans h))), o5 := (fun h => U38.trans (I.o5 (D5.symm.trans h))), o6 := (fun h => U39.trans (I.o6 (D6.symm.trans h))), o7 := (fun h => U40.trans (I.o7 (D7.symm.trans h))), o8 := (fun h => U41.trans (I.o8 (D8.symm.trans h))), o9 := (fun h => U42.trans (I.o9 (D9.symm.trans h))), o10 := (fun h => U43.trans (I.o10 (D10.symm.trans h))), o11 := (fun h => U44.trans (I.o11 (D11.symm.trans h))), o12 := (fun h => U45.trans (I.o12 (D12.symm.trans h))), o13 := (fun _ => U46), o14 := (fun h => by rw [U9, D15]; exact I.o14 (D14.symm.trans h)), o15 := (fun h => D14.trans (I.o15 (D15.symm.trans h))) }⟩
      · skip
        have DO : ∀ n, 14 ≠ n → (d'.setIfInBounds 14 true).getD n false = d'.getD n false := fun n h => getD_set_ne false h
        have D14 : (d'.setIfInBounds 14 true).getD 14 false = true := setB_same hun
        have D0 := DO 0 (by decide)
        have D1 := DO 1 (by decide)
        have D2 := DO 2 (by decide)
        have D3 := DO 3 (by decide)
        have D4 := DO 4 (by decide)
        have D5 := DO 5 (by decide)
        have D6 := DO 6 (by decide)
        have D7 := DO 7 (by decide)
        have D8 := DO 8 (by decide)
        have D9 := DO 9 (by decide)
        have D10 := DO 10 (by decide)
        have D11 := DO 11 (by decide)
        have D12 := DO 12 (by decide)
        have D13 := DO 13 (by decide)
        have D15 := DO 15 (by decide)
        have UO : ∀ n, n ≠ 9 → updB us 9 (.pointer (some ⟨W.heap.size, 0, none⟩)) n = us n := fun n h => updB_other h
        have U9 : updB us 9 (.pointer (some ⟨W.heap.size, 0, none⟩)) 9 = (.pointer (some ⟨W.heap.size, 0, none⟩)) := updB_same _ _ _
        have U0 := UO 0 (by decide)
        have U2 := UO 2 (by decide)
        have U4 := UO 4 (by decide)
        have U5 := UO 5 (by decide)
        have U7 := UO 7 (by decide)
        have U33 := UO 33 (by decide)
        have U34 := UO 34 (by decide)
        have U35 := UO 35 (by decide)
        have U36 := UO 36 (by decide)
        have U37 := UO 37 (by decide)
        have U38 := UO 38 (by decide)
        have U39 := UO 39 (by decide)
        have U40 := UO 40 (by decide)
        have U41 := UO 41 (by decide)
        have U42 := UO 42 (by decide)
        have U43 := UO 43 (by decide)
        have U44 := UO 44 (by decide)
        have U45 := UO 45 (by decide)
        have U46 := UO 46 (by decide)
        have hf : d'.getD 15 false = false := by
          cases h : d'.getD 15 false with
          | false => rfl
          | true => have h2 := getD_ft (I.o15 h); rw [hun] at h2; cases h2
        refine wpOp_step rfl (fun K hK => ?_)
        simp only [frRe, e0, e2, e4, e5, e7]
        go_simp
        refine hK _ _ ⟨updB us 9 (.pointer (some ⟨W.heap.size, 0, none⟩)), by simp [frRe, updB, e0, e2, e4, e5, e7], { u0 := (U0.trans I.u0), u2 := (U2.trans I.u2), u4 := (U4.trans I.u4), u5 := (U5.trans I.u5), u7 := (U7.trans I.u7), bel := (I.bel.alloc hsz _), o0 := (fun h => U33.trans (I.o0 (D0.symm.trans h))), o1 := (fun h => U34.trans (I.o1 (D1.symm.trans h))), o2 := (fun h => U35.trans (I.o2 (D2.symm.trans h))), o3 := (fun h => U36.trans (I.o3 (D3.symm.trans h))), o4 := (fun h => U37.trans (I.o4 (D4.symm.trans h))), o5 := (fun h => U38.trans (I.o5 (D5.symm.trans h))), o6 := (fun h => U39.trans (I.o6 (D6.symm.trans h))), o7 := (fun h => U40.trans (I.o7 (D7.symm.trans h))), o8 := (fun h => U41.trans (I.o8 (D8.symm.trans h))), o9 := (fun h => U42.trans (I.o9 (D9.symm.trans h))), o10 := (fun h => U43.trans (I.o10 (D10.symm.trans h))), o11 := (fun h => U44.trans (I.o11 (D11.symm.trans h))), o12 := (fun h => U45.trans (I.o12 (D12.symm.trans h))), o13 := (fun h => U46.trans (I.o13 (D13.symm.trans h))), o14 := (fun _ => ⟨W.heap.size, U9, hsz, by rw [D15, hf, if_neg Bool.false_ne_true]; exact heap_alloc_new W _⟩), o15 := (fun h => by rw [D15, hf] at h; cases h) }⟩
      · skip
        have DO : ∀ n, 15 ≠ n → (d'.setIfInBounds 15 true).getD n false = d'.getD n false := fun n h => getD_set_ne false h
        have D15 : (d'.setIfInBounds 15 true).getD 15 false = true := setB_same hun
        have D0 := DO 0 (by decide)
        have D1 := DO 1 (by decide)
        have D2 := DO 2 (by decide)
        have D3 := DO 3 (by decide)
        have D4 := DO 4 (by decide)
        have D5 := DO 5 (by decide)
        have D6 := DO 6 (by decide)
        have D7 := DO 7 (by decide)
        have D8 := DO 8 (by decide)
        have D9 := DO 9 (by decide)
        have D10 := DO 10 (by decide)
        have D11 := DO 11 (by decide)
        have D12 := DO 12 (by decide)
        have D13 := DO 13 (by decide)
        have D14 := DO 14 (by decide)
        have e46 := I.o13 (hall ⟨13, .data⟩ (by simp) rfl)
        have hf := getB_f hun
        obtain ⟨B, e9, hlo, hB⟩ := I.o14 (hall ⟨14, .data⟩ (by simp) rfl)
        rw [hf, if_neg Bool.false_ne_true] at hB
        obtain ⟨b0, b1, b2, b3, b4, b5, b6, f0, f1, f2, f3, f4, f5, f6⟩ := cel7 hB
        obtain ⟨W2, hW2, hR, bW⟩ := done7 hB (.int .i64 n0) (.int .i64 x) (.string ⟨c.toArray⟩) (.int .i64 v) (.bool t1) (.bool t2) (.bool t3)
        refine wpOp_step rfl (fun K hK => ?_)
        simp only [frRe, e0, e2, e4, e5, e7, e46, e9]
        go_simp
        try rw [hW2]
        refine hK _ _ ⟨us, by simp [frRe, e0, e2, e4, e5, e7, e46, e9], { u0 := I.u0, u2 := I.u2, u4 := I.u4, u5 := I.u5, u7 := I.u7, bel := (bW _ _ hlo I.bel), o0 := (fun h => I.o0 (D0.symm.trans h)), o1 := (fun h => I.o1 (D1.symm.trans h)), o2 := (fun h => I.o2 (D2.symm.trans h)), o3 := (fun h => I.o3 (D3.symm.trans h)), o4 := (fun h => I.o4 (D4.symm.trans h)), o5 := (fun h => I.o5 (D5.symm.trans h)), o6 := (fun h => I.o6 (D6.symm.trans h)), o7 := (fun h => I.o7 (D7.symm.trans h)), o8 := (fun h => I.o8 (D8.symm.trans h)), o9 := (fun h => I.o9 (D9.symm.trans h)), o10 := (fun h => I.o10 (D10.symm.trans h)), o11 := (fun h => I.o11 (D11.symm.trans h)), o12 := (fun h => I.o12 (D12.symm.trans h)), o13 := (fun h => I.o13 (D13.symm.trans h)), o14 := (fun h => ⟨B, e9, hlo, by rw [D15, if_pos rfl]; exact hR⟩), o15 := (fun _ => D14.trans (hall ⟨14, .data⟩ (by simp) rfl)) }⟩
    · intro d' a' W hd hall hI
      obtain ⟨us, rfl, I⟩ := hI
      have D : ∀ k, k < 16 → d'.getD k false = true := fun k hk => by
        have := hall k hk
        have hk2 : k < d'.size := by rw [hd]; exact hk
        simp [hk2] at this ⊢; exact this
      obtain ⟨R, e9, hRlo, hRow⟩ := I.o14 (D 14 (by decide))
      rw [D 15 (by decide), if_pos rfl] at hRow
      have e0 := I.u0
      have e2 := I.u2
      have e4 := I.u4
      have e5 := I.u5
      have e7 := I.u7
      have bR := I.bel
      clear I D hall hd
      simp only [frRe, e0, e2, e4, e5, e7, e9]
      have o6 := keepR bR o5
      obtain ⟨c0, c1, c2, c3, c4, c5, c6, _⟩ := cel7 hRow
      have t6 := belowGo t5 bR
      have LT := Lib.hid ((L5.out.below bR).tab)
      clear bR t5 o5 L5 n0c n2c n4c
      go_wp2_with fail
      refine (HEv.out _).mono ?_
      rintro e w5 ⟨rfl, b5⟩
      have row7 := heap_alloc_new w5 (.cells #[.int .i64 n0, .int .i64 x, .string ⟨c.toArray⟩, .int .i64 v, .bool t1, .bool t2, .bool t3] 25)
      have b55 := below_alloc w5 (.cells #[.int .i64 n0, .int .i64 x, .string ⟨c.toArray⟩, .int .i64 v, .bool t1, .bool t2, .bool t3] 25)
      have o7 := keepR b55 (keepR b5 o6)
      have t7 := belowGo (belowGo t6 b5) b55
      have LT7 := Lib.hid ((LT.out.below b5).below b55)
      clear c0 c1 c2 c3 c4 c5 c6 LT hRow o6 t6 b5 b55 HEv
      obtain ⟨c0, c1, c2, c3, c4, c5, c6, _⟩ := cel7 row7
      go_wp2_with fail
      refine (HT.out _ LT7.out).mono ?_
      rintro e w6 ⟨rfl, b6⟩
      have o8 := keepR b6 o7
      have row8 := keepR b6 row7
      have t8 := belowGo HB (belowGo t7 b6)
      clear c0 c1 c2 c3 c4 c5 c6 LT7 row7 o7 t7 b6 HT
      by_cases hf : tc = 0 ∧ tx = s
      · have E := Lib.hid (hok.out hf)
        obtain ⟨rfl, rfl⟩ := hf
        have q1 : (tx == tx) = true := by simp
        have q2 : (tx != tx) = false := by simp
        obtain ⟨c0, c1, c2, c3, c4, c5, c6, _⟩ := cel7 row8
        clear hok hno row8
        obtain ⟨r0, r1, r2, r3, r4, r5, r6, s0, s1, s2, s3, s4, s5, s6⟩ := cel7 o8
        go_wp2_with fail
        obtain ⟨W6, hW6, hR6, bW6⟩ := done7 o8 (.int .i64 n0) (.int .i64 x) (.string ⟨c.toArray⟩) (.int .i64 v) (.bool t1) (.bool t2) (.bool t3)
        rw [hW6]
        have b6 := bW6 w.heap.size w (Nat.le_refl _) t8
        obtain ⟨g0, g1, g2, g3, g4, g5, g6, _⟩ := cel7 hR6
        clear hW6 bW6 r0 s0 r1 s1 r2 s2 r3 s3 r4 s4 r5 s5 r6 s6
        exact bodyPost_ret (v := .tuple #[.agg #[.int .i64 n0, .int .i64 x, .string ⟨c.toArray⟩, .int .i64 v, .bool t1, .bool t2, .bool t3], .int .i64 0]) (by simp [results, Tryz.results10, go_sem, g0, g1, g2, g3, g4, g5, g6]) rfl ⟨by rw [E.out] <;> rfl, b6⟩
      · have E := Lib.hid (hno.out hf)
        clear hok hno row8
        by_cases htc : tc = 0
        · have htx : (tx == s) = false := by rw [beq_eq_false_iff_ne]; exact fun e => hf ⟨htc, e⟩
          have htx2 : (tx != s) = true := by rw [bne, htx]; rfl
          subst htc
          clear hf
          obtain ⟨r0, r1, r2, r3, r4, r5, r6, s0, s1, s2, s3, s4, s5, s6⟩ := cel7 o8
          go_wp2_with fail
          obtain ⟨W6, hW6, hR6, bW6⟩ := done7 o8 (.int .i64 0) (.int .i64 0) (.string ⟨#[]⟩) (.int .i64 0) (.bool false) (.bool false) (.bool false)
          rw [hW6]
          have b6 := bW6 w.heap.size w (Nat.le_refl _) t8
          obtain ⟨g0, g1, g2, g3, g4, g5, g6, _⟩ := cel7 hR6
          clear hW6 bW6 r0 s0 r1 s1 r2 s2 r3 s3 r4 s4 r5 s5 r6 s6
          exact bodyPost_ret (v := .tuple #[.agg #[.int .i64 0, .int .i64 0, .string ⟨#[]⟩, .int .i64 0, .bool false, .bool false, .bool false], .int .i64 6]) (by simp [results, Tryz.results10, go_sem, g0, g1, g2, g3, g4, g5, g6]) rfl ⟨by rw [E.out] <;> rfl, b6⟩
        · have htc2 : (tc != 0) = true := by simpa using htc
          clear hf htc
          obtain ⟨r0, r1, r2, r3, r4, r5, r6, s0, s1, s2, s3, s4, s5, s6⟩ := cel7 o8
          go_wp2_with fail
          obtain ⟨W6, hW6, hR6, bW6⟩ := done7 o8 (.int .i64 0) (.int .i64 0) (.string ⟨#[]⟩) (.int .i64 0) (.bool false) (.bool false) (.bool false)
          rw [hW6]
          have b6 := bW6 w.heap.size w (Nat.le_refl _) t8
          obtain ⟨g0, g1, g2, g3, g4, g5, g6, _⟩ := cel7 hR6
          clear hW6 bW6 r0 s0 r1 s1 r2 s2 r3 s3 r4 s4 r5 s5 r6 s6
          exact bodyPost_ret (v := .tuple #[.agg #[.int .i64 0, .int .i64 0, .string ⟨#[]⟩, .int .i64 0, .bool false, .bool false, .bool false], .int .i64 6]) (by simp [results, Tryz.results10, go_sem, g0, g1, g2, g3, g4, g5, g6]) rfl ⟨by rw [E.out] <;> rfl, b6⟩
  · have E := Lib.hid (reR_no (s := s) (by
      rintro ⟨p, hp⟩
      obtain ⟨n, P⟩ := HP.out p hp
      exact h5 (by rw [HW.out p n P]; rfl)))
    have h5' : (ws.length : Int) < 5 := by omega
    clear h5 hmem HP HW hw5
    generalize reR s = r at *
    go_enter Tryz.func10, Tryz.ntmps10
    go_wp2_with fail
    refine (HS.out _).mono ?_
    rintro _ w1 ⟨A, d, rfl, ho, b1⟩
    have o2 := keepR b1 o1
    have t1 := belowGo HB b1
    clear ho o1 HS
    obtain ⟨r0, r1, r2, r3, r4, r5, r6, s0, s1, s2, s3, s4, s5, s6⟩ := cel7 o2
    go_wp2_with fail
    obtain ⟨W6, hW6, hR6, bW6⟩ := done7 o2 (.int .i64 0) (.int .i64 0) (.string ⟨#[]⟩) (.int .i64 0) (.bool false) (.bool false) (.bool false)
    rw [hW6]
    have b6 := bW6 w.heap.size w (Nat.le_refl _) t1
    obtain ⟨g0, g1, g2, g3, g4, g5, g6, _⟩ := cel7 hR6
    clear hW6 bW6 r0 s0 r1 s1 r2 s2 r3 s3 r4 s4 r5 s5 r6 s6
    exact bodyPost_ret (v := .tuple #[.agg #[.int .i64 0, .int .i64 0, .string ⟨#[]⟩, .int .i64 0, .bool false, .bool false, .bool false], .int .i64 6]) (by simp [results, Tryz.results10, go_sem, g0, g1, g2, g3, g4, g5, g6]) rfl ⟨by rw [E.out] <;> rfl, b6⟩
end Go.Proofs.YtifioecofeojpaaGreatDoor
