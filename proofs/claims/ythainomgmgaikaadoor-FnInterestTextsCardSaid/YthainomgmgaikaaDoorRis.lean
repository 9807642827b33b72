/- spec.ReadInterest. (by gen_rii.py) -/
import Derived.Test.YthainomgmgaikaaDoorRib
namespace Go.Proofs.YthainomgmgaikaaDoor
open Go.ChangeShapes Go.WideShapes Go.ChangeAt Go.RowKit
set_option linter.unusedVariables false

def frRs (us : Nat → Value) : Act := { tmps := #[us 0, us 1, us 2, us 3, us 4, us 5, us 6, us 7, us 8, us 9, us 10, us 11, us 12, us 13, us 14, us 15, us 16, us 17, us 18, us 19, us 20, us 21, us 22, us 23, us 24, us 25, us 26, us 27, us 28, us 29, us 30, us 31, us 32, us 33, us 34, us 35, us 36, us 37, us 38, us 39, us 40, us 41, us 42, us 43, us 44, us 45, us 46, us 47, us 48, us 49, us 50, us 51, us 52, us 53, us 54, us 55, us 56, us 57, us 58, us 59, us 60, us 61, us 62, us 63, us 64, us 65], defers := [] }
theorem frRs_of {x0 x1 x2 x3 x4 x5 x6 x7 x8 x9 x10 x11 x12 x13 x14 x15 x16 x17 x18 x19 x20 x21 x22 x23 x24 x25 x26 x27 x28 x29 x30 x31 x32 x33 x34 x35 x36 x37 x38 x39 x40 x41 x42 x43 x44 x45 x46 x47 x48 x49 x50 x51 x52 x53 x54 x55 x56 x57 x58 x59 x60 x61 x62 x63 x64 x65 : Value} : ({ tmps := #[x0, x1, x2, x3, x4, x5, x6, x7, x8, x9, x10, x11, x12, x13, x14, x15, x16, x17, x18, x19, x20, x21, x22, x23, x24, x25, x26, x27, x28, x29, x30, x31, x32, x33, x34, x35, x36, x37, x38, x39, x40, x41, x42, x43, x44, x45, x46, x47, x48, x49, x50, x51, x52, x53, x54, x55, x56, x57, x58, x59, x60, x61, x62, x63, x64, x65], defers := [] } : Act) = frRs (fun k => #[x0, x1, x2, x3, x4, x5, x6, x7, x8, x9, x10, x11, x12, x13, x14, x15, x16, x17, x18, x19, x20, x21, x22, x23, x24, x25, x26, x27, x28, x29, x30, x31, x32, x33, x34, x35, x36, x37, x38, x39, x40, x41, x42, x43, x44, x45, x46, x47, x48, x49, x50, x51, x52, x53, x54, x55, x56, x57, x58, x59, x60, x61, x62, x63, x64, x65].getD k undef) := rfl
structure InvRs (S0 P2 B6 B8 B10 : Value) (g cap : Nat) (a c : List UInt8) (x v z : Int) (w : World) (d : Array Bool) (us : Nat → Value) (W : World) : Prop where
  u0 : us 0 = S0
  u2 : us 2 = P2
  u4 : us 4 = .slice (some ⟨g, 0, none⟩) 5 cap
  u5 : us 5 = .int .i64 x
  u6 : us 6 = B6
  u7 : us 7 = .int .i64 v
  u8 : us 8 = B8
  u9 : us 9 = .int .i64 z
  u10 : us 10 = B10
  bel : Below w.heap.size w W
  o0 : d.getD 0 false = true → us 39 = .slice (some ⟨g, 0, none⟩) 5 cap
  o1 : d.getD 1 false = true → us 40 = .pointer (some ⟨g, 0, none⟩)
  o2 : d.getD 2 false = true → us 41 = .string ⟨a.toArray⟩
  o3 : d.getD 3 false = true → us 42 = .int .i64 x
  o4 : d.getD 4 false = true → us 43 = .slice (some ⟨g, 0, none⟩) 5 cap
  o5 : d.getD 5 false = true → us 44 = .pointer (some ⟨g, 2, none⟩)
  o6 : d.getD 6 false = true → us 45 = .string ⟨c.toArray⟩
  o7 : d.getD 7 false = true → us 46 = .int .i64 v
  o8 : d.getD 8 false = true → us 47 = .int .i64 z
  o9 : d.getD 9 false = true → us 48 = .agg #[.string ⟨a.toArray⟩, .int .i64 x, .string ⟨c.toArray⟩, .int .i64 v, .int .i64 z]
  o10 : d.getD 10 false = true → ∃ B, us 11 = .pointer (some ⟨B, 0, none⟩) ∧ w.heap.size ≤ B ∧ W.heap[B]? = some (.cells (if d.getD 11 false = true then #[.string ⟨a.toArray⟩, .int .i64 x, .string ⟨c.toArray⟩, .int .i64 v, .int .i64 z] else #[.string ⟨#[]⟩, .int .i64 0, .string ⟨#[]⟩, .int .i64 0, .int .i64 0]) 25 (0, 0))
  o11 : d.getD 11 false = true → d.getD 10 false = true
set_option maxRecDepth 100000 in
set_option maxHeartbeats 16000000 in
theorem rint_s (s : List UInt8) (hl : s.length ≤ 1048576) (w : World) : Calls Tryd.prog 12 #[.string ⟨s.toArray⟩] w (GivRI w (riR s)) := by
  have o1 := heap_alloc_new w (.cells #[.string ⟨#[]⟩, .int .i64 0, .string ⟨#[]⟩, .int .i64 0, .int .i64 0] 25)
  have HB := below_alloc w (.cells #[.string ⟨#[]⟩, .int .i64 0, .string ⟨#[]⟩, .int .i64 0, .int .i64 0] 25)
  have HS := Lib.hid (fun w => splits_s s hl w)
  have hmem := Lib.hid (sps_mem s [])
  have HP := Lib.hid (fun (p : Ist) (hp : FitI s p) => fit_parts hp)
  have HW := Lib.hid (fun (p : Ist) (n m : Nat) (P : PartI s p n m) => P.words)
  have hsl := sps_len s []
  obtain ⟨ws, hws⟩ : ∃ ws, sps [] s = ws := ⟨_, rfl⟩
  rw [hws] at HS hmem hsl
  have HW : Hid (∀ (p : Ist) (n m : Nat) (P : PartI s p n m), ws = [p.c, Lib.decDigits n, p.o, money p.v, Lib.decDigits m]) := Lib.hid fun p n m P => hws.symm.trans (HW.out p n m P)
  by_cases h5 : ws.length = 5
  · obtain ⟨a, b, c, d, e, rfl⟩ : ∃ a b c d e, ws = [a, b, c, d, e] := by
      match ws, h5 with
      | [a, b, c, d, e], _ => exact ⟨a, b, c, d, e, rfl⟩
    have la : a.length ≤ 1048576 := by have := hmem.out a (by simp); simp at this; omega
    have lb : b.length ≤ 1048576 := by have := hmem.out b (by simp); simp at this; omega
    have lc : c.length ≤ 1048576 := by have := hmem.out c (by simp); simp at this; omega
    have ld : d.length ≤ 1048576 := by have := hmem.out d (by simp); simp at this; omega
    have le : e.length ≤ 1048576 := by have := hmem.out e (by simp); simp at this; omega
    have HX : Hid (∀ p, FitI s p → (valR b).2 = true ∧ (valR e).2 = true ∧ readR d = (p.v, 0) ∧ p.ok = true ∧ p = ⟨a, (valR b).1, c, p.v, (valR e).1⟩) := Lib.hid fun p hp => by
      obtain ⟨n, m, P⟩ := HP.out p hp
      have ew := HW.out p n m P
      injection ew with e1 ew
      injection ew with e2 ew
      injection ew with e3 ew
      injection ew with e4 ew
      injection ew with e5 _
      have eb : valR b = ((n : Int), true) := by rw [e2]; exact dec_val (by have := P.n3; omega)
      have ee : valR e = ((m : Int), true) := by rw [e5]; exact dec_val (by have := P.m60; omega)
      have ed : readR d = (p.v, 0) := by rw [e4, read_ok P.v rfl]
      rw [eb, ee, ed]
      refine ⟨rfl, rfl, rfl, hp.1, ?_⟩
      simp only
      rw [e1, e3, ← P.k, ← P.a]
    have HY : Hid (∀ (k v x : Int), valR b = (k, true) → readR d = (v, 0) → valR e = (x, true) → (⟨a, k, c, v, x⟩ : Ist).ok = true → FitI s ⟨a, k, c, v, x⟩) := Lib.hid fun k v x h1 h2 h3 h4 => fit_of hws h1 h2 h3 h4
    have PB := Lib.hid (fun w => val_s b lb w)
    have PE := Lib.hid (fun w => val_s e le w)
    have PD := Lib.hid (fun w => readm_s d ld w)
    have e5' : ((([a, b, c, d, e] : List (List UInt8)).length : Int) != 5) = false := by simp
    clear hmem HP HW h5 lb ld le hsl hws
    generalize valR b = rb at *
    obtain ⟨x, ok1⟩ := rb
    generalize valR e = re at *
    obtain ⟨z, ok3⟩ := re
    simp only at HX PB PE
    go_enter Tryd.func12, Tryd.ntmps12
    go_wp2_with fail
    refine (HS.out _).mono ?_
    rintro _ w1 ⟨A, cap, rfl, ho, b1⟩
    obtain ⟨g, rfl, hg1, hcell⟩ := own_cellsS ho (by simp)
    have m0 : w1.cell? ⟨g, 0, none⟩ = some (.string ⟨a.toArray⟩) := hcell 0 _ rfl
    have m1 : w1.cell? ⟨g, 1, none⟩ = some (.string ⟨b.toArray⟩) := hcell 1 _ rfl
    have m2 : w1.cell? ⟨g, 2, none⟩ = some (.string ⟨c.toArray⟩) := hcell 2 _ rfl
    have m3 : w1.cell? ⟨g, 3, none⟩ = some (.string ⟨d.toArray⟩) := hcell 3 _ rfl
    have m4 : w1.cell? ⟨g, 4, none⟩ = some (.string ⟨e.toArray⟩) := hcell 4 _ rfl
    have o2 := keep5 b1 o1
    have t1 := b1
    clear hcell ho b1 o1 HS
    go_wp2_with fail
    refine (PB.out _).mono ?_
    rintro _ w2 ⟨rfl, b2⟩
    have k0 := (b2.cell (p := ⟨g, 0, none⟩) hg1).trans m0
    have k2 := (b2.cell (p := ⟨g, 2, none⟩) hg1).trans m2
    have k3 := (b2.cell (p := ⟨g, 3, none⟩) hg1).trans m3
    have k4 := (b2.cell (p := ⟨g, 4, none⟩) hg1).trans m4
    have o3 := keep5 b2 o2
    have t2 := belowGo t1 b2
    have hg2 := Nat.lt_of_lt_of_le hg1 b2.size
    clear m0 m1 m2 m3 m4 o2 b2 t1 hg1
    go_wp2_with fail
    refine (PD.out _).mono ?_
    rintro _ w3 ⟨v, ok2, rfl, b3, hd⟩
    have m0 := (b3.cell (p := ⟨g, 0, none⟩) hg2).trans k0
    have m2 := (b3.cell (p := ⟨g, 2, none⟩) hg2).trans k2
    have m4 := (b3.cell (p := ⟨g, 4, none⟩) hg2).trans k4
    have o4 := keep5 b3 o3
    have t3 := belowGo t2 b3
    have hg3 := Nat.lt_of_lt_of_le hg2 b3.size
    replace hd := Lib.hid hd
    clear k0 k2 k3 k4 o3 b3 t2 hg2
    go_wp2_with fail
    refine (PE.out _).mono ?_
    rintro _ wq ⟨rfl, b4⟩
    have n0 := (b4.cell (p := ⟨g, 0, none⟩) hg3).trans m0
    have n2 := (b4.cell (p := ⟨g, 2, none⟩) hg3).trans m2
    have o5 := keep5 b4 o4
    have t5 := belowGo t3 b4
    have hg := Nat.lt_of_lt_of_le hg3 b4.size
    clear m0 m2 m4 o4 b4 t3 hg3 PB PD PE
    obtain ⟨xok, hxok⟩ : ∃ b, (⟨a, x, c, v, z⟩ : Ist).ok = b := ⟨_, rfl⟩
    have HV : Hid (∀ w, Calls Tryd.prog 22 #[.agg #[.string ⟨a.toArray⟩, .int .i64 x, .string ⟨c.toArray⟩, .int .i64 v, .int .i64 z]] w (Gives w (.bool xok))) := Lib.hid fun w => by
      have := ivalid_s ⟨a, x, c, v, z⟩ w (by show a.length ≤ _; omega) (by show c.length ≤ _; omega)
      rw [hxok] at this; exact this
    have hok : Hid (ok1 = true ∧ ok2 = true ∧ ok3 = true ∧ xok = true → riR s = (⟨a, x, c, v, z⟩, 0)) := Lib.hid fun ⟨h1, h2, h3, h4⟩ => by
      subst h1 h2 h3
      rcases hd.out with ⟨_, hd⟩ | ⟨h, _⟩
      · exact riR_ok (HY.out x v z rfl hd rfl (hxok.trans h4))
      · cases h
    have hno : Hid (¬ (ok1 = true ∧ ok2 = true ∧ ok3 = true ∧ xok = true) → riR s = (zeroI, 6)) := Lib.hid fun hn => riR_no fun ⟨p, hp⟩ => hn (by
      obtain ⟨h1, h3, h2, h4, h5⟩ := HX.out p hp
      have ev : ok2 = true ∧ p.v = v := by
        rcases hd.out with ⟨g1, g2⟩ | ⟨g1, g2⟩
        · rw [h2] at g2; exact ⟨g1, (Prod.mk.inj g2).1⟩
        · rw [h2] at g2; exact absurd (Prod.mk.inj g2).2 (by decide)
      refine ⟨h1, ev.1, h3, ?_⟩
      rw [← hxok, ← ev.2, ← h5]; exact h4)
    clear HX HY hxok hd la lc
    generalize riR s = r at *
    go_wp2_with fail
    refine region_inv (by kernel_rfl) (by kernel_rfl) (fun d' a' W => ∃ us, a' = frRs us ∧ InvRs (.string ⟨s.toArray⟩) (.pointer (some ⟨w.heap.size, 0, none⟩)) (.bool ok1) (.bool ok2) (.bool ok3) g cap a c x v z wq d' us W) ?_ ?_ ?_
    · refine ⟨_, frRs_of, ?_⟩
      have Z : ∀ k, (Array.replicate 12 false).getD k false = false := fun k => by
        rcases Nat.lt_or_ge k 12 with h | h
        · simp [h]
        · simp [Array.getElem?_eq_none, h]
      have Zn : ∀ {k : Nat} {p : Prop}, (Array.replicate 12 false).getD k false = true → p := fun {k p} h => by rw [Z k] at h; cases h
      exact { u0 := rfl, u2 := rfl, u4 := rfl, u5 := rfl, u6 := rfl, u7 := rfl, u8 := rfl, u9 := rfl, u10 := rfl, bel := (Below.refl _ _).drew, o0 := Zn, o1 := Zn, o2 := Zn, o3 := Zn, o4 := Zn, o5 := Zn, o6 := Zn, o7 := Zn, o8 := Zn, o9 := Zn, o10 := Zn, o11 := Zn }
    · intro i d' a' W hi hI
      obtain ⟨hun, oi, hoi, hall⟩ := mem_ready.1 hi
      have hlt : i < 12 := (Array.getElem?_eq_some_iff.1 hoi).1
      obtain ⟨us, rfl, I⟩ := hI
      have hsz : wq.heap.size ≤ W.heap.size := I.bel.size
      have e0 := I.u0
      have e2 := I.u2
      have e4 := I.u4
      have e5 := I.u5
      have e6 := I.u6
      have e7 := I.u7
      have e8 := I.u8
      have e9 := I.u9
      have e10 := I.u10
      have m0 := (I.bel.cell (p := ⟨g, 0, none⟩) hg).trans n0
      have m2 := (I.bel.cell (p := ⟨g, 2, none⟩) hg).trans n2
      rcases (by omega : i = 0 ∨ i = 1 ∨ i = 2 ∨ i = 3 ∨ i = 4 ∨ i = 5 ∨ i = 6 ∨ i = 7 ∨ i = 8 ∨ i = 9 ∨ i = 10 ∨ i = 11) with rfl | rfl | rfl | rfl | rfl | rfl | rfl | rfl | rfl | rfl | rfl | rfl
      all_goals
        obtain rfl := Option.some.inj hoi
        clear hoi hlt hi
      · skip
        have D0 : (d'.setIfInBounds 0 true).getD 0 false = true := setB_same hun
        have D1 : (d'.setIfInBounds 0 true).getD 1 false = d'.getD 1 false := getD_set_ne false (by decide)
        have D2 : (d'.setIfInBounds 0 true).getD 2 false = d'.getD 2 false := getD_set_ne false (by decide)
        have D3 : (d'.setIfInBounds 0 true).getD 3 false = d'.getD 3 false := getD_set_ne false (by decide)
        have D4 : (d'.setIfInBounds 0 true).getD 4 false = d'.getD 4 false := getD_set_ne false (by decide)
        have D5 : (d'.setIfInBounds 0 true).getD 5 false = d'.getD 5 false := getD_set_ne false (by decide)
        have D6 : (d'.setIfInBounds 0 true).getD 6 false = d'.getD 6 false := getD_set_ne false (by decide)
        have D7 : (d'.setIfInBounds 0 true).getD 7 false = d'.getD 7 false := getD_set_ne false (by decide)
        have D8 : (d'.setIfInBounds 0 true).getD 8 false = d'.getD 8 false := getD_set_ne false (by decide)
        have D9 : (d'.setIfInBounds 0 true).getD 9 false = d'.getD 9 false := getD_set_ne false (by decide)
        have D10 : (d'.setIfInBounds 0 true).getD 10 false = d'.getD 10 false := getD_set_ne false (by decide)
        have D11 : (d'.setIfInBounds 0 true).getD 11 false = d'.getD 11 false := getD_set_ne false (by decide)
        have U0 : updB us 39 (.slice (some ⟨g, 0, none⟩) 5 cap) 0 = us 0 := updB_other (by decide)
        have U2 : updB us 39 (.slice (some ⟨g, 0, none⟩) 5 cap) 2 = us 2 := updB_other (by decide)
        have U4 : updB us 39 (.slice (some ⟨g, 0, none⟩) 5 cap) 4 = us 4 := updB_other (by decide)
        have U5 : updB us 39 (.slice (some ⟨g, 0, none⟩) 5 cap) 5 = us 5 := updB_other (by decide)
        have U6 : updB us 39 (.slice (some ⟨g, 0, none⟩) 5 cap) 6 = us 6 := updB_other (by decide)
        have U7 : updB us 39 (.slice (some ⟨g, 0, none⟩) 5 cap) 7 = us 7 := updB_other (by decide)
        have U8 : updB us 39 (.slice (some ⟨g, 0, none⟩) 5 cap) 8 = us 8 := updB_other (by decide)
        have U9 : updB us 39 (.slice (some ⟨g, 0, none⟩) 5 cap) 9 = us 9 := updB_other (by decide)
        have U10 : updB us 39 (.slice (some ⟨g, 0, none⟩) 5 cap) 10 = us 10 := updB_other (by decide)
        have U11 : updB us 39 (.slice (some ⟨g, 0, none⟩) 5 cap) 11 = us 11 := updB_other (by decide)
        have U39 : updB us 39 (.slice (some ⟨g, 0, none⟩) 5 cap) 39 = (.slice (some ⟨g, 0, none⟩) 5 cap) := updB_same _ _ _
        have U40 : updB us 39 (.slice (some ⟨g, 0, none⟩) 5 cap) 40 = us 40 := updB_other (by decide)
        have U41 : updB us 39 (.slice (some ⟨g, 0, none⟩) 5 cap) 41 = us 41 := updB_other (by decide)
        have U42 : updB us 39 (.slice (some ⟨g, 0, none⟩) 5 cap) 42 = us 42 := updB_other (by decide)
        have U43 : updB us 39 (.slice (some ⟨g, 0, none⟩) 5 cap) 43 = us 43 := updB_other (by decide)
        have U44 : updB us 39 (.slice (some ⟨g, 0, none⟩) 5 cap) 44 = us 44 := updB_other (by decide)
        have U45 : updB us 39 (.slice (some ⟨g, 0, none⟩) 5 cap) 45 = us 45 := updB_other (by decide)
        have U46 : updB us 39 (.slice (some ⟨g, 0, none⟩) 5 cap) 46 = us 46 := updB_other (by decide)
        have U47 : updB us 39 (.slice (some ⟨g, 0, none⟩) 5 cap) 47 = us 47 := updB_other (by decide)
        have U48 : updB us 39 (.slice (some ⟨g, 0, none⟩) 5 cap) 48 = us 48 := updB_other (by decide)
        refine wpOp_step rfl (fun K hK => ?_)
        simp only [frRs, e0, e2, e4, e5, e6, e7, e8, e9, e10]
        go_simp
        refine hK _ _ ⟨updB us 39 (.slice (some ⟨g, 0, none⟩) 5 cap), by simp [frRs, updB, e0, e2, e4, e5, e6, e7, e8, e9, e10], { u0 := (U0.trans I.u0), u2 := (U2.trans I.u2), u4 := (U4.trans I.u4), u5 := (U5.trans I.u5), u6 := (U6.trans I.u6), u7 := (U7.trans I.u7), u8 := (U8.trans I.u8), u9 := (U9.trans I.u9), u10 := (U10.trans I.u10), bel := (I.bel), o0 := (fun _ => U39), o1 := (fun h => U40.trans (I.o1 (D1.symm.trans h))), o2 := (fun h => U41.trans (I.o2 (D2.symm.trans h))), o3 := (fun h => U42.trans (I.o3 (D3.symm.trans h))), o4 := (fun h => U43.trans (I.o4 (D4.symm.trans h))), o5 := (fun h => U44.trans (I.o5 (D5.symm.trans h))), o6 := (fun h => U45.trans (I.o6 (D6.symm.trans h))), o7 := (fun h => U46.trans (I.o7 (D7.symm.trans h))), o8 := (fun h => U47.trans (I.o8 (D8.symm.trans h))), o9 := (fun h => U48.trans (I.o9 (D9.symm.trans h))), o10 := (fun h => by rw [U11, D11]; exact I.o10 (D10.symm.trans h)), o11 := (fun h => D10.trans (I.o11 (D11.symm.trans h))) }⟩
      · skip
        have D0 : (d'.setIfInBounds 1 true).getD 0 false = d'.getD 0 false := getD_set_ne false (by decide)
        have D1 : (d'.setIfInBounds 1 true).getD 1 false = true := setB_same hun
        have D2 : (d'.setIfInBounds 1 true).getD 2 false = d'.getD 2 false := getD_set_ne false (by decide)
        have D3 : (d'.setIfInBounds 1 true).getD 3 false = d'.getD 3 false := getD_set_ne false (by decide)
        have D4 : (d'.setIfInBounds 1 true).getD 4 false = d'.getD 4 false := getD_set_ne false (by decide)
        have D5 : (d'.setIfInBounds 1 true).getD 5 false = d'.getD 5 false := getD_set_ne false (by decide)
        have D6 : (d'.setIfInBounds 1 true).getD 6 false = d'.getD 6 false := getD_set_ne false (by decide)
        have D7 : (d'.setIfInBounds 1 true).getD 7 false = d'.getD 7 false := getD_set_ne false (by decide)
        have D8 : (d'.setIfInBounds 1 true).getD 8 false = d'.getD 8 false := getD_set_ne false (by decide)
        have D9 : (d'.setIfInBounds 1 true).getD 9 false = d'.getD 9 false := getD_set_ne false (by decide)
        have D10 : (d'.setIfInBounds 1 true).getD 10 false = d'.getD 10 false := getD_set_ne false (by decide)
        have D11 : (d'.setIfInBounds 1 true).getD 11 false = d'.getD 11 false := getD_set_ne false (by decide)
        have e39 := I.o0 (hall ⟨0, .data⟩ (by simp) rfl)
        have U0 : updB us 40 (.pointer (some ⟨g, 0, none⟩)) 0 = us 0 := updB_other (by decide)
        have U2 : updB us 40 (.pointer (some ⟨g, 0, none⟩)) 2 = us 2 := updB_other (by decide)
        have U4 : updB us 40 (.pointer (some ⟨g, 0, none⟩)) 4 = us 4 := updB_other (by decide)
        have U5 : updB us 40 (.pointer (some ⟨g, 0, none⟩)) 5 = us 5 := updB_other (by decide)
        have U6 : updB us 40 (.pointer (some ⟨g, 0, none⟩)) 6 = us 6 := updB_other (by decide)
        have U7 : updB us 40 (.pointer (some ⟨g, 0, none⟩)) 7 = us 7 := updB_other (by decide)
        have U8 : updB us 40 (.pointer (some ⟨g, 0, none⟩)) 8 = us 8 := updB_other (by decide)
        have U9 : updB us 40 (.pointer (some ⟨g, 0, none⟩)) 9 = us 9 := updB_other (by decide)
        have U10 : updB us 40 (.pointer (some ⟨g, 0, none⟩)) 10 = us 10 := updB_other (by decide)
        have U11 : updB us 40 (.pointer (some ⟨g, 0, none⟩)) 11 = us 11 := updB_other (by decide)
        have U39 : updB us 40 (.pointer (some ⟨g, 0, none⟩)) 39 = us 39 := updB_other (by decide)
        have U40 : updB us 40 (.pointer (some ⟨g, 0, none⟩)) 40 = (.pointer (some ⟨g, 0, none⟩)) := updB_same _ _ _
        have U41 : updB us 40 (.pointer (some ⟨g, 0, none⟩)) 41 = us 41 := updB_other (by decide)
        have U42 : updB us 40 (.pointer (some ⟨g, 0, none⟩)) 42 = us 42 := updB_other (by decide)
        have U43 : updB us 40 (.pointer (some ⟨g, 0, none⟩)) 43 = us 43 := updB_other (by decide)
        have U44 : updB us 40 (.pointer (some ⟨g, 0, none⟩)) 44 = us 44 := updB_other (by decide)
        have U45 : updB us 40 (.pointer (some ⟨g, 0, none⟩)) 45 = us 45 := updB_other (by decide)
        have U46 : updB us 40 (.pointer (some ⟨g, 0, none⟩)) 46 = us 46 := updB_other (by decide)
        have U47 : updB us 40 (.pointer (some ⟨g, 0, none⟩)) 47 = us 47 := updB_other (by decide)
        have U48 : updB us 40 (.pointer (some ⟨g, 0, none⟩)) 48 = us 48 := updB_other (by decide)
        refine wpOp_step rfl (fun K hK => ?_)
        simp only [frRs, e0, e2, e4, e5, e6, e7, e8, e9, e10, e39]
        go_simp
        refine hK _ _ ⟨updB us 40 (.pointer (some ⟨g, 0, none⟩)), by simp [frRs, updB, e0, e2, e4, e5, e6, e7, e8, e9, e10, e39], { u0 := (U0.trans I.u0), u2 := (U2.trans I.u2), u4 := (U4.trans I.u4), u5 := (U5.trans I.u5), u6 := (U6.trans I.u6), u7 := (U7.trans I.u7), u8 := (U8.trans I.u8), u9 := (U9.trans I.u9), u10 := (U10.trans I.u10), bel := (I.bel), o0 := (fun h => U39.trans (I.o0 (D0.symm.trans h))), o1 := (fun _ => U40), o2 := (fun h => U41.trans (I.o2 (D2.symm.trans h))), o3 := (fun h => U42.trans (I.o3 (D3.symm.trans h))), o4 := (fun h => U43.trans (I.o4 (D4.symm.trans h))), o5 := (fun h => U44.trans (I.o5 (D5.symm.trans h))), o6 := (fun h => U45.trans (I.o6 (D6.symm.trans h))), o7 := (fun h => U46.trans (I.o7 (D7.symm.trans h))), o8 := (fun h => U47.trans (I.o8 (D8.symm.trans h))), o9 := (fun h => U48.trans (I.o9 (D9.symm.trans h))), o10 := (fun h => by rw [U11, D11]; exact I.o10 (D10.symm.trans h)), o11 := (fun h => D10.trans (I.o11 (D11.symm.trans h))) }⟩
      · skip
        have D0 : (d'.setIfInBounds 2 true).getD 0 false = d'.getD 0 false := getD_set_ne false (by decide)
        have D1 : (d'.setIfInBounds 2 true).getD 1 false = d'.getD 1 false := getD_set_ne false (by decide)
        have D2 : (d'.setIfInBounds 2 true).getD 2 false = true := setB_same hun
        have D3 : (d'.setIfInBounds 2 true).getD 3 false = d'.getD 3 false := getD_set_ne false (by decide)
        have D4 : (d'.setIfInBounds 2 true).getD 4 false = d'.getD 4 false := getD_set_ne false (by decide)
        have D5 : (d'.setIfInBounds 2 true).getD 5 false = d'.getD 5 false := getD_set_ne false (by decide)
        have D6 : (d'.setIfInBounds 2 true).getD 6 false = d'.getD 6 false := getD_set_ne false (by decide)
        have D7 : (d'.setIfInBounds 2 true).getD 7 false = d'.getD 7 false := getD_set_ne false (by decide)
        have D8 : (d'.setIfInBounds 2 true).getD 8 false = d'.getD 8 false := getD_set_ne false (by decide)
        have D9 : (d'.setIfInBounds 2 true).getD 9 false = d'.getD 9 false := getD_set_ne false (by decide)
        have D10 : (d'.setIfInBounds 2 true).getD 10 false = d'.getD 10 false := getD_set_ne false (by decide)
        have D11 : (d'.setIfInBounds 2 true).getD 11 false = d'.getD 11 false := getD_set_ne false (by decide)
        have e40 := I.o1 (hall ⟨1, .data⟩ (by simp) rfl)
        have U0 : updB us 41 (.string ⟨a.toArray⟩) 0 = us 0 := updB_other (by decide)
        have U2 : updB us 41 (.string ⟨a.toArray⟩) 2 = us 2 := updB_other (by decide)
        have U4 : updB us 41 (.string ⟨a.toArray⟩) 4 = us 4 := updB_other (by decide)
        have U5 : updB us 41 (.string ⟨a.toArray⟩) 5 = us 5 := updB_other (by decide)
        have U6 : updB us 41 (.string ⟨a.toArray⟩) 6 = us 6 := updB_other (by decide)
        have U7 : updB us 41 (.string ⟨a.toArray⟩) 7 = us 7 := updB_other (by decide)
        have U8 : updB us 41 (.string ⟨a.toArray⟩) 8 = us 8 := updB_other (by decide)
        have U9 : updB us 41 (.string ⟨a.toArray⟩) 9 = us 9 := updB_other (by decide)
        have U10 : updB us 41 (.string ⟨a.toArray⟩) 10 = us 10 := updB_other (by decide)
        have U11 : updB us 41 (.string ⟨a.toArray⟩) 11 = us 11 := updB_other (by decide)
        have U39 : updB us 41 (.string ⟨a.toArray⟩) 39 = us 39 := updB_other (by decide)
        have U40 : updB us 41 (.string ⟨a.toArray⟩) 40 = us 40 := updB_other (by decide)
        have U41 : updB us 41 (.string ⟨a.toArray⟩) 41 = (.string ⟨a.toArray⟩) := updB_same _ _ _
        have U42 : updB us 41 (.string ⟨a.toArray⟩) 42 = us 42 := updB_other (by decide)
        have U43 : updB us 41 (.string ⟨a.toArray⟩) 43 = us 43 := updB_other (by decide)
        have U44 : updB us 41 (.string ⟨a.toArray⟩) 44 = us 44 := updB_other (by decide)
        have U45 : updB us 41 (.string ⟨a.toArray⟩) 45 = us 45 := updB_other (by decide)
        have U46 : updB us 41 (.string ⟨a.toArray⟩) 46 = us 46 := updB_other (by decide)
        have U47 : updB us 41 (.string ⟨a.toArray⟩) 47 = us 47 := updB_other (by decide)
        have U48 : updB us 41 (.string ⟨a.toArray⟩) 48 = us 48 := updB_other (by decide)
        refine wpOp_step rfl (fun K hK => ?_)
        simp only [frRs, e0, e2, e4, e5, e6, e7, e8, e9, e10, e40]
        go_simp
        refine hK _ _ ⟨updB us 41 (.string ⟨a.toArray⟩), by simp [frRs, updB, e0, e2, e4, e5, e6, e7, e8, e9, e10, e40], { u0 := (U0.trans I.u0), u2 := (U2.trans I.u2), u4 := (U4.trans I.u4), u5 := (U5.trans I.u5), u6 := (U6.trans I.u6), u7 := (U7.trans I.u7), u8 := (U8.trans I.u8), u9 := (U9.trans I.u9), u10 := (U10.trans I.u10), bel := (I.bel), o0 := (fun h => U39.trans (I.o0 (D0.symm.trans h))), o1 := (fun h => U40.trans (I.o1 (D1.symm.trans h))), o2 := (fun _ => U41), o3 := (fun h => U42.trans (I.o3 (D3.symm.trans h))), o4 := (fun h => U43.trans (I.o4 (D4.symm.trans h))), o5 := (fun h => U44.trans (I.o5 (D5.symm.trans h))), o6 := (fun h => U45.trans (I.o6 (D6.symm.trans h))), o7 := (fun h => U46.trans (I.o7 (D7.symm.trans h))), o8 := (fun h => U47.trans (I.o8 (D8.symm.trans h))), o9 := (fun h => U48.trans (I.o9 (D9.symm.trans h))), o10 := (fun h => by rw [U11, D11]; exact I.o10 (D10.symm.trans h)), o11 := (fun h => D10.trans (I.o11 (D11.symm.trans h))) }⟩
      · skip
        have D0 : (d'.setIfInBounds 3 true).getD 0 false = d'.getD 0 false := getD_set_ne false (by decide)
        have D1 : (d'.setIfInBounds 3 true).getD 1 false = d'.getD 1 false := getD_set_ne false (by decide)
        have D2 : (d'.setIfInBounds 3 true).getD 2 false = d'.getD 2 false := getD_set_ne false (by decide)
        have D3 : (d'.setIfInBounds 3 true).getD 3 false = true := setB_same hun
        have D4 : (d'.setIfInBounds 3 true).getD 4 false = d'.getD 4 false := getD_set_ne false (by decide)
        have D5 : (d'.setIfInBounds 3 true).getD 5 false = d'.getD 5 false := getD_set_ne false (by decide)
        have D6 : (d'.setIfInBounds 3 true).getD 6 false = d'.getD 6 false := getD_set_ne false (by decide)
        have D7 : (d'.setIfInBounds 3 true).getD 7 false = d'.getD 7 false := getD_set_ne false (by decide)
        have D8 : (d'.setIfInBounds 3 true).getD 8 false = d'.getD 8 false := getD_set_ne false (by decide)
        have D9 : (d'.setIfInBounds 3 true).getD 9 false = d'.getD 9 false := getD_set_ne false (by decide)
        have D10 : (d'.setIfInBounds 3 true).getD 10 false = d'.getD 10 false := getD_set_ne false (by decide)
        have D11 : (d'.setIfInBounds 3 true).getD 11 false = d'.getD 11 false := getD_set_ne false (by decide)
        have U0 : updB us 42 (.int .i64 x) 0 = us 0 := updB_other (by decide)
        have U2 : updB us 42 (.int .i64 x) 2 = us 2 := updB_other (by decide)
        have U4 : updB us 42 (.int .i64 x) 4 = us 4 := updB_other (by decide)
        have U5 : updB us 42 (.int .i64 x) 5 = us 5 := updB_other (by decide)
        have U6 : updB us 42 (.int .i64 x) 6 = us 6 := updB_other (by decide)
        have U7 : updB us 42 (.int .i64 x) 7 = us 7 := updB_other (by decide)
        have U8 : updB us 42 (.int .i64 x) 8 = us 8 := updB_other (by decide)
        have U9 : updB us 42 (.int .i64 x) 9 = us 9 := updB_other (by decide)
        have U10 : updB us 42 (.int .i64 x) 10 = us 10 := updB_other (by decide)
        have U11 : updB us 42 (.int .i64 x) 11 = us 11 := updB_other (by decide)
        have U39 : updB us 42 (.int .i64 x) 39 = us 39 := updB_other (by decide)
        have U40 : updB us 42 (.int .i64 x) 40 = us 40 := updB_other (by decide)
        have U41 : updB us 42 (.int .i64 x) 41 = us 41 := updB_other (by decide)
        have U42 : updB us 42 (.int .i64 x) 42 = (.int .i64 x) := updB_same _ _ _
        have U43 : updB us 42 (.int .i64 x) 43 = us 43 := updB_other (by decide)
        have U44 : updB us 42 (.int .i64 x) 44 = us 44 := updB_other (by decide)
        have U45 : updB us 42 (.int .i64 x) 45 = us 45 := updB_other (by decide)
        have U46 : updB us 42 (.int .i64 x) 46 = us 46 := updB_other (by decide)
        have U47 : updB us 42 (.int .i64 x) 47 = us 47 := updB_other (by decide)
        have U48 : updB us 42 (.int .i64 x) 48 = us 48 := updB_other (by decide)
        refine wpOp_step rfl (fun K hK => ?_)
        simp only [frRs, e0, e2, e4, e5, e6, e7, e8, e9, e10]
        go_simp
        refine hK _ _ ⟨updB us 42 (.int .i64 x), by simp [frRs, updB, e0, e2, e4, e5, e6, e7, e8, e9, e10], { u0 := (U0.trans I.u0), u2 := (U2.trans I.u2), u4 := (U4.trans I.u4), u5 := (U5.trans I.u5), u6 := (U6.trans I.u6), u7 := (U7.trans I.u7), u8 := (U8.trans I.u8), u9 := (U9.trans I.u9), u10 := (U10.trans I.u10), bel := (I.bel), o0 := (fun h => U39.trans (I.o0 (D0.symm.trans h))), o1 := (fun h => U40.trans (I.o1 (D1.symm.trans h))), o2 := (fun h => U41.trans (I.o2 (D2.symm.trans h))), o3 := (fun _ => U42), o4 := (fun h => U43.trans (I.o4 (D4.symm.trans h))), o5 := (fun h => U44.trans (I.o5 (D5.symm.trans h))), o6 := (fun h => U45.trans (I.o6 (D6.symm.trans h))), o7 := (fun h => U46.trans (I.o7 (D7.symm.trans h))), o8 := (fun h => U47.trans (I.o8 (D8.symm.trans h))), o9 := (fun h => U48.trans (I.o9 (D9.symm.trans h))), o10 := (fun h => by rw [U11, D11]; exact I.o10 (D10.symm.trans h)), o11 := (fun h => D10.trans (I.o11 (D11.symm.trans h))) }⟩
      · skip
        have D0 : (d'.setIfInBounds 4 true).getD 0 false = d'.getD 0 false := getD_set_ne false (by decide)
        have D1 : (d'.setIfInBounds 4 true).getD 1 false = d'.getD 1 false := getD_set_ne false (by decide)
        have D2 : (d'.setIfInBounds 4 true).getD 2 false = d'.getD 2 false := getD_set_ne false (by decide)
        have D3 : (d'.setIfInBounds 4 true).getD 3 false = d'.getD 3 false := getD_set_ne false (by decide)
        have D4 : (d'.setIfInBounds 4 true).getD 4 false = true := setB_same hun
        have D5 : (d'.setIfInBounds 4 true).getD 5 false = d'.getD 5 false := getD_set_ne false (by decide)
        have D6 : (d'.setIfInBounds 4 true).getD 6 false = d'.getD 6 false := getD_set_ne false (by decide)
        have D7 : (d'.setIfInBounds 4 true).getD 7 false = d'.getD 7 false := getD_set_ne false (by decide)
        have D8 : (d'.setIfInBounds 4 true).getD 8 false = d'.getD 8 false := getD_set_ne false (by decide)
        have D9 : (d'.setIfInBounds 4 true).getD 9 false = d'.getD 9 false := getD_set_ne false (by decide)
        have D10 : (d'.setIfInBounds 4 true).getD 10 false = d'.getD 10 false := getD_set_ne false (by decide)
        have D11 : (d'.setIfInBounds 4 true).getD 11 false = d'.getD 11 false := getD_set_ne false (by decide)
        have U0 : updB us 43 (.slice (some ⟨g, 0, none⟩) 5 cap) 0 = us 0 := updB_other (by decide)
        have U2 : updB us 43 (.slice (some ⟨g, 0, none⟩) 5 cap) 2 = us 2 := updB_other (by decide)
        have U4 : updB us 43 (.slice (some ⟨g, 0, none⟩) 5 cap) 4 = us 4 := updB_other (by decide)
        have U5 : updB us 43 (.slice (some ⟨g, 0, none⟩) 5 cap) 5 = us 5 := updB_other (by decide)
        have U6 : updB us 43 (.slice (some ⟨g, 0, none⟩) 5 cap) 6 = us 6 := updB_other (by decide)
        have U7 : updB us 43 (.slice (some ⟨g, 0, none⟩) 5 cap) 7 = us 7 := updB_other (by decide)
        have U8 : updB us 43 (.slice (some ⟨g, 0, none⟩) 5 cap) 8 = us 8 := updB_other (by decide)
        have U9 : updB us 43 (.slice (some ⟨g, 0, none⟩) 5 cap) 9 = us 9 := updB_other (by decide)
        have U10 : updB us 43 (.slice (some ⟨g, 0, none⟩) 5 cap) 10 = us 10 := updB_other (by decide)
        have U11 : updB us 43 (.slice (some ⟨g, 0, none⟩) 5 cap) 11 = us 11 := updB_other (by decide)
        have U39 : updB us 43 (.slice (some ⟨g, 0, none⟩) 5 cap) 39 = us 39 := updB_other (by decide)
        have U40 : updB us 43 (.slice (some ⟨g, 0, none⟩) 5 cap) 40 = us 40 := updB_other (by decide)
        have U41 : updB us 43 (.slice (some ⟨g, 0, none⟩) 5 cap) 41 = us 41 := updB_other (by decide)
        have U42 : updB us 43 (.slice (some ⟨g, 0, none⟩) 5 cap) 42 = us 42 := updB_other (by decide)
        have U43 : updB us 43 (.slice (some ⟨g, 0, none⟩) 5 cap) 43 = (.slice (some ⟨g, 0, none⟩) 5 cap) := updB_same _ _ _
        have U44 : updB us 43 (.slice (some ⟨g, 0, none⟩) 5 cap) 44 = us 44 := updB_other (by decide)
        have U45 : updB us 43 (.slice (some ⟨g, 0, none⟩) 5 cap) 45 = us 45 := updB_other (by decide)
        have U46 : updB us 43 (.slice (some ⟨g, 0, none⟩) 5 cap) 46 = us 46 := updB_other (by decide)
        have U47 : updB us 43 (.slice (some ⟨g, 0, none⟩) 5 cap) 47 = us 47 := updB_other (by decide)
        have U48 : updB us 43 (.slice (some ⟨g, 0, none⟩) 5 cap) 48 = us 48 := updB_other (by decide)
        refine wpOp_step rfl (fun K hK => ?_)
        simp only [frRs, e0, e2, e4, e5, e6, e7, e8, e9, e10]
        go_simp
        refine hK _ _ ⟨updB us 43 (.slice (some ⟨g, 0, none⟩) 5 cap), by simp [frRs, updB, e0, e2, e4, e5, e6, e7, e8, e9, e10], { u0 := (U0.trans I.u0), u2 := (U2.trans I.u2), u4 := (U4.trans I.u4), u5 := (U5.trans I.u5), u6 := (U6.trans I.u6), u7 := (U7.trans I.u7), u8 := (U8.trans I.u8), u9 := (U9.trans I.u9), u10 := (U10.trans I.u10), bel := (I.bel), o0 := (fun h => U39.trans (I.o0 (D0.symm.trans h))), o1 := (fun h => U40.trans (I.o1 (D1.symm.trans h))), o2 := (fun h => U41.trans (I.o2 (D2.symm.trans h))), o3 := (fun h => U42.trans (I.o3 (D3.symm.trans h))), o4 := (fun _ => U43), o5 := (fun h => U44.trans (I.o5 (D5.symm.trans h))), o6 := (fun h => U45.trans (I.o6 (D6.symm.trans h))), o7 := (fun h => U46.trans (I.o7 (D7.symm.trans h))), o8 := (fun h => U47.trans (I.o8 (D8.symm.trans h))), o9 := (fun h => U48.trans (I.o9 (D9.symm.trans h))), o10 := (fun h => by rw [U11, D11]; exact I.o10 (D10.symm.trans h)), o11 := (fun h => D10.trans (I.o11 (D11.symm.trans h))) }⟩
      · skip
        have D0 : (d'.setIfInBounds 5 true).getD 0 false = d'.getD 0 false := getD_set_ne false (by decide)
        have D1 : (d'.setIfInBounds 5 true).getD 1 false = d'.getD 1 false := getD_set_ne false (by decide)
        have D2 : (d'.setIfInBounds 5 true).getD 2 false = d'.getD 2 false := getD_set_ne false (by decide)
        have D3 : (d'.setIfInBounds 5 true).getD 3 false = d'.getD 3 false := getD_set_ne false (by decide)
        have D4 : (d'.setIfInBounds 5 true).getD 4 false = d'.getD 4 false := getD_set_ne false (by decide)
        have D5 : (d'.setIfInBounds 5 true).getD 5 false = true := setB_same hun
        have D6 : (d'.setIfInBounds 5 true).getD 6 false = d'.getD 6 false := getD_set_ne false (by decide)
        have D7 : (d'.setIfInBounds 5 true).getD 7 false = d'.getD 7 false := getD_set_ne false (by decide)
        have D8 : (d'.setIfInBounds 5 true).getD 8 false = d'.getD 8 false := getD_set_ne false (by decide)
        have D9 : (d'.setIfInBounds 5 true).getD 9 false = d'.getD 9 false := getD_set_ne false (by decide)
        have D10 : (d'.setIfInBounds 5 true).getD 10 false = d'.getD 10 false := getD_set_ne false (by decide)
        have D11 : (d'.setIfInBounds 5 true).getD 11 false = d'.getD 11 false := getD_set_ne false (by decide)
        have e43 := I.o4 (hall ⟨4, .data⟩ (by simp) rfl)
        have U0 : updB us 44 (.pointer (some ⟨g, 2, none⟩)) 0 = us 0 := updB_other (by decide)
        have U2 : updB us 44 (.pointer (some ⟨g, 2, none⟩)) 2 = us 2 := updB_other (by decide)
        have U4 : updB us 44 (.pointer (some ⟨g, 2, none⟩)) 4 = us 4 := updB_other (by decide)
        have U5 : updB us 44 (.pointer (some ⟨g, 2, none⟩)) 5 = us 5 := updB_other (by decide)
        have U6 : updB us 44 (.pointer (some ⟨g, 2, none⟩)) 6 = us 6 := updB_other (by decide)
        have U7 : updB us 44 (.pointer (some ⟨g, 2, none⟩)) 7 = us 7 := updB_other (by decide)
        have U8 : updB us 44 (.pointer (some ⟨g, 2, none⟩)) 8 = us 8 := updB_other (by decide)
        have U9 : updB us 44 (.pointer (some ⟨g, 2, none⟩)) 9 = us 9 := updB_other (by decide)
        have U10 : updB us 44 (.pointer (some ⟨g, 2, none⟩)) 10 = us 10 := updB_other (by decide)
        have U11 : updB us 44 (.pointer (some ⟨g, 2, none⟩)) 11 = us 11 := updB_other (by decide)
        have U39 : updB us 44 (.pointer (some ⟨g, 2, none⟩)) 39 = us 39 := updB_other (by decide)
        have U40 : updB us 44 (.pointer (some ⟨g, 2, none⟩)) 40 = us 40 := updB_other (by decide)
        have U41 : updB us 44 (.pointer (some ⟨g, 2, none⟩)) 41 = us 41 := updB_other (by decide)
        have U42 : updB us 44 (.pointer (some ⟨g, 2, none⟩)) 42 = us 42 := updB_other (by decide)
        have U43 : updB us 44 (.pointer (some ⟨g, 2, none⟩)) 43 = us 43 := updB_other (by decide)
        have U44 : updB us 44 (.pointer (some ⟨g, 2, none⟩)) 44 = (.pointer (some ⟨g, 2, none⟩)) := updB_same _ _ _
        have U45 : updB us 44 (.pointer (some ⟨g, 2, none⟩)) 45 = us 45 := updB_other (by decide)
        have U46 : updB us 44 (.pointer (some ⟨g, 2, none⟩)) 46 = us 46 := updB_other (by decide)
        have U47 : updB us 44 (.pointer (some ⟨g, 2, none⟩)) 47 = us 47 := updB_other (by decide)
        have U48 : updB us 44 (.pointer (some ⟨g, 2, none⟩)) 48 = us 48 := updB_other (by decide)
        refine wpOp_step rfl (fun K hK => ?_)
        simp only [frRs, e0, e2, e4, e5, e6, e7, e8, e9, e10, e43]
        go_simp
        refine hK _ _ ⟨updB us 44 (.pointer (some ⟨g, 2, none⟩)), by simp [frRs, updB, e0, e2, e4, e5, e6, e7, e8, e9, e10, e43], { u0 := (U0.trans I.u0), u2 := (U2.trans I.u2), u4 := (U4.trans I.u4), u5 := (U5.trans I.u5), u6 := (U6.trans I.u6), u7 := (U7.trans I.u7), u8 := (U8.trans I.u8), u9 := (U9.trans I.u9), u10 := (U10.trans I.u10), bel := (I.bel), o0 := (fun h => U39.trans (I.o0 (D0.symm.trans h))), o1 := (fun h => U40.trans (I.o1 (D1.symm.trans h))), o2 := (fun h => U41.trans (I.o2 (D2.symm.trans h))), o3 := (fun h => U42.trans (I.o3 (D3.symm.trans h))), o4 := (fun h => U43.trans (I.o4 (D4.symm.trans h))), o5 := (fun _ => U44), o6 := (fun h => U45.trans (I.o6 (D6.symm.trans h))), o7 := (fun h => U46.trans (I.o7 (D7.symm.trans h))), o8 := (fun h => U47.trans (I.o8 (D8.symm.trans h))), o9 := (fun h => U48.trans (I.o9 (D9.symm.trans h))), o10 := (fun h => by rw [U11, D11]; exact I.o10 (D10.symm.trans h)), o11 := (fun h => D10.trans (I.o11 (D11.symm.trans h))) }⟩
      · skip
        have D0 : (d'.setIfInBounds 6 true).getD 0 false = d'.getD 0 false := getD_set_ne false (by decide)
        have D1 : (d'.setIfInBounds 6 true).getD 1 false = d'.getD 1 false := getD_set_ne false (by decide)
        have D2 : (d'.setIfInBounds 6 true).getD 2 false = d'.getD 2 false := getD_set_ne false (by decide)
        have D3 : (d'.setIfInBounds 6 true).getD 3 false = d'.getD 3 false := getD_set_ne false (by decide)
        have D4 : (d'.setIfInBounds 6 true).getD 4 false = d'.getD 4 false := getD_set_ne false (by decide)
        have D5 : (d'.setIfInBounds 6 true).getD 5 false = d'.getD 5 false := getD_set_ne false (by decide)
        have D6 : (d'.setIfInBounds 6 true).getD 6 false = true := setB_same hun
        have D7 : (d'.setIfInBounds 6 true).getD 7 false = d'.getD 7 false := getD_set_ne false (by decide)
        have D8 : (d'.setIfInBounds 6 true).getD 8 false = d'.getD 8 false := getD_set_ne false (by decide)
        have D9 : (d'.setIfInBounds 6 true).getD 9 false = d'.getD 9 false := getD_set_ne false (by decide)
        have D10 : (d'.setIfInBounds 6 true).getD 10 false = d'.getD 10 false := getD_set_ne false (by decide)
        have D11 : (d'.setIfInBounds 6 true).getD 11 false = d'.getD 11 false := getD_set_ne false (by decide)
        have e44 := I.o5 (hall ⟨5, .data⟩ (by simp) rfl)
        have U0 : updB us 45 (.string ⟨c.toArray⟩) 0 = us 0 := updB_other (by decide)
        have U2 : updB us 45 (.string ⟨c.toArray⟩) 2 = us 2 := updB_other (by decide)
        have U4 : updB us 45 (.string ⟨c.toArray⟩) 4 = us 4 := updB_other (by decide)
        have U5 : updB us 45 (.string ⟨c.toArray⟩) 5 = us 5 := updB_other (by decide)
        have U6 : updB us 45 (.string ⟨c.toArray⟩) 6 = us 6 := updB_other (by decide)
        have U7 : updB us 45 (.string ⟨c.toArray⟩) 7 = us 7 := updB_other (by decide)
        have U8 : updB us 45 (.string ⟨c.toArray⟩) 8 = us 8 := updB_other (by decide)
        have U9 : updB us 45 (.string ⟨c.toArray⟩) 9 = us 9 := updB_other (by decide)
        have U10 : updB us 45 (.string ⟨c.toArray⟩) 10 = us 10 := updB_other (by decide)
        have U11 : updB us 45 (.string ⟨c.toArray⟩) 11 = us 11 := updB_other (by decide)
        have U39 : updB us 45 (.string ⟨c.toArray⟩) 39 = us 39 := updB_other (by decide)
        have U40 : updB us 45 (.string ⟨c.toArray⟩) 40 = us 40 := updB_other (by decide)
        have U41 : updB us 45 (.string ⟨c.toArray⟩) 41 = us 41 := updB_other (by decide)
        have U42 : updB us 45 (.string ⟨c.toArray⟩) 42 = us 42 := updB_other (by decide)
        have U43 : updB us 45 (.string ⟨c.toArray⟩) 43 = us 43 := updB_other (by decide)
        have U44 : updB us 45 (.string ⟨c.toArray⟩) 44 = us 44 := updB_other (by decide)
        have U45 : updB us 45 (.string ⟨c.toArray⟩) 45 = (.string ⟨c.toArray⟩) := updB_same _ _ _
        have U46 : updB us 45 (.string ⟨c.toArray⟩) 46 = us 46 := updB_other (by decide)
        have U47 : updB us 45 (.string ⟨c.toArray⟩) 47 = us 47 := updB_other (by decide)
        have U48 : updB us 45 (.string ⟨c.toArray⟩) 48 = us 48 := updB_other (by decide)
        refine wpOp_step rfl (fun K hK => ?_)
        simp only [frRs, e0, e2, e4, e5, e6, e7, e8, e9, e10, e44]
        go_simp
        refine hK _ _ ⟨updB us 45 (.string ⟨c.toArray⟩), by simp [frRs, updB, e0, e2, e4, e5, e6, e7, e8, e9, e10, e44], { u0 := (U0.trans I.u0), u2 := (U2.trans I.u2), u4 := (U4.trans I.u4), u5 := (U5.trans I.u5), u6 := (U6.trans I.u6), u7 := (U7.trans I.u7), u8 := (U8.trans I.u8), u9 := (U9.trans I.u9), u10 := (U10.trans I.u10), bel := (I.bel), o0 := (fun h => U39.trans (I.o0 (D0.symm.trans h))), o1 := (fun h => U40.trans (I.o1 (D1.symm.trans h))), o2 := (fun h => U41.trans (I.o2 (D2.symm.trans h))), o3 := (fun h => U42.trans (I.o3 (D3.symm.trans h))), o4 := (fun h => U43.trans (I.o4 (D4.symm.trans h))), o5 := (fun h => U44.trans (I.o5 (D5.symm.trans h))), o6 := (fun _ => U45), o7 := (fun h => U46.trans (I.o7 (D7.symm.trans h))), o8 := (fun h => U47.trans (I.o8 (D8.symm.trans h))), o9 := (fun h => U48.trans (I.o9 (D9.symm.trans h))), o10 := (fun h => by rw [U11, D11]; exact I.o10 (D10.symm.trans h)), o11 := (fun h => D10.trans (I.o11 (D11.symm.trans h))) }⟩
      · skip
        have D0 : (d'.setIfInBounds 7 true).getD 0 false = d'.getD 0 false := getD_set_ne false (by decide)
        have D1 : (d'.setIfInBounds 7 true).getD 1 false = d'.getD 1 false := getD_set_ne false (by decide)
        have D2 : (d'.setIfInBounds 7 true).getD 2 false = d'.getD 2 false := getD_set_ne false (by decide)
        have D3 : (d'.setIfInBounds 7 true).getD 3 false = d'.getD 3 false := getD_set_ne false (by decide)
        have D4 : (d'.setIfInBounds 7 true).getD 4 false = d'.getD 4 false := getD_set_ne false (by decide)
        have D5 : (d'.setIfInBounds 7 true).getD 5 false = d'.getD 5 false := getD_set_ne false (by decide)
        have D6 : (d'.setIfInBounds 7 true).getD 6 false = d'.getD 6 false := getD_set_ne false (by decide)
        have D7 : (d'.setIfInBounds 7 true).getD 7 false = true := setB_same hun
        have D8 : (d'.setIfInBounds 7 true).getD 8 false = d'.getD 8 false := getD_set_ne false (by decide)
        have D9 : (d'.setIfInBounds 7 true).getD 9 false = d'.getD 9 false := getD_set_ne false (by decide)
        have D10 : (d'.setIfInBounds 7 true).getD 10 false = d'.getD 10 false := getD_set_ne false (by decide)
        have D11 : (d'.setIfInBounds 7 true).getD 11 false = d'.getD 11 false := getD_set_ne false (by decide)
        have U0 : updB us 46 (.int .i64 v) 0 = us 0 := updB_other (by decide)
        have U2 : updB us 46 (.int .i64 v) 2 = us 2 := updB_other (by decide)
        have U4 : updB us 46 (.int .i64 v) 4 = us 4 := updB_other (by decide)
        have U5 : updB us 46 (.int .i64 v) 5 = us 5 := updB_other (by decide)
        have U6 : updB us 46 (.int .i64 v) 6 = us 6 := updB_other (by decide)
        have U7 : updB us 46 (.int .i64 v) 7 = us 7 := updB_other (by decide)
        have U8 : updB us 46 (.int .i64 v) 8 = us 8 := updB_other (by decide)
        have U9 : updB us 46 (.int .i64 v) 9 = us 9 := updB_other (by decide)
        have U10 : updB us 46 (.int .i64 v) 10 = us 10 := updB_other (by decide)
        have U11 : updB us 46 (.int .i64 v) 11 = us 11 := updB_other (by decide)
        have U39 : updB us 46 (.int .i64 v) 39 = us 39 := updB_other (by decide)
        have U40 : updB us 46 (.int .i64 v) 40 = us 40 := updB_other (by decide)
        have U41 : updB us 46 (.int .i64 v) 41 = us 41 := updB_other (by decide)
        have U42 : updB us 46 (.int .i64 v) 42 = us 42 := updB_other (by decide)
        have U43 : updB us 46 (.int .i64 v) 43 = us 43 := updB_other (by decide)
        have U44 : updB us 46 (.int .i64 v) 44 = us 44 := updB_other (by decide)
        have U45 : updB us 46 (.int .i64 v) 45 = us 45 := updB_other (by decide)
        have U46 : updB us 46 (.int .i64 v) 46 = (.int .i64 v) := updB_same _ _ _
        have U47 : updB us 46 (.int .i64 v) 47 = us 47 := updB_other (by decide)
        have U48 : updB us 46 (.int .i64 v) 48 = us 48 := updB_other (by decide)
        refine wpOp_step rfl (fun K hK => ?_)
        simp only [frRs, e0, e2, e4, e5, e6, e7, e8, e9, e10]
        go_simp
        refine hK _ _ ⟨updB us 46 (.int .i64 v), by simp [frRs, updB, e0, e2, e4, e5, e6, e7, e8, e9, e10], { u0 := (U0.trans I.u0), u2 := (U2.trans I.u2), u4 := (U4.trans I.u4), u5 := (U5.trans I.u5), u6 := (U6.trans I.u6), u7 := (U7.trans I.u7), u8 := (U8.trans I.u8), u9 := (U9.trans I.u9), u10 := (U10.trans I.u10), bel := (I.bel), o0 := (fun h => U39.trans (I.o0 (D0.symm.trans h))), o1 := (fun h => U40.trans (I.o1 (D1.symm.trans h))), o2 := (fun h => U41.trans (I.o2 (D2.symm.trans h))), o3 := (fun h => U42.trans (I.o3 (D3.symm.trans h))), o4 := (fun h => U43.trans (I.o4 (D4.symm.trans h))), o5 := (fun h => U44.trans (I.o5 (D5.symm.trans h))), o6 := (fun h => U45.trans (I.o6 (D6.symm.trans h))), o7 := (fun _ => U46), o8 := (fun h => U47.trans (I.o8 (D8.symm.trans h))), o9 := (fun h => U48.trans (I.o9 (D9.symm.trans h))), o10 := (fun h => by rw [U11, D11]; exact I.o10 (D10.symm.trans h)), o11 := (fun h => D10.trans (I.o11 (D11.symm.trans h))) }⟩
      · skip
        have D0 : (d'.setIfInBounds 8 true).getD 0 false = d'.getD 0 false := getD_set_ne false (by decide)
        have D1 : (d'.setIfInBounds 8 true).getD 1 false = d'.getD 1 false := getD_set_ne false (by decide)
        have D2 : (d'.setIfInBounds 8 true).getD 2 false = d'.getD 2 false := getD_set_ne false (by decide)
        have D3 : (d'.setIfInBounds 8 true).getD 3 false = d'.getD 3 false := getD_set_ne false (by decide)
        have D4 : (d'.setIfInBounds 8 true).getD 4 false = d'.getD 4 false := getD_set_ne false (by decide)
        have D5 : (d'.setIfInBounds 8 true).getD 5 false = d'.getD 5 false := getD_set_ne false (by decide)
        have D6 : (d'.setIfInBounds 8 true).getD 6 false = d'.getD 6 false := getD_set_ne false (by decide)
        have D7 : (d'.setIfInBounds 8 true).getD 7 false = d'.getD 7 false := getD_set_ne false (by decide)
        have D8 : (d'.setIfInBounds 8 true).getD 8 false = true := setB_same hun
        have D9 : (d'.setIfInBounds 8 true).getD 9 false = d'.getD 9 false := getD_set_ne false (by decide)
        have D10 : (d'.setIfInBounds 8 true).getD 10 false = d'.getD 10 false := getD_set_ne false (by decide)
        have D11 : (d'.setIfInBounds 8 true).getD 11 false = d'.getD 11 false := getD_set_ne false (by decide)
        have U0 : updB us 47 (.int .i64 z) 0 = us 0 := updB_other (by decide)
        have U2 : updB us 47 (.int .i64 z) 2 = us 2 := updB_other (by decide)
        have U4 : updB us 47 (.int .i64 z) 4 = us 4 := updB_other (by decide)
        have U5 : updB us 47 (.int .i64 z) 5 = us 5 := updB_other (by decide)
        have U6 : updB us 47 (.int .i64 z) 6 = us 6 := updB_other (by decide)
        have U7 : updB us 47 (.int .i64 z) 7 = us 7 := updB_other (by decide)
        have U8 : updB us 47 (.int .i64 z) 8 = us 8 := updB_other (by decide)
        have U9 : updB us 47 (.int .i64 z) 9 = us 9 := updB_other (by decide)
        have U10 : updB us 47 (.int .i64 z) 10 = us 10 := updB_other (by decide)
        have U11 : updB us 47 (.int .i64 z) 11 = us 11 := updB_other (by decide)
        have U39 : updB us 47 (.int .i64 z) 39 = us 39 := updB_other (by decide)
        have U40 : updB us 47 (.int .i64 z) 40 = us 40 := updB_other (by decide)
        have U41 : updB us 47 (.int .i64 z) 41 = us 41 := updB_other (by decide)
        have U42 : updB us 47 (.int .i64 z) 42 = us 42 := updB_other (by decide)
        have U43 : updB us 47 (.int .i64 z) 43 = us 43 := updB_other (by decide)
        have U44 : updB us 47 (.int .i64 z) 44 = us 44 := updB_other (by decide)
        have U45 : updB us 47 (.int .i64 z) 45 = us 45 := updB_other (by decide)
        have U46 : updB us 47 (.int .i64 z) 46 = us 46 := updB_other (by decide)
        have U47 : updB us 47 (.int .i64 z) 47 = (.int .i64 z) := updB_same _ _ _
        have U48 : updB us 47 (.int .i64 z) 48 = us 48 := updB_other (by decide)
        refine wpOp_step rfl (fun K hK => ?_)
        simp only [frRs, e0, e2, e4, e5, e6, e7, e8, e9, e10]
        go_simp
        refine hK _ _ ⟨updB us 47 (.int .i64 z), by simp [frRs, updB, e0, e2, e4, e5, e6, e7, e8, e9, e10], { u0 := (U0.trans I.u0), u2 := (U2.trans I.u2), u4 := (U4.trans I.u4), u5 := (U5.trans I.u5), u6 := (U6.trans I.u6), u7 := (U7.trans I.u7), u8 := (U8.trans I.u8), u9 := (U9.trans I.u9), u10 := (U10.trans I.u10), bel := (I.bel), o0 := (fun h => U39.trans (I.o0 (D0.symm.trans h))), o1 := (fun h => U40.trans (I.o1 (D1.symm.trans h))), o2 := (fun h => U41.trans (I.o2 (D2.symm.trans h))), o3 := (fun h => U42.trans (I.o3 (D3.symm.trans h))), o4 := (fun h => U43.trans (I.o4 (D4.symm.trans h))), o5 := (fun h => U44.trans (I.o5 (D5.symm.trans h))), o6 := (fun h => U45.trans (I.o6 (D6.symm.trans h))), o7 := (fun h => U46.trans (I.o7 (D7.symm.trans h))), o8 := (fun _ => U47), o9 := (fun h => U48.trans (I.o9 (D9.symm.trans h))), o10 := (fun h => by rw [U11, D11]; exact I.o10 (D10.symm.trans h)), o11 := (fun h => D10.trans (I.o11 (D11.symm.trans h))) }⟩
      · skip
        have D0 : (d'.setIfInBounds 9 true).getD 0 false = d'.getD 0 false := getD_set_ne false (by decide)
        have D1 : (d'.setIfInBounds 9 true).getD 1 false = d'.getD 1 false := getD_set_ne false (by decide)
        have D2 : (d'.setIfInBounds 9 true).getD 2 false = d'.getD 2 false := getD_set_ne false (by decide)
        have D3 : (d'.setIfInBounds 9 true).getD 3 false = d'.getD 3 false := getD_set_ne false (by decide)
        have D4 : (d'.setIfInBounds 9 true).getD 4 false = d'.getD 4 false := getD_set_ne false (by decide)
        have D5 : (d'.setIfInBounds 9 true).getD 5 false = d'.getD 5 false := getD_set_ne false (by decide)
        have D6 : (d'.setIfInBounds 9 true).getD 6 false = d'.getD 6 false := getD_set_ne false (by decide)
        have D7 : (d'.setIfInBounds 9 true).getD 7 false = d'.getD 7 false := getD_set_ne false (by decide)
        have D8 : (d'.setIfInBounds 9 true).getD 8 false = d'.getD 8 false := getD_set_ne false (by decide)
        have D9 : (d'.setIfInBounds 9 true).getD 9 false = true := setB_same hun
        have D10 : (d'.setIfInBounds 9 true).getD 10 false = d'.getD 10 false := getD_set_ne false (by decide)
        have D11 : (d'.setIfInBounds 9 true).getD 11 false = d'.getD 11 false := getD_set_ne false (by decide)
        have e41 := I.o2 (hall ⟨2, .data⟩ (by simp) rfl)
        have e42 := I.o3 (hall ⟨3, .data⟩ (by simp) rfl)
        have e45 := I.o6 (hall ⟨6, .data⟩ (by simp) rfl)
        have e46 := I.o7 (hall ⟨7, .data⟩ (by simp) rfl)
        have e47 := I.o8 (hall ⟨8, .data⟩ (by simp) rfl)
        have U0 : updB us 48 (.agg #[.string ⟨a.toArray⟩, .int .i64 x, .string ⟨c.toArray⟩, .int .i64 v, .int .i64 z]) 0 = us 0 := updB_other (by decide)
        have U2 : updB us 48 (.agg #[.string ⟨a.toArray⟩, .int .i64 x, .string ⟨c.toArray⟩, .int .i64 v, .int .i64 z]) 2 = us 2 := updB_other (by decide)
        have U4 : updB us 48 (.agg #[.string ⟨a.toArray⟩, .int .i64 x, .string ⟨c.toArray⟩, .int .i64 v, .int .i64 z]) 4 = us 4 := updB_other (by decide)
        have U5 : updB us 48 (.agg #[.string ⟨a.toArray⟩, .int .i64 x, .string ⟨c.toArray⟩, .int .i64 v, .int .i64 z]) 5 = us 5 := updB_other (by decide)
        have U6 : updB us 48 (.agg #[.string ⟨a.toArray⟩, .int .i64 x, .string ⟨c.toArray⟩, .int .i64 v, .int .i64 z]) 6 = us 6 := updB_other (by decide)
        have U7 : updB us 48 (.agg #[.string ⟨a.toArray⟩, .int .i64 x, .string ⟨c.toArray⟩, .int .i64 v, .int .i64 z]) 7 = us 7 := updB_other (by decide)
        have U8 : updB us 48 (.agg #[.string ⟨a.toArray⟩, .int .i64 x, .string ⟨c.toArray⟩, .int .i64 v, .int .i64 z]) 8 = us 8 := updB_other (by decide)
        have U9 : updB us 48 (.agg #[.string ⟨a.toArray⟩, .int .i64 x, .string ⟨c.toArray⟩, .int .i64 v, .int .i64 z]) 9 = us 9 := updB_other (by decide)
        have U10 : updB us 48 (.agg #[.string ⟨a.toArray⟩, .int .i64 x, .string ⟨c.toArray⟩, .int .i64 v, .int .i64 z]) 10 = us 10 := updB_other (by decide)
        have U11 : updB us 48 (.agg #[.string ⟨a.toArray⟩, .int .i64 x, .string ⟨c.toArray⟩, .int .i64 v, .int .i64 z]) 11 = us 11 := updB_other (by decide)
        have U39 : updB us 48 (.agg #[.string ⟨a.toArray⟩, .int .i64 x, .string ⟨c.toArray⟩, .int .i64 v, .int .i64 z]) 39 = us 39 := updB_other (by decide)
        have U40 : updB us 48 (.agg #[.string ⟨a.toArray⟩, .int .i64 x, .string ⟨c.toArray⟩, .int .i64 v, .int .i64 z]) 40 = us 40 := updB_other (by decide)
        have U41 : updB us 48 (.agg #[.string ⟨a.toArray⟩, .int .i64 x, .string ⟨c.toArray⟩, .int .i64 v, .int .i64 z]) 41 = us 41 := updB_other (by decide)
        have U42 : updB us 48 (.agg #[.string ⟨a.toArray⟩, .int .i64 x, .string ⟨c.toArray⟩, .int .i64 v, .int .i64 z]) 42 = us 42 := updB_other (by decide)
        have U43 : updB us 48 (.agg #[.string ⟨a.toArray⟩, .int .i64 x, .string ⟨c.toArray⟩, .int .i64 v, .int .i64 z]) 43 = us 43 := updB_other (by decide)
        have U44 : updB us 48 (.agg #[.string ⟨a.toArray⟩, .int .i64 x, .string ⟨c.toArray⟩, .int .i64 v, .int .i64 z]) 44 = us 44 := updB_other (by decide)
        have U45 : updB us 48 (.agg #[.string ⟨a.toArray⟩, .int .i64 x, .string ⟨c.toArray⟩, .int .i64 v, .int .i64 z]) 45 = us 45 := updB_other (by decide)
        have U46 : updB us 48 (.agg #[.string ⟨a.toArray⟩, .int .i64 x, .string ⟨c.toArray⟩, .int .i64 v, .int .i64 z]) 46 = us 46 := updB_other (by decide)
        have U47 : updB us 48 (.agg #[.string ⟨a.toArray⟩, .int .i64 x, .string ⟨c.toArray⟩, .int .i64 v, .int .i64 z]) 47 = us 47 := updB_other (by decide)
        have U48 : updB us 48 (.agg #[.string ⟨a.toArray⟩, .int .i64 x, .string ⟨c.toArray⟩, .int .i64 v, .int .i64 z]) 48 = (.agg #[.string ⟨a.toArray⟩, .int .i64 x, .string ⟨c.toArray⟩, .int .i64 v, .int .i64 z]) := updB_same _ _ _
        refine wpOp_step rfl (fun K hK => ?_)
        simp only [frRs, e0, e2, e4, e5, e6, e7, e8, e9, e10, e41, e42, e45, e46, e47]
        go_simp
        refine hK _ _ ⟨updB us 48 (.agg #[.string ⟨a.toArray⟩, .int .i64 x, .string ⟨c.toArray⟩, .int .i64 v, .int .i64 z]), by simp [frRs, updB, e0, e2, e4, e5, e6, e7, e8, e9, e10, e41, e42, e45, e46, e47], { u0 := (U0.trans I.u0), u2 := (U2.trans I.u2), u4 := (U4.trans I.u4), u5 := (U5.trans I.u5), u6 := (U6.trans I.u6), u7 := (U7.trans I.u7), u8 := (U8.trans I.u8), u9 := (U9.trans I.u9), u10 := (U10.trans I.u10), bel := (I.bel), o0 := (fun h => U39.trans (I.o0 (D0.symm.trans h))), o1 := (fun h => U40.trans (I.o1 (D1.symm.trans h))), o2 := (fun h => U41.trans (I.o2 (D2.symm.trans h))), o3 := (fun h => U42.trans (I.o3 (D3.symm.trans h))), o4 := (fun h => U43.trans (I.o4 (D4.symm.trans h))), o5 := (fun h => U44.trans (I.o5 (D5.symm.trans h))), o6 := (fun h => U45.trans (I.o6 (D6.symm.trans h))), o7 := (fun h => U46.trans (I.o7 (D7.symm.trans h))), o8 := (fun h => U47.trans (I.o8 (D8.symm.trans h))), o9 := (fun _ => U48), o10 := (fun h => by rw [U11, D11]; exact I.o10 (D10.symm.trans h)), o11 := (fun h => D10.trans (I.o11 (D11.symm.trans h))) }⟩
      · skip
        have D0 : (d'.setIfInBounds 10 true).getD 0 false = d'.getD 0 false := getD_set_ne false (by decide)
        have D1 : (d'.setIfInBounds 10 true).getD 1 false = d'.getD 1 false := getD_set_ne false (by decide)
        have D2 : (d'.setIfInBounds 10 true).getD 2 false = d'.getD 2 false := getD_set_ne false (by decide)
        have D3 : (d'.setIfInBounds 10 true).getD 3 false = d'.getD 3 false := getD_set_ne false (by decide)
        have D4 : (d'.setIfInBounds 10 true).getD 4 false = d'.getD 4 false := getD_set_ne false (by decide)
        have D5 : (d'.setIfInBounds 10 true).getD 5 false = d'.getD 5 false := getD_set_ne false (by decide)
        have D6 : (d'.setIfInBounds 10 true).getD 6 false = d'.getD 6 false := getD_set_ne false (by decide)
        have D7 : (d'.setIfInBounds 10 true).getD 7 false = d'.getD 7 false := getD_set_ne false (by decide)
        have D8 : (d'.setIfInBounds 10 true).getD 8 false = d'.getD 8 false := getD_set_ne false (by decide)
        have D9 : (d'.setIfInBounds 10 true).getD 9 false = d'.getD 9 false := getD_set_ne false (by decide)
        have D10 : (d'.setIfInBounds 10 true).getD 10 false = true := setB_same hun
        have D11 : (d'.setIfInBounds 10 true).getD 11 false = d'.getD 11 false := getD_set_ne false (by decide)
        have U0 : updB us 11 (.pointer (some ⟨W.heap.size, 0, none⟩)) 0 = us 0 := updB_other (by decide)
        have U2 : updB us 11 (.pointer (some ⟨W.heap.size, 0, none⟩)) 2 = us 2 := updB_other (by decide)
        have U4 : updB us 11 (.pointer (some ⟨W.heap.size, 0, none⟩)) 4 = us 4 := updB_other (by decide)
        have U5 : updB us 11 (.pointer (some ⟨W.heap.size, 0, none⟩)) 5 = us 5 := updB_other (by decide)
        have U6 : updB us 11 (.pointer (some ⟨W.heap.size, 0, none⟩)) 6 = us 6 := updB_other (by decide)
        have U7 : updB us 11 (.pointer (some ⟨W.heap.size, 0, none⟩)) 7 = us 7 := updB_other (by decide)
        have U8 : updB us 11 (.pointer (some ⟨W.heap.size, 0, none⟩)) 8 = us 8 := updB_other (by decide)
        have U9 : updB us 11 (.pointer (some ⟨W.heap.size, 0, none⟩)) 9 = us 9 := updB_other (by decide)
        have U10 : updB us 11 (.pointer (some ⟨W.heap.size, 0, none⟩)) 10 = us 10 := updB_other (by decide)
        have U11 : updB us 11 (.pointer (some ⟨W.heap.size, 0, none⟩)) 11 = (.pointer (some ⟨W.heap.size, 0, none⟩)) := updB_same _ _ _
        have U39 : updB us 11 (.pointer (some ⟨W.heap.size, 0, none⟩)) 39 = us 39 := updB_other (by decide)
        have U40 : updB us 11 (.pointer (some ⟨W.heap.size, 0, none⟩)) 40 = us 40 := updB_other (by decide)
        have U41 : updB us 11 (.pointer (some ⟨W.heap.size, 0, none⟩)) 41 = us 41 := updB_other (by decide)
        have U42 : updB us 11 (.pointer (some ⟨W.heap.size, 0, none⟩)) 42 = us 42 := updB_other (by decide)
        have U43 : updB us 11 (.pointer (some ⟨W.heap.size, 0, none⟩)) 43 = us 43 := updB_other (by decide)
        have U44 : updB us 11 (.pointer (some ⟨W.heap.size, 0, none⟩)) 44 = us 44 := updB_other (by decide)
        have U45 : updB us 11 (.pointer (some ⟨W.heap.size, 0, none⟩)) 45 = us 45 := updB_other (by decide)
        have U46 : updB us 11 (.pointer (some ⟨W.heap.size, 0, none⟩)) 46 = us 46 := updB_other (by decide)
        have U47 : updB us 11 (.pointer (some ⟨W.heap.size, 0, none⟩)) 47 = us 47 := updB_other (by decide)
        have U48 : updB us 11 (.pointer (some ⟨W.heap.size, 0, none⟩)) 48 = us 48 := updB_other (by decide)
        have hf : d'.getD 11 false = false := by
          cases h : d'.getD 11 false with
          | false => rfl
          | true => have h2 := getD_ft (I.o11 h); rw [hun] at h2; cases h2
        refine wpOp_step rfl (fun K hK => ?_)
        simp only [frRs, e0, e2, e4, e5, e6, e7, e8, e9, e10]
        go_simp
        refine hK _ _ ⟨updB us 11 (.pointer (some ⟨W.heap.size, 0, none⟩)), by simp [frRs, updB, e0, e2, e4, e5, e6, e7, e8, e9, e10], { u0 := (U0.trans I.u0), u2 := (U2.trans I.u2), u4 := (U4.trans I.u4), u5 := (U5.trans I.u5), u6 := (U6.trans I.u6), u7 := (U7.trans I.u7), u8 := (U8.trans I.u8), u9 := (U9.trans I.u9), u10 := (U10.trans I.u10), bel := (I.bel.alloc hsz _), o0 := (fun h => U39.trans (I.o0 (D0.symm.trans h))), o1 := (fun h => U40.trans (I.o1 (D1.symm.trans h))), o2 := (fun h => U41.trans (I.o2 (D2.symm.trans h))), o3 := (fun h => U42.trans (I.o3 (D3.symm.trans h))), o4 := (fun h => U43.trans (I.o4 (D4.symm.trans h))), o5 := (fun h => U44.trans (I.o5 (D5.symm.trans h))), o6 := (fun h => U45.trans (I.o6 (D6.symm.trans h))), o7 := (fun h => U46.trans (I.o7 (D7.symm.trans h))), o8 := (fun h => U47.trans (I.o8 (D8.symm.trans h))), o9 := (fun h => U48.trans (I.o9 (D9.symm.trans h))), o10 := (fun _ => ⟨W.heap.size, U11, hsz, by rw [D11, hf, if_neg Bool.false_ne_true]; exact heap_alloc_new W _⟩), o11 := (fun h => by rw [D11, hf] at h; cases h) }⟩
      · skip
        have D0 : (d'.setIfInBounds 11 true).getD 0 false = d'.getD 0 false := getD_set_ne false (by decide)
        have D1 : (d'.setIfInBounds 11 true).getD 1 false = d'.getD 1 false := getD_set_ne false (by decide)
        have D2 : (d'.setIfInBounds 11 true).getD 2 false = d'.getD 2 false := getD_set_ne false (by decide)
        have D3 : (d'.setIfInBounds 11 true).getD 3 false = d'.getD 3 false := getD_set_ne false (by decide)
        have D4 : (d'.setIfInBounds 11 true).getD 4 false = d'.getD 4 false := getD_set_ne false (by decide)
        have D5 : (d'.setIfInBounds 11 true).getD 5 false = d'.getD 5 false := getD_set_ne false (by decide)
        have D6 : (d'.setIfInBounds 11 true).getD 6 false = d'.getD 6 false := getD_set_ne false (by decide)
        have D7 : (d'.setIfInBounds 11 true).getD 7 false = d'.getD 7 false := getD_set_ne false (by decide)
        have D8 : (d'.setIfInBounds 11 true).getD 8 false = d'.getD 8 false := getD_set_ne false (by decide)
        have D9 : (d'.setIfInBounds 11 true).getD 9 false = d'.getD 9 false := getD_set_ne false (by decide)
        have D10 : (d'.setIfInBounds 11 true).getD 10 false = d'.getD 10 false := getD_set_ne false (by decide)
        have D11 : (d'.setIfInBounds 11 true).getD 11 false = true := setB_same hun
        have e48 := I.o9 (hall ⟨9, .data⟩ (by simp) rfl)
        have hf := getB_f hun
        obtain ⟨B, e11, hlo, hB⟩ := I.o10 (hall ⟨10, .data⟩ (by simp) rfl)
        rw [hf, if_neg Bool.false_ne_true] at hB
        obtain ⟨c0, c1, c2, c3, c4, f0, f1, f2, f3, f4⟩ := cel5 hB
        obtain ⟨W2, hW2, hR, bW⟩ := done5 hB (.string ⟨a.toArray⟩) (.int .i64 x) (.string ⟨c.toArray⟩) (.int .i64 v) (.int .i64 z)
        refine wpOp_step rfl (fun K hK => ?_)
        simp only [frRs, e0, e2, e4, e5, e6, e7, e8, e9, e10, e48, e11]
        go_simp
        try rw [hW2]
        refine hK _ _ ⟨us, by simp [frRs, e0, e2, e4, e5, e6, e7, e8, e9, e10, e48, e11], { u0 := I.u0, u2 := I.u2, u4 := I.u4, u5 := I.u5, u6 := I.u6, u7 := I.u7, u8 := I.u8, u9 := I.u9, u10 := I.u10, bel := (bW _ _ hlo I.bel), o0 := (fun h => I.o0 (D0.symm.trans h)), o1 := (fun h => I.o1 (D1.symm.trans h)), o2 := (fun h => I.o2 (D2.symm.trans h)), o3 := (fun h => I.o3 (D3.symm.trans h)), o4 := (fun h => I.o4 (D4.symm.trans h)), o5 := (fun h => I.o5 (D5.symm.trans h)), o6 := (fun h => I.o6 (D6.symm.trans h)), o7 := (fun h => I.o7 (D7.symm.trans h)), o8 := (fun h => I.o8 (D8.symm.trans h)), o9 := (fun h => I.o9 (D9.symm.trans h)), o10 := (fun h => ⟨B, e11, hlo, by rw [D11, if_pos rfl]; exact hR⟩), o11 := (fun _ => D10.trans (hall ⟨10, .data⟩ (by simp) rfl)) }⟩
    · intro d' a' W hd hall hI
      obtain ⟨us, rfl, I⟩ := hI
      have D : ∀ k, k < 12 → d'.getD k false = true := fun k hk => by
        have := hall k hk
        have hk2 : k < d'.size := by rw [hd]; exact hk
        simp [hk2] at this ⊢; exact this
      obtain ⟨R, e11, hRlo, hRow⟩ := I.o10 (D 10 (by decide))
      rw [D 11 (by decide), if_pos rfl] at hRow
      have e0 := I.u0
      have e2 := I.u2
      have e4 := I.u4
      have e5 := I.u5
      have e6 := I.u6
      have e7 := I.u7
      have e8 := I.u8
      have e9 := I.u9
      have e10 := I.u10
      have bR := I.bel
      clear I D hall hd
      simp only [frRs, e0, e2, e4, e5, e6, e7, e8, e9, e10, e11]
      have o6 := keep5 bR o5
      obtain ⟨c0, c1, c2, c3, c4, _⟩ := cel5 hRow
      have t6 := belowGo t5 bR
      clear bR t5 o5 n0 n2
      cases ok1 with
      | false =>
        have E := Lib.hid (hno.out (by simp))
        have t7 := belowGo HB t6
        clear hok hno HV hRow t6
        obtain ⟨r0, r1, r2, r3, r4, s0, s1, s2, s3, s4⟩ := cel5 o6
        go_wp2_with fail
        obtain ⟨W6, hW6, hR6, bW6⟩ := done5 o6 (.string ⟨#[]⟩) (.int .i64 0) (.string ⟨#[]⟩) (.int .i64 0) (.int .i64 0)
        rw [hW6]
        have b6 := bW6 w.heap.size w (Nat.le_refl _) t7
        obtain ⟨g0, g1, g2, g3, g4, _⟩ := cel5 hR6
        clear hW6 bW6 r0 r1 r2 r3 r4 s0 s1 s2 s3 s4
        exact bodyPost_ret (v := .tuple #[.agg #[.string ⟨#[]⟩, .int .i64 0, .string ⟨#[]⟩, .int .i64 0, .int .i64 0], .int .i64 6]) (by simp [results, Tryd.results12, go_sem, g0, g1, g2, g3, g4]) rfl ⟨by rw [E.out] <;> rfl, b6⟩
      | true =>
        cases ok2 with
        | false =>
          have E := Lib.hid (hno.out (by simp))
          have t7 := belowGo HB t6
          clear hok hno HV hRow t6
          obtain ⟨r0, r1, r2, r3, r4, s0, s1, s2, s3, s4⟩ := cel5 o6
          go_wp2_with fail
          obtain ⟨W6, hW6, hR6, bW6⟩ := done5 o6 (.string ⟨#[]⟩) (.int .i64 0) (.string ⟨#[]⟩) (.int .i64 0) (.int .i64 0)
          rw [hW6]
          have b6 := bW6 w.heap.size w (Nat.le_refl _) t7
          obtain ⟨g0, g1, g2, g3, g4, _⟩ := cel5 hR6
          clear hW6 bW6 r0 r1 r2 r3 r4 s0 s1 s2 s3 s4
          exact bodyPost_ret (v := .tuple #[.agg #[.string ⟨#[]⟩, .int .i64 0, .string ⟨#[]⟩, .int .i64 0, .int .i64 0], .int .i64 6]) (by simp [results, Tryd.results12, go_sem, g0, g1, g2, g3, g4]) rfl ⟨by rw [E.out] <;> rfl, b6⟩
        | true =>
          cases ok3 with
          | false =>
            have E := Lib.hid (hno.out (by simp))
            have t7 := belowGo HB t6
            clear hok hno HV hRow t6
            obtain ⟨r0, r1, r2, r3, r4, s0, s1, s2, s3, s4⟩ := cel5 o6
            go_wp2_with fail
            obtain ⟨W6, hW6, hR6, bW6⟩ := done5 o6 (.string ⟨#[]⟩) (.int .i64 0) (.string ⟨#[]⟩) (.int .i64 0) (.int .i64 0)
            rw [hW6]
            have b6 := bW6 w.heap.size w (Nat.le_refl _) t7
            obtain ⟨g0, g1, g2, g3, g4, _⟩ := cel5 hR6
            clear hW6 bW6 r0 r1 r2 r3 r4 s0 s1 s2 s3 s4
            exact bodyPost_ret (v := .tuple #[.agg #[.string ⟨#[]⟩, .int .i64 0, .string ⟨#[]⟩, .int .i64 0, .int .i64 0], .int .i64 6]) (by simp [results, Tryd.results12, go_sem, g0, g1, g2, g3, g4]) rfl ⟨by rw [E.out] <;> rfl, b6⟩
          | true =>
            cases xok with
            | false =>
              have E := Lib.hid (hno.out (by simp))
              go_wp2_with fail
              refine (HV.out _).mono ?_
              rintro e w6 ⟨rfl, b6⟩
              have o7 := keep5 b6 o6
              have t7 := belowGo HB (belowGo t6 b6)
              clear hok hno HV hRow t6 b6 c0 c1 c2 c3 c4 o6
              obtain ⟨r0, r1, r2, r3, r4, s0, s1, s2, s3, s4⟩ := cel5 o7
              go_wp2_with fail
              obtain ⟨W6, hW6, hR6, bW6⟩ := done5 o7 (.string ⟨#[]⟩) (.int .i64 0) (.string ⟨#[]⟩) (.int .i64 0) (.int .i64 0)
              rw [hW6]
              have b6 := bW6 w.heap.size w (Nat.le_refl _) t7
              obtain ⟨g0, g1, g2, g3, g4, _⟩ := cel5 hR6
              clear hW6 bW6 r0 r1 r2 r3 r4 s0 s1 s2 s3 s4
              exact bodyPost_ret (v := .tuple #[.agg #[.string ⟨#[]⟩, .int .i64 0, .string ⟨#[]⟩, .int .i64 0, .int .i64 0], .int .i64 6]) (by simp [results, Tryd.results12, go_sem, g0, g1, g2, g3, g4]) rfl ⟨by rw [E.out] <;> rfl, b6⟩
            | true =>
              have E := Lib.hid (hok.out ⟨rfl, rfl, rfl, rfl⟩)
              go_wp2_with fail
              refine (HV.out _).mono ?_
              rintro e w6 ⟨rfl, b6⟩
              have o7 := keep5 b6 o6
              have row7 := keep5 b6 hRow
              have t7 := belowGo HB (belowGo t6 b6)
              clear hok hno HV hRow t6 b6 c0 c1 c2 c3 c4 o6
              obtain ⟨c0, c1, c2, c3, c4, _⟩ := cel5 row7
              clear row7
              obtain ⟨r0, r1, r2, r3, r4, s0, s1, s2, s3, s4⟩ := cel5 o7
              go_wp2_with fail
              obtain ⟨W6, hW6, hR6, bW6⟩ := done5 o7 (.string ⟨a.toArray⟩) (.int .i64 x) (.string ⟨c.toArray⟩) (.int .i64 v) (.int .i64 z)
              rw [hW6]
              have b6 := bW6 w.heap.size w (Nat.le_refl _) t7
              obtain ⟨g0, g1, g2, g3, g4, _⟩ := cel5 hR6
              clear hW6 bW6 r0 r1 r2 r3 r4 s0 s1 s2 s3 s4
              exact bodyPost_ret (v := .tuple #[.agg #[.string ⟨a.toArray⟩, .int .i64 x, .string ⟨c.toArray⟩, .int .i64 v, .int .i64 z], .int .i64 0]) (by simp [results, Tryd.results12, go_sem, g0, g1, g2, g3, g4]) rfl ⟨by rw [E.out] <;> rfl, b6⟩
  · have E := Lib.hid (riR_no (s := s) (by
      rintro ⟨p, hp⟩
      obtain ⟨n, m, P⟩ := HP.out p hp
      exact h5 (by rw [HW.out p n m P]; rfl)))
    have h5' : ((ws.length : Int) != 5) = true := by
      have : ((ws.length : Int) == 5) = false := by rw [beq_eq_false_iff_ne]; omega
      simp [bne, this]
    clear h5 hmem HP HW hws
    generalize riR s = r at *
    go_enter Tryd.func12, Tryd.ntmps12
    go_wp2_with fail
    refine (HS.out _).mono ?_
    rintro _ w1 ⟨A, d, rfl, ho, b1⟩
    have o2 := keep5 b1 o1
    have t1 := belowGo HB b1
    clear ho o1 HS
    obtain ⟨r0, r1, r2, r3, r4, s0, s1, s2, s3, s4⟩ := cel5 o2
    go_wp2_with fail
    obtain ⟨W6, hW6, hR6, bW6⟩ := done5 o2 (.string ⟨#[]⟩) (.int .i64 0) (.string ⟨#[]⟩) (.int .i64 0) (.int .i64 0)
    rw [hW6]
    have b6 := bW6 w.heap.size w (Nat.le_refl _) t1
    obtain ⟨g0, g1, g2, g3, g4, _⟩ := cel5 hR6
    clear hW6 bW6 r0 r1 r2 r3 r4 s0 s1 s2 s3 s4
    exact bodyPost_ret (v := .tuple #[.agg #[.string ⟨#[]⟩, .int .i64 0, .string ⟨#[]⟩, .int .i64 0, .int .i64 0], .int .i64 6]) (by simp [results, Tryd.results12, go_sem, g0, g1, g2, g3, g4]) rfl ⟨by rw [E.out] <;> rfl, b6⟩
end Go.Proofs.YthainomgmgaikaaDoor
