/- impl.ReadClause. (by gen_rcl.py) -/
import Derived.Test.YtmhlkbocejnpoaaDoorCrb
import Derived.Test.YtmhlkbocejnpoaaDoorCti
namespace Go.Proofs.YtmhlkbocejnpoaaDoor
open Go.ChangeShapes Go.WideShapes Go.ChangeAt Go.RowKit
set_option linter.unusedVariables false

def frRi (us : Nat → Value) : Act := { tmps := #[us 0, us 1, us 2, us 3, us 4, us 5, us 6, us 7, us 8, us 9, us 10, us 11, us 12, us 13, us 14, us 15, us 16, us 17, us 18, us 19, us 20, us 21, us 22, us 23, us 24, us 25, us 26, us 27, us 28, us 29, us 30, us 31, us 32, us 33, us 34, us 35, us 36, us 37, us 38, us 39, us 40, us 41, us 42, us 43, us 44, us 45, us 46, us 47, us 48, us 49, us 50, us 51, us 52, us 53, us 54, us 55, us 56, us 57, us 58, us 59, us 60, us 61, us 62, us 63, us 64, us 65, us 66, us 67, us 68, us 69, us 70, us 71, us 72, us 73, us 74, us 75, us 76, us 77, us 78], defers := [] }
theorem frRi_of {x0 x1 x2 x3 x4 x5 x6 x7 x8 x9 x10 x11 x12 x13 x14 x15 x16 x17 x18 x19 x20 x21 x22 x23 x24 x25 x26 x27 x28 x29 x30 x31 x32 x33 x34 x35 x36 x37 x38 x39 x40 x41 x42 x43 x44 x45 x46 x47 x48 x49 x50 x51 x52 x53 x54 x55 x56 x57 x58 x59 x60 x61 x62 x63 x64 x65 x66 x67 x68 x69 x70 x71 x72 x73 x74 x75 x76 x77 x78 : Value} : ({ tmps := #[x0, x1, x2, x3, x4, x5, x6, x7, x8, x9, x10, x11, x12, x13, x14, x15, x16, x17, x18, x19, x20, x21, x22, x23, x24, x25, x26, x27, x28, x29, x30, x31, x32, x33, x34, x35, x36, x37, x38, x39, x40, x41, x42, x43, x44, x45, x46, x47, x48, x49, x50, x51, x52, x53, x54, x55, x56, x57, x58, x59, x60, x61, x62, x63, x64, x65, x66, x67, x68, x69, x70, x71, x72, x73, x74, x75, x76, x77, x78], defers := [] } : Act) = frRi (fun k => #[x0, x1, x2, x3, x4, x5, x6, x7, x8, x9, x10, x11, x12, x13, x14, x15, x16, x17, x18, x19, x20, x21, x22, x23, x24, x25, x26, x27, x28, x29, x30, x31, x32, x33, x34, x35, x36, x37, x38, x39, x40, x41, x42, x43, x44, x45, x46, x47, x48, x49, x50, x51, x52, x53, x54, x55, x56, x57, x58, x59, x60, x61, x62, x63, x64, x65, x66, x67, x68, x69, x70, x71, x72, x73, x74, x75, x76, x77, x78].getD k undef) := rfl
structure InvRi (S0 P2 : Value) (g cap : Nat) (a t : List UInt8) (l0 l1 l2 : UInt8) (x z : Int) (w : World) (d : Array Bool) (us : Nat → Value) (W : World) : Prop where
  u0 : us 0 = S0
  u2 : us 2 = P2
  u4 : us 4 = .slice (some ⟨g, 0, none⟩) 5 cap
  u5 : us 5 = .int .i64 x
  u7 : us 7 = .string ⟨[l0, l1, l2].toArray⟩
  u8 : us 8 = .int .i64 z
  u10 : us 10 = .string ⟨t.toArray⟩
  bel : Below w.heap.size w W
  o0 : d.getD 0 false = true → us 49 = .slice (some ⟨g, 0, none⟩) 5 cap
  o1 : d.getD 1 false = true → us 50 = .pointer (some ⟨g, 0, none⟩)
  o2 : d.getD 2 false = true → us 51 = .string ⟨a.toArray⟩
  o3 : d.getD 3 false = true → us 52 = .int .i64 x
  o4 : d.getD 4 false = true → us 53 = .string ⟨[l0, l1, l2].toArray⟩
  o5 : d.getD 5 false = true → us 54 = .int .u8 (l0.toNat : Int)
  o6 : d.getD 6 false = true → us 55 = .int .i64 (rn l0)
  o7 : d.getD 7 false = true → us 56 = .string ⟨[l0, l1, l2].toArray⟩
  o8 : d.getD 8 false = true → us 57 = .int .u8 (l1.toNat : Int)
  o9 : d.getD 9 false = true → us 58 = .int .i64 (rn l1)
  o10 : d.getD 10 false = true → us 59 = .string ⟨[l0, l1, l2].toArray⟩
  o11 : d.getD 11 false = true → us 60 = .int .u8 (l2.toNat : Int)
  o12 : d.getD 12 false = true → us 61 = .int .i64 (rn l2)
  o13 : d.getD 13 false = true → us 62 = .int .i64 z
  o14 : d.getD 14 false = true → us 63 = .string ⟨t.toArray⟩
  o15 : d.getD 15 false = true → us 64 = .agg #[.string ⟨a.toArray⟩, .int .i64 x, .int .i64 (rn l0), .int .i64 (rn l1), .int .i64 (rn l2), .int .i64 z, .string ⟨t.toArray⟩]
  o16 : d.getD 16 false = true → ∃ B, us 11 = .pointer (some ⟨B, 0, none⟩) ∧ w.heap.size ≤ B ∧ W.heap[B]? = some (.cells (if d.getD 17 false = true then #[.string ⟨a.toArray⟩, .int .i64 x, .int .i64 (rn l0), .int .i64 (rn l1), .int .i64 (rn l2), .int .i64 z, .string ⟨t.toArray⟩] else #[.string ⟨#[]⟩, .int .i64 0, .int .i64 0, .int .i64 0, .int .i64 0, .int .i64 0, .string ⟨#[]⟩]) 25 (0, 0))
  o17 : d.getD 17 false = true → d.getD 16 false = true
theorem ix3 (l0 l1 l2 : UInt8) (j : Nat) (b : UInt8) (h : [l0, l1, l2][j]? = some b) : ∀ w, (Instr.index 9 (.string ⟨[l0, l1, l2].toArray⟩) (.int .i64 (j : Int))).run Tryd.prog w = .ok (.int .u8 (b.toNat : Int)) w := by
  intro w
  rcases (by have := (List.getElem?_eq_some_iff.1 h).1; simp at this; omega : j = 0 ∨ j = 1 ∨ j = 2) with rfl | rfl | rfl
  all_goals
    obtain rfl := Option.some.inj h
    kernel_rfl
set_option maxRecDepth 100000 in
set_option maxHeartbeats 16000000 in
theorem rcls_i3 (s a b d f : List UInt8) (l0 l1 l2 : UInt8) (w : World) (h : Lib3 w) (hn : [a, b, [l0, l1, l2], d, f] = spn (if s.length < 4 then s.length else 4) s) (hl : s.length ≤ 1048576) (la : a.length ≤ 1048576) (lb : b.length ≤ 1048576) (ld : d.length ≤ 1048576) (lf : f.length ≤ 1048576) (lsum : a.length + f.length ≤ 1048576) :
    Calls Tryd.prog 11 #[.string ⟨s.toArray⟩] w (GivRC w (rcR s)) := by
  have o1 := heap_alloc_new w (.cells #[.string ⟨#[]⟩, .int .i64 0, .int .i64 0, .int .i64 0, .int .i64 0, .int .i64 0, .string ⟨#[]⟩] 25)
  have HB := below_alloc w (.cells #[.string ⟨#[]⟩, .int .i64 0, .int .i64 0, .int .i64 0, .int .i64 0, .int .i64 0, .string ⟨#[]⟩] 25)
  have HS := Lib.hid (fun w => splitn_i s hl w)
  have L1 := Lib.hid (h.below HB)
  have HX : Hid (∀ (x z : Int), (∀ u, Lib.parseIntB 64 b = .ok u → x = u) → (∀ u, Lib.parseIntB 64 d = .ok u → z = u) → ∀ p, FitC s p → p = clsOf a x l0 l1 l2 z f) := Lib.hid fun x z hx hz p hp => by
    have P := fit_partsC hp
    have ew := hn.trans P.wn
    injection ew with e1 ew
    injection ew with e2 ew
    injection ew with e3 ew
    injection ew with e4 ew
    injection ew with e5 _
    injection e3 with e3a e3
    injection e3 with e3b e3
    injection e3 with e3c _
    rw [hx _ (by rw [e2]; exact itoa_parse P.k), hz _ (by rw [e4]; exact itoa_parse P.e), e1, e3a, e3b, e3c, e5]
    exact fit_cls P.ok
  rw [← hn] at HS
  have PB := Lib.hid (fun w hw => parse_any b lb w hw)
  have PD := Lib.hid (fun w hw => parse_any d ld w hw)
  have PR := Lib.hid (fun (b : UInt8) w => (rn_i b w).mono fun e w' k => (⟨k.1, k.2 ▸ Below.refl _ _⟩ : e = .returned (.int .i64 (rn b)) ∧ Below w.heap.size w w'))
  have e5' : ((([a, b, [l0, l1, l2], d, f] : List (List UInt8)).length : Int) < 5) = False := by simp
  have e3' : (([l0, l1, l2] : List UInt8).length : Int) = 3 := rfl
  clear hn lb ld h
  by_cases hf46 : f = [46]
  · subst hf46
    go_enter Tryd.func11, Tryd.ntmps11
    go_wp2_with fail
    refine (HS.out _).mono ?_
    rintro _ w1 ⟨A, cap, rfl, ho, b1⟩
    obtain ⟨g, rfl, hg1, hcell⟩ := own_cellsS ho (by simp)
    have m0 : w1.cell? ⟨g, 0, none⟩ = some (.string ⟨a.toArray⟩) := hcell 0 _ rfl
    have m1 : w1.cell? ⟨g, 1, none⟩ = some (.string ⟨b.toArray⟩) := hcell 1 _ rfl
    have m2 : w1.cell? ⟨g, 2, none⟩ = some (.string ⟨[l0, l1, l2].toArray⟩) := hcell 2 _ rfl
    have m3 : w1.cell? ⟨g, 3, none⟩ = some (.string ⟨d.toArray⟩) := hcell 3 _ rfl
    have m4 : w1.cell? ⟨g, 4, none⟩ = some (.string ⟨[46].toArray⟩) := hcell 4 _ rfl
    have o2 := keepR b1 o1
    have L2 := Lib.hid (L1.out.below b1)
    have t1' := b1
    clear hcell ho b1 o1 HS L1
    go_wp2_with fail
    refine (PB.out _ L2.out).mono ?_
    rintro _ w2 ⟨x, i6, rfl, hx, b2⟩
    have k0 := (b2.cell (p := ⟨g, 0, none⟩) hg1).trans m0
    have k2 := (b2.cell (p := ⟨g, 2, none⟩) hg1).trans m2
    have k3 := (b2.cell (p := ⟨g, 3, none⟩) hg1).trans m3
    have k4 := (b2.cell (p := ⟨g, 4, none⟩) hg1).trans m4
    have o3 := keepR b2 o2
    have L3 := Lib.hid (L2.out.below b2)
    have t2' := belowGo t1' b2
    have hg2 := Nat.lt_of_lt_of_le hg1 b2.size
    clear m0 m1 m2 m3 m4 o2 L2 b2 t1' hg1
    go_wp2_with fail
    refine (PD.out _ L3.out).mono ?_
    rintro _ wq ⟨z, i8, rfl, hz, b3⟩
    have n0c := (b3.cell (p := ⟨g, 0, none⟩) hg2).trans k0
    have n4c := (b3.cell (p := ⟨g, 4, none⟩) hg2).trans k4
    have o5 := keepR b3 o3
    have L5 := Lib.hid (L3.out.below b3)
    have t5 := belowGo t2' b3
    have hg := Nat.lt_of_lt_of_le hg2 b3.size
    clear k0 k2 k3 k4 o3 L3 b3 t2' hg2 PB PD
    have HX2 := Lib.hid (HX.out x z hx hz)
    clear HX hx hz
    obtain ⟨P, hP⟩ : ∃ P : Cls, P = ⟨a, x, rn l0, rn l1, rn l2, z, []⟩ := ⟨_, rfl⟩
    have HX3 : Hid (∀ p, FitC s p → p = P) := Lib.hid fun p hp => by rw [hP, HX2.out p hp]; unfold clsOf; rw [show unT [46] = [] from rfl]
    have hsz : P.sz ≤ 1048600 := by rw [hP]; unfold Cls.sz; simp only; simp; omega
    have HT0 := Lib.hid (fun w hw => ctext_i P w hsz hw)
    have HT : Hid (∀ w, Tab w → Calls Tryd.prog 8 #[.agg #[.string ⟨a.toArray⟩, .int .i64 x, .int .i64 (rn l0), .int .i64 (rn l1), .int .i64 (rn l2), .int .i64 z, .string ⟨#[]⟩]] w (Text2 w (ctR P))) := Lib.hid (by
      intro w hw; have := HT0.out w hw; rw [hP] at this ⊢; exact this)
    have hok : Hid ((ctR P).2 = 0 ∧ (ctR P).1 = s → rcR s = (⟨a, x, rn l0, rn l1, rn l2, z, []⟩, 0)) := Lib.hid fun ⟨h1, h2⟩ => by
      rw [← hP]
      rcases Bool.eq_false_or_eq_true P.ok with hv | hv
      · rw [ctR_ok hv] at h2; exact rcR_ok ⟨hv, h2⟩
      · rw [ctR_no hv] at h1; exact absurd h1 (by decide)
    have hno : Hid (¬ ((ctR P).2 = 0 ∧ (ctR P).1 = s) → rcR s = (zeroC, 6)) := Lib.hid fun hn => rcR_no fun ⟨p, hp⟩ => hn (by
      obtain rfl := HX3.out p hp
      rw [ctR_ok hp.1]; exact ⟨rfl, hp.2⟩)
    clear HX2 HX3 HT0 hP hsz
    generalize ctR P = tr at *
    obtain ⟨tx, tc⟩ := tr
    simp only at hok hno
    generalize rcR s = r at *
    go_wp2_with fail
    refine region_inv (by kernel_rfl) (by kernel_rfl) (fun d' a' W => ∃ us, a' = frRi us ∧ InvRi (.string ⟨s.toArray⟩) (.pointer (some ⟨w.heap.size, 0, none⟩)) g cap a [] l0 l1 l2 x z wq d' us W) ?_ ?_ ?_
    · refine ⟨_, frRi_of, ?_⟩
      have Z : ∀ k, (Array.replicate 18 false).getD k false = false := fun k => by
        rcases Nat.lt_or_ge k 18 with h | h
        · simp [h]
        · simp [Array.getElem?_eq_none, h]
      have Zn : ∀ {k : Nat} {p : Prop}, (Array.replicate 18 false).getD k false = true → p := fun {k p} h => by rw [Z k] at h; cases h
      exact { u0 := rfl, u2 := rfl, u4 := rfl, u5 := rfl, u7 := rfl, u8 := rfl, u10 := rfl, bel := (Below.refl _ _).drew, o0 := Zn, o1 := Zn, o2 := Zn, o3 := Zn, o4 := Zn, o5 := Zn, o6 := Zn, o7 := Zn, o8 := Zn, o9 := Zn, o10 := Zn, o11 := Zn, o12 := Zn, o13 := Zn, o14 := Zn, o15 := Zn, o16 := Zn, o17 := Zn }
    · intro i d' a' W hi hI
      obtain ⟨hun, oi, hoi, hall⟩ := mem_ready.1 hi
      have hlt : i < 18 := (Array.getElem?_eq_some_iff.1 hoi).1
      obtain ⟨us, rfl, I⟩ := hI
      have hbel := I.bel
      have hsz : wq.heap.size ≤ W.heap.size := hbel.size
      have e0 := I.u0
      have e2 := I.u2
      have e4 := I.u4
      have e5 := I.u5
      have e7 := I.u7
      have e8 := I.u8
      have e10 := I.u10
      have m0 := (I.bel.cell (p := ⟨g, 0, none⟩) hg).trans n0c
      rcases (by omega : i = 0 ∨ i = 1 ∨ i = 2 ∨ i = 3 ∨ i = 4 ∨ i = 5 ∨ i = 6 ∨ i = 7 ∨ i = 8 ∨ i = 9 ∨ i = 10 ∨ i = 11 ∨ i = 12 ∨ i = 13 ∨ i = 14 ∨ i = 15 ∨ i = 16 ∨ i = 17) with rfl | rfl | rfl | rfl | rfl | rfl | rfl | rfl | rfl | rfl | rfl | rfl | rfl | rfl | rfl | rfl | rfl | rfl
      all_goals
        obtain rfl := Option.some.inj hoi
        clear hoi hlt hi
      · skip
        have DO : ∀ n, 0 ≠ n → (d'.setIfInBounds 0 true).getD n false = d'.getD n false := fun n h => getD_set_ne false h
        have D0 : (d'.setIfInBounds 0 true).getD 0 false = true := setB_same hun
        have D1 := DO 1 (by decide)
        have D2 := DO 2 (by decide)
        have D3 := DO 3 (by decide)
        have D4 := DO 4 (by decide)
        have D5 := DO 5 (by decide)
        have D6 := DO 6 (by decide)
        have D7 := DO 7 (by decide)
        have D8 := DO 8 (by decide)
        have D9 := DO 9 (by decide)
        have D10 := DO 10 (by decide)
        have D11 := DO 11 (by decide)
        have D12 := DO 12 (by decide)
        have D13 := DO 13 (by decide)
        have D14 := DO 14 (by decide)
        have D15 := DO 15 (by decide)
        have D16 := DO 16 (by decide)
        have D17 := DO 17 (by decide)
        have UO : ∀ n, n ≠ 49 → updB us 49 (.slice (some ⟨g, 0, none⟩) 5 cap) n = us n := fun n h => updB_other h
        have U49 : updB us 49 (.slice (some ⟨g, 0, none⟩) 5 cap) 49 = (.slice (some ⟨g, 0, none⟩) 5 cap) := updB_same _ _ _
        have U0 := UO 0 (by decide)
        have U2 := UO 2 (by decide)
        have U4 := UO 4 (by decide)
        have U5 := UO 5 (by decide)
        have U7 := UO 7 (by decide)
        have U8 := UO 8 (by decide)
        have U10 := UO 10 (by decide)
        have U11 := UO 11 (by decide)
        have U50 := UO 50 (by decide)
        have U51 := UO 51 (by decide)
        have U52 := UO 52 (by decide)
        have U53 := UO 53 (by decide)
        have U54 := UO 54 (by decide)
        have U55 := UO 55 (by decide)
        have U56 := UO 56 (by decide)
        have U57 := UO 57 (by decide)
        have U58 := UO 58 (by decide)
        have U59 := UO 59 (by decide)
        have U60 := UO 60 (by decide)
        have U61 := UO 61 (by decide)
        have U62 := UO 62 (by decide)
        have U63 := UO 63 (by decide)
        have U64 := UO 64 (by decide)
        refine wpOp_step rfl (fun K hK => ?_)
        simp only [frRi, e0, e2, e4, e5, e7, e8, e10]
        go_simp
        refine hK _ _ ⟨updB us 49 (.slice (some ⟨g, 0, none⟩) 5 cap), by simp [frRi, updB, e0, e2, e4, e5, e7, e8, e10] <;> rfl, { u0 := (U0.trans I.u0), u2 := (U2.trans I.u2), u4 := (U4.trans I.u4), u5 := (U5.trans I.u5), u7 := (U7.trans I.u7), u8 := (U8.trans I.u8), u10 := (U10.trans I.u10), bel := (I.bel), o0 := (fun _ => U49), o1 := (fun h => U50.trans (I.o1 (D1.symm.trans h))), o2 := (fun h => U51.trans (I.o2 (D2.symm.trans h))), o3 := (fun h => U52.trans (I.o3 (D3.symm.trans h))), o4 := (fun h => U53.trans (I.o4 (D4.symm.trans h))), o5 := (fun h => U54.trans (I.o5 (D5.symm.trans h))), o6 := (fun h => U55.trans (I.o6 (D6.symm.trans h))), o7 := (fun h => U56.trans (I.o7 (D7.symm.trans h))), o8 := (fun h => U57.trans (I.o8 (D8.symm.trans h))), o9 := (fun h => U58.trans (I.o9 (D9.symm.trans h))), o10 := (fun h => U59.trans (I.o10 (D10.symm.trans h))), o11 := (fun h => U60.trans (I.o11 (D11.symm.trans h))), o12 := (fun h => U61.trans (I.o12 (D12.symm.trans h))), o13 := (fun h => U62.trans (I.o13 (D13.symm.trans h))), o14 := (fun h => U63.trans (I.o14 (D14.symm.trans h))), o15 := (fun h => U64.trans (I.o15 (D15.symm.trans h))), o16 := (fun h => by rw [U11, D17]; exact I.o16 (D16.symm.trans h)), o17 := (fun h => D16.trans (I.o17 (D17.symm.trans h))) }⟩
      · skip
        have DO : ∀ n, 1 ≠ n → (d'.setIfInBounds 1 true).getD n false = d'.getD n false := fun n h => getD_set_ne false h
        have D1 : (d'.setIfInBounds 1 true).getD 1 false = true := setB_same hun
        have D0 := DO 0 (by decide)
        have D2 := DO 2 (by decide)
        have D3 := DO 3 (by decide)
        have D4 := DO 4 (by decide)
        have D5 := DO 5 (by decide)
        have D6 := DO 6 (by decide)
        have D7 := DO 7 (by decide)
        have D8 := DO 8 (by decide)
        have D9 := DO 9 (by decide)
        have D10 := DO 10 (by decide)
        have D11 := DO 11 (by decide)
        have D12 := DO 12 (by decide)
        have D13 := DO 13 (by decide)
        have D14 := DO 14 (by decide)
        have D15 := DO 15 (by decide)
        have D16 := DO 16 (by decide)
        have D17 := DO 17 (by decide)
        have e49 := I.o0 (hall ⟨0, .data⟩ (by simp) rfl)
        have UO : ∀ n, n ≠ 50 → updB us 50 (.pointer (some ⟨g, 0, none⟩)) n = us n := fun n h => updB_other h
        have U50 : updB us 50 (.pointer (some ⟨g, 0, none⟩)) 50 = (.pointer (some ⟨g, 0, none⟩)) := updB_same _ _ _
        have U0 := UO 0 (by decide)
        have U2 := UO 2 (by decide)
        have U4 := UO 4 (by decide)
        have U5 := UO 5 (by decide)
        have U7 := UO 7 (by decide)
        have U8 := UO 8 (by decide)
        have U10 := UO 10 (by decide)
        have U11 := UO 11 (by decide)
        have U49 := UO 49 (by decide)
        have U51 := UO 51 (by decide)
        have U52 := UO 52 (by decide)
        have U53 := UO 53 (by decide)
        have U54 := UO 54 (by decide)
        have U55 := UO 55 (by decide)
        have U56 := UO 56 (by decide)
        have U57 := UO 57 (by decide)
        have U58 := UO 58 (by decide)
        have U59 := UO 59 (by decide)
        have U60 := UO 60 (by decide)
        have U61 := UO 61 (by decide)
        have U62 := UO 62 (by decide)
        have U63 := UO 63 (by decide)
        have U64 := UO 64 (by decide)
        refine wpOp_step rfl (fun K hK => ?_)
        simp only [frRi, e0, e2, e4, e5, e7, e8, e10, e49]
        go_simp
        refine hK _ _ ⟨updB us 50 (.pointer (some ⟨g, 0, none⟩)), by simp [frRi, updB, e0, e2, e4, e5, e7, e8, e10, e49] <;> rfl, { u0 := (U0.trans I.u0), u2 := (U2.trans I.u2), u4 := (U4.trans I.u4), u5 := (U5.trans I.u5), u7 := (U7.trans I.u7), u8 := (U8.trans I.u8), u10 := (U10.trans I.u10), bel := (I.bel), o0 := (fun h => U49.trans (I.o0 (D0.symm.trans h))), o1 := (fun _ => U50), o2 := (fun h => U51.trans (I.o2 (D2.symm.trans h))), o3 := (fun h => U52.trans (I.o3 (D3.symm.trans h))), o4 := (fun h => U53.trans (I.o4 (D4.symm.trans h))), o5 := (fun h => U54.trans (I.o5 (D5.symm.trans h))), o6 := (fun h => U55.trans (I.o6 (D6.symm.trans h))), o7 := (fun h => U56.trans (I.o7 (D7.symm.trans h))), o8 := (fun h => U57.trans (I.o8 (D8.symm.trans h))), o9 := (fun h => U58.trans (I.o9 (D9.symm.trans h))), o10 := (fun h => U59.trans (I.o10 (D10.symm.trans h))), o11 := (fun h => U60.trans (I.o11 (D11.symm.trans h))), o12 := (fun h => U61.trans (I.o12 (D12.symm.trans h))), o13 := (fun h => U62.trans (I.o13 (D13.symm.trans h))), o14 := (fun h => U63.trans (I.o14 (D14.symm.trans h))), o15 := (fun h => U64.trans (I.o15 (D15.symm.trans h))), o16 := (fun h => by rw [U11, D17]; exact I.o16 (D16.symm.trans h)), o17 := (fun h => D16.trans (I.o17 (D17.symm.trans h))) }⟩
      · skip
        have DO : ∀ n, 2 ≠ n → (d'.setIfInBounds 2 true).getD n false = d'.getD n false := fun n h => getD_set_ne false h
        have D2 : (d'.setIfInBounds 2 true).getD 2 false = true := setB_same hun
        have D0 := DO 0 (by decide)
        have D1 := DO 1 (by decide)
        have D3 := DO 3 (by decide)
        have D4 := DO 4 (by decide)
        have D5 := DO 5 (by decide)
        have D6 := DO 6 (by decide)
        have D7 := DO 7 (by decide)
        have D8 := DO 8 (by decide)
        have D9 := DO 9 (by decide)
        have D10 := DO 10 (by decide)
        have D11 := DO 11 (by decide)
        have D12 := DO 12 (by decide)
        have D13 := DO 13 (by decide)
        have D14 := DO 14 (by decide)
        have D15 := DO 15 (by decide)
        have D16 := DO 16 (by decide)
        have D17 := DO 17 (by decide)
        have e50 := I.o1 (hall ⟨1, .data⟩ (by simp) rfl)
        have UO : ∀ n, n ≠ 51 → updB us 51 (.string ⟨a.toArray⟩) n = us n := fun n h => updB_other h
        have U51 : updB us 51 (.string ⟨a.toArray⟩) 51 = (.string ⟨a.toArray⟩) := updB_same _ _ _
        have U0 := UO 0 (by decide)
        have U2 := UO 2 (by decide)
        have U4 := UO 4 (by decide)
        have U5 := UO 5 (by decide)
        have U7 := UO 7 (by decide)
        have U8 := UO 8 (by decide)
        have U10 := UO 10 (by decide)
        have U11 := UO 11 (by decide)
        have U49 := UO 49 (by decide)
        have U50 := UO 50 (by decide)
        have U52 := UO 52 (by decide)
        have U53 := UO 53 (by decide)
        have U54 := UO 54 (by decide)
        have U55 := UO 55 (by decide)
        have U56 := UO 56 (by decide)
        have U57 := UO 57 (by decide)
        have U58 := UO 58 (by decide)
        have U59 := UO 59 (by decide)
        have U60 := UO 60 (by decide)
        have U61 := UO 61 (by decide)
        have U62 := UO 62 (by decide)
        have U63 := UO 63 (by decide)
        have U64 := UO 64 (by decide)
        refine wpOp_step rfl (fun K hK => ?_)
        simp only [frRi, e0, e2, e4, e5, e7, e8, e10, e50]
        go_simp
        refine hK _ _ ⟨updB us 51 (.string ⟨a.toArray⟩), by simp [frRi, updB, e0, e2, e4, e5, e7, e8, e10, e50] <;> rfl, { u0 := (U0.trans I.u0), u2 := (U2.trans I.u2), u4 := (U4.trans I.u4), u5 := (U5.trans I.u5), u7 := (U7.trans I.u7), u8 := (U8.trans I.u8), u10 := (U10.trans I.u10), bel := (I.bel), o0 := (fun h => U49.trans (I.o0 (D0.symm.trans h))), o1 := (fun h => U50.trans (I.o1 (D1.symm.trans h))), o2 := (fun _ => U51), o3 := (fun h => U52.trans (I.o3 (D3.symm.trans h))), o4 := (fun h => U53.trans (I.o4 (D4.symm.trans h))), o5 := (fun h => U54.trans (I.o5 (D5.symm.trans h))), o6 := (fun h => U55.trans (I.o6 (D6.symm.trans h))), o7 := (fun h => U56.trans (I.o7 (D7.symm.trans h))), o8 := (fun h => U57.trans (I.o8 (D8.symm.trans h))), o9 := (fun h => U58.trans (I.o9 (D9.symm.trans h))), o10 := (fun h => U59.trans (I.o10 (D10.symm.trans h))), o11 := (fun h => U60.trans (I.o11 (D11.symm.trans h))), o12 := (fun h => U61.trans (I.o12 (D12.symm.trans h))), o13 := (fun h => U62.trans (I.o13 (D13.symm.trans h))), o14 := (fun h => U63.trans (I.o14 (D14.symm.trans h))), o15 := (fun h => U64.trans (I.o15 (D15.symm.trans h))), o16 := (fun h => by rw [U11, D17]; exact I.o16 (D16.symm.trans h)), o17 := (fun h => D16.trans (I.o17 (D17.symm.trans h))) }⟩
      · skip
        have DO : ∀ n, 3 ≠ n → (d'.setIfInBounds 3 true).getD n false = d'.getD n false := fun n h => getD_set_ne false h
        have D3 : (d'.setIfInBounds 3 true).getD 3 false = true := setB_same hun
        have D0 := DO 0 (by decide)
        have D1 := DO 1 (by decide)
        have D2 := DO 2 (by decide)
        have D4 := DO 4 (by decide)
        have D5 := DO 5 (by decide)
        have D6 := DO 6 (by decide)
        have D7 := DO 7 (by decide)
        have D8 := DO 8 (by decide)
        have D9 := DO 9 (by decide)
        have D10 := DO 10 (by decide)
        have D11 := DO 11 (by decide)
        have D12 := DO 12 (by decide)
        have D13 := DO 13 (by decide)
        have D14 := DO 14 (by decide)
        have D15 := DO 15 (by decide)
        have D16 := DO 16 (by decide)
        have D17 := DO 17 (by decide)
        have UO : ∀ n, n ≠ 52 → updB us 52 (.int .i64 x) n = us n := fun n h => updB_other h
        have U52 : updB us 52 (.int .i64 x) 52 = (.int .i64 x) := updB_same _ _ _
        have U0 := UO 0 (by decide)
        have U2 := UO 2 (by decide)
        have U4 := UO 4 (by decide)
        have U5 := UO 5 (by decide)
        have U7 := UO 7 (by decide)
        have U8 := UO 8 (by decide)
        have U10 := UO 10 (by decide)
        have U11 := UO 11 (by decide)
        have U49 := UO 49 (by decide)
        have U50 := UO 50 (by decide)
        have U51 := UO 51 (by decide)
        have U53 := UO 53 (by decide)
        have U54 := UO 54 (by decide)
        have U55 := UO 55 (by decide)
        have U56 := UO 56 (by decide)
        have U57 := UO 57 (by decide)
        have U58 := UO 58 (by decide)
        have U59 := UO 59 (by decide)
        have U60 := UO 60 (by decide)
        have U61 := UO 61 (by decide)
        have U62 := UO 62 (by decide)
        have U63 := UO 63 (by decide)
        have U64 := UO 64 (by decide)
        refine wpOp_step rfl (fun K hK => ?_)
        simp only [frRi, e0, e2, e4, e5, e7, e8, e10]
        go_simp
        refine hK _ _ ⟨updB us 52 (.int .i64 x), by simp [frRi, updB, e0, e2, e4, e5, e7, e8, e10] <;> rfl, { u0 := (U0.trans I.u0), u2 := (U2.trans I.u2), u4 := (U4.trans I.u4), u5 := (U5.trans I.u5), u7 := (U7.trans I.u7), u8 := (U8.trans I.u8), u10 := (U10.trans I.u10), bel := (I.bel), o0 := (fun h => U49.trans (I.o0 (D0.symm.trans h))), o1 := (fun h => U50.trans (I.o1 (D1.symm.trans h))), o2 := (fun h => U51.trans (I.o2 (D2.symm.trans h))), o3 := (fun _ => U52), o4 := (fun h => U53.trans (I.o4 (D4.symm.trans h))), o5 := (fun h => U54.trans (I.o5 (D5.symm.trans h))), o6 := (fun h => U55.trans (I.o6 (D6.symm.trans h))), o7 := (fun h => U56.trans (I.o7 (D7.symm.trans h))), o8 := (fun h => U57.trans (I.o8 (D8.symm.trans h))), o9 := (fun h => U58.trans (I.o9 (D9.symm.trans h))), o10 := (fun h => U59.trans (I.o10 (D10.symm.trans h))), o11 := (fun h => U60.trans (I.o11 (D11.symm.trans h))), o12 := (fun h => U61.trans (I.o12 (D12.symm.trans h))), o13 := (fun h => U62.trans (I.o13 (D13.symm.trans h))), o14 := (fun h => U63.trans (I.o14 (D14.symm.trans h))), o15 := (fun h => U64.trans (I.o15 (D15.symm.trans h))), o16 := (fun h => by rw [U11, D17]; exact I.o16 (D16.symm.trans h)), o17 := (fun h => D16.trans (I.o17 (D17.symm.trans h))) }⟩
      · skip
        have DO : ∀ n, 4 ≠ n → (d'.setIfInBounds 4 true).getD n false = d'.getD n false := fun n h => getD_set_ne false h
        have D4 : (d'.setIfInBounds 4 true).getD 4 false = true := setB_same hun
        have D0 := DO 0 (by decide)
        have D1 := DO 1 (by decide)
        have D2 := DO 2 (by decide)
        have D3 := DO 3 (by decide)
        have D5 := DO 5 (by decide)
        have D6 := DO 6 (by decide)
        have D7 := DO 7 (by decide)
        have D8 := DO 8 (by decide)
        have D9 := DO 9 (by decide)
        have D10 := DO 10 (by decide)
        have D11 := DO 11 (by decide)
        have D12 := DO 12 (by decide)
        have D13 := DO 13 (by decide)
        have D14 := DO 14 (by decide)
        have D15 := DO 15 (by decide)
        have D16 := DO 16 (by decide)
        have D17 := DO 17 (by decide)
        have UO : ∀ n, n ≠ 53 → updB us 53 (.string ⟨[l0, l1, l2].toArray⟩) n = us n := fun n h => updB_other h
        have U53 : updB us 53 (.string ⟨[l0, l1, l2].toArray⟩) 53 = (.string ⟨[l0, l1, l2].toArray⟩) := updB_same _ _ _
        have U0 := UO 0 (by decide)
        have U2 := UO 2 (by decide)
        have U4 := UO 4 (by decide)
        have U5 := UO 5 (by decide)
        have U7 := UO 7 (by decide)
        have U8 := UO 8 (by decide)
        have U10 := UO 10 (by decide)
        have U11 := UO 11 (by decide)
        have U49 := UO 49 (by decide)
        have U50 := UO 50 (by decide)
        have U51 := UO 51 (by decide)
        have U52 := UO 52 (by decide)
        have U54 := UO 54 (by decide)
        have U55 := UO 55 (by decide)
        have U56 := UO 56 (by decide)
        have U57 := UO 57 (by decide)
        have U58 := UO 58 (by decide)
        have U59 := UO 59 (by decide)
        have U60 := UO 60 (by decide)
        have U61 := UO 61 (by decide)
        have U62 := UO 62 (by decide)
        have U63 := UO 63 (by decide)
        have U64 := UO 64 (by decide)
        refine wpOp_step rfl (fun K hK => ?_)
        simp only [frRi, e0, e2, e4, e5, e7, e8, e10]
        go_simp
        refine hK _ _ ⟨updB us 53 (.string ⟨[l0, l1, l2].toArray⟩), by simp [frRi, updB, e0, e2, e4, e5, e7, e8, e10] <;> rfl, { u0 := (U0.trans I.u0), u2 := (U2.trans I.u2), u4 := (U4.trans I.u4), u5 := (U5.trans I.u5), u7 := (U7.trans I.u7), u8 := (U8.trans I.u8), u10 := (U10.trans I.u10), bel := (I.bel), o0 := (fun h => U49.trans (I.o0 (D0.symm.trans h))), o1 := (fun h => U50.trans (I.o1 (D1.symm.trans h))), o2 := (fun h => U51.trans (I.o2 (D2.symm.trans h))), o3 := (fun h => U52.trans (I.o3 (D3.symm.trans h))), o4 := (fun _ => U53), o5 := (fun h => U54.trans (I.o5 (D5.symm.trans h))), o6 := (fun h => U55.trans (I.o6 (D6.symm.trans h))), o7 := (fun h => U56.trans (I.o7 (D7.symm.trans h))), o8 := (fun h => U57.trans (I.o8 (D8.symm.trans h))), o9 := (fun h => U58.trans (I.o9 (D9.symm.trans h))), o10 := (fun h => U59.trans (I.o10 (D10.symm.trans h))), o11 := (fun h => U60.trans (I.o11 (D11.symm.trans h))), o12 := (fun h => U61.trans (I.o12 (D12.symm.trans h))), o13 := (fun h => U62.trans (I.o13 (D13.symm.trans h))), o14 := (fun h => U63.trans (I.o14 (D14.symm.trans h))), o15 := (fun h => U64.trans (I.o15 (D15.symm.trans h))), o16 := (fun h => by rw [U11, D17]; exact I.o16 (D16.symm.trans h)), o17 := (fun h => D16.trans (I.o17 (D17.symm.trans h))) }⟩
      · skip
        have DO : ∀ n, 5 ≠ n → (d'.setIfInBounds 5 true).getD n false = d'.getD n false := fun n h => getD_set_ne false h
        have D5 : (d'.setIfInBounds 5 true).getD 5 false = true := setB_same hun
        have D0 := DO 0 (by decide)
        have D1 := DO 1 (by decide)
        have D2 := DO 2 (by decide)
        have D3 := DO 3 (by decide)
        have D4 := DO 4 (by decide)
        have D6 := DO 6 (by decide)
        have D7 := DO 7 (by decide)
        have D8 := DO 8 (by decide)
        have D9 := DO 9 (by decide)
        have D10 := DO 10 (by decide)
        have D11 := DO 11 (by decide)
        have D12 := DO 12 (by decide)
        have D13 := DO 13 (by decide)
        have D14 := DO 14 (by decide)
        have D15 := DO 15 (by decide)
        have D16 := DO 16 (by decide)
        have D17 := DO 17 (by decide)
        have e53 := I.o4 (hall ⟨4, .data⟩ (by simp) rfl)
        have UO : ∀ n, n ≠ 54 → updB us 54 (.int .u8 (l0.toNat : Int)) n = us n := fun n h => updB_other h
        have U54 : updB us 54 (.int .u8 (l0.toNat : Int)) 54 = (.int .u8 (l0.toNat : Int)) := updB_same _ _ _
        have U0 := UO 0 (by decide)
        have U2 := UO 2 (by decide)
        have U4 := UO 4 (by decide)
        have U5 := UO 5 (by decide)
        have U7 := UO 7 (by decide)
        have U8 := UO 8 (by decide)
        have U10 := UO 10 (by decide)
        have U11 := UO 11 (by decide)
        have U49 := UO 49 (by decide)
        have U50 := UO 50 (by decide)
        have U51 := UO 51 (by decide)
        have U52 := UO 52 (by decide)
        have U53 := UO 53 (by decide)
        have U55 := UO 55 (by decide)
        have U56 := UO 56 (by decide)
        have U57 := UO 57 (by decide)
        have U58 := UO 58 (by decide)
        have U59 := UO 59 (by decide)
        have U60 := UO 60 (by decide)
        have U61 := UO 61 (by decide)
        have U62 := UO 62 (by decide)
        have U63 := UO 63 (by decide)
        have U64 := UO 64 (by decide)
        refine wpOp_step rfl (fun K hK => ?_)
        simp only [frRi, e0, e2, e4, e5, e7, e8, e10, e53]
        go_simp
        refine hK _ _ ⟨updB us 54 (.int .u8 (l0.toNat : Int)), by simp [frRi, updB, e0, e2, e4, e5, e7, e8, e10, e53] <;> rfl, { u0 := (U0.trans I.u0), u2 := (U2.trans I.u2), u4 := (U4.trans I.u4), u5 := (U5.trans I.u5), u7 := (U7.trans I.u7), u8 := (U8.trans I.u8), u10 := (U10.trans I.u10), bel := (I.bel), o0 := (fun h => U49.trans (I.o0 (D0.symm.trans h))), o1 := (fun h => U50.trans (I.o1 (D1.symm.trans h))), o2 := (fun h => U51.trans (I.o2 (D2.symm.trans h))), o3 := (fun h => U52.trans (I.o3 (D3.symm.trans h))), o4 := (fun h => U53.trans (I.o4 (D4.symm.trans h))), o5 := (fun _ => U54), o6 := (fun h => U55.trans (I.o6 (D6.symm.trans h))), o7 := (fun h => U56.trans (I.o7 (D7.symm.trans h))), o8 := (fun h => U57.trans (I.o8 (D8.symm.trans h))), o9 := (fun h => U58.trans (I.o9 (D9.symm.trans h))), o10 := (fun h => U59.trans (I.o10 (D10.symm.trans h))), o11 := (fun h => U60.trans (I.o11 (D11.symm.trans h))), o12 := (fun h => U61.trans (I.o12 (D12.symm.trans h))), o13 := (fun h => U62.trans (I.o13 (D13.symm.trans h))), o14 := (fun h => U63.trans (I.o14 (D14.symm.trans h))), o15 := (fun h => U64.trans (I.o15 (D15.symm.trans h))), o16 := (fun h => by rw [U11, D17]; exact I.o16 (D16.symm.trans h)), o17 := (fun h => D16.trans (I.o17 (D17.symm.trans h))) }⟩
      · skip
        have DO : ∀ n, 6 ≠ n → (d'.setIfInBounds 6 true).getD n false = d'.getD n false := fun n h => getD_set_ne false h
        have D6 : (d'.setIfInBounds 6 true).getD 6 false = true := setB_same hun
        have D0 := DO 0 (by decide)
        have D1 := DO 1 (by decide)
        have D2 := DO 2 (by decide)
        have D3 := DO 3 (by decide)
        have D4 := DO 4 (by decide)
        have D5 := DO 5 (by decide)
        have D7 := DO 7 (by decide)
        have D8 := DO 8 (by decide)
        have D9 := DO 9 (by decide)
        have D10 := DO 10 (by decide)
        have D11 := DO 11 (by decide)
        have D12 := DO 12 (by decide)
        have D13 := DO 13 (by decide)
        have D14 := DO 14 (by decide)
        have D15 := DO 15 (by decide)
        have D16 := DO 16 (by decide)
        have D17 := DO 17 (by decide)
        have e54 := I.o5 (hall ⟨5, .data⟩ (by simp) rfl)
        have UO : ∀ n, n ≠ 55 → updB us 55 (.int .i64 (rn l0)) n = us n := fun n h => updB_other h
        have U55 : updB us 55 (.int .i64 (rn l0)) 55 = (.int .i64 (rn l0)) := updB_same _ _ _
        have U0 := UO 0 (by decide)
        have U2 := UO 2 (by decide)
        have U4 := UO 4 (by decide)
        have U5 := UO 5 (by decide)
        have U7 := UO 7 (by decide)
        have U8 := UO 8 (by decide)
        have U10 := UO 10 (by decide)
        have U11 := UO 11 (by decide)
        have U49 := UO 49 (by decide)
        have U50 := UO 50 (by decide)
        have U51 := UO 51 (by decide)
        have U52 := UO 52 (by decide)
        have U53 := UO 53 (by decide)
        have U54 := UO 54 (by decide)
        have U56 := UO 56 (by decide)
        have U57 := UO 57 (by decide)
        have U58 := UO 58 (by decide)
        have U59 := UO 59 (by decide)
        have U60 := UO 60 (by decide)
        have U61 := UO 61 (by decide)
        have U62 := UO 62 (by decide)
        have U63 := UO 63 (by decide)
        have U64 := UO 64 (by decide)
        refine wpOp_step rfl (fun K hK => ?_)
        simp only [frRi, e0, e2, e4, e5, e7, e8, e10, e54]
        go_simp
        go_wp2_with (go_at_call 30; refine (PR.out l0 W).mono ?_; rintro e w2 ⟨rfl, hb2⟩)
        exact ⟨updB us 55 (.int .i64 (rn l0)), by simp [frRi, updB, e0, e2, e4, e5, e7, e8, e10, e54] <;> rfl, { u0 := (U0.trans I.u0), u2 := (U2.trans I.u2), u4 := (U4.trans I.u4), u5 := (U5.trans I.u5), u7 := (U7.trans I.u7), u8 := (U8.trans I.u8), u10 := (U10.trans I.u10), bel := (I.bel.trans (hb2.mono hsz)), o0 := (fun h => U49.trans (I.o0 (D0.symm.trans h))), o1 := (fun h => U50.trans (I.o1 (D1.symm.trans h))), o2 := (fun h => U51.trans (I.o2 (D2.symm.trans h))), o3 := (fun h => U52.trans (I.o3 (D3.symm.trans h))), o4 := (fun h => U53.trans (I.o4 (D4.symm.trans h))), o5 := (fun h => U54.trans (I.o5 (D5.symm.trans h))), o6 := (fun _ => U55), o7 := (fun h => U56.trans (I.o7 (D7.symm.trans h))), o8 := (fun h => U57.trans (I.o8 (D8.symm.trans h))), o9 := (fun h => U58.trans (I.o9 (D9.symm.trans h))), o10 := (fun h => U59.trans (I.o10 (D10.symm.trans h))), o11 := (fun h => U60.trans (I.o11 (D11.symm.trans h))), o12 := (fun h => U61.trans (I.o12 (D12.symm.trans h))), o13 := (fun h => U62.trans (I.o13 (D13.symm.trans h))), o14 := (fun h => U63.trans (I.o14 (D14.symm.trans h))), o15 := (fun h => U64.trans (I.o15 (D15.symm.trans h))), o16 := (fun h => by rw [U11, D17]; obtain ⟨B2, g1, g2, g3⟩ := I.o16 (D16.symm.trans h); exact ⟨B2, g1, g2, (hb2.block B2 (lt_some g3)).trans g3⟩), o17 := (fun h => D16.trans (I.o17 (D17.symm.trans h))) }⟩
      · skip
        have DO : ∀ n, 7 ≠ n → (d'.setIfInBounds 7 true).getD n false = d'.getD n false := fun n h => getD_set_ne false h
        have D7 : (d'.setIfInBounds 7 true).getD 7 false = true := setB_same hun
        have D0 := DO 0 (by decide)
        have D1 := DO 1 (by decide)
        have D2 := DO 2 (by decide)
        have D3 := DO 3 (by decide)
        have D4 := DO 4 (by decide)
        have D5 := DO 5 (by decide)
        have D6 := DO 6 (by decide)
        have D8 := DO 8 (by decide)
        have D9 := DO 9 (by decide)
        have D10 := DO 10 (by decide)
        have D11 := DO 11 (by decide)
        have D12 := DO 12 (by decide)
        have D13 := DO 13 (by decide)
        have D14 := DO 14 (by decide)
        have D15 := DO 15 (by decide)
        have D16 := DO 16 (by decide)
        have D17 := DO 17 (by decide)
        have UO : ∀ n, n ≠ 56 → updB us 56 (.string ⟨[l0, l1, l2].toArray⟩) n = us n := fun n h => updB_other h
        have U56 : updB us 56 (.string ⟨[l0, l1, l2].toArray⟩) 56 = (.string ⟨[l0, l1, l2].toArray⟩) := updB_same _ _ _
        have U0 := UO 0 (by decide)
        have U2 := UO 2 (by decide)
        have U4 := UO 4 (by decide)
        have U5 := UO 5 (by decide)
        have U7 := UO 7 (by decide)
        have U8 := UO 8 (by decide)
        have U10 := UO 10 (by decide)
        have U11 := UO 11 (by decide)
        have U49 := UO 49 (by decide)
        have U50 := UO 50 (by decide)
        have U51 := UO 51 (by decide)
        have U52 := UO 52 (by decide)
        have U53 := UO 53 (by decide)
        have U54 := UO 54 (by decide)
        have U55 := UO 55 (by decide)
        have U57 := UO 57 (by decide)
        have U58 := UO 58 (by decide)
        have U59 := UO 59 (by decide)
        have U60 := UO 60 (by decide)
        have U61 := UO 61 (by decide)
        have U62 := UO 62 (by decide)
        have U63 := UO 63 (by decide)
        have U64 := UO 64 (by decide)
        refine wpOp_step rfl (fun K hK => ?_)
        simp only [frRi, e0, e2, e4, e5, e7, e8, e10]
        go_simp
        refine hK _ _ ⟨updB us 56 (.string ⟨[l0, l1, l2].toArray⟩), by simp [frRi, updB, e0, e2, e4, e5, e7, e8, e10] <;> rfl, { u0 := (U0.trans I.u0), u2 := (U2.trans I.u2), u4 := (U4.trans I.u4), u5 := (U5.trans I.u5), u7 := (U7.trans I.u7), u8 := (U8.trans I.u8), u10 := (U10.trans I.u10), bel := (I.bel), o0 := (fun h => U49.trans (I.o0 (D0.symm.trans h))), o1 := (fun h => U50.trans (I.o1 (D1.symm.trans h))), o2 := (fun h => U51.trans (I.o2 (D2.symm.trans h))), o3 := (fun h => U52.trans (I.o3 (D3.symm.trans h))), o4 := (fun h => U53.trans (I.o4 (D4.symm.trans h))), o5 := (fun h => U54.trans (I.o5 (D5.symm.trans h))), o6 := (fun h => U55.trans (I.o6 (D6.symm.trans h))), o7 := (fun _ => U56), o8 := (fun h => U57.trans (I.o8 (D8.symm.trans h))), o9 := (fun h => U58.trans (I.o9 (D9.symm.trans h))), o10 := (fun h => U59.trans (I.o10 (D10.symm.trans h))), o11 := (fun h => U60.trans (I.o11 (D11.symm.trans h))), o12 := (fun h => U61.trans (I.o12 (D12.symm.trans h))), o13 := (fun h => U62.trans (I.o13 (D13.symm.trans h))), o14 := (fun h => U63.trans (I.o14 (D14.symm.trans h))), o15 := (fun h => U64.trans (I.o15 (D15.symm.trans h))), o16 := (fun h => by rw [U11, D17]; exact I.o16 (D16.symm.trans h)), o17 := (fun h => D16.trans (I.o17 (D17.symm.trans h))) }⟩
      · skip
        have DO : ∀ n, 8 ≠ n → (d'.setIfInBounds 8 true).getD n false = d'.getD n false := fun n h => getD_set_ne false h
        have D8 : (d'.setIfInBounds 8 true).getD 8 false = true := setB_same hun
        have D0 := DO 0 (by decide)
        have D1 := DO 1 (by decide)
        have D2 := DO 2 (by decide)
        have D3 := DO 3 (by decide)
        have D4 := DO 4 (by decide)
        have D5 := DO 5 (by decide)
        have D6 := DO 6 (by decide)
        have D7 := DO 7 (by decide)
        have D9 := DO 9 (by decide)
        have D10 := DO 10 (by decide)
        have D11 := DO 11 (by decide)
        have D12 := DO 12 (by decide)
        have D13 := DO 13 (by decide)
        have D14 := DO 14 (by decide)
        have D15 := DO 15 (by decide)
        have D16 := DO 16 (by decide)
        have D17 := DO 17 (by decide)
        have e56 := I.o7 (hall ⟨7, .data⟩ (by simp) rfl)
        have UO : ∀ n, n ≠ 57 → updB us 57 (.int .u8 (l1.toNat : Int)) n = us n := fun n h => updB_other h
        have U57 : updB us 57 (.int .u8 (l1.toNat : Int)) 57 = (.int .u8 (l1.toNat : Int)) := updB_same _ _ _
        have U0 := UO 0 (by decide)
        have U2 := UO 2 (by decide)
        have U4 := UO 4 (by decide)
        have U5 := UO 5 (by decide)
        have U7 := UO 7 (by decide)
        have U8 := UO 8 (by decide)
        have U10 := UO 10 (by decide)
        have U11 := UO 11 (by decide)
        have U49 := UO 49 (by decide)
        have U50 := UO 50 (by decide)
        have U51 := UO 51 (by decide)
        have U52 := UO 52 (by decide)
        have U53 := UO 53 (by decide)
        have U54 := UO 54 (by decide)
        have U55 := UO 55 (by decide)
        have U56 := UO 56 (by decide)
        have U58 := UO 58 (by decide)
        have U59 := UO 59 (by decide)
        have U60 := UO 60 (by decide)
        have U61 := UO 61 (by decide)
        have U62 := UO 62 (by decide)
        have U63 := UO 63 (by decide)
        have U64 := UO 64 (by decide)
        refine wpOp_step rfl (fun K hK => ?_)
        simp only [frRi, e0, e2, e4, e5, e7, e8, e10, e56]
        go_simp
        refine hK _ _ ⟨updB us 57 (.int .u8 (l1.toNat : Int)), by simp [frRi, updB, e0, e2, e4, e5, e7, e8, e10, e56] <;> rfl, { u0 := (U0.trans I.u0), u2 := (U2.trans I.u2), u4 := (U4.trans I.u4), u5 := (U5.trans I.u5), u7 := (U7.trans I.u7), u8 := (U8.trans I.u8), u10 := (U10.trans I.u10), bel := (I.bel), o0 := (fun h => U49.trans (I.o0 (D0.symm.trans h))), o1 := (fun h => U50.trans (I.o1 (D1.symm.trans h))), o2 := (fun h => U51.trans (I.o2 (D2.symm.trans h))), o3 := (fun h => U52.trans (I.o3 (D3.symm.trans h))), o4 := (fun h => U53.trans (I.o4 (D4.symm.trans h))), o5 := (fun h => U54.trans (I.o5 (D5.symm.trans h))), o6 := (fun h => U55.trans (I.o6 (D6.symm.trans h))), o7 := (fun h => U56.trans (I.o7 (D7.symm.trans h))), o8 := (fun _ => U57), o9 := (fun h => U58.trans (I.o9 (D9.symm.trans h))), o10 := (fun h => U59.trans (I.o10 (D10.symm.trans h))), o11 := (fun h => U60.trans (I.o11 (D11.symm.trans h))), o12 := (fun h => U61.trans (I.o12 (D12.symm.trans h))), o13 := (fun h => U62.trans (I.o13 (D13.symm.trans h))), o14 := (fun h => U63.trans (I.o14 (D14.symm.trans h))), o15 := (fun h => U64.trans (I.o15 (D15.symm.trans h))), o16 := (fun h => by rw [U11, D17]; exact I.o16 (D16.symm.trans h)), o17 := (fun h => D16.trans (I.o17 (D17.symm.trans h))) }⟩
      · skip
        have DO : ∀ n, 9 ≠ n → (d'.setIfInBounds 9 true).getD n false = d'.getD n false := fun n h => getD_set_ne false h
        have D9 : (d'.setIfInBounds 9 true).getD 9 false = true := setB_same hun
        have D0 := DO 0 (by decide)
        have D1 := DO 1 (by decide)
        have D2 := DO 2 (by decide)
        have D3 := DO 3 (by decide)
        have D4 := DO 4 (by decide)
        have D5 := DO 5 (by decide)
        have D6 := DO 6 (by decide)
        have D7 := DO 7 (by decide)
        have D8 := DO 8 (by decide)
        have D10 := DO 10 (by decide)
        have D11 := DO 11 (by decide)
        have D12 := DO 12 (by decide)
        have D13 := DO 13 (by decide)
        have D14 := DO 14 (by decide)
        have D15 := DO 15 (by decide)
        have D16 := DO 16 (by decide)
        have D17 := DO 17 (by decide)
        have e57 := I.o8 (hall ⟨8, .data⟩ (by simp) rfl)
        have UO : ∀ n, n ≠ 58 → updB us 58 (.int .i64 (rn l1)) n = us n := fun n h => updB_other h
        have U58 : updB us 58 (.int .i64 (rn l1)) 58 = (.int .i64 (rn l1)) := updB_same _ _ _
        have U0 := UO 0 (by decide)
        have U2 := UO 2 (by decide)
        have U4 := UO 4 (by decide)
        have U5 := UO 5 (by decide)
        have U7 := UO 7 (by decide)
        have U8 := UO 8 (by decide)
        have U10 := UO 10 (by decide)
        have U11 := UO 11 (by decide)
        have U49 := UO 49 (by decide)
        have U50 := UO 50 (by decide)
        have U51 := UO 51 (by decide)
        have U52 := UO 52 (by decide)
        have U53 := UO 53 (by decide)
        have U54 := UO 54 (by decide)
        have U55 := UO 55 (by decide)
        have U56 := UO 56 (by decide)
        have U57 := UO 57 (by decide)
        have U59 := UO 59 (by decide)
        have U60 := UO 60 (by decide)
        have U61 := UO 61 (by decide)
        have U62 := UO 62 (by decide)
        have U63 := UO 63 (by decide)
        have U64 := UO 64 (by decide)
        refine wpOp_step rfl (fun K hK => ?_)
        simp only [frRi, e0, e2, e4, e5, e7, e8, e10, e57]
        go_simp
        go_wp2_with (go_at_call 30; refine (PR.out l1 W).mono ?_; rintro e w2 ⟨rfl, hb2⟩)
        exact ⟨updB us 58 (.int .i64 (rn l1)), by simp [frRi, updB, e0, e2, e4, e5, e7, e8, e10, e57] <;> rfl, { u0 := (U0.trans I.u0), u2 := (U2.trans I.u2), u4 := (U4.trans I.u4), u5 := (U5.trans I.u5), u7 := (U7.trans I.u7), u8 := (U8.trans I.u8), u10 := (U10.trans I.u10), bel := (I.bel.trans (hb2.mono hsz)), o0 := (fun h => U49.trans (I.o0 (D0.symm.trans h))), o1 := (fun h => U50.trans (I.o1 (D1.symm.trans h))), o2 := (fun h => U51.trans (I.o2 (D2.symm.trans h))), o3 := (fun h => U52.trans (I.o3 (D3.symm.trans h))), o4 := (fun h => U53.trans (I.o4 (D4.symm.trans h))), o5 := (fun h => U54.trans (I.o5 (D5.symm.trans h))), o6 := (fun h => U55.trans (I.o6 (D6.symm.trans h))), o7 := (fun h => U56.trans (I.o7 (D7.symm.trans h))), o8 := (fun h => U57.trans (I.o8 (D8.symm.trans h))), o9 := (fun _ => U58), o10 := (fun h => U59.trans (I.o10 (D10.symm.trans h))), o11 := (fun h => U60.trans (I.o11 (D11.symm.trans h))), o12 := (fun h => U61.trans (I.o12 (D12.symm.trans h))), o13 := (fun h => U62.trans (I.o13 (D13.symm.trans h))), o14 := (fun h => U63.trans (I.o14 (D14.symm.trans h))), o15 := (fun h => U64.trans (I.o15 (D15.symm.trans h))), o16 := (fun h => by rw [U11, D17]; obtain ⟨B2, g1, g2, g3⟩ := I.o16 (D16.symm.trans h); exact ⟨B2, g1, g2, (hb2.block B2 (lt_some g3)).trans g3⟩), o17 := (fun h => D16.trans (I.o17 (D17.symm.trans h))) }⟩
      · skip
        have DO : ∀ n, 10 ≠ n → (d'.setIfInBounds 10 true).getD n false = d'.getD n false := fun n h => getD_set_ne false h
        have D10 : (d'.setIfInBounds 10 true).getD 10 false = true := setB_same hun
        have D0 := DO 0 (by decide)
        have D1 := DO 1 (by decide)
        have D2 := DO 2 (by decide)
        have D3 := DO 3 (by decide)
        have D4 := DO 4 (by decide)
        have D5 := DO 5 (by decide)
        have D6 := DO 6 (by decide)
        have D7 := DO 7 (by decide)
        have D8 := DO 8 (by decide)
        have D9 := DO 9 (by decide)
        have D11 := DO 11 (by decide)
        have D12 := DO 12 (by decide)
        have D13 := DO 13 (by decide)
        have D14 := DO 14 (by decide)
        have D15 := DO 15 (by decide)
        have D16 := DO 16 (by decide)
        have D17 := DO 17 (by decide)
        have UO : ∀ n, n ≠ 59 → updB us 59 (.string ⟨[l0, l1, l2].toArray⟩) n = us n := fun n h => updB_other h
        have U59 : updB us 59 (.string ⟨[l0, l1, l2].toArray⟩) 59 = (.string ⟨[l0, l1, l2].toArray⟩) := updB_same _ _ _
        have U0 := UO 0 (by decide)
        have U2 := UO 2 (by decide)
        have U4 := UO 4 (by decide)
        have U5 := UO 5 (by decide)
        have U7 := UO 7 (by decide)
        have U8 := UO 8 (by decide)
        have U10 := UO 10 (by decide)
        have U11 := UO 11 (by decide)
        have U49 := UO 49 (by decide)
        have U50 := UO 50 (by decide)
        have U51 := UO 51 (by decide)
        have U52 := UO 52 (by decide)
        have U53 := UO 53 (by decide)
        have U54 := UO 54 (by decide)
        have U55 := UO 55 (by decide)
        have U56 := UO 56 (by decide)
        have U57 := UO 57 (by decide)
        have U58 := UO 58 (by decide)
        have U60 := UO 60 (by decide)
        have U61 := UO 61 (by decide)
        have U62 := UO 62 (by decide)
        have U63 := UO 63 (by decide)
        have U64 := UO 64 (by decide)
        refine wpOp_step rfl (fun K hK => ?_)
        simp only [frRi, e0, e2, e4, e5, e7, e8, e10]
        go_simp
        refine hK _ _ ⟨updB us 59 (.string ⟨[l0, l1, l2].toArray⟩), by simp [frRi, updB, e0, e2, e4, e5, e7, e8, e10] <;> rfl, { u0 := (U0.trans I.u0), u2 := (U2.trans I.u2), u4 := (U4.trans I.u4), u5 := (U5.trans I.u5), u7 := (U7.trans I.u7), u8 := (U8.trans I.u8), u10 := (U10.trans I.u10), bel := (I.bel), o0 := (fun h => U49.trans (I.o0 (D0.symm.trans h))), o1 := (fun h => U50.trans (I.o1 (D1.symm.trans h))), o2 := (fun h => U51.trans (I.o2 (D2.symm.trans h))), o3 := (fun h => U52.trans (I.o3 (D3.symm.trans h))), o4 := (fun h => U53.trans (I.o4 (D4.symm.trans h))), o5 := (fun h => U54.trans (I.o5 (D5.symm.trans h))), o6 := (fun h => U55.trans (I.o6 (D6.symm.trans h))), o7 := (fun h => U56.trans (I.o7 (D7.symm.trans h))), o8 := (fun h => U57.trans (I.o8 (D8.symm.trans h))), o9 := (fun h => U58.trans (I.o9 (D9.symm.trans h))), o10 := (fun _ => U59), o11 := (fun h => U60.trans (I.o11 (D11.symm.trans h))), o12 := (fun h => U61.trans (I.o12 (D12.symm.trans h))), o13 := (fun h => U62.trans (I.o13 (D13.symm.trans h))), o14 := (fun h => U63.trans (I.o14 (D14.symm.trans h))), o15 := (fun h => U64.trans (I.o15 (D15.symm.trans h))), o16 := (fun h => by rw [U11, D17]; exact I.o16 (D16.symm.trans h)), o17 := (fun h => D16.trans (I.o17 (D17.symm.trans h))) }⟩
      · skip
        have DO : ∀ n, 11 ≠ n → (d'.setIfInBounds 11 true).getD n false = d'.getD n false := fun n h => getD_set_ne false h
        have D11 : (d'.setIfInBounds 11 true).getD 11 false = true := setB_same hun
        have D0 := DO 0 (by decide)
        have D1 := DO 1 (by decide)
        have D2 := DO 2 (by decide)
        have D3 := DO 3 (by decide)
        have D4 := DO 4 (by decide)
        have D5 := DO 5 (by decide)
        have D6 := DO 6 (by decide)
        have D7 := DO 7 (by decide)
        have D8 := DO 8 (by decide)
        have D9 := DO 9 (by decide)
        have D10 := DO 10 (by decide)
        have D12 := DO 12 (by decide)
        have D13 := DO 13 (by decide)
        have D14 := DO 14 (by decide)
        have D15 := DO 15 (by decide)
        have D16 := DO 16 (by decide)
        have D17 := DO 17 (by decide)
        have e59 := I.o10 (hall ⟨10, .data⟩ (by simp) rfl)
        have UO : ∀ n, n ≠ 60 → updB us 60 (.int .u8 (l2.toNat : Int)) n = us n := fun n h => updB_other h
        have U60 : updB us 60 (.int .u8 (l2.toNat : Int)) 60 = (.int .u8 (l2.toNat : Int)) := updB_same _ _ _
        have U0 := UO 0 (by decide)
        have U2 := UO 2 (by decide)
        have U4 := UO 4 (by decide)
        have U5 := UO 5 (by decide)
        have U7 := UO 7 (by decide)
        have U8 := UO 8 (by decide)
        have U10 := UO 10 (by decide)
        have U11 := UO 11 (by decide)
        have U49 := UO 49 (by decide)
        have U50 := UO 50 (by decide)
        have U51 := UO 51 (by decide)
        have U52 := UO 52 (by decide)
        have U53 := UO 53 (by decide)
        have U54 := UO 54 (by decide)
        have U55 := UO 55 (by decide)
        have U56 := UO 56 (by decide)
        have U57 := UO 57 (by decide)
        have U58 := UO 58 (by decide)
        have U59 := UO 59 (by decide)
        have U61 := UO 61 (by decide)
        have U62 := UO 62 (by decide)
        have U63 := UO 63 (by decide)
        have U64 := UO 64 (by decide)
        refine wpOp_step rfl (fun K hK => ?_)
        simp only [frRi, e0, e2, e4, e5, e7, e8, e10, e59]
        go_simp
        refine hK _ _ ⟨updB us 60 (.int .u8 (l2.toNat : Int)), by simp [frRi, updB, e0, e2, e4, e5, e7, e8, e10, e59] <;> rfl, { u0 := (U0.trans I.u0), u2 := (U2.trans I.u2), u4 := (U4.trans I.u4), u5 := (U5.trans I.u5), u7 := (U7.trans I.u7), u8 := (U8.trans I.u8), u10 := (U10.trans I.u10), bel := (I.bel), o0 := (fun h => U49.trans (I.o0 (D0.symm.trans h))), o1 := (fun h => U50.trans (I.o1 (D1.symm.trans h))), o2 := (fun h => U51.trans (I.o2 (D2.symm.trans h))), o3 := (fun h => U52.trans (I.o3 (D3.symm.trans h))), o4 := (fun h => U53.trans (I.o4 (D4.symm.trans h))), o5 := (fun h => U54.trans (I.o5 (D5.symm.trans h))), o6 := (fun h => U55.trans (I.o6 (D6.symm.trans h))), o7 := (fun h => U56.trans (I.o7 (D7.symm.trans h))), o8 := (fun h => U57.trans (I.o8 (D8.symm.trans h))), o9 := (fun h => U58.trans (I.o9 (D9.symm.trans h))), o10 := (fun h => U59.trans (I.o10 (D10.symm.trans h))), o11 := (fun _ => U60), o12 := (fun h => U61.trans (I.o12 (D12.symm.trans h))), o13 := (fun h => U62.trans (I.o13 (D13.symm.trans h))), o14 := (fun h => U63.trans (I.o14 (D14.symm.trans h))), o15 := (fun h => U64.trans (I.o15 (D15.symm.trans h))), o16 := (fun h => by rw [U11, D17]; exact I.o16 (D16.symm.trans h)), o17 := (fun h => D16.trans (I.o17 (D17.symm.trans h))) }⟩
      · skip
        have DO : ∀ n, 12 ≠ n → (d'.setIfInBounds 12 true).getD n false = d'.getD n false := fun n h => getD_set_ne false h
        have D12 : (d'.setIfInBounds 12 true).getD 12 false = true := setB_same hun
        have D0 := DO 0 (by decide)
        have D1 := DO 1 (by decide)
        have D2 := DO 2 (by decide)
        have D3 := DO 3 (by decide)
        have D4 := DO 4 (by decide)
        have D5 := DO 5 (by decide)
        have D6 := DO 6 (by decide)
        have D7 := DO 7 (by decide)
        have D8 := DO 8 (by decide)
        have D9 := DO 9 (by decide)
        have D10 := DO 10 (by decide)
        have D11 := DO 11 (by decide)
        have D13 := DO 13 (by decide)
        have D14 := DO 14 (by decide)
        have D15 := DO 15 (by decide)
        have D16 := DO 16 (by decide)
        have D17 := DO 17 (by decide)
        have e60 := I.o11 (hall ⟨11, .data⟩ (by simp) rfl)
        have UO : ∀ n, n ≠ 61 → updB us 61 (.int .i64 (rn l2)) n = us n := fun n h => updB_other h
        have U61 : updB us 61 (.int .i64 (rn l2)) 61 = (.int .i64 (rn l2)) := updB_same _ _ _
        have U0 := UO 0 (by decide)
        have U2 := UO 2 (by decide)
        have U4 := UO 4 (by decide)
        have U5 := UO 5 (by decide)
        have U7 := UO 7 (by decide)
        have U8 := UO 8 (by decide)
        have U10 := UO 10 (by decide)
        have U11 := UO 11 (by decide)
        have U49 := UO 49 (by decide)
        have U50 := UO 50 (by decide)
        have U51 := UO 51 (by decide)
        have U52 := UO 52 (by decide)
        have U53 := UO 53 (by decide)
        have U54 := UO 54 (by decide)
        have U55 := UO 55 (by decide)
        have U56 := UO 56 (by decide)
        have U57 := UO 57 (by decide)
        have U58 := UO 58 (by decide)
        have U59 := UO 59 (by decide)
        have U60 := UO 60 (by decide)
        have U62 := UO 62 (by decide)
        have U63 := UO 63 (by decide)
        have U64 := UO 64 (by decide)
        refine wpOp_step rfl (fun K hK => ?_)
        simp only [frRi, e0, e2, e4, e5, e7, e8, e10, e60]
        go_simp
        go_wp2_with (go_at_call 30; refine (PR.out l2 W).mono ?_; rintro e w2 ⟨rfl, hb2⟩)
        exact ⟨updB us 61 (.int .i64 (rn l2)), by simp [frRi, updB, e0, e2, e4, e5, e7, e8, e10, e60] <;> rfl, { u0 := (U0.trans I.u0), u2 := (U2.trans I.u2), u4 := (U4.trans I.u4), u5 := (U5.trans I.u5), u7 := (U7.trans I.u7), u8 := (U8.trans I.u8), u10 := (U10.trans I.u10), bel := (I.bel.trans (hb2.mono hsz)), o0 := (fun h => U49.trans (I.o0 (D0.symm.trans h))), o1 := (fun h => U50.trans (I.o1 (D1.symm.trans h))), o2 := (fun h => U51.trans (I.o2 (D2.symm.trans h))), o3 := (fun h => U52.trans (I.o3 (D3.symm.trans h))), o4 := (fun h => U53.trans (I.o4 (D4.symm.trans h))), o5 := (fun h => U54.trans (I.o5 (D5.symm.trans h))), o6 := (fun h => U55.trans (I.o6 (D6.symm.trans h))), o7 := (fun h => U56.trans (I.o7 (D7.symm.trans h))), o8 := (fun h => U57.trans (I.o8 (D8.symm.trans h))), o9 := (fun h => U58.trans (I.o9 (D9.symm.trans h))), o10 := (fun h => U59.trans (I.o10 (D10.symm.trans h))), o11 := (fun h => U60.trans (I.o11 (D11.symm.trans h))), o12 := (fun _ => U61), o13 := (fun h => U62.trans (I.o13 (D13.symm.trans h))), o14 := (fun h => U63.trans (I.o14 (D14.symm.trans h))), o15 := (fun h => U64.trans (I.o15 (D15.symm.trans h))), o16 := (fun h => by rw [U11, D17]; obtain ⟨B2, g1, g2, g3⟩ := I.o16 (D16.symm.trans h); exact ⟨B2, g1, g2, (hb2.block B2 (lt_some g3)).trans g3⟩), o17 := (fun h => D16.trans (I.o17 (D17.symm.trans h))) }⟩
      · skip
        have DO : ∀ n, 13 ≠ n → (d'.setIfInBounds 13 true).getD n false = d'.getD n false := fun n h => getD_set_ne false h
        have D13 : (d'.setIfInBounds 13 true).getD 13 false = true := setB_same hun
        have D0 := DO 0 (by decide)
        have D1 := DO 1 (by decide)
        have D2 := DO 2 (by decide)
        have D3 := DO 3 (by decide)
        have D4 := DO 4 (by decide)
        have D5 := DO 5 (by decide)
        have D6 := DO 6 (by decide)
        have D7 := DO 7 (by decide)
        have D8 := DO 8 (by decide)
        have D9 := DO 9 (by decide)
        have D10 := DO 10 (by decide)
        have D11 := DO 11 (by decide)
        have D12 := DO 12 (by decide)
        have D14 := DO 14 (by decide)
        have D15 := DO 15 (by decide)
        have D16 := DO 16 (by decide)
        have D17 := DO 17 (by decide)
        have UO : ∀ n, n ≠ 62 → updB us 62 (.int .i64 z) n = us n := fun n h => updB_other h
        have U62 : updB us 62 (.int .i64 z) 62 = (.int .i64 z) := updB_same _ _ _
        have U0 := UO 0 (by decide)
        have U2 := UO 2 (by decide)
        have U4 := UO 4 (by decide)
        have U5 := UO 5 (by decide)
        have U7 := UO 7 (by decide)
        have U8 := UO 8 (by decide)
        have U10 := UO 10 (by decide)
        have U11 := UO 11 (by decide)
        have U49 := UO 49 (by decide)
        have U50 := UO 50 (by decide)
        have U51 := UO 51 (by decide)
        have U52 := UO 52 (by decide)
        have U53 := UO 53 (by decide)
        have U54 := UO 54 (by decide)
        have U55 := UO 55 (by decide)
        have U56 := UO 56 (by decide)
        have U57 := UO 57 (by decide)
        have U58 := UO 58 (by decide)
        have U59 := UO 59 (by decide)
        have U60 := UO 60 (by decide)
        have U61 := UO 61 (by decide)
        have U63 := UO 63 (by decide)
        have U64 := UO 64 (by decide)
        refine wpOp_step rfl (fun K hK => ?_)
        simp only [frRi, e0, e2, e4, e5, e7, e8, e10]
        go_simp
        refine hK _ _ ⟨updB us 62 (.int .i64 z), by simp [frRi, updB, e0, e2, e4, e5, e7, e8, e10] <;> rfl, { u0 := (U0.trans I.u0), u2 := (U2.trans I.u2), u4 := (U4.trans I.u4), u5 := (U5.trans I.u5), u7 := (U7.trans I.u7), u8 := (U8.trans I.u8), u10 := (U10.trans I.u10), bel := (I.bel), o0 := (fun h => U49.trans (I.o0 (D0.symm.trans h))), o1 := (fun h => U50.trans (I.o1 (D1.symm.trans h))), o2 := (fun h => U51.trans (I.o2 (D2.symm.trans h))), o3 := (fun h => U52.trans (I.o3 (D3.symm.trans h))), o4 := (fun h => U53.trans (I.o4 (D4.symm.trans h))), o5 := (fun h => U54.trans (I.o5 (D5.symm.trans h))), o6 := (fun h => U55.trans (I.o6 (D6.symm.trans h))), o7 := (fun h => U56.trans (I.o7 (D7.symm.trans h))), o8 := (fun h => U57.trans (I.o8 (D8.symm.trans h))), o9 := (fun h => U58.trans (I.o9 (D9.symm.trans h))), o10 := (fun h => U59.trans (I.o10 (D10.symm.trans h))), o11 := (fun h => U60.trans (I.o11 (D11.symm.trans h))), o12 := (fun h => U61.trans (I.o12 (D12.symm.trans h))), o13 := (fun _ => U62), o14 := (fun h => U63.trans (I.o14 (D14.symm.trans h))), o15 := (fun h => U64.trans (I.o15 (D15.symm.trans h))), o16 := (fun h => by rw [U11, D17]; exact I.o16 (D16.symm.trans h)), o17 := (fun h => D16.trans (I.o17 (D17.symm.trans h))) }⟩
      · skip
        have DO : ∀ n, 14 ≠ n → (d'.setIfInBounds 14 true).getD n false = d'.getD n false := fun n h => getD_set_ne false h
        have D14 : (d'.setIfInBounds 14 true).getD 14 false = true := setB_same hun
        have D0 := DO 0 (by decide)
        have D1 := DO 1 (by decide)
        have D2 := DO 2 (by decide)
        have D3 := DO 3 (by decide)
        have D4 := DO 4 (by decide)
        have D5 := DO 5 (by decide)
        have D6 := DO 6 (by decide)
        have D7 := DO 7 (by decide)
        have D8 := DO 8 (by decide)
        have D9 := DO 9 (by decide)
        have D10 := DO 10 (by decide)
        have D11 := DO 11 (by decide)
        have D12 := DO 12 (by decide)
        have D13 := DO 13 (by decide)
        have D15 := DO 15 (by decide)
        have D16 := DO 16 (by decide)
        have D17 := DO 17 (by decide)
        have UO : ∀ n, n ≠ 63 → updB us 63 (.string ⟨[].toArray⟩) n = us n := fun n h => updB_other h
        have U63 : updB us 63 (.string ⟨[].toArray⟩) 63 = (.string ⟨[].toArray⟩) := updB_same _ _ _
        have U0 := UO 0 (by decide)
        have U2 := UO 2 (by decide)
        have U4 := UO 4 (by decide)
        have U5 := UO 5 (by decide)
        have U7 := UO 7 (by decide)
        have U8 := UO 8 (by decide)
        have U10 := UO 10 (by decide)
        have U11 := UO 11 (by decide)
        have U49 := UO 49 (by decide)
        have U50 := UO 50 (by decide)
        have U51 := UO 51 (by decide)
        have U52 := UO 52 (by decide)
        have U53 := UO 53 (by decide)
        have U54 := UO 54 (by decide)
        have U55 := UO 55 (by decide)
        have U56 := UO 56 (by decide)
        have U57 := UO 57 (by decide)
        have U58 := UO 58 (by decide)
        have U59 := UO 59 (by decide)
        have U60 := UO 60 (by decide)
        have U61 := UO 61 (by decide)
        have U62 := UO 62 (by decide)
        have U64 := UO 64 (by decide)
        refine wpOp_step rfl (fun K hK => ?_)
        simp only [frRi, e0, e2, e4, e5, e7, e8, e10]
        go_simp
        refine hK _ _ ⟨updB us 63 (.string ⟨[].toArray⟩), by simp [frRi, updB, e0, e2, e4, e5, e7, e8, e10] <;> rfl, { u0 := (U0.trans I.u0), u2 := (U2.trans I.u2), u4 := (U4.trans I.u4), u5 := (U5.trans I.u5), u7 := (U7.trans I.u7), u8 := (U8.trans I.u8), u10 := (U10.trans I.u10), bel := (I.bel), o0 := (fun h => U49.trans (I.o0 (D0.symm.trans h))), o1 := (fun h => U50.trans (I.o1 (D1.symm.trans h))), o2 := (fun h => U51.trans (I.o2 (D2.symm.trans h))), o3 := (fun h => U52.trans (I.o3 (D3.symm.trans h))), o4 := (fun h => U53.trans (I.o4 (D4.symm.trans h))), o5 := (fun h => U54.trans (I.o5 (D5.symm.trans h))), o6 := (fun h => U55.trans (I.o6 (D6.symm.trans h))), o7 := (fun h => U56.trans (I.o7 (D7.symm.trans h))), o8 := (fun h => U57.trans (I.o8 (D8.symm.trans h))), o9 := (fun h => U58.trans (I.o9 (D9.symm.trans h))), o10 := (fun h => U59.trans (I.o10 (D10.symm.trans h))), o11 := (fun h => U60.trans (I.o11 (D11.symm.trans h))), o12 := (fun h => U61.trans (I.o12 (D12.symm.trans h))), o13 := (fun h => U62.trans (I.o13 (D13.symm.trans h))), o14 := (fun _ => U63), o15 := (fun h => U64.trans (I.o15 (D15.symm.trans h))), o16 := (fun h => by rw [U11, D17]; exact I.o16 (D16.symm.trans h)), o17 := (fun h => D16.trans (I.o17 (D17.symm.trans h))) }⟩
      · skip
        have DO : ∀ n, 15 ≠ n → (d'.setIfInBounds 15 true).getD n false = d'.getD n false := fun n h => getD_set_ne false h
        have D15 : (d'.setIfInBounds 15 true).getD 15 false = true := setB_same hun
        have D0 := DO 0 (by decide)
        have D1 := DO 1 (by decide)
        have D2 := DO 2 (by decide)
        have D3 := DO 3 (by decide)
        have D4 := DO 4 (by decide)
        have D5 := DO 5 (by decide)
        have D6 := DO 6 (by decide)
        have D7 := DO 7 (by decide)
        have D8 := DO 8 (by decide)
        have D9 := DO 9 (by decide)
        have D10 := DO 10 (by decide)
        have D11 := DO 11 (by decide)
        have D12 := DO 12 (by decide)
        have D13 := DO 13 (by decide)
        have D14 := DO 14 (by decide)
        have D16 := DO 16 (by decide)
        have D17 := DO 17 (by decide)
        have e51 := I.o2 (hall ⟨2, .data⟩ (by simp) rfl)
        have e52 := I.o3 (hall ⟨3, .data⟩ (by simp) rfl)
        have e55 := I.o6 (hall ⟨6, .data⟩ (by simp) rfl)
        have e58 := I.o9 (hall ⟨9, .data⟩ (by simp) rfl)
        have e61 := I.o12 (hall ⟨12, .data⟩ (by simp) rfl)
        have e62 := I.o13 (hall ⟨13, .data⟩ (by simp) rfl)
        have e63 := I.o14 (hall ⟨14, .data⟩ (by simp) rfl)
        have UO : ∀ n, n ≠ 64 → updB us 64 (.agg #[.string ⟨a.toArray⟩, .int .i64 x, .int .i64 (rn l0), .int .i64 (rn l1), .int .i64 (rn l2), .int .i64 z, .string ⟨[].toArray⟩]) n = us n := fun n h => updB_other h
        have U64 : updB us 64 (.agg #[.string ⟨a.toArray⟩, .int .i64 x, .int .i64 (rn l0), .int .i64 (rn l1), .int .i64 (rn l2), .int .i64 z, .string ⟨[].toArray⟩]) 64 = (.agg #[.string ⟨a.toArray⟩, .int .i64 x, .int .i64 (rn l0), .int .i64 (rn l1), .int .i64 (rn l2), .int .i64 z, .string ⟨[].toArray⟩]) := updB_same _ _ _
        have U0 := UO 0 (by decide)
        have U2 := UO 2 (by decide)
        have U4 := UO 4 (by decide)
        have U5 := UO 5 (by decide)
        have U7 := UO 7 (by decide)
        have U8 := UO 8 (by decide)
        have U10 := UO 10 (by decide)
        have U11 := UO 11 (by decide)
        have U49 := UO 49 (by decide)
        have U50 := UO 50 (by decide)
        have U51 := UO 51 (by decide)
        have U52 := UO 52 (by decide)
        have U53 := UO 53 (by decide)
        have U54 := UO 54 (by decide)
        have U55 := UO 55 (by decide)
        have U56 := UO 56 (by decide)
        have U57 := UO 57 (by decide)
        have U58 := UO 58 (by decide)
        have U59 := UO 59 (by decide)
        have U60 := UO 60 (by decide)
        have U61 := UO 61 (by decide)
        have U62 := UO 62 (by decide)
        have U63 := UO 63 (by decide)
        refine wpOp_step rfl (fun K hK => ?_)
        simp only [frRi, e0, e2, e4, e5, e7, e8, e10, e51, e52, e55, e58, e61, e62, e63]
        go_simp
        refine hK _ _ ⟨updB us 64 (.agg #[.string ⟨a.toArray⟩, .int .i64 x, .int .i64 (rn l0), .int .i64 (rn l1), .int .i64 (rn l2), .int .i64 z, .string ⟨[].toArray⟩]), by simp [frRi, updB, e0, e2, e4, e5, e7, e8, e10, e51, e52, e55, e58, e61, e62, e63] <;> rfl, { u0 := (U0.trans I.u0), u2 := (U2.trans I.u2), u4 := (U4.trans I.u4), u5 := (U5.trans I.u5), u7 := (U7.trans I.u7), u8 := (U8.trans I.u8), u10 := (U10.trans I.u10), bel := (I.bel), o0 := (fun h => U49.trans (I.o0 (D0.symm.trans h))), o1 := (fun h => U50.trans (I.o1 (D1.symm.trans h))), o2 := (fun h => U51.trans (I.o2 (D2.symm.trans h))), o3 := (fun h => U52.trans (I.o3 (D3.symm.trans h))), o4 := (fun h => U53.trans (I.o4 (D4.symm.trans h))), o5 := (fun h => U54.trans (I.o5 (D5.symm.trans h))), o6 := (fun h => U55.trans (I.o6 (D6.symm.trans h))), o7 := (fun h => U56.trans (I.o7 (D7.symm.trans h))), o8 := (fun h => U57.trans (I.o8 (D8.symm.trans h))), o9 := (fun h => U58.trans (I.o9 (D9.symm.trans h))), o10 := (fun h => U59.trans (I.o10 (D10.symm.trans h))), o11 := (fun h => U60.trans (I.o11 (D11.symm.trans h))), o12 := (fun h => U61.trans (I.o12 (D12.symm.trans h))), o13 := (fun h => U62.trans (I.o13 (D13.symm.trans h))), o14 := (fun h => U63.trans (I.o14 (D14.symm.trans h))), o15 := (fun _ => U64), o16 := (fun h => by rw [U11, D17]; exact I.o16 (D16.symm.trans h)), o17 := (fun h => D16.trans (I.o17 (D17.symm.trans h))) }⟩
      · skip
        have DO : ∀ n, 16 ≠ n → (d'.setIfInBounds 16 true).getD n false = d'.getD n false := fun n h => getD_set_ne false h
        have D16 : (d'.setIfInBounds 16 true).getD 16 false = true := setB_same hun
        have D0 := DO 0 (by decide)
        have D1 := DO 1 (by decide)
        have D2 := DO 2 (by decide)
        have D3 := DO 3 (by decide)
        have D4 := DO 4 (by decide)
        have D5 := DO 5 (by decide)
        have D6 := DO 6 (by decide)
        have D7 := DO 7 (by decide)
        have D8 := DO 8 (by decide)
        have D9 := DO 9 (by decide)
        have D10 := DO 10 (by decide)
        have D11 := DO 11 (by decide)
        have D12 := DO 12 (by decide)
        have D13 := DO 13 (by decide)
        have D14 := DO 14 (by decide)
        have D15 := DO 15 (by decide)
        have D17 := DO 17 (by decide)
        have UO : ∀ n, n ≠ 11 → updB us 11 (.pointer (some ⟨W.heap.size, 0, none⟩)) n = us n := fun n h => updB_other h
        have U11 : updB us 11 (.pointer (some ⟨W.heap.size, 0, none⟩)) 11 = (.pointer (some ⟨W.heap.size, 0, none⟩)) := updB_same _ _ _
        have U0 := UO 0 (by decide)
        have U2 := UO 2 (by decide)
        have U4 := UO 4 (by decide)
        have U5 := UO 5 (by decide)
        have U7 := UO 7 (by decide)
        have U8 := UO 8 (by decide)
        have U10 := UO 10 (by decide)
        have U49 := UO 49 (by decide)
        have U50 := UO 50 (by decide)
        have U51 := UO 51 (by decide)
        have U52 := UO 52 (by decide)
        have U53 := UO 53 (by decide)
        have U54 := UO 54 (by decide)
        have U55 := UO 55 (by decide)
        have U56 := UO 56 (by decide)
        have U57 := UO 57 (by decide)
        have U58 := UO 58 (by decide)
        have U59 := UO 59 (by decide)
        have U60 := UO 60 (by decide)
        have U61 := UO 61 (by decide)
        have U62 := UO 62 (by decide)
        have U63 := UO 63 (by decide)
        have U64 := UO 64 (by decide)
        have hf : d'.getD 17 false = false := by
          cases h : d'.getD 17 false with
          | false => rfl
          | true => have h2 := getD_ft (I.o17 h); rw [hun] at h2; cases h2
        refine wpOp_step rfl (fun K hK => ?_)
        simp only [frRi, e0, e2, e4, e5, e7, e8, e10]
        go_simp
        refine hK _ _ ⟨updB us 11 (.pointer (some ⟨W.heap.size, 0, none⟩)), by simp [frRi, updB, e0, e2, e4, e5, e7, e8, e10] <;> rfl, { u0 := (U0.trans I.u0), u2 := (U2.trans I.u2), u4 := (U4.trans I.u4), u5 := (U5.trans I.u5), u7 := (U7.trans I.u7), u8 := (U8.trans I.u8), u10 := (U10.trans I.u10), bel := (I.bel.alloc hsz _), o0 := (fun h => U49.trans (I.o0 (D0.symm.trans h))), o1 := (fun h => U50.trans (I.o1 (D1.symm.trans h))), o2 := (fun h => U51.trans (I.o2 (D2.symm.trans h))), o3 := (fun h => U52.trans (I.o3 (D3.symm.trans h))), o4 := (fun h => U53.trans (I.o4 (D4.symm.trans h))), o5 := (fun h => U54.trans (I.o5 (D5.symm.trans h))), o6 := (fun h => U55.trans (I.o6 (D6.symm.trans h))), o7 := (fun h => U56.trans (I.o7 (D7.symm.trans h))), o8 := (fun h => U57.trans (I.o8 (D8.symm.trans h))), o9 := (fun h => U58.trans (I.o9 (D9.symm.trans h))), o10 := (fun h => U59.trans (I.o10 (D10.symm.trans h))), o11 := (fun h => U60.trans (I.o11 (D11.symm.trans h))), o12 := (fun h => U61.trans (I.o12 (D12.symm.trans h))), o13 := (fun h => U62.trans (I.o13 (D13.symm.trans h))), o14 := (fun h => U63.trans (I.o14 (D14.symm.trans h))), o15 := (fun h => U64.trans (I.o15 (D15.symm.trans h))), o16 := (fun _ => ⟨W.heap.size, U11, hsz, by rw [D17, hf, if_neg Bool.false_ne_true]; exact heap_alloc_new W _⟩), o17 := (fun h => by rw [D17, hf] at h; cases h) }⟩
      · skip
        have DO : ∀ n, 17 ≠ n → (d'.setIfInBounds 17 true).getD n false = d'.getD n false := fun n h => getD_set_ne false h
        have D17 : (d'.setIfInBounds 17 true).getD 17 false = true := setB_same hun
        have D0 := DO 0 (by decide)
        have D1 := DO 1 (by decide)
        have D2 := DO 2 (by decide)
        have D3 := DO 3 (by decide)
        have D4 := DO 4 (by decide)
        have D5 := DO 5 (by decide)
        have D6 := DO 6 (by decide)
        have D7 := DO 7 (by decide)
        have D8 := DO 8 (by decide)
        have D9 := DO 9 (by decide)
        have D10 := DO 10 (by decide)
        have D11 := DO 11 (by decide)
        have D12 := DO 12 (by decide)
        have D13 := DO 13 (by decide)
        have D14 := DO 14 (by decide)
        have D15 := DO 15 (by decide)
        have D16 := DO 16 (by decide)
        have e64 := I.o15 (hall ⟨15, .data⟩ (by simp) rfl)
        have hf := getB_f hun
        obtain ⟨B, e11, hlo, hB⟩ := I.o16 (hall ⟨16, .data⟩ (by simp) rfl)
        rw [hf, if_neg Bool.false_ne_true] at hB
        obtain ⟨b0, b1, b2, b3, b4, b5, b6, f0, f1, f2, f3, f4, f5, f6⟩ := cel7 hB
        obtain ⟨W2, hW2, hR, bW⟩ := done7 hB (.string ⟨a.toArray⟩) (.int .i64 x) (.int .i64 (rn l0)) (.int .i64 (rn l1)) (.int .i64 (rn l2)) (.int .i64 z) (.string ⟨[].toArray⟩)
        refine wpOp_step rfl (fun K hK => ?_)
        simp only [frRi, e0, e2, e4, e5, e7, e8, e10, e64, e11]
        go_simp
        try rw [hW2]
        refine hK _ _ ⟨us, by simp [frRi, e0, e2, e4, e5, e7, e8, e10, e64, e11], { u0 := I.u0, u2 := I.u2, u4 := I.u4, u5 := I.u5, u7 := I.u7, u8 := I.u8, u10 := I.u10, bel := (bW _ _ hlo I.bel), o0 := (fun h => I.o0 (D0.symm.trans h)), o1 := (fun h => I.o1 (D1.symm.trans h)), o2 := (fun h => I.o2 (D2.symm.trans h)), o3 := (fun h => I.o3 (D3.symm.trans h)), o4 := (fun h => I.o4 (D4.symm.trans h)), o5 := (fun h => I.o5 (D5.symm.trans h)), o6 := (fun h => I.o6 (D6.symm.trans h)), o7 := (fun h => I.o7 (D7.symm.trans h)), o8 := (fun h => I.o8 (D8.symm.trans h)), o9 := (fun h => I.o9 (D9.symm.trans h)), o10 := (fun h => I.o10 (D10.symm.trans h)), o11 := (fun h => I.o11 (D11.symm.trans h)), o12 := (fun h => I.o12 (D12.symm.trans h)), o13 := (fun h => I.o13 (D13.symm.trans h)), o14 := (fun h => I.o14 (D14.symm.trans h)), o15 := (fun h => I.o15 (D15.symm.trans h)), o16 := (fun h => ⟨B, e11, hlo, by rw [D17, if_pos rfl]; exact hR⟩), o17 := (fun _ => D16.trans (hall ⟨16, .data⟩ (by simp) rfl)) }⟩
    · intro d' a' W hd hall hI
      obtain ⟨us, rfl, I⟩ := hI
      have D : ∀ k, k < 18 → d'.getD k false = true := fun k hk => by
        have := hall k hk
        have hk2 : k < d'.size := by rw [hd]; exact hk
        simp [hk2] at this ⊢; exact this
      obtain ⟨R, e11, hRlo, hRow⟩ := I.o16 (D 16 (by decide))
      rw [D 17 (by decide), if_pos rfl] at hRow
      have e0 := I.u0
      have e2 := I.u2
      have e4 := I.u4
      have e5 := I.u5
      have e7 := I.u7
      have e8 := I.u8
      have e10 := I.u10
      have bR := I.bel
      clear I D hall hd
      simp only [frRi, e0, e2, e4, e5, e7, e8, e10, e11]
      have o6 := keepR bR o5
      obtain ⟨c0, c1, c2, c3, c4, c5, c6, _⟩ := cel7 hRow
      have t6 := belowGo t5 bR
      have LT := Lib.hid ((L5.out.below bR).tab)
      clear bR t5 o5 L5 n0c
      go_wp2_with fail
      refine (HT.out _ LT.out).mono ?_
      rintro e w6 ⟨rfl, b6⟩
      have o8 := keepR b6 o6
      have row8 := keepR b6 hRow
      have t8 := belowGo HB (belowGo t6 b6)
      clear c0 c1 c2 c3 c4 c5 c6 LT hRow o6 t6 b6 HT
      by_cases hf : tc = 0 ∧ tx = s
      · have E := Lib.hid (hok.out hf)
        obtain ⟨rfl, rfl⟩ := hf
        have q1 : (tx == tx) = true := by simp
        have q2 : (tx != tx) = false := by simp
        obtain ⟨c0, c1, c2, c3, c4, c5, c6, _⟩ := cel7 row8
        clear hok hno row8
        obtain ⟨r0, r1, r2, r3, r4, r5, r6, s0, s1, s2, s3, s4, s5, s6⟩ := cel7 o8
        go_wp2_with fail
        obtain ⟨W6, hW6, hR6, bW6⟩ := done7 o8 (.string ⟨a.toArray⟩) (.int .i64 x) (.int .i64 (rn l0)) (.int .i64 (rn l1)) (.int .i64 (rn l2)) (.int .i64 z) (.string ⟨[].toArray⟩)
        rw [hW6]
        have b6 := bW6 w.heap.size w (Nat.le_refl _) t8
        obtain ⟨g0, g1, g2, g3, g4, g5, g6, _⟩ := cel7 hR6
        clear hW6 bW6 r0 s0 r1 s1 r2 s2 r3 s3 r4 s4 r5 s5 r6 s6
        exact bodyPost_ret (v := .tuple #[.agg #[.string ⟨a.toArray⟩, .int .i64 x, .int .i64 (rn l0), .int .i64 (rn l1), .int .i64 (rn l2), .int .i64 z, .string ⟨[].toArray⟩], .int .i64 0]) (by simp [results, Tryd.results11, go_sem, g0, g1, g2, g3, g4, g5, g6]) rfl ⟨by rw [E.out] <;> rfl, b6⟩
      · have E := Lib.hid (hno.out hf)
        clear hok hno row8
        by_cases htc : tc = 0
        · have htx : (tx == s) = false := by rw [beq_eq_false_iff_ne]; exact fun e => hf ⟨htc, e⟩
          have htx2 : (tx != s) = true := by rw [bne, htx]; rfl
          subst htc
          clear hf
          obtain ⟨r0, r1, r2, r3, r4, r5, r6, s0, s1, s2, s3, s4, s5, s6⟩ := cel7 o8
          go_wp2_with fail
          obtain ⟨W6, hW6, hR6, bW6⟩ := done7 o8 (.string ⟨#[]⟩) (.int .i64 0) (.int .i64 0) (.int .i64 0) (.int .i64 0) (.int .i64 0) (.string ⟨#[]⟩)
          rw [hW6]
          have b6 := bW6 w.heap.size w (Nat.le_refl _) t8
          obtain ⟨g0, g1, g2, g3, g4, g5, g6, _⟩ := cel7 hR6
          clear hW6 bW6 r0 s0 r1 s1 r2 s2 r3 s3 r4 s4 r5 s5 r6 s6
          exact bodyPost_ret (v := .tuple #[.agg #[.string ⟨#[]⟩, .int .i64 0, .int .i64 0, .int .i64 0, .int .i64 0, .int .i64 0, .string ⟨#[]⟩], .int .i64 6]) (by simp [results, Tryd.results11, go_sem, g0, g1, g2, g3, g4, g5, g6]) rfl ⟨by rw [E.out] <;> rfl, b6⟩
        · have htc2 : (tc != 0) = true := by simpa using htc
          clear hf htc
          obtain ⟨r0, r1, r2, r3, r4, r5, r6, s0, s1, s2, s3, s4, s5, s6⟩ := cel7 o8
          go_wp2_with fail
          obtain ⟨W6, hW6, hR6, bW6⟩ := done7 o8 (.string ⟨#[]⟩) (.int .i64 0) (.int .i64 0) (.int .i64 0) (.int .i64 0) (.int .i64 0) (.string ⟨#[]⟩)
          rw [hW6]
          have b6 := bW6 w.heap.size w (Nat.le_refl _) t8
          obtain ⟨g0, g1, g2, g3, g4, g5, g6, _⟩ := cel7 hR6
          clear hW6 bW6 r0 s0 r1 s1 r2 s2 r3 s3 r4 s4 r5 s5 r6 s6
          exact bodyPost_ret (v := .tuple #[.agg #[.string ⟨#[]⟩, .int .i64 0, .int .i64 0, .int .i64 0, .int .i64 0, .int .i64 0, .string ⟨#[]⟩], .int .i64 6]) (by simp [results, Tryd.results11, go_sem, g0, g1, g2, g3, g4, g5, g6]) rfl ⟨by rw [E.out] <;> rfl, b6⟩
  · have z46 : (f == [46]) = false := beq_eq_false_iff_ne.2 hf46
    go_enter Tryd.func11, Tryd.ntmps11
    go_wp2_with fail
    refine (HS.out _).mono ?_
    rintro _ w1 ⟨A, cap, rfl, ho, b1⟩
    obtain ⟨g, rfl, hg1, hcell⟩ := own_cellsS ho (by simp)
    have m0 : w1.cell? ⟨g, 0, none⟩ = some (.string ⟨a.toArray⟩) := hcell 0 _ rfl
    have m1 : w1.cell? ⟨g, 1, none⟩ = some (.string ⟨b.toArray⟩) := hcell 1 _ rfl
    have m2 : w1.cell? ⟨g, 2, none⟩ = some (.string ⟨[l0, l1, l2].toArray⟩) := hcell 2 _ rfl
    have m3 : w1.cell? ⟨g, 3, none⟩ = some (.string ⟨d.toArray⟩) := hcell 3 _ rfl
    have m4 : w1.cell? ⟨g, 4, none⟩ = some (.string ⟨f.toArray⟩) := hcell 4 _ rfl
    have o2 := keepR b1 o1
    have L2 := Lib.hid (L1.out.below b1)
    have t1' := b1
    clear hcell ho b1 o1 HS L1
    go_wp2_with fail
    refine (PB.out _ L2.out).mono ?_
    rintro _ w2 ⟨x, i6, rfl, hx, b2⟩
    have k0 := (b2.cell (p := ⟨g, 0, none⟩) hg1).trans m0
    have k2 := (b2.cell (p := ⟨g, 2, none⟩) hg1).trans m2
    have k3 := (b2.cell (p := ⟨g, 3, none⟩) hg1).trans m3
    have k4 := (b2.cell (p := ⟨g, 4, none⟩) hg1).trans m4
    have o3 := keepR b2 o2
    have L3 := Lib.hid (L2.out.below b2)
    have t2' := belowGo t1' b2
    have hg2 := Nat.lt_of_lt_of_le hg1 b2.size
    clear m0 m1 m2 m3 m4 o2 L2 b2 t1' hg1
    go_wp2_with fail
    refine (PD.out _ L3.out).mono ?_
    rintro _ wq ⟨z, i8, rfl, hz, b3⟩
    have n0c := (b3.cell (p := ⟨g, 0, none⟩) hg2).trans k0
    have n4c := (b3.cell (p := ⟨g, 4, none⟩) hg2).trans k4
    have o5 := keepR b3 o3
    have L5 := Lib.hid (L3.out.below b3)
    have t5 := belowGo t2' b3
    have hg := Nat.lt_of_lt_of_le hg2 b3.size
    clear k0 k2 k3 k4 o3 L3 b3 t2' hg2 PB PD
    have HX2 := Lib.hid (HX.out x z hx hz)
    clear HX hx hz
    obtain ⟨P, hP⟩ : ∃ P : Cls, P = ⟨a, x, rn l0, rn l1, rn l2, z, f⟩ := ⟨_, rfl⟩
    have HX3 : Hid (∀ p, FitC s p → p = P) := Lib.hid fun p hp => by rw [hP, HX2.out p hp]; unfold clsOf; rw [show unT f = f from if_neg hf46]
    have hsz : P.sz ≤ 1048600 := by rw [hP]; unfold Cls.sz; simp only; omega
    have HT0 := Lib.hid (fun w hw => ctext_i P w hsz hw)
    have HT : Hid (∀ w, Tab w → Calls Tryd.prog 8 #[.agg #[.string ⟨a.toArray⟩, .int .i64 x, .int .i64 (rn l0), .int .i64 (rn l1), .int .i64 (rn l2), .int .i64 z, .string ⟨f.toArray⟩]] w (Text2 w (ctR P))) := Lib.hid (by
      intro w hw; have := HT0.out w hw; rw [hP] at this ⊢; exact this)
    have hok : Hid ((ctR P).2 = 0 ∧ (ctR P).1 = s → rcR s = (⟨a, x, rn l0, rn l1, rn l2, z, f⟩, 0)) := Lib.hid fun ⟨h1, h2⟩ => by
      rw [← hP]
      rcases Bool.eq_false_or_eq_true P.ok with hv | hv
      · rw [ctR_ok hv] at h2; exact rcR_ok ⟨hv, h2⟩
      · rw [ctR_no hv] at h1; exact absurd h1 (by decide)
    have hno : Hid (¬ ((ctR P).2 = 0 ∧ (ctR P).1 = s) → rcR s = (zeroC, 6)) := Lib.hid fun hn => rcR_no fun ⟨p, hp⟩ => hn (by
      obtain rfl := HX3.out p hp
      rw [ctR_ok hp.1]; exact ⟨rfl, hp.2⟩)
    clear HX2 HX3 HT0 hP hsz
    generalize ctR P = tr at *
    obtain ⟨tx, tc⟩ := tr
    simp only at hok hno
    generalize rcR s = r at *
    go_wp2_with fail
    refine region_inv (by kernel_rfl) (by kernel_rfl) (fun d' a' W => ∃ us, a' = frRi us ∧ InvRi (.string ⟨s.toArray⟩) (.pointer (some ⟨w.heap.size, 0, none⟩)) g cap a f l0 l1 l2 x z wq d' us W) ?_ ?_ ?_
    · refine ⟨_, frRi_of, ?_⟩
      have Z : ∀ k, (Array.replicate 18 false).getD k false = false := fun k => by
        rcases Nat.lt_or_ge k 18 with h | h
        · simp [h]
        · simp [Array.getElem?_eq_none, h]
      have Zn : ∀ {k : Nat} {p : Prop}, (Array.replicate 18 false).getD k false = true → p := fun {k p} h => by rw [Z k] at h; cases h
      exact { u0 := rfl, u2 := rfl, u4 := rfl, u5 := rfl, u7 := rfl, u8 := rfl, u10 := rfl, bel := (Below.refl _ _).drew, o0 := Zn, o1 := Zn, o2 := Zn, o3 := Zn, o4 := Zn, o5 := Zn, o6 := Zn, o7 := Zn, o8 := Zn, o9 := Zn, o10 := Zn, o11 := Zn, o12 := Zn, o13 := Zn, o14 := Zn, o15 := Zn, o16 := Zn, o17 := Zn }
    · intro i d' a' W hi hI
      obtain ⟨hun, oi, hoi, hall⟩ := mem_ready.1 hi
      have hlt : i < 18 := (Array.getElem?_eq_some_iff.1 hoi).1
      obtain ⟨us, rfl, I⟩ := hI
      have hbel := I.bel
      have hsz : wq.heap.size ≤ W.heap.size := hbel.size
      have e0 := I.u0
      have e2 := I.u2
      have e4 := I.u4
      have e5 := I.u5
      have e7 := I.u7
      have e8 := I.u8
      have e10 := I.u10
      have m0 := (I.bel.cell (p := ⟨g, 0, none⟩) hg).trans n0c
      rcases (by omega : i = 0 ∨ i = 1 ∨ i = 2 ∨ i = 3 ∨ i = 4 ∨ i = 5 ∨ i = 6 ∨ i = 7 ∨ i = 8 ∨ i = 9 ∨ i = 10 ∨ i = 11 ∨ i = 12 ∨ i = 13 ∨ i = 14 ∨ i = 15 ∨ i = 16 ∨ i = 17) with rfl | rfl | rfl | rfl | rfl | rfl | rfl | rfl | rfl | rfl | rfl | rfl | rfl | rfl | rfl | rfl | rfl | rfl
      all_goals
        obtain rfl := Option.some.inj hoi
        clear hoi hlt hi
      · skip
        have DO : ∀ n, 0 ≠ n → (d'.setIfInBounds 0 true).getD n false = d'.getD n false := fun n h => getD_set_ne false h
        have D0 : (d'.setIfInBounds 0 true).getD 0 false = true := setB_same hun
        have D1 := DO 1 (by decide)
        have D2 := DO 2 (by decide)
        have D3 := DO 3 (by decide)
        have D4 := DO 4 (by decide)
        have D5 := DO 5 (by decide)
        have D6 := DO 6 (by decide)
        have D7 := DO 7 (by decide)
        have D8 := DO 8 (by decide)
        have D9 := DO 9 (by decide)
        have D10 := DO 10 (by decide)
        have D11 := DO 11 (by decide)
        have D12 := DO 12 (by decide)
        have D13 := DO 13 (by decide)
        have D14 := DO 14 (by decide)
        have D15 := DO 15 (by decide)
        have D16 := DO 16 (by decide)
        have D17 := DO 17 (by decide)
        have UO : ∀ n, n ≠ 49 → updB us 49 (.slice (some ⟨g, 0, none⟩) 5 cap) n = us n := fun n h => updB_other h
        have U49 : updB us 49 (.slice (some ⟨g, 0, none⟩) 5 cap) 49 = (.slice (some ⟨g, 0, none⟩) 5 cap) := updB_same _ _ _
        have U0 := UO 0 (by decide)
        have U2 := UO 2 (by decide)
        have U4 := UO 4 (by decide)
        have U5 := UO 5 (by decide)
        have U7 := UO 7 (by decide)
        have U8 := UO 8 (by decide)
        have U10 := UO 10 (by decide)
        have U11 := UO 11 (by decide)
        have U50 := UO 50 (by decide)
        have U51 := UO 51 (by decide)
        have U52 := UO 52 (by decide)
        have U53 := UO 53 (by decide)
        have U54 := UO 54 (by decide)
        have U55 := UO 55 (by decide)
        have U56 := UO 56 (by decide)
        have U57 := UO 57 (by decide)
        have U58 := UO 58 (by decide)
        have U59 := UO 59 (by decide)
        have U60 := UO 60 (by decide)
        have U61 := UO 61 (by decide)
        have U62 := UO 62 (by decide)
        have U63 := UO 63 (by decide)
        have U64 := UO 64 (by decide)
        refine wpOp_step rfl (fun K hK => ?_)
        simp only [frRi, e0, e2, e4, e5, e7, e8, e10]
        go_simp
        refine hK _ _ ⟨updB us 49 (.slice (some ⟨g, 0, none⟩) 5 cap), by simp [frRi, updB, e0, e2, e4, e5, e7, e8, e10] <;> rfl, { u0 := (U0.trans I.u0), u2 := (U2.trans I.u2), u4 := (U4.trans I.u4), u5 := (U5.trans I.u5), u7 := (U7.trans I.u7), u8 := (U8.trans I.u8), u10 := (U10.trans I.u10), bel := (I.bel), o0 := (fun _ => U49), o1 := (fun h => U50.trans (I.o1 (D1.symm.trans h))), o2 := (fun h => U51.trans (I.o2 (D2.symm.trans h))), o3 := (fun h => U52.trans (I.o3 (D3.symm.trans h))), o4 := (fun h => U53.trans (I.o4 (D4.symm.trans h))), o5 := (fun h => U54.trans (I.o5 (D5.symm.trans h))), o6 := (fun h => U55.trans (I.o6 (D6.symm.trans h))), o7 := (fun h => U56.trans (I.o7 (D7.symm.trans h))), o8 := (fun h => U57.trans (I.o8 (D8.symm.trans h))), o9 := (fun h => U58.trans (I.o9 (D9.symm.trans h))), o10 := (fun h => U59.trans (I.o10 (D10.symm.trans h))), o11 := (fun h => U60.trans (I.o11 (D11.symm.trans h))), o12 := (fun h => U61.trans (I.o12 (D12.symm.trans h))), o13 := (fun h => U62.trans (I.o13 (D13.symm.trans h))), o14 := (fun h => U63.trans (I.o14 (D14.symm.trans h))), o15 := (fun h => U64.trans (I.o15 (D15.symm.trans h))), o16 := (fun h => by rw [U11, D17]; exact I.o16 (D16.symm.trans h)), o17 := (fun h => D16.trans (I.o17 (D17.symm.trans h))) }⟩
      · skip
        have DO : ∀ n, 1 ≠ n → (d'.setIfInBounds 1 true).getD n false = d'.getD n false := fun n h => getD_set_ne false h
        have D1 : (d'.setIfInBounds 1 true).getD 1 false = true := setB_same hun
        have D0 := DO 0 (by decide)
        have D2 := DO 2 (by decide)
        have D3 := DO 3 (by decide)
        have D4 := DO 4 (by decide)
        have D5 := DO 5 (by decide)
        have D6 := DO 6 (by decide)
        have D7 := DO 7 (by decide)
        have D8 := DO 8 (by decide)
        have D9 := DO 9 (by decide)
        have D10 := DO 10 (by decide)
        have D11 := DO 11 (by decide)
        have D12 := DO 12 (by decide)
        have D13 := DO 13 (by decide)
        have D14 := DO 14 (by decide)
        have D15 := DO 15 (by decide)
        have D16 := DO 16 (by decide)
        have D17 := DO 17 (by decide)
        have e49 := I.o0 (hall ⟨0, .data⟩ (by simp) rfl)
        have UO : ∀ n, n ≠ 50 → updB us 50 (.pointer (some ⟨g, 0, none⟩)) n = us n := fun n h => updB_other h
        have U50 : updB us 50 (.pointer (some ⟨g, 0, none⟩)) 50 = (.pointer (some ⟨g, 0, none⟩)) := updB_same _ _ _
        have U0 := UO 0 (by decide)
        have U2 := UO 2 (by decide)
        have U4 := UO 4 (by decide)
        have U5 := UO 5 (by decide)
        have U7 := UO 7 (by decide)
        have U8 := UO 8 (by decide)
        have U10 := UO 10 (by decide)
        have U11 := UO 11 (by decide)
        have U49 := UO 49 (by decide)
        have U51 := UO 51 (by decide)
        have U52 := UO 52 (by decide)
        have U53 := UO 53 (by decide)
        have U54 := UO 54 (by decide)
        have U55 := UO 55 (by decide)
        have U56 := UO 56 (by decide)
        have U57 := UO 57 (by decide)
        have U58 := UO 58 (by decide)
        have U59 := UO 59 (by decide)
        have U60 := UO 60 (by decide)
        have U61 := UO 61 (by decide)
        have U62 := UO 62 (by decide)
        have U63 := UO 63 (by decide)
        have U64 := UO 64 (by decide)
        refine wpOp_step rfl (fun K hK => ?_)
        simp only [frRi, e0, e2, e4, e5, e7, e8, e10, e49]
        go_simp
        refine hK _ _ ⟨updB us 50 (.pointer (some ⟨g, 0, none⟩)), by simp [frRi, updB, e0, e2, e4, e5, e7, e8, e10, e49] <;> rfl, { u0 := (U0.trans I.u0), u2 := (U2.trans I.u2), u4 := (U4.trans I.u4), u5 := (U5.trans I.u5), u7 := (U7.trans I.u7), u8 := (U8.trans I.u8), u10 := (U10.trans I.u10), bel := (I.bel), o0 := (fun h => U49.trans (I.o0 (D0.symm.trans h))), o1 := (fun _ => U50), o2 := (fun h => U51.trans (I.o2 (D2.symm.trans h))), o3 := (fun h => U52.trans (I.o3 (D3.symm.trans h))), o4 := (fun h => U53.trans (I.o4 (D4.symm.trans h))), o5 := (fun h => U54.trans (I.o5 (D5.symm.trans h))), o6 := (fun h => U55.trans (I.o6 (D6.symm.trans h))), o7 := (fun h => U56.trans (I.o7 (D7.symm.trans h))), o8 := (fun h => U57.trans (I.o8 (D8.symm.trans h))), o9 := (fun h => U58.trans (I.o9 (D9.symm.trans h))), o10 := (fun h => U59.trans (I.o10 (D10.symm.trans h))), o11 := (fun h => U60.trans (I.o11 (D11.symm.trans h))), o12 := (fun h => U61.trans (I.o12 (D12.symm.trans h))), o13 := (fun h => U62.trans (I.o13 (D13.symm.trans h))), o14 := (fun h => U63.trans (I.o14 (D14.symm.trans h))), o15 := (fun h => U64.trans (I.o15 (D15.symm.trans h))), o16 := (fun h => by rw [U11, D17]; exact I.o16 (D16.symm.trans h)), o17 := (fun h => D16.trans (I.o17 (D17.symm.trans h))) }⟩
      · skip
        have DO : ∀ n, 2 ≠ n → (d'.setIfInBounds 2 true).getD n false = d'.getD n false := fun n h => getD_set_ne false h
        have D2 : (d'.setIfInBounds 2 true).getD 2 false = true := setB_same hun
        have D0 := DO 0 (by decide)
        have D1 := DO 1 (by decide)
        have D3 := DO 3 (by decide)
        have D4 := DO 4 (by decide)
        have D5 := DO 5 (by decide)
        have D6 := DO 6 (by decide)
        have D7 := DO 7 (by decide)
        have D8 := DO 8 (by decide)
        have D9 := DO 9 (by decide)
        have D10 := DO 10 (by decide)
        have D11 := DO 11 (by decide)
        have D12 := DO 12 (by decide)
        have D13 := DO 13 (by decide)
        have D14 := DO 14 (by decide)
        have D15 := DO 15 (by decide)
        have D16 := DO 16 (by decide)
        have D17 := DO 17 (by decide)
        have e50 := I.o1 (hall ⟨1, .data⟩ (by simp) rfl)
        have UO : ∀ n, n ≠ 51 → updB us 51 (.string ⟨a.toArray⟩) n = us n := fun n h => updB_other h
        have U51 : updB us 51 (.string ⟨a.toArray⟩) 51 = (.string ⟨a.toArray⟩) := updB_same _ _ _
        have U0 := UO 0 (by decide)
        have U2 := UO 2 (by decide)
        have U4 := UO 4 (by decide)
        have U5 := UO 5 (by decide)
        have U7 := UO 7 (by decide)
        have U8 := UO 8 (by decide)
        have U10 := UO 10 (by decide)
        have U11 := UO 11 (by decide)
        have U49 := UO 49 (by decide)
        have U50 := UO 50 (by decide)
        have U52 := UO 52 (by decide)
        have U53 := UO 53 (by decide)
        have U54 := UO 54 (by decide)
        have U55 := UO 55 (by decide)
        have U56 := UO 56 (by decide)
        have U57 := UO 57 (by decide)
        have U58 := UO 58 (by decide)
        have U59 := UO 59 (by decide)
        have U60 := UO 60 (by decide)
        have U61 := UO 61 (by decide)
        have U62 := UO 62 (by decide)
        have U63 := UO 63 (by decide)
        have U64 := UO 64 (by decide)
        refine wpOp_step rfl (fun K hK => ?_)
        simp only [frRi, e0, e2, e4, e5, e7, e8, e10, e50]
        go_simp
        refine hK _ _ ⟨updB us 51 (.string ⟨a.toArray⟩), by simp [frRi, updB, e0, e2, e4, e5, e7, e8, e10, e50] <;> rfl, { u0 := (U0.trans I.u0), u2 := (U2.trans I.u2), u4 := (U4.trans I.u4), u5 := (U5.trans I.u5), u7 := (U7.trans I.u7), u8 := (U8.trans I.u8), u10 := (U10.trans I.u10), bel := (I.bel), o0 := (fun h => U49.trans (I.o0 (D0.symm.trans h))), o1 := (fun h => U50.trans (I.o1 (D1.symm.trans h))), o2 := (fun _ => U51), o3 := (fun h => U52.trans (I.o3 (D3.symm.trans h))), o4 := (fun h => U53.trans (I.o4 (D4.symm.trans h))), o5 := (fun h => U54.trans (I.o5 (D5.symm.trans h))), o6 := (fun h => U55.trans (I.o6 (D6.symm.trans h))), o7 := (fun h => U56.trans (I.o7 (D7.symm.trans h))), o8 := (fun h => U57.trans (I.o8 (D8.symm.trans h))), o9 := (fun h => U58.trans (I.o9 (D9.symm.trans h))), o10 := (fun h => U59.trans (I.o10 (D10.symm.trans h))), o11 := (fun h => U60.trans (I.o11 (D11.symm.trans h))), o12 := (fun h => U61.trans (I.o12 (D12.symm.trans h))), o13 := (fun h => U62.trans (I.o13 (D13.symm.trans h))), o14 := (fun h => U63.trans (I.o14 (D14.symm.trans h))), o15 := (fun h => U64.trans (I.o15 (D15.symm.trans h))), o16 := (fun h => by rw [U11, D17]; exact I.o16 (D16.symm.trans h)), o17 := (fun h => D16.trans (I.o17 (D17.symm.trans h))) }⟩
      · skip
        have DO : ∀ n, 3 ≠ n → (d'.setIfInBounds 3 true).getD n false = d'.getD n false := fun n h => getD_set_ne false h
        have D3 : (d'.setIfInBounds 3 true).getD 3 false = true := setB_same hun
        have D0 := DO 0 (by decide)
        have D1 := DO 1 (by decide)
        have D2 := DO 2 (by decide)
        have D4 := DO 4 (by decide)
        have D5 := DO 5 (by decide)
        have D6 := DO 6 (by decide)
        have D7 := DO 7 (by decide)
        have D8 := DO 8 (by decide)
        have D9 := DO 9 (by decide)
        have D10 := DO 10 (by decide)
        have D11 := DO 11 (by decide)
        have D12 := DO 12 (by decide)
        have D13 := DO 13 (by decide)
        have D14 := DO 14 (by decide)
        have D15 := DO 15 (by decide)
        have D16 := DO 16 (by decide)
        have D17 := DO 17 (by decide)
        have UO : ∀ n, n ≠ 52 → updB us 52 (.int .i64 x) n = us n := fun n h => updB_other h
        have U52 : updB us 52 (.int .i64 x) 52 = (.int .i64 x) := updB_same _ _ _
        have U0 := UO 0 (by decide)
        have U2 := UO 2 (by decide)
        have U4 := UO 4 (by decide)
        have U5 := UO 5 (by decide)
        have U7 := UO 7 (by decide)
        have U8 := UO 8 (by decide)
        have U10 := UO 10 (by decide)
        have U11 := UO 11 (by decide)
        have U49 := UO 49 (by decide)
        have U50 := UO 50 (by decide)
        have U51 := UO 51 (by decide)
        have U53 := UO 53 (by decide)
        have U54 := UO 54 (by decide)
        have U55 := UO 55 (by decide)
        have U56 := UO 56 (by decide)
        have U57 := UO 57 (by decide)
        have U58 := UO 58 (by decide)
        have U59 := UO 59 (by decide)
        have U60 := UO 60 (by decide)
        have U61 := UO 61 (by decide)
        have U62 := UO 62 (by decide)
        have U63 := UO 63 (by decide)
        have U64 := UO 64 (by decide)
        refine wpOp_step rfl (fun K hK => ?_)
        simp only [frRi, e0, e2, e4, e5, e7, e8, e10]
        go_simp
        refine hK _ _ ⟨updB us 52 (.int .i64 x), by simp [frRi, updB, e0, e2, e4, e5, e7, e8, e10] <;> rfl, { u0 := (U0.trans I.u0), u2 := (U2.trans I.u2), u4 := (U4.trans I.u4), u5 := (U5.trans I.u5), u7 := (U7.trans I.u7), u8 := (U8.trans I.u8), u10 := (U10.trans I.u10), bel := (I.bel), o0 := (fun h => U49.trans (I.o0 (D0.symm.trans h))), o1 := (fun h => U50.trans (I.o1 (D1.symm.trans h))), o2 := (fun h => U51.trans (I.o2 (D2.symm.trans h))), o3 := (fun _ => U52), o4 := (fun h => U53.trans (I.o4 (D4.symm.trans h))), o5 := (fun h => U54.trans (I.o5 (D5.symm.trans h))), o6 := (fun h => U55.trans (I.o6 (D6.symm.trans h))), o7 := (fun h => U56.trans (I.o7 (D7.symm.trans h))), o8 := (fun h => U57.trans (I.o8 (D8.symm.trans h))), o9 := (fun h => U58.trans (I.o9 (D9.symm.trans h))), o10 := (fun h => U59.trans (I.o10 (D10.symm.trans h))), o11 := (fun h => U60.trans (I.o11 (D11.symm.trans h))), o12 := (fun h => U61.trans (I.o12 (D12.symm.trans h))), o13 := (fun h => U62.trans (I.o13 (D13.symm.trans h))), o14 := (fun h => U63.trans (I.o14 (D14.symm.trans h))), o15 := (fun h => U64.trans (I.o15 (D15.symm.trans h))), o16 := (fun h => by rw [U11, D17]; exact I.o16 (D16.symm.trans h)), o17 := (fun h => D16.trans (I.o17 (D17.symm.trans h))) }⟩
      · skip
        have DO : ∀ n, 4 ≠ n → (d'.setIfInBounds 4 true).getD n false = d'.getD n false := fun n h => getD_set_ne false h
        have D4 : (d'.setIfInBounds 4 true).getD 4 false = true := setB_same hun
        have D0 := DO 0 (by decide)
        have D1 := DO 1 (by decide)
        have D2 := DO 2 (by decide)
        have D3 := DO 3 (by decide)
        have D5 := DO 5 (by decide)
        have D6 := DO 6 (by decide)
        have D7 := DO 7 (by decide)
        have D8 := DO 8 (by decide)
        have D9 := DO 9 (by decide)
        have D10 := DO 10 (by decide)
        have D11 := DO 11 (by decide)
        have D12 := DO 12 (by decide)
        have D13 := DO 13 (by decide)
        have D14 := DO 14 (by decide)
        have D15 := DO 15 (by decide)
        have D16 := DO 16 (by decide)
        have D17 := DO 17 (by decide)
        have UO : ∀ n, n ≠ 53 → updB us 53 (.string ⟨[l0, l1, l2].toArray⟩) n = us n := fun n h => updB_other h
        have U53 : updB us 53 (.string ⟨[l0, l1, l2].toArray⟩) 53 = (.string ⟨[l0, l1, l2].toArray⟩) := updB_same _ _ _
        have U0 := UO 0 (by decide)
        have U2 := UO 2 (by decide)
        have U4 := UO 4 (by decide)
        have U5 := UO 5 (by decide)
        have U7 := UO 7 (by decide)
        have U8 := UO 8 (by decide)
        have U10 := UO 10 (by decide)
        have U11 := UO 11 (by decide)
        have U49 := UO 49 (by decide)
        have U50 := UO 50 (by decide)
        have U51 := UO 51 (by decide)
        have U52 := UO 52 (by decide)
        have U54 := UO 54 (by decide)
        have U55 := UO 55 (by decide)
        have U56 := UO 56 (by decide)
        have U57 := UO 57 (by decide)
        have U58 := UO 58 (by decide)
        have U59 := UO 59 (by decide)
        have U60 := UO 60 (by decide)
        have U61 := UO 61 (by decide)
        have U62 := UO 62 (by decide)
        have U63 := UO 63 (by decide)
        have U64 := UO 64 (by decide)
        refine wpOp_step rfl (fun K hK => ?_)
        simp only [frRi, e0, e2, e4, e5, e7, e8, e10]
        go_simp
        refine hK _ _ ⟨updB us 53 (.string ⟨[l0, l1, l2].toArray⟩), by simp [frRi, updB, e0, e2, e4, e5, e7, e8, e10] <;> rfl, { u0 := (U0.trans I.u0), u2 := (U2.trans I.u2), u4 := (U4.trans I.u4), u5 := (U5.trans I.u5), u7 := (U7.trans I.u7), u8 := (U8.trans I.u8), u10 := (U10.trans I.u10), bel := (I.bel), o0 := (fun h => U49.trans (I.o0 (D0.symm.trans h))), o1 := (fun h => U50.trans (I.o1 (D1.symm.trans h))), o2 := (fun h => U51.trans (I.o2 (D2.symm.trans h))), o3 := (fun h => U52.trans (I.o3 (D3.symm.trans h))), o4 := (fun _ => U53), o5 := (fun h => U54.trans (I.o5 (D5.symm.trans h))), o6 := (fun h => U55.trans (I.o6 (D6.symm.trans h))), o7 := (fun h => U56.trans (I.o7 (D7.symm.trans h))), o8 := (fun h => U57.trans (I.o8 (D8.symm.trans h))), o9 := (fun h => U58.trans (I.o9 (D9.symm.trans h))), o10 := (fun h => U59.trans (I.o10 (D10.symm.trans h))), o11 := (fun h => U60.trans (I.o11 (D11.symm.trans h))), o12 := (fun h => U61.trans (I.o12 (D12.symm.trans h))), o13 := (fun h => U62.trans (I.o13 (D13.symm.trans h))), o14 := (fun h => U63.trans (I.o14 (D14.symm.trans h))), o15 := (fun h => U64.trans (I.o15 (D15.symm.trans h))), o16 := (fun h => by rw [U11, D17]; exact I.o16 (D16.symm.trans h)), o17 := (fun h => D16.trans (I.o17 (D17.symm.trans h))) }⟩
      · skip
        have DO : ∀ n, 5 ≠ n → (d'.setIfInBounds 5 true).getD n false = d'.getD n false := fun n h => getD_set_ne false h
        have D5 : (d'.setIfInBounds 5 true).getD 5 false = true := setB_same hun
        have D0 := DO 0 (by decide)
        have D1 := DO 1 (by decide)
        have D2 := DO 2 (by decide)
        have D3 := DO 3 (by decide)
        have D4 := DO 4 (by decide)
        have D6 := DO 6 (by decide)
        have D7 := DO 7 (by decide)
        have D8 := DO 8 (by decide)
        have D9 := DO 9 (by decide)
        have D10 := DO 10 (by decide)
        have D11 := DO 11 (by decide)
        have D12 := DO 12 (by decide)
        have D13 := DO 13 (by decide)
        have D14 := DO 14 (by decide)
        have D15 := DO 15 (by decide)
        have D16 := DO 16 (by decide)
        have D17 := DO 17 (by decide)
        have e53 := I.o4 (hall ⟨4, .data⟩ (by simp) rfl)
        have UO : ∀ n, n ≠ 54 → updB us 54 (.int .u8 (l0.toNat : Int)) n = us n := fun n h => updB_other h
        have U54 : updB us 54 (.int .u8 (l0.toNat : Int)) 54 = (.int .u8 (l0.toNat : Int)) := updB_same _ _ _
        have U0 := UO 0 (by decide)
        have U2 := UO 2 (by decide)
        have U4 := UO 4 (by decide)
        have U5 := UO 5 (by decide)
        have U7 := UO 7 (by decide)
        have U8 := UO 8 (by decide)
        have U10 := UO 10 (by decide)
        have U11 := UO 11 (by decide)
        have U49 := UO 49 (by decide)
        have U50 := UO 50 (by decide)
        have U51 := UO 51 (by decide)
        have U52 := UO 52 (by decide)
        have U53 := UO 53 (by decide)
        have U55 := UO 55 (by decide)
        have U56 := UO 56 (by decide)
        have U57 := UO 57 (by decide)
        have U58 := UO 58 (by decide)
        have U59 := UO 59 (by decide)
        have U60 := UO 60 (by decide)
        have U61 := UO 61 (by decide)
        have U62 := UO 62 (by decide)
        have U63 := UO 63 (by decide)
        have U64 := UO 64 (by decide)
        refine wpOp_step rfl (fun K hK => ?_)
        simp only [frRi, e0, e2, e4, e5, e7, e8, e10, e53]
        go_simp
        refine hK _ _ ⟨updB us 54 (.int .u8 (l0.toNat : Int)), by simp [frRi, updB, e0, e2, e4, e5, e7, e8, e10, e53] <;> rfl, { u0 := (U0.trans I.u0), u2 := (U2.trans I.u2), u4 := (U4.trans I.u4), u5 := (U5.trans I.u5), u7 := (U7.trans I.u7), u8 := (U8.trans I.u8), u10 := (U10.trans I.u10), bel := (I.bel), o0 := (fun h => U49.trans (I.o0 (D0.symm.trans h))), o1 := (fun h => U50.trans (I.o1 (D1.symm.trans h))), o2 := (fun h => U51.trans (I.o2 (D2.symm.trans h))), o3 := (fun h => U52.trans (I.o3 (D3.symm.trans h))), o4 := (fun h => U53.trans (I.o4 (D4.symm.trans h))), o5 := (fun _ => U54), o6 := (fun h => U55.trans (I.o6 (D6.symm.trans h))), o7 := (fun h => U56.trans (I.o7 (D7.symm.trans h))), o8 := (fun h => U57.trans (I.o8 (D8.symm.trans h))), o9 := (fun h => U58.trans (I.o9 (D9.symm.trans h))), o10 := (fun h => U59.trans (I.o10 (D10.symm.trans h))), o11 := (fun h => U60.trans (I.o11 (D11.symm.trans h))), o12 := (fun h => U61.trans (I.o12 (D12.symm.trans h))), o13 := (fun h => U62.trans (I.o13 (D13.symm.trans h))), o14 := (fun h => U63.trans (I.o14 (D14.symm.trans h))), o15 := (fun h => U64.trans (I.o15 (D15.symm.trans h))), o16 := (fun h => by rw [U11, D17]; exact I.o16 (D16.symm.trans h)), o17 := (fun h => D16.trans (I.o17 (D17.symm.trans h))) }⟩
      · skip
        have DO : ∀ n, 6 ≠ n → (d'.setIfInBounds 6 true).getD n false = d'.getD n false := fun n h => getD_set_ne false h
        have D6 : (d'.setIfInBounds 6 true).getD 6 false = true := setB_same hun
        have D0 := DO 0 (by decide)
        have D1 := DO 1 (by decide)
        have D2 := DO 2 (by decide)
        have D3 := DO 3 (by decide)
        have D4 := DO 4 (by decide)
        have D5 := DO 5 (by decide)
        have D7 := DO 7 (by decide)
        have D8 := DO 8 (by decide)
        have D9 := DO 9 (by decide)
        have D10 := DO 10 (by decide)
        have D11 := DO 11 (by decide)
        have D12 := DO 12 (by decide)
        have D13 := DO 13 (by decide)
        have D14 := DO 14 (by decide)
        have D15 := DO 15 (by decide)
        have D16 := DO 16 (by decide)
        have D17 := DO 17 (by decide)
        have e54 := I.o5 (hall ⟨5, .data⟩ (by simp) rfl)
        have UO : ∀ n, n ≠ 55 → updB us 55 (.int .i64 (rn l0)) n = us n := fun n h => updB_other h
        have U55 : updB us 55 (.int .i64 (rn l0)) 55 = (.int .i64 (rn l0)) := updB_same _ _ _
        have U0 := UO 0 (by decide)
        have U2 := UO 2 (by decide)
        have U4 := UO 4 (by decide)
        have U5 := UO 5 (by decide)
        have U7 := UO 7 (by decide)
        have U8 := UO 8 (by decide)
        have U10 := UO 10 (by decide)
        have U11 := UO 11 (by decide)
        have U49 := UO 49 (by decide)
        have U50 := UO 50 (by decide)
        have U51 := UO 51 (by decide)
        have U52 := UO 52 (by decide)
        have U53 := UO 53 (by decide)
        have U54 := UO 54 (by decide)
        have U56 := UO 56 (by decide)
        have U57 := UO 57 (by decide)
        have U58 := UO 58 (by decide)
        have U59 := UO 59 (by decide)
        have U60 := UO 60 (by decide)
        have U61 := UO 61 (by decide)
        have U62 := UO 62 (by decide)
        have U63 := UO 63 (by decide)
        have U64 := UO 64 (by decide)
        refine wpOp_step rfl (fun K hK => ?_)
        simp only [frRi, e0, e2, e4, e5, e7, e8, e10, e54]
        go_simp
        go_wp2_with (go_at_call 30; refine (PR.out l0 W).mono ?_; rintro e w2 ⟨rfl, hb2⟩)
        exact ⟨updB us 55 (.int .i64 (rn l0)), by simp [frRi, updB, e0, e2, e4, e5, e7, e8, e10, e54] <;> rfl, { u0 := (U0.trans I.u0), u2 := (U2.trans I.u2), u4 := (U4.trans I.u4), u5 := (U5.trans I.u5), u7 := (U7.trans I.u7), u8 := (U8.trans I.u8), u10 := (U10.trans I.u10), bel := (I.bel.trans (hb2.mono hsz)), o0 := (fun h => U49.trans (I.o0 (D0.symm.trans h))), o1 := (fun h => U50.trans (I.o1 (D1.symm.trans h))), o2 := (fun h => U51.trans (I.o2 (D2.symm.trans h))), o3 := (fun h => U52.trans (I.o3 (D3.symm.trans h))), o4 := (fun h => U53.trans (I.o4 (D4.symm.trans h))), o5 := (fun h => U54.trans (I.o5 (D5.symm.trans h))), o6 := (fun _ => U55), o7 := (fun h => U56.trans (I.o7 (D7.symm.trans h))), o8 := (fun h => U57.trans (I.o8 (D8.symm.trans h))), o9 := (fun h => U58.trans (I.o9 (D9.symm.trans h))), o10 := (fun h => U59.trans (I.o10 (D10.symm.trans h))), o11 := (fun h => U60.trans (I.o11 (D11.symm.trans h))), o12 := (fun h => U61.trans (I.o12 (D12.symm.trans h))), o13 := (fun h => U62.trans (I.o13 (D13.symm.trans h))), o14 := (fun h => U63.trans (I.o14 (D14.symm.trans h))), o15 := (fun h => U64.trans (I.o15 (D15.symm.trans h))), o16 := (fun h => by rw [U11, D17]; obtain ⟨B2, g1, g2, g3⟩ := I.o16 (D16.symm.trans h); exact ⟨B2, g1, g2, (hb2.block B2 (lt_some g3)).trans g3⟩), o17 := (fun h => D16.trans (I.o17 (D17.symm.trans h))) }⟩
      · skip
        have DO : ∀ n, 7 ≠ n → (d'.setIfInBounds 7 true).getD n false = d'.getD n false := fun n h => getD_set_ne false h
        have D7 : (d'.setIfInBounds 7 true).getD 7 false = true := setB_same hun
        have D0 := DO 0 (by decide)
        have D1 := DO 1 (by decide)
        have D2 := DO 2 (by decide)
        have D3 := DO 3 (by decide)
        have D4 := DO 4 (by decide)
        have D5 := DO 5 (by decide)
        have D6 := DO 6 (by decide)
        have D8 := DO 8 (by decide)
        have D9 := DO 9 (by decide)
        have D10 := DO 10 (by decide)
        have D11 := DO 11 (by decide)
        have D12 := DO 12 (by decide)
        have D13 := DO 13 (by decide)
        have D14 := DO 14 (by decide)
        have D15 := DO 15 (by decide)
        have D16 := DO 16 (by decide)
        have D17 := DO 17 (by decide)
        have UO : ∀ n, n ≠ 56 → updB us 56 (.string ⟨[l0, l1, l2].toArray⟩) n = us n := fun n h => updB_other h
        have U56 : updB us 56 (.string ⟨[l0, l1, l2].toArray⟩) 56 = (.string ⟨[l0, l1, l2].toArray⟩) := updB_same _ _ _
        have U0 := UO 0 (by decide)
        have U2 := UO 2 (by decide)
        have U4 := UO 4 (by decide)
        have U5 := UO 5 (by decide)
        have U7 := UO 7 (by decide)
        have U8 := UO 8 (by decide)
        have U10 := UO 10 (by decide)
        have U11 := UO 11 (by decide)
        have U49 := UO 49 (by decide)
        have U50 := UO 50 (by decide)
        have U51 := UO 51 (by decide)
        have U52 := UO 52 (by decide)
        have U53 := UO 53 (by decide)
        have U54 := UO 54 (by decide)
        have U55 := UO 55 (by decide)
        have U57 := UO 57 (by decide)
        have U58 := UO 58 (by decide)
        have U59 := UO 59 (by decide)
        have U60 := UO 60 (by decide)
        have U61 := UO 61 (by decide)
        have U62 := UO 62 (by decide)
        have U63 := UO 63 (by decide)
        have U64 := UO 64 (by decide)
        refine wpOp_step rfl (fun K hK => ?_)
        simp only [frRi, e0, e2, e4, e5, e7, e8, e10]
        go_simp
        refine hK _ _ ⟨updB us 56 (.string ⟨[l0, l1, l2].toArray⟩), by simp [frRi, updB, e0, e2, e4, e5, e7, e8, e10] <;> rfl, { u0 := (U0.trans I.u0), u2 := (U2.trans I.u2), u4 := (U4.trans I.u4), u5 := (U5.trans I.u5), u7 := (U7.trans I.u7), u8 := (U8.trans I.u8), u10 := (U10.trans I.u10), bel := (I.bel), o0 := (fun h => U49.trans (I.o0 (D0.symm.trans h))), o1 := (fun h => U50.trans (I.o1 (D1.symm.trans h))), o2 := (fun h => U51.trans (I.o2 (D2.symm.trans h))), o3 := (fun h => U52.trans (I.o3 (D3.symm.trans h))), o4 := (fun h => U53.trans (I.o4 (D4.symm.trans h))), o5 := (fun h => U54.trans (I.o5 (D5.symm.trans h))), o6 := (fun h => U55.trans (I.o6 (D6.symm.trans h))), o7 := (fun _ => U56), o8 := (fun h => U57.trans (I.o8 (D8.symm.trans h))), o9 := (fun h => U58.trans (I.o9 (D9.symm.trans h))), o10 := (fun h => U59.trans (I.o10 (D10.symm.trans h))), o11 := (fun h => U60.trans (I.o11 (D11.symm.trans h))), o12 := (fun h => U61.trans (I.o12 (D12.symm.trans h))), o13 := (fun h => U62.trans (I.o13 (D13.symm.trans h))), o14 := (fun h => U63.trans (I.o14 (D14.symm.trans h))), o15 := (fun h => U64.trans (I.o15 (D15.symm.trans h))), o16 := (fun h => by rw [U11, D17]; exact I.o16 (D16.symm.trans h)), o17 := (fun h => D16.trans (I.o17 (D17.symm.trans h))) }⟩
      · skip
        have DO : ∀ n, 8 ≠ n → (d'.setIfInBounds 8 true).getD n false = d'.getD n false := fun n h => getD_set_ne false h
        have D8 : (d'.setIfInBounds 8 true).getD 8 false = true := setB_same hun
        have D0 := DO 0 (by decide)
        have D1 := DO 1 (by decide)
        have D2 := DO 2 (by decide)
        have D3 := DO 3 (by decide)
        have D4 := DO 4 (by decide)
        have D5 := DO 5 (by decide)
        have D6 := DO 6 (by decide)
        have D7 := DO 7 (by decide)
        have D9 := DO 9 (by decide)
        have D10 := DO 10 (by decide)
        have D11 := DO 11 (by decide)
        have D12 := DO 12 (by decide)
        have D13 := DO 13 (by decide)
        have D14 := DO 14 (by decide)
        have D15 := DO 15 (by decide)
        have D16 := DO 16 (by decide)
        have D17 := DO 17 (by decide)
        have e56 := I.o7 (hall ⟨7, .data⟩ (by simp) rfl)
        have UO : ∀ n, n ≠ 57 → updB us 57 (.int .u8 (l1.toNat : Int)) n = us n := fun n h => updB_other h
        have U57 : updB us 57 (.int .u8 (l1.toNat : Int)) 57 = (.int .u8 (l1.toNat : Int)) := updB_same _ _ _
        have U0 := UO 0 (by decide)
        have U2 := UO 2 (by decide)
        have U4 := UO 4 (by decide)
        have U5 := UO 5 (by decide)
        have U7 := UO 7 (by decide)
        have U8 := UO 8 (by decide)
        have U10 := UO 10 (by decide)
        have U11 := UO 11 (by decide)
        have U49 := UO 49 (by decide)
        have U50 := UO 50 (by decide)
        have U51 := UO 51 (by decide)
        have U52 := UO 52 (by decide)
        have U53 := UO 53 (by decide)
        have U54 := UO 54 (by decide)
        have U55 := UO 55 (by decide)
        have U56 := UO 56 (by decide)
        have U58 := UO 58 (by decide)
        have U59 := UO 59 (by decide)
        have U60 := UO 60 (by decide)
        have U61 := UO 61 (by decide)
        have U62 := UO 62 (by decide)
        have U63 := UO 63 (by decide)
        have U64 := UO 64 (by decide)
        refine wpOp_step rfl (fun K hK => ?_)
        simp only [frRi, e0, e2, e4, e5, e7, e8, e10, e56]
        go_simp
        refine hK _ _ ⟨updB us 57 (.int .u8 (l1.toNat : Int)), by simp [frRi, updB, e0, e2, e4, e5, e7, e8, e10, e56] <;> rfl, { u0 := (U0.trans I.u0), u2 := (U2.trans I.u2), u4 := (U4.trans I.u4), u5 := (U5.trans I.u5), u7 := (U7.trans I.u7), u8 := (U8.trans I.u8), u10 := (U10.trans I.u10), bel := (I.bel), o0 := (fun h => U49.trans (I.o0 (D0.symm.trans h))), o1 := (fun h => U50.trans (I.o1 (D1.symm.trans h))), o2 := (fun h => U51.trans (I.o2 (D2.symm.trans h))), o3 := (fun h => U52.trans (I.o3 (D3.symm.trans h))), o4 := (fun h => U53.trans (I.o4 (D4.symm.trans h))), o5 := (fun h => U54.trans (I.o5 (D5.symm.trans h))), o6 := (fun h => U55.trans (I.o6 (D6.symm.trans h))), o7 := (fun h => U56.trans (I.o7 (D7.symm.trans h))), o8 := (fun _ => U57), o9 := (fun h => U58.trans (I.o9 (D9.symm.trans h))), o10 := (fun h => U59.trans (I.o10 (D10.symm.trans h))), o11 := (fun h => U60.trans (I.o11 (D11.symm.trans h))), o12 := (fun h => U61.trans (I.o12 (D12.symm.trans h))), o13 := (fun h => U62.trans (I.o13 (D13.symm.trans h))), o14 := (fun h => U63.trans (I.o14 (D14.symm.trans h))), o15 := (fun h => U64.trans (I.o15 (D15.symm.trans h))), o16 := (fun h => by rw [U11, D17]; exact I.o16 (D16.symm.trans h)), o17 := (fun h => D16.trans (I.o17 (D17.symm.trans h))) }⟩
      · skip
        have DO : ∀ n, 9 ≠ n → (d'.setIfInBounds 9 true).getD n false = d'.getD n false := fun n h => getD_set_ne false h
        have D9 : (d'.setIfInBounds 9 true).getD 9 false = true := setB_same hun
        have D0 := DO 0 (by decide)
        have D1 := DO 1 (by decide)
        have D2 := DO 2 (by decide)
        have D3 := DO 3 (by decide)
        have D4 := DO 4 (by decide)
        have D5 := DO 5 (by decide)
        have D6 := DO 6 (by decide)
        have D7 := DO 7 (by decide)
        have D8 := DO 8 (by decide)
        have D10 := DO 10 (by decide)
        have D11 := DO 11 (by decide)
        have D12 := DO 12 (by decide)
        have D13 := DO 13 (by decide)
        have D14 := DO 14 (by decide)
        have D15 := DO 15 (by decide)
        have D16 := DO 16 (by decide)
        have D17 := DO 17 (by decide)
        have e57 := I.o8 (hall ⟨8, .data⟩ (by simp) rfl)
        have UO : ∀ n, n ≠ 58 → updB us 58 (.int .i64 (rn l1)) n = us n := fun n h => updB_other h
        have U58 : updB us 58 (.int .i64 (rn l1)) 58 = (.int .i64 (rn l1)) := updB_same _ _ _
        have U0 := UO 0 (by decide)
        have U2 := UO 2 (by decide)
        have U4 := UO 4 (by decide)
        have U5 := UO 5 (by decide)
        have U7 := UO 7 (by decide)
        have U8 := UO 8 (by decide)
        have U10 := UO 10 (by decide)
        have U11 := UO 11 (by decide)
        have U49 := UO 49 (by decide)
        have U50 := UO 50 (by decide)
        have U51 := UO 51 (by decide)
        have U52 := UO 52 (by decide)
        have U53 := UO 53 (by decide)
        have U54 := UO 54 (by decide)
        have U55 := UO 55 (by decide)
        have U56 := UO 56 (by decide)
        have U57 := UO 57 (by decide)
        have U59 := UO 59 (by decide)
        have U60 := UO 60 (by decide)
        have U61 := UO 61 (by decide)
        have U62 := UO 62 (by decide)
        have U63 := UO 63 (by decide)
        have U64 := UO 64 (by decide)
        refine wpOp_step rfl (fun K hK => ?_)
        simp only [frRi, e0, e2, e4, e5, e7, e8, e10, e57]
        go_simp
        go_wp2_with (go_at_call 30; refine (PR.out l1 W).mono ?_; rintro e w2 ⟨rfl, hb2⟩)
        exact ⟨updB us 58 (.int .i64 (rn l1)), by simp [frRi, updB, e0, e2, e4, e5, e7, e8, e10, e57] <;> rfl, { u0 := (U0.trans I.u0), u2 := (U2.trans I.u2), u4 := (U4.trans I.u4), u5 := (U5.trans I.u5), u7 := (U7.trans I.u7), u8 := (U8.trans I.u8), u10 := (U10.trans I.u10), bel := (I.bel.trans (hb2.mono hsz)), o0 := (fun h => U49.trans (I.o0 (D0.symm.trans h))), o1 := (fun h => U50.trans (I.o1 (D1.symm.trans h))), o2 := (fun h => U51.trans (I.o2 (D2.symm.trans h))), o3 := (fun h => U52.trans (I.o3 (D3.symm.trans h))), o4 := (fun h => U53.trans (I.o4 (D4.symm.trans h))), o5 := (fun h => U54.trans (I.o5 (D5.symm.trans h))), o6 := (fun h => U55.trans (I.o6 (D6.symm.trans h))), o7 := (fun h => U56.trans (I.o7 (D7.symm.trans h))), o8 := (fun h => U57.trans (I.o8 (D8.symm.trans h))), o9 := (fun _ => U58), o10 := (fun h => U59.trans (I.o10 (D10.symm.trans h))), o11 := (fun h => U60.trans (I.o11 (D11.symm.trans h))), o12 := (fun h => U61.trans (I.o12 (D12.symm.trans h))), o13 := (fun h => U62.trans (I.o13 (D13.symm.trans h))), o14 := (fun h => U63.trans (I.o14 (D14.symm.trans h))), o15 := (fun h => U64.trans (I.o15 (D15.symm.trans h))), o16 := (fun h => by rw [U11, D17]; obtain ⟨B2, g1, g2, g3⟩ := I.o16 (D16.symm.trans h); exact ⟨B2, g1, g2, (hb2.block B2 (lt_some g3)).trans g3⟩), o17 := (fun h => D16.trans (I.o17 (D17.symm.trans h))) }⟩
      · skip
        have DO : ∀ n, 10 ≠ n → (d'.setIfInBounds 10 true).getD n false = d'.getD n false := fun n h => getD_set_ne false h
        have D10 : (d'.setIfInBounds 10 true).getD 10 false = true := setB_same hun
        have D0 := DO 0 (by decide)
        have D1 := DO 1 (by decide)
        have D2 := DO 2 (by decide)
        have D3 := DO 3 (by decide)
        have D4 := DO 4 (by decide)
        have D5 := DO 5 (by decide)
        have D6 := DO 6 (by decide)
        have D7 := DO 7 (by decide)
        have D8 := DO 8 (by decide)
        have D9 := DO 9 (by decide)
        have D11 := DO 11 (by decide)
        have D12 := DO 12 (by decide)
        have D13 := DO 13 (by decide)
        have D14 := DO 14 (by decide)
        have D15 := DO 15 (by decide)
        have D16 := DO 16 (by decide)
        have D17 := DO 17 (by decide)
        have UO : ∀ n, n ≠ 59 → updB us 59 (.string ⟨[l0, l1, l2].toArray⟩) n = us n := fun n h => updB_other h
        have U59 : updB us 59 (.string ⟨[l0, l1, l2].toArray⟩) 59 = (.string ⟨[l0, l1, l2].toArray⟩) := updB_same _ _ _
        have U0 := UO 0 (by decide)
        have U2 := UO 2 (by decide)
        have U4 := UO 4 (by decide)
        have U5 := UO 5 (by decide)
        have U7 := UO 7 (by decide)
        have U8 := UO 8 (by decide)
        have U10 := UO 10 (by decide)
        have U11 := UO 11 (by decide)
        have U49 := UO 49 (by decide)
        have U50 := UO 50 (by decide)
        have U51 := UO 51 (by decide)
        have U52 := UO 52 (by decide)
        have U53 := UO 53 (by decide)
        have U54 := UO 54 (by decide)
        have U55 := UO 55 (by decide)
        have U56 := UO 56 (by decide)
        have U57 := UO 57 (by decide)
        have U58 := UO 58 (by decide)
        have U60 := UO 60 (by decide)
        have U61 := UO 61 (by decide)
        have U62 := UO 62 (by decide)
        have U63 := UO 63 (by decide)
        have U64 := UO 64 (by decide)
        refine wpOp_step rfl (fun K hK => ?_)
        simp only [frRi, e0, e2, e4, e5, e7, e8, e10]
        go_simp
        refine hK _ _ ⟨updB us 59 (.string ⟨[l0, l1, l2].toArray⟩), by simp [frRi, updB, e0, e2, e4, e5, e7, e8, e10] <;> rfl, { u0 := (U0.trans I.u0), u2 := (U2.trans I.u2), u4 := (U4.trans I.u4), u5 := (U5.trans I.u5), u7 := (U7.trans I.u7), u8 := (U8.trans I.u8), u10 := (U10.trans I.u10), bel := (I.bel), o0 := (fun h => U49.trans (I.o0 (D0.symm.trans h))), o1 := (fun h => U50.trans (I.o1 (D1.symm.trans h))), o2 := (fun h => U51.trans (I.o2 (D2.symm.trans h))), o3 := (fun h => U52.trans (I.o3 (D3.symm.trans h))), o4 := (fun h => U53.trans (I.o4 (D4.symm.trans h))), o5 := (fun h => U54.trans (I.o5 (D5.symm.trans h))), o6 := (fun h => U55.trans (I.o6 (D6.symm.trans h))), o7 := (fun h => U56.trans (I.o7 (D7.symm.trans h))), o8 := (fun h => U57.trans (I.o8 (D8.symm.trans h))), o9 := (fun h => U58.trans (I.o9 (D9.symm.trans h))), o10 := (fun _ => U59), o11 := (fun h => U60.trans (I.o11 (D11.symm.trans h))), o12 := (fun h => U61.trans (I.o12 (D12.symm.trans h))), o13 := (fun h => U62.trans (I.o13 (D13.symm.trans h))), o14 := (fun h => U63.trans (I.o14 (D14.symm.trans h))), o15 := (fun h => U64.trans (I.o15 (D15.symm.trans h))), o16 := (fun h => by rw [U11, D17]; exact I.o16 (D16.symm.trans h)), o17 := (fun h => D16.trans (I.o17 (D17.symm.trans h))) }⟩
      · skip
        have DO : ∀ n, 11 ≠ n → (d'.setIfInBounds 11 true).getD n false = d'.getD n false := fun n h => getD_set_ne false h
        have D11 : (d'.setIfInBounds 11 true).getD 11 false = true := setB_same hun
        have D0 := DO 0 (by decide)
        have D1 := DO 1 (by decide)
        have D2 := DO 2 (by decide)
        have D3 := DO 3 (by decide)
        have D4 := DO 4 (by decide)
        have D5 := DO 5 (by decide)
        have D6 := DO 6 (by decide)
        have D7 := DO 7 (by decide)
        have D8 := DO 8 (by decide)
        have D9 := DO 9 (by decide)
        have D10 := DO 10 (by decide)
        have D12 := DO 12 (by decide)
        have D13 := DO 13 (by decide)
        have D14 := DO 14 (by decide)
        have D15 := DO 15 (by decide)
        have D16 := DO 16 (by decide)
        have D17 := DO 17 (by decide)
        have e59 := I.o10 (hall ⟨10, .data⟩ (by simp) rfl)
        have UO : ∀ n, n ≠ 60 → updB us 60 (.int .u8 (l2.toNat : Int)) n = us n := fun n h => updB_other h
        have U60 : updB us 60 (.int .u8 (l2.toNat : Int)) 60 = (.int .u8 (l2.toNat : Int)) := updB_same _ _ _
        have U0 := UO 0 (by decide)
        have U2 := UO 2 (by decide)
        have U4 := UO 4 (by decide)
        have U5 := UO 5 (by decide)
        have U7 := UO 7 (by decide)
        have U8 := UO 8 (by decide)
        have U10 := UO 10 (by decide)
        have U11 := UO 11 (by decide)
        have U49 := UO 49 (by decide)
        have U50 := UO 50 (by decide)
        have U51 := UO 51 (by decide)
        have U52 := UO 52 (by decide)
        have U53 := UO 53 (by decide)
        have U54 := UO 54 (by decide)
        have U55 := UO 55 (by decide)
        have U56 := UO 56 (by decide)
        have U57 := UO 57 (by decide)
        have U58 := UO 58 (by decide)
        have U59 := UO 59 (by decide)
        have U61 := UO 61 (by decide)
        have U62 := UO 62 (by decide)
        have U63 := UO 63 (by decide)
        have U64 := UO 64 (by decide)
        refine wpOp_step rfl (fun K hK => ?_)
        simp only [frRi, e0, e2, e4, e5, e7, e8, e10, e59]
        go_simp
        refine hK _ _ ⟨updB us 60 (.int .u8 (l2.toNat : Int)), by simp [frRi, updB, e0, e2, e4, e5, e7, e8, e10, e59] <;> rfl, { u0 := (U0.trans I.u0), u2 := (U2.trans I.u2), u4 := (U4.trans I.u4), u5 := (U5.trans I.u5), u7 := (U7.trans I.u7), u8 := (U8.trans I.u8), u10 := (U10.trans I.u10), bel := (I.bel), o0 := (fun h => U49.trans (I.o0 (D0.symm.trans h))), o1 := (fun h => U50.trans (I.o1 (D1.symm.trans h))), o2 := (fun h => U51.trans (I.o2 (D2.symm.trans h))), o3 := (fun h => U52.trans (I.o3 (D3.symm.trans h))), o4 := (fun h => U53.trans (I.o4 (D4.symm.trans h))), o5 := (fun h => U54.trans (I.o5 (D5.symm.trans h))), o6 := (fun h => U55.trans (I.o6 (D6.symm.trans h))), o7 := (fun h => U56.trans (I.o7 (D7.symm.trans h))), o8 := (fun h => U57.trans (I.o8 (D8.symm.trans h))), o9 := (fun h => U58.trans (I.o9 (D9.symm.trans h))), o10 := (fun h => U59.trans (I.o10 (D10.symm.trans h))), o11 := (fun _ => U60), o12 := (fun h => U61.trans (I.o12 (D12.symm.trans h))), o13 := (fun h => U62.trans (I.o13 (D13.symm.trans h))), o14 := (fun h => U63.trans (I.o14 (D14.symm.trans h))), o15 := (fun h => U64.trans (I.o15 (D15.symm.trans h))), o16 := (fun h => by rw [U11, D17]; exact I.o16 (D16.symm.trans h)), o17 := (fun h => D16.trans (I.o17 (D17.symm.trans h))) }⟩
      · skip
        have DO : ∀ n, 12 ≠ n → (d'.setIfInBounds 12 true).getD n false = d'.getD n false := fun n h => getD_set_ne false h
        have D12 : (d'.setIfInBounds 12 true).getD 12 false = true := setB_same hun
        have D0 := DO 0 (by decide)
        have D1 := DO 1 (by decide)
        have D2 := DO 2 (by decide)
        have D3 := DO 3 (by decide)
        have D4 := DO 4 (by decide)
        have D5 := DO 5 (by decide)
        have D6 := DO 6 (by decide)
        have D7 := DO 7 (by decide)
        have D8 := DO 8 (by decide)
        have D9 := DO 9 (by decide)
        have D10 := DO 10 (by decide)
        have D11 := DO 11 (by decide)
        have D13 := DO 13 (by decide)
        have D14 := DO 14 (by decide)
        have D15 := DO 15 (by decide)
        have D16 := DO 16 (by decide)
        have D17 := DO 17 (by decide)
        have e60 := I.o11 (hall ⟨11, .data⟩ (by simp) rfl)
        have UO : ∀ n, n ≠ 61 → updB us 61 (.int .i64 (rn l2)) n = us n := fun n h => updB_other h
        have U61 : updB us 61 (.int .i64 (rn l2)) 61 = (.int .i64 (rn l2)) := updB_same _ _ _
        have U0 := UO 0 (by decide)
        have U2 := UO 2 (by decide)
        have U4 := UO 4 (by decide)
        have U5 := UO 5 (by decide)
        have U7 := UO 7 (by decide)
        have U8 := UO 8 (by decide)
        have U10 := UO 10 (by decide)
        have U11 := UO 11 (by decide)
        have U49 := UO 49 (by decide)
        have U50 := UO 50 (by decide)
        have U51 := UO 51 (by decide)
        have U52 := UO 52 (by decide)
        have U53 := UO 53 (by decide)
        have U54 := UO 54 (by decide)
        have U55 := UO 55 (by decide)
        have U56 := UO 56 (by decide)
        have U57 := UO 57 (by decide)
        have U58 := UO 58 (by decide)
        have U59 := UO 59 (by decide)
        have U60 := UO 60 (by decide)
        have U62 := UO 62 (by decide)
        have U63 := UO 63 (by decide)
        have U64 := UO 64 (by decide)
        refine wpOp_step rfl (fun K hK => ?_)
        simp only [frRi, e0, e2, e4, e5, e7, e8, e10, e60]
        go_simp
        go_wp2_with (go_at_call 30; refine (PR.out l2 W).mono ?_; rintro e w2 ⟨rfl, hb2⟩)
        exact ⟨updB us 61 (.int .i64 (rn l2)), by simp [frRi, updB, e0, e2, e4, e5, e7, e8, e10, e60] <;> rfl, { u0 := (U0.trans I.u0), u2 := (U2.trans I.u2), u4 := (U4.trans I.u4), u5 := (U5.trans I.u5), u7 := (U7.trans I.u7), u8 := (U8.trans I.u8), u10 := (U10.trans I.u10), bel := (I.bel.trans (hb2.mono hsz)), o0 := (fun h => U49.trans (I.o0 (D0.symm.trans h))), o1 := (fun h => U50.trans (I.o1 (D1.symm.trans h))), o2 := (fun h => U51.trans (I.o2 (D2.symm.trans h))), o3 := (fun h => U52.trans (I.o3 (D3.symm.trans h))), o4 := (fun h => U53.trans (I.o4 (D4.symm.trans h))), o5 := (fun h => U54.trans (I.o5 (D5.symm.trans h))), o6 := (fun h => U55.trans (I.o6 (D6.symm.trans h))), o7 := (fun h => U56.trans (I.o7 (D7.symm.trans h))), o8 := (fun h => U57.trans (I.o8 (D8.symm.trans h))), o9 := (fun h => U58.trans (I.o9 (D9.symm.trans h))), o10 := (fun h => U59.trans (I.o10 (D10.symm.trans h))), o11 := (fun h => U60.trans (I.o11 (D11.symm.trans h))), o12 := (fun _ => U61), o13 := (fun h => U62.trans (I.o13 (D13.symm.trans h))), o14 := (fun h => U63.trans (I.o14 (D14.symm.trans h))), o15 := (fun h => U64.trans (I.o15 (D15.symm.trans h))), o16 := (fun h => by rw [U11, D17]; obtain ⟨B2, g1, g2, g3⟩ := I.o16 (D16.symm.trans h); exact ⟨B2, g1, g2, (hb2.block B2 (lt_some g3)).trans g3⟩), o17 := (fun h => D16.trans (I.o17 (D17.symm.trans h))) }⟩
      · skip
        have DO : ∀ n, 13 ≠ n → (d'.setIfInBounds 13 true).getD n false = d'.getD n false := fun n h => getD_set_ne false h
        have D13 : (d'.setIfInBounds 13 true).getD 13 false = true := setB_same hun
        have D0 := DO 0 (by decide)
        have D1 := DO 1 (by decide)
        have D2 := DO 2 (by decide)
        have D3 := DO 3 (by decide)
        have D4 := DO 4 (by decide)
        have D5 := DO 5 (by decide)
        have D6 := DO 6 (by decide)
        have D7 := DO 7 (by decide)
        have D8 := DO 8 (by decide)
        have D9 := DO 9 (by decide)
        have D10 := DO 10 (by decide)
        have D11 := DO 11 (by decide)
        have D12 := DO 12 (by decide)
        have D14 := DO 14 (by decide)
        have D15 := DO 15 (by decide)
        have D16 := DO 16 (by decide)
        have D17 := DO 17 (by decide)
        have UO : ∀ n, n ≠ 62 → updB us 62 (.int .i64 z) n = us n := fun n h => updB_other h
        have U62 : updB us 62 (.int .i64 z) 62 = (.int .i64 z) := updB_same _ _ _
        have U0 := UO 0 (by decide)
        have U2 := UO 2 (by decide)
        have U4 := UO 4 (by decide)
        have U5 := UO 5 (by decide)
        have U7 := UO 7 (by decide)
        have U8 := UO 8 (by decide)
        have U10 := UO 10 (by decide)
        have U11 := UO 11 (by decide)
        have U49 := UO 49 (by decide)
        have U50 := UO 50 (by decide)
        have U51 := UO 51 (by decide)
        have U52 := UO 52 (by decide)
        have U53 := UO 53 (by decide)
        have U54 := UO 54 (by decide)
        have U55 := UO 55 (by decide)
        have U56 := UO 56 (by decide)
        have U57 := UO 57 (by decide)
        have U58 := UO 58 (by decide)
        have U59 := UO 59 (by decide)
        have U60 := UO 60 (by decide)
        have U61 := UO 61 (by decide)
        have U63 := UO 63 (by decide)
        have U64 := UO 64 (by decide)
        refine wpOp_step rfl (fun K hK => ?_)
        simp only [frRi, e0, e2, e4, e5, e7, e8, e10]
        go_simp
        refine hK _ _ ⟨updB us 62 (.int .i64 z), by simp [frRi, updB, e0, e2, e4, e5, e7, e8, e10] <;> rfl, { u0 := (U0.trans I.u0), u2 := (U2.trans I.u2), u4 := (U4.trans I.u4), u5 := (U5.trans I.u5), u7 := (U7.trans I.u7), u8 := (U8.trans I.u8), u10 := (U10.trans I.u10), bel := (I.bel), o0 := (fun h => U49.trans (I.o0 (D0.symm.trans h))), o1 := (fun h => U50.trans (I.o1 (D1.symm.trans h))), o2 := (fun h => U51.trans (I.o2 (D2.symm.trans h))), o3 := (fun h => U52.trans (I.o3 (D3.symm.trans h))), o4 := (fun h => U53.trans (I.o4 (D4.symm.trans h))), o5 := (fun h => U54.trans (I.o5 (D5.symm.trans h))), o6 := (fun h => U55.trans (I.o6 (D6.symm.trans h))), o7 := (fun h => U56.trans (I.o7 (D7.symm.trans h))), o8 := (fun h => U57.trans (I.o8 (D8.symm.trans h))), o9 := (fun h => U58.trans (I.o9 (D9.symm.trans h))), o10 := (fun h => U59.trans (I.o10 (D10.symm.trans h))), o11 := (fun h => U60.trans (I.o11 (D11.symm.trans h))), o12 := (fun h => U61.trans (I.o12 (D12.symm.trans h))), o13 := (fun _ => U62), o14 := (fun h => U63.trans (I.o14 (D14.symm.trans h))), o15 := (fun h => U64.trans (I.o15 (D15.symm.trans h))), o16 := (fun h => by rw [U11, D17]; exact I.o16 (D16.symm.trans h)), o17 := (fun h => D16.trans (I.o17 (D17.symm.trans h))) }⟩
      · skip
        have DO : ∀ n, 14 ≠ n → (d'.setIfInBounds 14 true).getD n false = d'.getD n false := fun n h => getD_set_ne false h
        have D14 : (d'.setIfInBounds 14 true).getD 14 false = true := setB_same hun
        have D0 := DO 0 (by decide)
        have D1 := DO 1 (by decide)
        have D2 := DO 2 (by decide)
        have D3 := DO 3 (by decide)
        have D4 := DO 4 (by decide)
        have D5 := DO 5 (by decide)
        have D6 := DO 6 (by decide)
        have D7 := DO 7 (by decide)
        have D8 := DO 8 (by decide)
        have D9 := DO 9 (by decide)
        have D10 := DO 10 (by decide)
        have D11 := DO 11 (by decide)
        have D12 := DO 12 (by decide)
        have D13 := DO 13 (by decide)
        have D15 := DO 15 (by decide)
        have D16 := DO 16 (by decide)
        have D17 := DO 17 (by decide)
        have UO : ∀ n, n ≠ 63 → updB us 63 (.string ⟨f.toArray⟩) n = us n := fun n h => updB_other h
        have U63 : updB us 63 (.string ⟨f.toArray⟩) 63 = (.string ⟨f.toArray⟩) := updB_same _ _ _
        have U0 := UO 0 (by decide)
        have U2 := UO 2 (by decide)
        have U4 := UO 4 (by decide)
        have U5 := UO 5 (by decide)
        have U7 := UO 7 (by decide)
        have U8 := UO 8 (by decide)
        have U10 := UO 10 (by decide)
        have U11 := UO 11 (by decide)
        have U49 := UO 49 (by decide)
        have U50 := UO 50 (by decide)
        have U51 := UO 51 (by decide)
        have U52 := UO 52 (by decide)
        have U53 := UO 53 (by decide)
        have U54 := UO 54 (by decide)
        have U55 := UO 55 (by decide)
        have U56 := UO 56 (by decide)
        have U57 := UO 57 (by decide)
        have U58 := UO 58 (by decide)
        have U59 := UO 59 (by decide)
        have U60 := UO 60 (by decide)
        have U61 := UO 61 (by decide)
        have U62 := UO 62 (by decide)
        have U64 := UO 64 (by decide)
        refine wpOp_step rfl (fun K hK => ?_)
        simp only [frRi, e0, e2, e4, e5, e7, e8, e10]
        go_simp
        refine hK _ _ ⟨updB us 63 (.string ⟨f.toArray⟩), by simp [frRi, updB, e0, e2, e4, e5, e7, e8, e10] <;> rfl, { u0 := (U0.trans I.u0), u2 := (U2.trans I.u2), u4 := (U4.trans I.u4), u5 := (U5.trans I.u5), u7 := (U7.trans I.u7), u8 := (U8.trans I.u8), u10 := (U10.trans I.u10), bel := (I.bel), o0 := (fun h => U49.trans (I.o0 (D0.symm.trans h))), o1 := (fun h => U50.trans (I.o1 (D1.symm.trans h))), o2 := (fun h => U51.trans (I.o2 (D2.symm.trans h))), o3 := (fun h => U52.trans (I.o3 (D3.symm.trans h))), o4 := (fun h => U53.trans (I.o4 (D4.symm.trans h))), o5 := (fun h => U54.trans (I.o5 (D5.symm.trans h))), o6 := (fun h => U55.trans (I.o6 (D6.symm.trans h))), o7 := (fun h => U56.trans (I.o7 (D7.symm.trans h))), o8 := (fun h => U57.trans (I.o8 (D8.symm.trans h))), o9 := (fun h => U58.trans (I.o9 (D9.symm.trans h))), o10 := (fun h => U59.trans (I.o10 (D10.symm.trans h))), o11 := (fun h => U60.trans (I.o11 (D11.symm.trans h))), o12 := (fun h => U61.trans (I.o12 (D12.symm.trans h))), o13 := (fun h => U62.trans (I.o13 (D13.symm.trans h))), o14 := (fun _ => U63), o15 := (fun h => U64.trans (I.o15 (D15.symm.trans h))), o16 := (fun h => by rw [U11, D17]; exact I.o16 (D16.symm.trans h)), o17 := (fun h => D16.trans (I.o17 (D17.symm.trans h))) }⟩
      · skip
        have DO : ∀ n, 15 ≠ n → (d'.setIfInBounds 15 true).getD n false = d'.getD n false := fun n h => getD_set_ne false h
        have D15 : (d'.setIfInBounds 15 true).getD 15 false = true := setB_same hun
        have D0 := DO 0 (by decide)
        have D1 := DO 1 (by decide)
        have D2 := DO 2 (by decide)
        have D3 := DO 3 (by decide)
        have D4 := DO 4 (by decide)
        have D5 := DO 5 (by decide)
        have D6 := DO 6 (by decide)
        have D7 := DO 7 (by decide)
        have D8 := DO 8 (by decide)
        have D9 := DO 9 (by decide)
        have D10 := DO 10 (by decide)
        have D11 := DO 11 (by decide)
        have D12 := DO 12 (by decide)
        have D13 := DO 13 (by decide)
        have D14 := DO 14 (by decide)
        have D16 := DO 16 (by decide)
        have D17 := DO 17 (by decide)
        have e51 := I.o2 (hall ⟨2, .data⟩ (by simp) rfl)
        have e52 := I.o3 (hall ⟨3, .data⟩ (by simp) rfl)
        have e55 := I.o6 (hall ⟨6, .data⟩ (by simp) rfl)
        have e58 := I.o9 (hall ⟨9, .data⟩ (by simp) rfl)
        have e61 := I.o12 (hall ⟨12, .data⟩ (by simp) rfl)
        have e62 := I.o13 (hall ⟨13, .data⟩ (by simp) rfl)
        have e63 := I.o14 (hall ⟨14, .data⟩ (by simp) rfl)
        have UO : ∀ n, n ≠ 64 → updB us 64 (.agg #[.string ⟨a.toArray⟩, .int .i64 x, .int .i64 (rn l0), .int .i64 (rn l1), .int .i64 (rn l2), .int .i64 z, .string ⟨f.toArray⟩]) n = us n := fun n h => updB_other h
        have U64 : updB us 64 (.agg #[.string ⟨a.toArray⟩, .int .i64 x, .int .i64 (rn l0), .int .i64 (rn l1), .int .i64 (rn l2), .int .i64 z, .string ⟨f.toArray⟩]) 64 = (.agg #[.string ⟨a.toArray⟩, .int .i64 x, .int .i64 (rn l0), .int .i64 (rn l1), .int .i64 (rn l2), .int .i64 z, .string ⟨f.toArray⟩]) := updB_same _ _ _
        have U0 := UO 0 (by decide)
        have U2 := UO 2 (by decide)
        have U4 := UO 4 (by decide)
        have U5 := UO 5 (by decide)
        have U7 := UO 7 (by decide)
        have U8 := UO 8 (by decide)
        have U10 := UO 10 (by decide)
        have U11 := UO 11 (by decide)
        have U49 := UO 49 (by decide)
        have U50 := UO 50 (by decide)
        have U51 := UO 51 (by decide)
        have U52 := UO 52 (by decide)
        have U53 := UO 53 (by decide)
        have U54 := UO 54 (by decide)
        have U55 := UO 55 (by decide)
        have U56 := UO 56 (by decide)
        have U57 := UO 57 (by decide)
        have U58 := UO 58 (by decide)
        have U59 := UO 59 (by decide)
        have U60 := UO 60 (by decide)
        have U61 := UO 61 (by decide)
        have U62 := UO 62 (by decide)
        have U63 := UO 63 (by decide)
        refine wpOp_step rfl (fun K hK => ?_)
        simp only [frRi, e0, e2, e4, e5, e7, e8, e10, e51, e52, e55, e58, e61, e62, e63]
        go_simp
        refine hK _ _ ⟨updB us 64 (.agg #[.string ⟨a.toArray⟩, .int .i64 x, .int .i64 (rn l0), .int .i64 (rn l1), .int .i64 (rn l2), .int .i64 z, .string ⟨f.toArray⟩]), by simp [frRi, updB, e0, e2, e4, e5, e7, e8, e10, e51, e52, e55, e58, e61, e62, e63] <;> rfl, { u0 := (U0.trans I.u0), u2 := (U2.trans I.u2), u4 := (U4.trans I.u4), u5 := (U5.trans I.u5), u7 := (U7.trans I.u7), u8 := (U8.trans I.u8), u10 := (U10.trans I.u10), bel := (I.bel), o0 := (fun h => U49.trans (I.o0 (D0.symm.trans h))), o1 := (fun h => U50.trans (I.o1 (D1.symm.trans h))), o2 := (fun h => U51.trans (I.o2 (D2.symm.trans h))), o3 := (fun h => U52.trans (I.o3 (D3.symm.trans h))), o4 := (fun h => U53.trans (I.o4 (D4.symm.trans h))), o5 := (fun h => U54.trans (I.o5 (D5.symm.trans h))), o6 := (fun h => U55.trans (I.o6 (D6.symm.trans h))), o7 := (fun h => U56.trans (I.o7 (D7.symm.trans h))), o8 := (fun h => U57.trans (I.o8 (D8.symm.trans h))), o9 := (fun h => U58.trans (I.o9 (D9.symm.trans h))), o10 := (fun h => U59.trans (I.o10 (D10.symm.trans h))), o11 := (fun h => U60.trans (I.o11 (D11.symm.trans h))), o12 := (fun h => U61.trans (I.o12 (D12.symm.trans h))), o13 := (fun h => U62.trans (I.o13 (D13.symm.trans h))), o14 := (fun h => U63.trans (I.o14 (D14.symm.trans h))), o15 := (fun _ => U64), o16 := (fun h => by rw [U11, D17]; exact I.o16 (D16.symm.trans h)), o17 := (fun h => D16.trans (I.o17 (D17.symm.trans h))) }⟩
      · skip
        have DO : ∀ n, 16 ≠ n → (d'.setIfInBounds 16 true).getD n false = d'.getD n false := fun n h => getD_set_ne false h
        have D16 : (d'.setIfInBounds 16 true).getD 16 false = true := setB_same hun
        have D0 := DO 0 (by decide)
        have D1 := DO 1 (by decide)
        have D2 := DO 2 (by decide)
        have D3 := DO 3 (by decide)
        have D4 := DO 4 (by decide)
        have D5 := DO 5 (by decide)
        have D6 := DO 6 (by decide)
        have D7 := DO 7 (by decide)
        have D8 := DO 8 (by decide)
        have D9 := DO 9 (by decide)
        have D10 := DO 10 (by decide)
        have D11 := DO 11 (by decide)
        have D12 := DO 12 (by decide)
        have D13 := DO 13 (by decide)
        have D14 := DO 14 (by decide)
        have D15 := DO 15 (by decide)
        have D17 := DO 17 (by decide)
        have UO : ∀ n, n ≠ 11 → updB us 11 (.pointer (some ⟨W.heap.size, 0, none⟩)) n = us n := fun n h => updB_other h
        have U11 : updB us 11 (.pointer (some ⟨W.heap.size, 0, none⟩)) 11 = (.pointer (some ⟨W.heap.size, 0, none⟩)) := updB_same _ _ _
        have U0 := UO 0 (by decide)
        have U2 := UO 2 (by decide)
        have U4 := UO 4 (by decide)
        have U5 := UO 5 (by decide)
        have U7 := UO 7 (by decide)
        have U8 := UO 8 (by decide)
        have U10 := UO 10 (by decide)
        have U49 := UO 49 (by decide)
        have U50 := UO 50 (by decide)
        have U51 := UO 51 (by decide)
        have U52 := UO 52 (by decide)
        have U53 := UO 53 (by decide)
        have U54 := UO 54 (by decide)
        have U55 := UO 55 (by decide)
        have U56 := UO 56 (by decide)
        have U57 := UO 57 (by decide)
        have U58 := UO 58 (by decide)
        have U59 := UO 59 (by decide)
        have U60 := UO 60 (by decide)
        have U61 := UO 61 (by decide)
        have U62 := UO 62 (by decide)
        have U63 := UO 63 (by decide)
        have U64 := UO 64 (by decide)
        have hf : d'.getD 17 false = false := by
          cases h : d'.getD 17 false with
          | false => rfl
          | true => have h2 := getD_ft (I.o17 h); rw [hun] at h2; cases h2
        refine wpOp_step rfl (fun K hK => ?_)
        simp only [frRi, e0, e2, e4, e5, e7, e8, e10]
        go_simp
        refine hK _ _ ⟨updB us 11 (.pointer (some ⟨W.heap.size, 0, none⟩)), by simp [frRi, updB, e0, e2, e4, e5, e7, e8, e10] <;> rfl, { u0 := (U0.trans I.u0), u2 := (U2.trans I.u2), u4 := (U4.trans I.u4), u5 := (U5.trans I.u5), u7 := (U7.trans I.u7), u8 := (U8.trans I.u8), u10 := (U10.trans I.u10), bel := (I.bel.alloc hsz _), o0 := (fun h => U49.trans (I.o0 (D0.symm.trans h))), o1 := (fun h => U50.trans (I.o1 (D1.symm.trans h))), o2 := (fun h => U51.trans (I.o2 (D2.symm.trans h))), o3 := (fun h => U52.trans (I.o3 (D3.symm.trans h))), o4 := (fun h => U53.trans (I.o4 (D4.symm.trans h))), o5 := (fun h => U54.trans (I.o5 (D5.symm.trans h))), o6 := (fun h => U55.trans (I.o6 (D6.symm.trans h))), o7 := (fun h => U56.trans (I.o7 (D7.symm.trans h))), o8 := (fun h => U57.trans (I.o8 (D8.symm.trans h))), o9 := (fun h => U58.trans (I.o9 (D9.symm.trans h))), o10 := (fun h => U59.trans (I.o10 (D10.symm.trans h))), o11 := (fun h => U60.trans (I.o11 (D11.symm.trans h))), o12 := (fun h => U61.trans (I.o12 (D12.symm.trans h))), o13 := (fun h => U62.trans (I.o13 (D13.symm.trans h))), o14 := (fun h => U63.trans (I.o14 (D14.symm.trans h))), o15 := (fun h => U64.trans (I.o15 (D15.symm.trans h))), o16 := (fun _ => ⟨W.heap.size, U11, hsz, by rw [D17, hf, if_neg Bool.false_ne_true]; exact heap_alloc_new W _⟩), o17 := (fun h => by rw [D17, hf] at h; cases h) }⟩
      · skip
        have DO : ∀ n, 17 ≠ n → (d'.setIfInBounds 17 true).getD n false = d'.getD n false := fun n h => getD_set_ne false h
        have D17 : (d'.setIfInBounds 17 true).getD 17 false = true := setB_same hun
        have D0 := DO 0 (by decide)
        have D1 := DO 1 (by decide)
        have D2 := DO 2 (by decide)
        have D3 := DO 3 (by decide)
        have D4 := DO 4 (by decide)
        have D5 := DO 5 (by decide)
        have D6 := DO 6 (by decide)
        have D7 := DO 7 (by decide)
        have D8 := DO 8 (by decide)
        have D9 := DO 9 (by decide)
        have D10 := DO 10 (by decide)
        have D11 := DO 11 (by decide)
        have D12 := DO 12 (by decide)
        have D13 := DO 13 (by decide)
        have D14 := DO 14 (by decide)
        have D15 := DO 15 (by decide)
        have D16 := DO 16 (by decide)
        have e64 := I.o15 (hall ⟨15, .data⟩ (by simp) rfl)
        have hf := getB_f hun
        obtain ⟨B, e11, hlo, hB⟩ := I.o16 (hall ⟨16, .data⟩ (by simp) rfl)
        rw [hf, if_neg Bool.false_ne_true] at hB
        obtain ⟨b0, b1, b2, b3, b4, b5, b6, f0, f1, f2, f3, f4, f5, f6⟩ := cel7 hB
        obtain ⟨W2, hW2, hR, bW⟩ := done7 hB (.string ⟨a.toArray⟩) (.int .i64 x) (.int .i64 (rn l0)) (.int .i64 (rn l1)) (.int .i64 (rn l2)) (.int .i64 z) (.string ⟨f.toArray⟩)
        refine wpOp_step rfl (fun K hK => ?_)
        simp only [frRi, e0, e2, e4, e5, e7, e8, e10, e64, e11]
        go_simp
        try rw [hW2]
        refine hK _ _ ⟨us, by simp [frRi, e0, e2, e4, e5, e7, e8, e10, e64, e11], { u0 := I.u0, u2 := I.u2, u4 := I.u4, u5 := I.u5, u7 := I.u7, u8 := I.u8, u10 := I.u10, bel := (bW _ _ hlo I.bel), o0 := (fun h => I.o0 (D0.symm.trans h)), o1 := (fun h => I.o1 (D1.symm.trans h)), o2 := (fun h => I.o2 (D2.symm.trans h)), o3 := (fun h => I.o3 (D3.symm.trans h)), o4 := (fun h => I.o4 (D4.symm.trans h)), o5 := (fun h => I.o5 (D5.symm.trans h)), o6 := (fun h => I.o6 (D6.symm.trans h)), o7 := (fun h => I.o7 (D7.symm.trans h)), o8 := (fun h => I.o8 (D8.symm.trans h)), o9 := (fun h => I.o9 (D9.symm.trans h)), o10 := (fun h => I.o10 (D10.symm.trans h)), o11 := (fun h => I.o11 (D11.symm.trans h)), o12 := (fun h => I.o12 (D12.symm.trans h)), o13 := (fun h => I.o13 (D13.symm.trans h)), o14 := (fun h => I.o14 (D14.symm.trans h)), o15 := (fun h => I.o15 (D15.symm.trans h)), o16 := (fun h => ⟨B, e11, hlo, by rw [D17, if_pos rfl]; exact hR⟩), o17 := (fun _ => D16.trans (hall ⟨16, .data⟩ (by simp) rfl)) }⟩
    · intro d' a' W hd hall hI
      obtain ⟨us, rfl, I⟩ := hI
      have D : ∀ k, k < 18 → d'.getD k false = true := fun k hk => by
        have := hall k hk
        have hk2 : k < d'.size := by rw [hd]; exact hk
        simp [hk2] at this ⊢; exact this
      obtain ⟨R, e11, hRlo, hRow⟩ := I.o16 (D 16 (by decide))
      rw [D 17 (by decide), if_pos rfl] at hRow
      have e0 := I.u0
      have e2 := I.u2
      have e4 := I.u4
      have e5 := I.u5
      have e7 := I.u7
      have e8 := I.u8
      have e10 := I.u10
      have bR := I.bel
      clear I D hall hd
      simp only [frRi, e0, e2, e4, e5, e7, e8, e10, e11]
      have o6 := keepR bR o5
      obtain ⟨c0, c1, c2, c3, c4, c5, c6, _⟩ := cel7 hRow
      have t6 := belowGo t5 bR
      have LT := Lib.hid ((L5.out.below bR).tab)
      clear bR t5 o5 L5 n0c
      go_wp2_with fail
      refine (HT.out _ LT.out).mono ?_
      rintro e w6 ⟨rfl, b6⟩
      have o8 := keepR b6 o6
      have row8 := keepR b6 hRow
      have t8 := belowGo HB (belowGo t6 b6)
      clear c0 c1 c2 c3 c4 c5 c6 LT hRow o6 t6 b6 HT
      by_cases hf : tc = 0 ∧ tx = s
      · have E := Lib.hid (hok.out hf)
        obtain ⟨rfl, rfl⟩ := hf
        have q1 : (tx == tx) = true := by simp
        have q2 : (tx != tx) = false := by simp
        obtain ⟨c0, c1, c2, c3, c4, c5, c6, _⟩ := cel7 row8
        clear hok hno row8
        obtain ⟨r0, r1, r2, r3, r4, r5, r6, s0, s1, s2, s3, s4, s5, s6⟩ := cel7 o8
        go_wp2_with fail
        obtain ⟨W6, hW6, hR6, bW6⟩ := done7 o8 (.string ⟨a.toArray⟩) (.int .i64 x) (.int .i64 (rn l0)) (.int .i64 (rn l1)) (.int .i64 (rn l2)) (.int .i64 z) (.string ⟨f.toArray⟩)
        rw [hW6]
        have b6 := bW6 w.heap.size w (Nat.le_refl _) t8
        obtain ⟨g0, g1, g2, g3, g4, g5, g6, _⟩ := cel7 hR6
        clear hW6 bW6 r0 s0 r1 s1 r2 s2 r3 s3 r4 s4 r5 s5 r6 s6
        exact bodyPost_ret (v := .tuple #[.agg #[.string ⟨a.toArray⟩, .int .i64 x, .int .i64 (rn l0), .int .i64 (rn l1), .int .i64 (rn l2), .int .i64 z, .string ⟨f.toArray⟩], .int .i64 0]) (by simp [results, Tryd.results11, go_sem, g0, g1, g2, g3, g4, g5, g6]) rfl ⟨by rw [E.out] <;> rfl, b6⟩
      · have E := Lib.hid (hno.out hf)
        clear hok hno row8
        by_cases htc : tc = 0
        · have htx : (tx == s) = false := by rw [beq_eq_false_iff_ne]; exact fun e => hf ⟨htc, e⟩
          have htx2 : (tx != s) = true := by rw [bne, htx]; rfl
          subst htc
          clear hf
          obtain ⟨r0, r1, r2, r3, r4, r5, r6, s0, s1, s2, s3, s4, s5, s6⟩ := cel7 o8
          go_wp2_with fail
          obtain ⟨W6, hW6, hR6, bW6⟩ := done7 o8 (.string ⟨#[]⟩) (.int .i64 0) (.int .i64 0) (.int .i64 0) (.int .i64 0) (.int .i64 0) (.string ⟨#[]⟩)
          rw [hW6]
          have b6 := bW6 w.heap.size w (Nat.le_refl _) t8
          obtain ⟨g0, g1, g2, g3, g4, g5, g6, _⟩ := cel7 hR6
          clear hW6 bW6 r0 s0 r1 s1 r2 s2 r3 s3 r4 s4 r5 s5 r6 s6
          exact bodyPost_ret (v := .tuple #[.agg #[.string ⟨#[]⟩, .int .i64 0, .int .i64 0, .int .i64 0, .int .i64 0, .int .i64 0, .string ⟨#[]⟩], .int .i64 6]) (by simp [results, Tryd.results11, go_sem, g0, g1, g2, g3, g4, g5, g6]) rfl ⟨by rw [E.out] <;> rfl, b6⟩
        · have htc2 : (tc != 0) = true := by simpa using htc
          clear hf htc
          obtain ⟨r0, r1, r2, r3, r4, r5, r6, s0, s1, s2, s3, s4, s5, s6⟩ := cel7 o8
          go_wp2_with fail
          obtain ⟨W6, hW6, hR6, bW6⟩ := done7 o8 (.string ⟨#[]⟩) (.int .i64 0) (.int .i64 0) (.int .i64 0) (.int .i64 0) (.int .i64 0) (.string ⟨#[]⟩)
          rw [hW6]
          have b6 := bW6 w.heap.size w (Nat.le_refl _) t8
          obtain ⟨g0, g1, g2, g3, g4, g5, g6, _⟩ := cel7 hR6
          clear hW6 bW6 r0 s0 r1 s1 r2 s2 r3 s3 r4 s4 r5 s5 r6 s6
          exact bodyPost_ret (v := .tuple #[.agg #[.string ⟨#[]⟩, .int .i64 0, .int .i64 0, .int .i64 0, .int .i64 0, .int .i64 0, .string ⟨#[]⟩], .int .i64 6]) (by simp [results, Tryd.results11, go_sem, g0, g1, g2, g3, g4, g5, g6]) rfl ⟨by rw [E.out] <;> rfl, b6⟩
set_option maxRecDepth 100000 in
set_option maxHeartbeats 4000000 in
theorem rcls_i (s : List UInt8) (hl : s.length ≤ 1048576) (w : World) (h : Lib3 w) : Calls Tryd.prog 11 #[.string ⟨s.toArray⟩] w (GivRC w (rcR s)) := by
  have hsl := spn_len (if s.length < 4 then s.length else 4) s
  have hmem := spn_mem (if s.length < 4 then s.length else 4) s
  have hsum := spn_sum (if s.length < 4 then s.length else 4) s
  have hK : (if s.length < 4 then s.length else 4) ≤ 4 := by split <;> omega
  by_cases hx : ∃ a b l0 l1 l2 d f, [a, b, [l0, l1, l2], d, f] = spn (if s.length < 4 then s.length else 4) s
  · obtain ⟨a, b, l0, l1, l2, d, f, hn⟩ := hx
    rw [← hn] at hmem hsum
    exact rcls_i3 s a b d f l0 l1 l2 w h hn hl (Nat.le_trans (hmem a (by simp)) hl) (Nat.le_trans (hmem b (by simp)) hl) (Nat.le_trans (hmem d (by simp)) hl) (Nat.le_trans (hmem f (by simp)) hl) (by simp at hsum; omega)
  · have E := Lib.hid (rcR_no (s := s) (by
      rintro ⟨p, hp⟩
      exact hx ⟨_, _, _, _, _, _, _, (fit_partsC hp).wn.symm⟩))
    have o1 := heap_alloc_new w (.cells #[.string ⟨#[]⟩, .int .i64 0, .int .i64 0, .int .i64 0, .int .i64 0, .int .i64 0, .string ⟨#[]⟩] 25)
    have HB := below_alloc w (.cells #[.string ⟨#[]⟩, .int .i64 0, .int .i64 0, .int .i64 0, .int .i64 0, .int .i64 0, .string ⟨#[]⟩] 25)
    have HS := Lib.hid (fun w => splitn_i s hl w)
    generalize spn (if s.length < 4 then s.length else 4) s = ws at *
    generalize rcR s = r at *
    by_cases h5 : ws.length = 5
    · obtain ⟨a, b, c, d, f, rfl⟩ : ∃ a b c d e, ws = [a, b, c, d, e] := by
        match ws, h5 with
        | [a, b, c, d, e], _ => exact ⟨a, b, c, d, e, rfl⟩
      have hc3 : ¬ c.length = 3 := fun h3 => hx (by
        match c, h3 with
        | [l0, l1, l2], _ => exact ⟨a, b, l0, l1, l2, d, f, rfl⟩)
      have z3 : ((c.length : Int) != 3) = true := by simp; omega
      have e5' : ((([a, b, c, d, f] : List (List UInt8)).length : Int) < 5) = False := by simp
      have lc : c.length ≤ 1048576 := Nat.le_trans (hmem c (by simp)) hl
      clear hx hc3 hsl hmem hsum hK h5
      go_enter Tryd.func11, Tryd.ntmps11
      go_wp2_with fail
      refine (HS.out _).mono ?_
      rintro _ w1 ⟨A, cap, rfl, ho, b1⟩
      obtain ⟨g, rfl, hg1, hcell⟩ := own_cellsS ho (by simp)
      have m2 : w1.cell? ⟨g, 2, none⟩ = some (.string ⟨c.toArray⟩) := hcell 2 _ rfl
      have o2 := keepR b1 o1
      have t1 := belowGo HB b1
      clear ho o1 HS hcell
      obtain ⟨r0, r1, r2, r3, r4, r5, r6, s0, s1, s2, s3, s4, s5, s6⟩ := cel7 o2
      go_wp2_with fail
      obtain ⟨W6, hW6, hR6, bW6⟩ := done7 o2 (.string ⟨#[]⟩) (.int .i64 0) (.int .i64 0) (.int .i64 0) (.int .i64 0) (.int .i64 0) (.string ⟨#[]⟩)
      rw [hW6]
      have b6 := bW6 w.heap.size w (Nat.le_refl _) t1
      obtain ⟨g0, g1, g2, g3, g4, g5, g6, _⟩ := cel7 hR6
      clear hW6 bW6 r0 s0 r1 s1 r2 s2 r3 s3 r4 s4 r5 s5 r6 s6
      exact bodyPost_ret (v := .tuple #[.agg #[.string ⟨#[]⟩, .int .i64 0, .int .i64 0, .int .i64 0, .int .i64 0, .int .i64 0, .string ⟨#[]⟩], .int .i64 6]) (by simp [results, Tryd.results11, go_sem, g0, g1, g2, g3, g4, g5, g6]) rfl ⟨by rw [E.out] <;> rfl, b6⟩
    · have hw5 : ws.length ≤ 5 := by omega
      have h5' : (ws.length : Int) < 5 := by omega
      clear h5 hmem hsum hx hsl hK
      go_enter Tryd.func11, Tryd.ntmps11
      go_wp2_with fail
      refine (HS.out _).mono ?_
      rintro _ w1 ⟨A, d, rfl, ho, b1⟩
      have o2 := keepR b1 o1
      have t1 := belowGo HB b1
      clear ho o1 HS
      obtain ⟨r0, r1, r2, r3, r4, r5, r6, s0, s1, s2, s3, s4, s5, s6⟩ := cel7 o2
      go_wp2_with fail
      obtain ⟨W6, hW6, hR6, bW6⟩ := done7 o2 (.string ⟨#[]⟩) (.int .i64 0) (.int .i64 0) (.int .i64 0) (.int .i64 0) (.int .i64 0) (.string ⟨#[]⟩)
      rw [hW6]
      have b6 := bW6 w.heap.size w (Nat.le_refl _) t1
      obtain ⟨g0, g1, g2, g3, g4, g5, g6, _⟩ := cel7 hR6
      clear hW6 bW6 r0 s0 r1 s1 r2 s2 r3 s3 r4 s4 r5 s5 r6 s6
      exact bodyPost_ret (v := .tuple #[.agg #[.string ⟨#[]⟩, .int .i64 0, .int .i64 0, .int .i64 0, .int .i64 0, .int .i64 0, .string ⟨#[]⟩], .int .i64 6]) (by simp [results, Tryd.results11, go_sem, g0, g1, g2, g3, g4, g5, g6]) rfl ⟨by rw [E.out] <;> rfl, b6⟩
end Go.Proofs.YtmhlkbocejnpoaaDoor
