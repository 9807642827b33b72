/- spec.ReadClause. (by gen_rcs.py) -/
import Derived.Test.YtmhlkbocejnpoaaDoorCrb
import Derived.Test.YtmhlkbocejnpoaaDoorCts
namespace Go.Proofs.YtmhlkbocejnpoaaDoor
open Go.ChangeShapes Go.WideShapes Go.ChangeAt Go.RowKit
set_option linter.unusedVariables false

def frRs (us : Nat → Value) : Act := { tmps := #[us 0, us 1, us 2, us 3, us 4, us 5, us 6, us 7, us 8, us 9, us 10, us 11, us 12, us 13, us 14, us 15, us 16, us 17, us 18, us 19, us 20, us 21, us 22, us 23, us 24, us 25, us 26, us 27, us 28, us 29, us 30, us 31, us 32, us 33, us 34, us 35, us 36, us 37, us 38, us 39, us 40, us 41, us 42, us 43, us 44, us 45, us 46, us 47, us 48, us 49, us 50, us 51, us 52, us 53, us 54, us 55, us 56, us 57, us 58, us 59, us 60, us 61, us 62, us 63, us 64, us 65, us 66, us 67, us 68, us 69, us 70, us 71, us 72, us 73, us 74, us 75, us 76, us 77, us 78, us 79, us 80, us 81, us 82, us 83], defers := [] }
theorem frRs_of {x0 x1 x2 x3 x4 x5 x6 x7 x8 x9 x10 x11 x12 x13 x14 x15 x16 x17 x18 x19 x20 x21 x22 x23 x24 x25 x26 x27 x28 x29 x30 x31 x32 x33 x34 x35 x36 x37 x38 x39 x40 x41 x42 x43 x44 x45 x46 x47 x48 x49 x50 x51 x52 x53 x54 x55 x56 x57 x58 x59 x60 x61 x62 x63 x64 x65 x66 x67 x68 x69 x70 x71 x72 x73 x74 x75 x76 x77 x78 x79 x80 x81 x82 x83 : Value} : ({ tmps := #[x0, x1, x2, x3, x4, x5, x6, x7, x8, x9, x10, x11, x12, x13, x14, x15, x16, x17, x18, x19, x20, x21, x22, x23, x24, x25, x26, x27, x28, x29, x30, x31, x32, x33, x34, x35, x36, x37, x38, x39, x40, x41, x42, x43, x44, x45, x46, x47, x48, x49, x50, x51, x52, x53, x54, x55, x56, x57, x58, x59, x60, x61, x62, x63, x64, x65, x66, x67, x68, x69, x70, x71, x72, x73, x74, x75, x76, x77, x78, x79, x80, x81, x82, x83], defers := [] } : Act) = frRs (fun k => #[x0, x1, x2, x3, x4, x5, x6, x7, x8, x9, x10, x11, x12, x13, x14, x15, x16, x17, x18, x19, x20, x21, x22, x23, x24, x25, x26, x27, x28, x29, x30, x31, x32, x33, x34, x35, x36, x37, x38, x39, x40, x41, x42, x43, x44, x45, x46, x47, x48, x49, x50, x51, x52, x53, x54, x55, x56, x57, x58, x59, x60, x61, x62, x63, x64, x65, x66, x67, x68, x69, x70, x71, x72, x73, x74, x75, x76, x77, x78, x79, x80, x81, x82, x83].getD k undef) := rfl
structure InvRs (S0 P2 B6 B8 : Value) (g cap : Nat) (a f : List UInt8) (l0 l1 l2 : UInt8) (x z : Int) (w : World) (d : Array Bool) (us : Nat → Value) (W : World) : Prop where
  u0 : us 0 = S0
  u2 : us 2 = P2
  u4 : us 4 = .slice (some ⟨g, 0, none⟩) 5 cap
  u5 : us 5 = .int .i64 x
  u6 : us 6 = B6
  u7 : us 7 = .int .i64 z
  u8 : us 8 = B8
  bel : Below w.heap.size w W
  o0 : d.getD 0 false = true → us 37 = .slice (some ⟨g, 0, none⟩) 5 cap
  o1 : d.getD 1 false = true → us 38 = .pointer (some ⟨g, 0, none⟩)
  o2 : d.getD 2 false = true → us 39 = .string ⟨a.toArray⟩
  o3 : d.getD 3 false = true → us 40 = .int .i64 x
  o4 : d.getD 4 false = true → us 41 = .slice (some ⟨g, 0, none⟩) 5 cap
  o5 : d.getD 5 false = true → us 42 = .pointer (some ⟨g, 2, none⟩)
  o6 : d.getD 6 false = true → us 43 = .string ⟨[l0, l1, l2].toArray⟩
  o7 : d.getD 7 false = true → us 44 = .int .u8 (l0.toNat : Int)
  o8 : d.getD 8 false = true → us 45 = .int .i64 (rn l0)
  o9 : d.getD 9 false = true → us 46 = .slice (some ⟨g, 0, none⟩) 5 cap
  o10 : d.getD 10 false = true → us 47 = .pointer (some ⟨g, 2, none⟩)
  o11 : d.getD 11 false = true → us 48 = .string ⟨[l0, l1, l2].toArray⟩
  o12 : d.getD 12 false = true → us 49 = .int .u8 (l1.toNat : Int)
  o13 : d.getD 13 false = true → us 50 = .int .i64 (rn l1)
  o14 : d.getD 14 false = true → us 51 = .slice (some ⟨g, 0, none⟩) 5 cap
  o15 : d.getD 15 false = true → us 52 = .pointer (some ⟨g, 2, none⟩)
  o16 : d.getD 16 false = true → us 53 = .string ⟨[l0, l1, l2].toArray⟩
  o17 : d.getD 17 false = true → us 54 = .int .u8 (l2.toNat : Int)
  o18 : d.getD 18 false = true → us 55 = .int .i64 (rn l2)
  o19 : d.getD 19 false = true → us 56 = .int .i64 z
  o20 : d.getD 20 false = true → us 57 = .slice (some ⟨g, 0, none⟩) 5 cap
  o21 : d.getD 21 false = true → us 58 = .pointer (some ⟨g, 4, none⟩)
  o22 : d.getD 22 false = true → us 59 = .string ⟨f.toArray⟩
  o23 : d.getD 23 false = true → us 60 = .agg #[.string ⟨a.toArray⟩, .int .i64 x, .int .i64 (rn l0), .int .i64 (rn l1), .int .i64 (rn l2), .int .i64 z, .string ⟨f.toArray⟩]
  o24 : d.getD 24 false = true → ∃ B, us 9 = .pointer (some ⟨B, 0, none⟩) ∧ w.heap.size ≤ B ∧ W.heap[B]? = some (.cells (if d.getD 25 false = true then #[.string ⟨a.toArray⟩, .int .i64 x, .int .i64 (rn l0), .int .i64 (rn l1), .int .i64 (rn l2), .int .i64 z, .string ⟨f.toArray⟩] else #[.string ⟨#[]⟩, .int .i64 0, .int .i64 0, .int .i64 0, .int .i64 0, .int .i64 0, .string ⟨#[]⟩]) 25 (0, 0))
  o25 : d.getD 25 false = true → d.getD 24 false = true
theorem heap_far {w : World} {b j k : Nat} {v : Value} (h : b ≠ k) : (w.setCell ⟨b, j, none⟩ v).heap[k]? = w.heap[k]? := by
  simp [World.setCell, Array.getElem?_modify, h]
set_option maxRecDepth 100000 in
set_option maxHeartbeats 16000000 in
theorem rcls_s3 (s a b d f : List UInt8) (l0 l1 l2 : UInt8) (w : World) (hn : [a, b, [l0, l1, l2], d, f] = sps [] s) (hl : s.length ≤ 1048576) (la : a.length ≤ 1048576) (lb : b.length ≤ 1048576) (ld : d.length ≤ 1048576) (lf : f.length ≤ 1048576) :
    Calls Tryd.prog 12 #[.string ⟨s.toArray⟩] w (GivRC w (rcR s)) := by
  have o1 := heap_alloc_new w (.cells #[.string ⟨#[]⟩, .int .i64 0, .int .i64 0, .int .i64 0, .int .i64 0, .int .i64 0, .string ⟨#[]⟩] 25)
  have HB := below_alloc w (.cells #[.string ⟨#[]⟩, .int .i64 0, .int .i64 0, .int .i64 0, .int .i64 0, .int .i64 0, .string ⟨#[]⟩] 25)
  have HS := Lib.hid (fun w => splits_s s hl w)
  have HX : Hid (∀ p, FitC s p → (sgnR b).2 = true ∧ (valR d).2 = true ∧ p = clsOf a (sgnR b).1 l0 l1 l2 (valR d).1 f) := Lib.hid fun p hp => by
    have P := fit_partsC hp
    have ew := hn.trans P.words
    injection ew with e1 ew
    injection ew with e2 ew
    injection ew with e3 ew
    injection ew with e4 ew
    injection ew with e5 _
    injection e3 with e3a e3
    injection e3 with e3b e3
    injection e3 with e3c _
    have eb : sgnR b = (p.k, true) := by rw [e2]; exact sgnR_itoa P.k
    have ed : valR d = (p.e, true) := by
      rw [e4]
      obtain ⟨u, hu⟩ := Int.eq_ofNat_of_zero_le (show 0 ≤ p.e from (cok P.ok).2.2.2.2.2.1.1)
      rw [hu, Lib.itoa_nonneg]
      exact valR_dig u (by have := P.e; omega)
    rw [eb, ed, e1, e3a, e3b, e3c, e5]
    exact ⟨rfl, rfl, fit_cls P.ok⟩
  rw [← hn] at HS
  have PB := Lib.hid (fun w => sgn_s b lb w)
  have PD := Lib.hid (fun w => val_s d ld w)
  have PR := Lib.hid (fun (b : UInt8) w => (rn_s b w).mono fun e w' k => (⟨k.1, k.2 ▸ Below.refl _ _⟩ : e = .returned (.int .i64 (rn b)) ∧ Below w.heap.size w w'))
  have e5' : ((([a, b, [l0, l1, l2], d, f] : List (List UInt8)).length : Int) != 5) = false := by simp
  have e3' : (([l0, l1, l2] : List UInt8).length : Int) = 3 := rfl
  clear hn lb ld
  generalize sgnR b = rb at *
  obtain ⟨x, one⟩ := rb
  generalize valR d = rd at *
  obtain ⟨z, two⟩ := rd
  simp only at HX
  go_enter Tryd.func12, Tryd.ntmps12
  go_wp2_with fail
  refine (HS.out _).mono ?_
  rintro _ w1 ⟨A, cap, rfl, ho, b1⟩
  obtain ⟨g, rfl, hg1, hcell⟩ := own_cellsS ho (by simp)
  have m0 : w1.cell? ⟨g, 0, none⟩ = some (.string ⟨a.toArray⟩) := hcell 0 _ rfl
  have m1 : w1.cell? ⟨g, 1, none⟩ = some (.string ⟨b.toArray⟩) := hcell 1 _ rfl
  have m2 : w1.cell? ⟨g, 2, none⟩ = some (.string ⟨[l0, l1, l2].toArray⟩) := hcell 2 _ rfl
  have m3 : w1.cell? ⟨g, 3, none⟩ = some (.string ⟨d.toArray⟩) := hcell 3 _ rfl
  have m4 : w1.cell? ⟨g, 4, none⟩ = some (.string ⟨f.toArray⟩) := hcell 4 _ rfl
  have o2 := keepR b1 o1
  have t1' := b1
  clear hcell ho b1 o1 HS
  go_wp2_with fail
  refine (PB.out _).mono ?_
  rintro _ w2 ⟨rfl, b2⟩
  have k0 := (b2.cell (p := ⟨g, 0, none⟩) hg1).trans m0
  have k2 := (b2.cell (p := ⟨g, 2, none⟩) hg1).trans m2
  have k3 := (b2.cell (p := ⟨g, 3, none⟩) hg1).trans m3
  have k4 := (b2.cell (p := ⟨g, 4, none⟩) hg1).trans m4
  have o3 := keepR b2 o2
  have t2' := belowGo t1' b2
  have hg2 := Nat.lt_of_lt_of_le hg1 b2.size
  clear m0 m1 m2 m3 m4 o2 b2 t1' hg1
  go_wp2_with fail
  refine (PD.out _).mono ?_
  rintro _ wq ⟨rfl, b3⟩
  have n0c := (b3.cell (p := ⟨g, 0, none⟩) hg2).trans k0
  have n2c := (b3.cell (p := ⟨g, 2, none⟩) hg2).trans k2
  have n4c := (b3.cell (p := ⟨g, 4, none⟩) hg2).trans k4
  have o5 := keepR b3 o3
  have t5 := belowGo t2' b3
  have hg := Nat.lt_of_lt_of_le hg2 b3.size
  clear k0 k2 k3 k4 o3 b3 t2' hg2 PB PD
  go_wp2_with fail
  refine region_inv (by kernel_rfl) (by kernel_rfl) (fun d' a' W => ∃ us, a' = frRs us ∧ InvRs (.string ⟨s.toArray⟩) (.pointer (some ⟨w.heap.size, 0, none⟩)) (.bool one) (.bool two) g cap a f l0 l1 l2 x z wq d' us W) ?_ ?_ ?_
  · refine ⟨_, frRs_of, ?_⟩
    have Z : ∀ k, (Array.replicate 26 false).getD k false = false := fun k => by
      rcases Nat.lt_or_ge k 26 with h | h
      · simp [h]
      · simp [Array.getElem?_eq_none, h]
    have Zn : ∀ {k : Nat} {p : Prop}, (Array.replicate 26 false).getD k false = true → p := fun {k p} h => by rw [Z k] at h; cases h
    exact { u0 := rfl, u2 := rfl, u4 := rfl, u5 := rfl, u6 := rfl, u7 := rfl, u8 := rfl, bel := (Below.refl _ _).drew, o0 := Zn, o1 := Zn, o2 := Zn, o3 := Zn, o4 := Zn, o5 := Zn, o6 := Zn, o7 := Zn, o8 := Zn, o9 := Zn, o10 := Zn, o11 := Zn, o12 := Zn, o13 := Zn, o14 := Zn, o15 := Zn, o16 := Zn, o17 := Zn, o18 := Zn, o19 := Zn, o20 := Zn, o21 := Zn, o22 := Zn, o23 := Zn, o24 := Zn, o25 := Zn }
  · intro i d' a' W hi hI
    obtain ⟨hun, oi, hoi, hall⟩ := mem_ready.1 hi
    have hlt : i < 26 := (Array.getElem?_eq_some_iff.1 hoi).1
    obtain ⟨us, rfl, I⟩ := hI
    have hbel := I.bel
    have hsz : wq.heap.size ≤ W.heap.size := hbel.size
    have e0 := I.u0
    have e2 := I.u2
    have e4 := I.u4
    have e5 := I.u5
    have e6 := I.u6
    have e7 := I.u7
    have e8 := I.u8
    have m0 := (I.bel.cell (p := ⟨g, 0, none⟩) hg).trans n0c
    have m2 := (I.bel.cell (p := ⟨g, 2, none⟩) hg).trans n2c
    have m4 := (I.bel.cell (p := ⟨g, 4, none⟩) hg).trans n4c
    rcases (by omega : i = 0 ∨ i = 1 ∨ i = 2 ∨ i = 3 ∨ i = 4 ∨ i = 5 ∨ i = 6 ∨ i = 7 ∨ i = 8 ∨ i = 9 ∨ i = 10 ∨ i = 11 ∨ i = 12 ∨ i = 13 ∨ i = 14 ∨ i = 15 ∨ i = 16 ∨ i = 17 ∨ i = 18 ∨ i = 19 ∨ i = 20 ∨ i = 21 ∨ i = 22 ∨ i = 23 ∨ i = 24 ∨ i = 25) with rfl | rfl | rfl | rfl | rfl | rfl | rfl | rfl | rfl | rfl | rfl | rfl | rfl | rfl | rfl | rfl | rfl | rfl | rfl | rfl | rfl | rfl | rfl | rfl | rfl | rfl
    all_goals
      obtain rfl := Option.some.inj hoi
      clear hoi hlt hi
    · skip
      have DO : ∀ n, 0 ≠ n → (d'.setIfInBounds 0 true).getD n false = d'.getD n false := fun n h => getD_set_ne false h
      have D0 : (d'.setIfInBounds 0 true).getD 0 false = true := setB_same hun
      have D1 := DO 1 (by decide)
      have D2 := DO 2 (by decide)
      have D3 := DO 3 (by decide)
      have D4 := DO 4 (by decide)
      have D5 := DO 5 (by decide)
      have D6 := DO 6 (by decide)
      have D7 := DO 7 (by decide)
      have D8 := DO 8 (by decide)
      have D9 := DO 9 (by decide)
      have D10 := DO 10 (by decide)
      have D11 := DO 11 (by decide)
      have D12 := DO 12 (by decide)
      have D13 := DO 13 (by decide)
      have D14 := DO 14 (by decide)
      have D15 := DO 15 (by decide)
      have D16 := DO 16 (by decide)
      have D17 := DO 17 (by decide)
      have D18 := DO 18 (by decide)
      have D19 := DO 19 (by decide)
      have D20 := DO 20 (by decide)
      have D21 := DO 21 (by decide)
      have D22 := DO 22 (by decide)
      have D23 := DO 23 (by decide)
      have D24 := DO 24 (by decide)
      have D25 := DO 25 (by decide)
      have UO : ∀ n, n ≠ 37 → updB us 37 (.slice (some ⟨g, 0, none⟩) 5 cap) n = us n := fun n h => updB_other h
      have U37 : updB us 37 (.slice (some ⟨g, 0, none⟩) 5 cap) 37 = (.slice (some ⟨g, 0, none⟩) 5 cap) := updB_same _ _ _
      have U0 := UO 0 (by decide)
      have U2 := UO 2 (by decide)
      have U4 := UO 4 (by decide)
      have U5 := UO 5 (by decide)
      have U6 := UO 6 (by decide)
      have U7 := UO 7 (by decide)
      have U8 := UO 8 (by decide)
      have U9 := UO 9 (by decide)
      have U38 := UO 38 (by decide)
      have U39 := UO 39 (by decide)
      have U40 := UO 40 (by decide)
      have U41 := UO 41 (by decide)
      have U42 := UO 42 (by decide)
      have U43 := UO 43 (by decide)
      have U44 := UO 44 (by decide)
      have U45 := UO 45 (by decide)
      have U46 := UO 46 (by decide)
      have U47 := UO 47 (by decide)
      have U48 := UO 48 (by decide)
      have U49 := UO 49 (by decide)
      have U50 := UO 50 (by decide)
      have U51 := UO 51 (by decide)
      have U52 := UO 52 (by decide)
      have U53 := UO 53 (by decide)
      have U54 := UO 54 (by decide)
      have U55 := UO 55 (by decide)
      have U56 := UO 56 (by decide)
      have U57 := UO 57 (by decide)
      have U58 := UO 58 (by decide)
      have U59 := UO 59 (by decide)
      have U60 := UO 60 (by decide)
      refine wpOp_step rfl (fun K hK => ?_)
      simp only [frRs, e0, e2, e4, e5, e6, e7, e8]
      go_simp
      refine hK _ _ ⟨updB us 37 (.slice (some ⟨g, 0, none⟩) 5 cap), by simp [frRs, updB, e0, e2, e4, e5, e6, e7, e8] <;> rfl, { u0 := (U0.trans I.u0), u2 := (U2.trans I.u2), u4 := (U4.trans I.u4), u5 := (U5.trans I.u5), u6 := (U6.trans I.u6), u7 := (U7.trans I.u7), u8 := (U8.trans I.u8), bel := (I.bel), o0 := (fun _ => U37), o1 := (fun h => U38.trans (I.o1 (D1.symm.trans h))), o2 := (fun h => U39.trans (I.o2 (D2.symm.trans h))), o3 := (fun h => U40.trans (I.o3 (D3.symm.trans h))), o4 := (fun h => U41.trans (I.o4 (D4.symm.trans h))), o5 := (fun h => U42.trans (I.o5 (D5.symm.trans h))), o6 := (fun h => U43.trans (I.o6 (D6.symm.trans h))), o7 := (fun h => U44.trans (I.o7 (D7.symm.trans h))), o8 := (fun h => U45.trans (I.o8 (D8.symm.trans h))), o9 := (fun h => U46.trans (I.o9 (D9.symm.trans h))), o10 := (fun h => U47.trans (I.o10 (D10.symm.trans h))), o11 := (fun h => U48.trans (I.o11 (D11.symm.trans h))), o12 := (fun h => U49.trans (I.o12 (D12.symm.trans h))), o13 := (fun h => U50.trans (I.o13 (D13.symm.trans h))), o14 := (fun h => U51.trans (I.o14 (D14.symm.trans h))), o15 := (fun h => U52.trans (I.o15 (D15.symm.trans h))), o16 := (fun h => U53.trans (I.o16 (D16.symm.trans h))), o17 := (fun h => U54.trans (I.o17 (D17.symm.trans h))), o18 := (fun h => U55.trans (I.o18 (D18.symm.trans h))), o19 := (fun h => U56.trans (I.o19 (D19.symm.trans h))), o20 := (fun h => U57.trans (I.o20 (D20.symm.trans h))), o21 := (fun h => U58.trans (I.o21 (D21.symm.trans h))), o22 := (fun h => U59.trans (I.o22 (D22.symm.trans h))), o23 := (fun h => U60.trans (I.o23 (D23.symm.trans h))), o24 := (fun h => by rw [U9, D25]; exact I.o24 (D24.symm.trans h)), o25 := (fun h => D24.trans (I.o25 (D25.symm.trans h))) }⟩
    · skip
      have DO : ∀ n, 1 ≠ n → (d'.setIfInBounds 1 true).getD n false = d'.getD n false := fun n h => getD_set_ne false h
      have D1 : (d'.setIfInBounds 1 true).getD 1 false = true := setB_same hun
      have D0 := DO 0 (by decide)
      have D2 := DO 2 (by decide)
      have D3 := DO 3 (by decide)
      have D4 := DO 4 (by decide)
      have D5 := DO 5 (by decide)
      have D6 := DO 6 (by decide)
      have D7 := DO 7 (by decide)
      have D8 := DO 8 (by decide)
      have D9 := DO 9 (by decide)
      have D10 := DO 10 (by decide)
      have D11 := DO 11 (by decide)
      have D12 := DO 12 (by decide)
      have D13 := DO 13 (by decide)
      have D14 := DO 14 (by decide)
      have D15 := DO 15 (by decide)
      have D16 := DO 16 (by decide)
      have D17 := DO 17 (by decide)
      have D18 := DO 18 (by decide)
      have D19 := DO 19 (by decide)
      have D20 := DO 20 (by decide)
      have D21 := DO 21 (by decide)
      have D22 := DO 22 (by decide)
      have D23 := DO 23 (by decide)
      have D24 := DO 24 (by decide)
      have D25 := DO 25 (by decide)
      have e37 := I.o0 (hall ⟨0, .data⟩ (by simp) rfl)
      have UO : ∀ n, n ≠ 38 → updB us 38 (.pointer (some ⟨g, 0, none⟩)) n = us n := fun n h => updB_other h
      have U38 : updB us 38 (.pointer (some ⟨g, 0, none⟩)) 38 = (.pointer (some ⟨g, 0, none⟩)) := updB_same _ _ _
      have U0 := UO 0 (by decide)
      have U2 := UO 2 (by decide)
      have U4 := UO 4 (by decide)
      have U5 := UO 5 (by decide)
      have U6 := UO 6 (by decide)
      have U7 := UO 7 (by decide)
      have U8 := UO 8 (by decide)
      have U9 := UO 9 (by decide)
      have U37 := UO 37 (by decide)
      have U39 := UO 39 (by decide)
      have U40 := UO 40 (by decide)
      have U41 := UO 41 (by decide)
      have U42 := UO 42 (by decide)
      have U43 := UO 43 (by decide)
      have U44 := UO 44 (by decide)
      have U45 := UO 45 (by decide)
      have U46 := UO 46 (by decide)
      have U47 := UO 47 (by decide)
      have U48 := UO 48 (by decide)
      have U49 := UO 49 (by decide)
      have U50 := UO 50 (by decide)
      have U51 := UO 51 (by decide)
      have U52 := UO 52 (by decide)
      have U53 := UO 53 (by decide)
      have U54 := UO 54 (by decide)
      have U55 := UO 55 (by decide)
      have U56 := UO 56 (by decide)
      have U57 := UO 57 (by decide)
      have U58 := UO 58 (by decide)
      have U59 := UO 59 (by decide)
      have U60 := UO 60 (by decide)
      refine wpOp_step rfl (fun K hK => ?_)
      simp only [frRs, e0, e2, e4, e5, e6, e7, e8, e37]
      go_simp
      refine hK _ _ ⟨updB us 38 (.pointer (some ⟨g, 0, none⟩)), by simp [frRs, updB, e0, e2, e4, e5, e6, e7, e8, e37] <;> rfl, { u0 := (U0.trans I.u0), u2 := (U2.trans I.u2), u4 := (U4.trans I.u4), u5 := (U5.trans I.u5), u6 := (U6.trans I.u6), u7 := (U7.trans I.u7), u8 := (U8.trans I.u8), bel := (I.bel), o0 := (fun h => U37.trans (I.o0 (D0.symm.trans h))), o1 := (fun _ => U38), o2 := (fun h => U39.trans (I.o2 (D2.symm.trans h))), o3 := (fun h => U40.trans (I.o3 (D3.symm.trans h))), o4 := (fun h => U41.trans (I.o4 (D4.symm.trans h))), o5 := (fun h => U42.trans (I.o5 (D5.symm.trans h))), o6 := (fun h => U43.trans (I.o6 (D6.symm.trans h))), o7 := (fun h => U44.trans (I.o7 (D7.symm.trans h))), o8 := (fun h => U45.trans (I.o8 (D8.symm.trans h))), o9 := (fun h => U46.trans (I.o9 (D9.symm.trans h))), o10 := (fun h => U47.trans (I.o10 (D10.symm.trans h))), o11 := (fun h => U48.trans (I.o11 (D11.symm.trans h))), o12 := (fun h => U49.trans (I.o12 (D12.symm.trans h))), o13 := (fun h => U50.trans (I.o13 (D13.symm.trans h))), o14 := (fun h => U51.trans (I.o14 (D14.symm.trans h))), o15 := (fun h => U52.trans (I.o15 (D15.symm.trans h))), o16 := (fun h => U53.trans (I.o16 (D16.symm.trans h))), o17 := (fun h => U54.trans (I.o17 (D17.symm.trans h))), o18 := (fun h => U55.trans (I.o18 (D18.symm.trans h))), o19 := (fun h => U56.trans (I.o19 (D19.symm.trans h))), o20 := (fun h => U57.trans (I.o20 (D20.symm.trans h))), o21 := (fun h => U58.trans (I.o21 (D21.symm.trans h))), o22 := (fun h => U59.trans (I.o22 (D22.symm.trans h))), o23 := (fun h => U60.trans (I.o23 (D23.symm.trans h))), o24 := (fun h => by rw [U9, D25]; exact I.o24 (D24.symm.trans h)), o25 := (fun h => D24.trans (I.o25 (D25.symm.trans h))) }⟩
    · skip
      have DO : ∀ n, 2 ≠ n → (d'.setIfInBounds 2 true).getD n false = d'.getD n false := fun n h => getD_set_ne false h
      have D2 : (d'.setIfInBounds 2 true).getD 2 false = true := setB_same hun
      have D0 := DO 0 (by decide)
      have D1 := DO 1 (by decide)
      have D3 := DO 3 (by decide)
      have D4 := DO 4 (by decide)
      have D5 := DO 5 (by decide)
      have D6 := DO 6 (by decide)
      have D7 := DO 7 (by decide)
      have D8 := DO 8 (by decide)
      have D9 := DO 9 (by decide)
      have D10 := DO 10 (by decide)
      have D11 := DO 11 (by decide)
      have D12 := DO 12 (by decide)
      have D13 := DO 13 (by decide)
      have D14 := DO 14 (by decide)
      have D15 := DO 15 (by decide)
      have D16 := DO 16 (by decide)
      have D17 := DO 17 (by decide)
      have D18 := DO 18 (by decide)
      have D19 := DO 19 (by decide)
      have D20 := DO 20 (by decide)
      have D21 := DO 21 (by decide)
      have D22 := DO 22 (by decide)
      have D23 := DO 23 (by decide)
      have D24 := DO 24 (by decide)
      have D25 := DO 25 (by decide)
      have e38 := I.o1 (hall ⟨1, .data⟩ (by simp) rfl)
      have UO : ∀ n, n ≠ 39 → updB us 39 (.string ⟨a.toArray⟩) n = us n := fun n h => updB_other h
      have U39 : updB us 39 (.string ⟨a.toArray⟩) 39 = (.string ⟨a.toArray⟩) := updB_same _ _ _
      have U0 := UO 0 (by decide)
      have U2 := UO 2 (by decide)
      have U4 := UO 4 (by decide)
      have U5 := UO 5 (by decide)
      have U6 := UO 6 (by decide)
      have U7 := UO 7 (by decide)
      have U8 := UO 8 (by decide)
      have U9 := UO 9 (by decide)
      have U37 := UO 37 (by decide)
      have U38 := UO 38 (by decide)
      have U40 := UO 40 (by decide)
      have U41 := UO 41 (by decide)
      have U42 := UO 42 (by decide)
      have U43 := UO 43 (by decide)
      have U44 := UO 44 (by decide)
      have U45 := UO 45 (by decide)
      have U46 := UO 46 (by decide)
      have U47 := UO 47 (by decide)
      have U48 := UO 48 (by decide)
      have U49 := UO 49 (by decide)
      have U50 := UO 50 (by decide)
      have U51 := UO 51 (by decide)
      have U52 := UO 52 (by decide)
      have U53 := UO 53 (by decide)
      have U54 := UO 54 (by decide)
      have U55 := UO 55 (by decide)
      have U56 := UO 56 (by decide)
      have U57 := UO 57 (by decide)
      have U58 := UO 58 (by decide)
      have U59 := UO 59 (by decide)
      have U60 := UO 60 (by decide)
      refine wpOp_step rfl (fun K hK => ?_)
      simp only [frRs, e0, e2, e4, e5, e6, e7, e8, e38]
      go_simp
      refine hK _ _ ⟨updB us 39 (.string ⟨a.toArray⟩), by simp [frRs, updB, e0, e2, e4, e5, e6, e7, e8, e38] <;> rfl, { u0 := (U0.trans I.u0), u2 := (U2.trans I.u2), u4 := (U4.trans I.u4), u5 := (U5.trans I.u5), u6 := (U6.trans I.u6), u7 := (U7.trans I.u7), u8 := (U8.trans I.u8), bel := (I.bel), o0 := (fun h => U37.trans (I.o0 (D0.symm.trans h))), o1 := (fun h => U38.trans (I.o1 (D1.symm.trans h))), o2 := (fun _ => U39), o3 := (fun h => U40.trans (I.o3 (D3.symm.trans h))), o4 := (fun h => U41.trans (I.o4 (D4.symm.trans h))), o5 := (fun h => U42.trans (I.o5 (D5.symm.trans h))), o6 := (fun h => U43.trans (I.o6 (D6.symm.trans h))), o7 := (fun h => U44.trans (I.o7 (D7.symm.trans h))), o8 := (fun h => U45.trans (I.o8 (D8.symm.trans h))), o9 := (fun h => U46.trans (I.o9 (D9.symm.trans h))), o10 := (fun h => U47.trans (I.o10 (D10.symm.trans h))), o11 := (fun h => U48.trans (I.o11 (D11.symm.trans h))), o12 := (fun h => U49.trans (I.o12 (D12.symm.trans h))), o13 := (fun h => U50.trans (I.o13 (D13.symm.trans h))), o14 := (fun h => U51.trans (I.o14 (D14.symm.trans h))), o15 := (fun h => U52.trans (I.o15 (D15.symm.trans h))), o16 := (fun h => U53.trans (I.o16 (D16.symm.trans h))), o17 := (fun h => U54.trans (I.o17 (D17.symm.trans h))), o18 := (fun h => U55.trans (I.o18 (D18.symm.trans h))), o19 := (fun h => U56.trans (I.o19 (D19.symm.trans h))), o20 := (fun h => U57.trans (I.o20 (D20.symm.trans h))), o21 := (fun h => U58.trans (I.o21 (D21.symm.trans h))), o22 := (fun h => U59.trans (I.o22 (D22.symm.trans h))), o23 := (fun h => U60.trans (I.o23 (D23.symm.trans h))), o24 := (fun h => by rw [U9, D25]; exact I.o24 (D24.symm.trans h)), o25 := (fun h => D24.trans (I.o25 (D25.symm.trans h))) }⟩
    · skip
      have DO : ∀ n, 3 ≠ n → (d'.setIfInBounds 3 true).getD n false = d'.getD n false := fun n h => getD_set_ne false h
      have D3 : (d'.setIfInBounds 3 true).getD 3 false = true := setB_same hun
      have D0 := DO 0 (by decide)
      have D1 := DO 1 (by decide)
      have D2 := DO 2 (by decide)
      have D4 := DO 4 (by decide)
      have D5 := DO 5 (by decide)
      have D6 := DO 6 (by decide)
      have D7 := DO 7 (by decide)
      have D8 := DO 8 (by decide)
      have D9 := DO 9 (by decide)
      have D10 := DO 10 (by decide)
      have D11 := DO 11 (by decide)
      have D12 := DO 12 (by decide)
      have D13 := DO 13 (by decide)
      have D14 := DO 14 (by decide)
      have D15 := DO 15 (by decide)
      have D16 := DO 16 (by decide)
      have D17 := DO 17 (by decide)
      have D18 := DO 18 (by decide)
      have D19 := DO 19 (by decide)
      have D20 := DO 20 (by decide)
      have D21 := DO 21 (by decide)
      have D22 := DO 22 (by decide)
      have D23 := DO 23 (by decide)
      have D24 := DO 24 (by decide)
      have D25 := DO 25 (by decide)
      have UO : ∀ n, n ≠ 40 → updB us 40 (.int .i64 x) n = us n := fun n h => updB_other h
      have U40 : updB us 40 (.int .i64 x) 40 = (.int .i64 x) := updB_same _ _ _
      have U0 := UO 0 (by decide)
      have U2 := UO 2 (by decide)
      have U4 := UO 4 (by decide)
      have U5 := UO 5 (by decide)
      have U6 := UO 6 (by decide)
      have U7 := UO 7 (by decide)
      have U8 := UO 8 (by decide)
      have U9 := UO 9 (by decide)
      have U37 := UO 37 (by decide)
      have U38 := UO 38 (by decide)
      have U39 := UO 39 (by decide)
      have U41 := UO 41 (by decide)
      have U42 := UO 42 (by decide)
      have U43 := UO 43 (by decide)
      have U44 := UO 44 (by decide)
      have U45 := UO 45 (by decide)
      have U46 := UO 46 (by decide)
      have U47 := UO 47 (by decide)
      have U48 := UO 48 (by decide)
      have U49 := UO 49 (by decide)
      have U50 := UO 50 (by decide)
      have U51 := UO 51 (by decide)
      have U52 := UO 52 (by decide)
      have U53 := UO 53 (by decide)
      have U54 := UO 54 (by decide)
      have U55 := UO 55 (by decide)
      have U56 := UO 56 (by decide)
      have U57 := UO 57 (by decide)
      have U58 := UO 58 (by decide)
      have U59 := UO 59 (by decide)
      have U60 := UO 60 (by decide)
      refine wpOp_step rfl (fun K hK => ?_)
      simp only [frRs, e0, e2, e4, e5, e6, e7, e8]
      go_simp
      refine hK _ _ ⟨updB us 40 (.int .i64 x), by simp [frRs, updB, e0, e2, e4, e5, e6, e7, e8] <;> rfl, { u0 := (U0.trans I.u0), u2 := (U2.trans I.u2), u4 := (U4.trans I.u4), u5 := (U5.trans I.u5), u6 := (U6.trans I.u6), u7 := (U7.trans I.u7), u8 := (U8.trans I.u8), bel := (I.bel), o0 := (fun h => U37.trans (I.o0 (D0.symm.trans h))), o1 := (fun h => U38.trans (I.o1 (D1.symm.trans h))), o2 := (fun h => U39.trans (I.o2 (D2.symm.trans h))), o3 := (fun _ => U40), o4 := (fun h => U41.trans (I.o4 (D4.symm.trans h))), o5 := (fun h => U42.trans (I.o5 (D5.symm.trans h))), o6 := (fun h => U43.trans (I.o6 (D6.symm.trans h))), o7 := (fun h => U44.trans (I.o7 (D7.symm.trans h))), o8 := (fun h => U45.trans (I.o8 (D8.symm.trans h))), o9 := (fun h => U46.trans (I.o9 (D9.symm.trans h))), o10 := (fun h => U47.trans (I.o10 (D10.symm.trans h))), o11 := (fun h => U48.trans (I.o11 (D11.symm.trans h))), o12 := (fun h => U49.trans (I.o12 (D12.symm.trans h))), o13 := (fun h => U50.trans (I.o13 (D13.symm.trans h))), o14 := (fun h => U51.trans (I.o14 (D14.symm.trans h))), o15 := (fun h => U52.trans (I.o15 (D15.symm.trans h))), o16 := (fun h => U53.trans (I.o16 (D16.symm.trans h))), o17 := (fun h => U54.trans (I.o17 (D17.symm.trans h))), o18 := (fun h => U55.trans (I.o18 (D18.symm.trans h))), o19 := (fun h => U56.trans (I.o19 (D19.symm.trans h))), o20 := (fun h => U57.trans (I.o20 (D20.symm.trans h))), o21 := (fun h => U58.trans (I.o21 (D21.symm.trans h))), o22 := (fun h => U59.trans (I.o22 (D22.symm.trans h))), o23 := (fun h => U60.trans (I.o23 (D23.symm.trans h))), o24 := (fun h => by rw [U9, D25]; exact I.o24 (D24.symm.trans h)), o25 := (fun h => D24.trans (I.o25 (D25.symm.trans h))) }⟩
    · skip
      have DO : ∀ n, 4 ≠ n → (d'.setIfInBounds 4 true).getD n false = d'.getD n false := fun n h => getD_set_ne false h
      have D4 : (d'.setIfInBounds 4 true).getD 4 false = true := setB_same hun
      have D0 := DO 0 (by decide)
      have D1 := DO 1 (by decide)
      have D2 := DO 2 (by decide)
      have D3 := DO 3 (by decide)
      have D5 := DO 5 (by decide)
      have D6 := DO 6 (by decide)
      have D7 := DO 7 (by decide)
      have D8 := DO 8 (by decide)
      have D9 := DO 9 (by decide)
      have D10 := DO 10 (by decide)
      have D11 := DO 11 (by decide)
      have D12 := DO 12 (by decide)
      have D13 := DO 13 (by decide)
      have D14 := DO 14 (by decide)
      have D15 := DO 15 (by decide)
      have D16 := DO 16 (by decide)
      have D17 := DO 17 (by decide)
      have D18 := DO 18 (by decide)
      have D19 := DO 19 (by decide)
      have D20 := DO 20 (by decide)
      have D21 := DO 21 (by decide)
      have D22 := DO 22 (by decide)
      have D23 := DO 23 (by decide)
      have D24 := DO 24 (by decide)
      have D25 := DO 25 (by decide)
      have UO : ∀ n, n ≠ 41 → updB us 41 (.slice (some ⟨g, 0, none⟩) 5 cap) n = us n := fun n h => updB_other h
      have U41 : updB us 41 (.slice (some ⟨g, 0, none⟩) 5 cap) 41 = (.slice (some ⟨g, 0, none⟩) 5 cap) := updB_same _ _ _
      have U0 := UO 0 (by decide)
      have U2 := UO 2 (by decide)
      have U4 := UO 4 (by decide)
      have U5 := UO 5 (by decide)
      have U6 := UO 6 (by decide)
      have U7 := UO 7 (by decide)
      have U8 := UO 8 (by decide)
      have U9 := UO 9 (by decide)
      have U37 := UO 37 (by decide)
      have U38 := UO 38 (by decide)
      have U39 := UO 39 (by decide)
      have U40 := UO 40 (by decide)
      have U42 := UO 42 (by decide)
      have U43 := UO 43 (by decide)
      have U44 := UO 44 (by decide)
      have U45 := UO 45 (by decide)
      have U46 := UO 46 (by decide)
      have U47 := UO 47 (by decide)
      have U48 := UO 48 (by decide)
      have U49 := UO 49 (by decide)
      have U50 := UO 50 (by decide)
      have U51 := UO 51 (by decide)
      have U52 := UO 52 (by decide)
      have U53 := UO 53 (by decide)
      have U54 := UO 54 (by decide)
      have U55 := UO 55 (by decide)
      have U56 := UO 56 (by decide)
      have U57 := UO 57 (by decide)
      have U58 := UO 58 (by decide)
      have U59 := UO 59 (by decide)
      have U60 := UO 60 (by decide)
      refine wpOp_step rfl (fun K hK => ?_)
      simp only [frRs, e0, e2, e4, e5, e6, e7, e8]
      go_simp
      refine hK _ _ ⟨updB us 41 (.slice (some ⟨g, 0, none⟩) 5 cap), by simp [frRs, updB, e0, e2, e4, e5, e6, e7, e8] <;> rfl, { u0 := (U0.trans I.u0), u2 := (U2.trans I.u2), u4 := (U4.trans I.u4), u5 := (U5.trans I.u5), u6 := (U6.trans I.u6), u7 := (U7.trans I.u7), u8 := (U8.trans I.u8), bel := (I.bel), o0 := (fun h => U37.trans (I.o0 (D0.symm.trans h))), o1 := (fun h => U38.trans (I.o1 (D1.symm.trans h))), o2 := (fun h => U39.trans (I.o2 (D2.symm.trans h))), o3 := (fun h => U40.trans (I.o3 (D3.symm.trans h))), o4 := (fun _ => U41), o5 := (fun h => U42.trans (I.o5 (D5.symm.trans h))), o6 := (fun h => U43.trans (I.o6 (D6.symm.trans h))), o7 := (fun h => U44.trans (I.o7 (D7.symm.trans h))), o8 := (fun h => U45.trans (I.o8 (D8.symm.trans h))), o9 := (fun h => U46.trans (I.o9 (D9.symm.trans h))), o10 := (fun h => U47.trans (I.o10 (D10.symm.trans h))), o11 := (fun h => U48.trans (I.o11 (D11.symm.trans h))), o12 := (fun h => U49.trans (I.o12 (D12.symm.trans h))), o13 := (fun h => U50.trans (I.o13 (D13.symm.trans h))), o14 := (fun h => U51.trans (I.o14 (D14.symm.trans h))), o15 := (fun h => U52.trans (I.o15 (D15.symm.trans h))), o16 := (fun h => U53.trans (I.o16 (D16.symm.trans h))), o17 := (fun h => U54.trans (I.o17 (D17.symm.trans h))), o18 := (fun h => U55.trans (I.o18 (D18.symm.trans h))), o19 := (fun h => U56.trans (I.o19 (D19.symm.trans h))), o20 := (fun h => U57.trans (I.o20 (D20.symm.trans h))), o21 := (fun h => U58.trans (I.o21 (D21.symm.trans h))), o22 := (fun h => U59.trans (I.o22 (D22.symm.trans h))), o23 := (fun h => U60.trans (I.o23 (D23.symm.trans h))), o24 := (fun h => by rw [U9, D25]; exact I.o24 (D24.symm.trans h)), o25 := (fun h => D24.trans (I.o25 (D25.symm.trans h))) }⟩
    · skip
      have DO : ∀ n, 5 ≠ n → (d'.setIfInBounds 5 true).getD n false = d'.getD n false := fun n h => getD_set_ne false h
      have D5 : (d'.setIfInBounds 5 true).getD 5 false = true := setB_same hun
      have D0 := DO 0 (by decide)
      have D1 := DO 1 (by decide)
      have D2 := DO 2 (by decide)
      have D3 := DO 3 (by decide)
      have D4 := DO 4 (by decide)
      have D6 := DO 6 (by decide)
      have D7 := DO 7 (by decide)
      have D8 := DO 8 (by decide)
      have D9 := DO 9 (by decide)
      have D10 := DO 10 (by decide)
      have D11 := DO 11 (by decide)
      have D12 := DO 12 (by decide)
      have D13 := DO 13 (by decide)
      have D14 := DO 14 (by decide)
      have D15 := DO 15 (by decide)
      have D16 := DO 16 (by decide)
      have D17 := DO 17 (by decide)
      have D18 := DO 18 (by decide)
      have D19 := DO 19 (by decide)
      have D20 := DO 20 (by decide)
      have D21 := DO 21 (by decide)
      have D22 := DO 22 (by decide)
      have D23 := DO 23 (by decide)
      have D24 := DO 24 (by decide)
      have D25 := DO 25 (by decide)
      have e41 := I.o4 (hall ⟨4, .data⟩ (by simp) rfl)
      have UO : ∀ n, n ≠ 42 → updB us 42 (.pointer (some ⟨g, 2, none⟩)) n = us n := fun n h => updB_other h
      have U42 : updB us 42 (.pointer (some ⟨g, 2, none⟩)) 42 = (.pointer (some ⟨g, 2, none⟩)) := updB_same _ _ _
      have U0 := UO 0 (by decide)
      have U2 := UO 2 (by decide)
      have U4 := UO 4 (by decide)
      have U5 := UO 5 (by decide)
      have U6 := UO 6 (by decide)
      have U7 := UO 7 (by decide)
      have U8 := UO 8 (by decide)
      have U9 := UO 9 (by decide)
      have U37 := UO 37 (by decide)
      have U38 := UO 38 (by decide)
      have U39 := UO 39 (by decide)
      have U40 := UO 40 (by decide)
      have U41 := UO 41 (by decide)
      have U43 := UO 43 (by decide)
      have U44 := UO 44 (by decide)
      have U45 := UO 45 (by decide)
      have U46 := UO 46 (by decide)
      have U47 := UO 47 (by decide)
      have U48 := UO 48 (by decide)
      have U49 := UO 49 (by decide)
      have U50 := UO 50 (by decide)
      have U51 := UO 51 (by decide)
      have U52 := UO 52 (by decide)
      have U53 := UO 53 (by decide)
      have U54 := UO 54 (by decide)
      have U55 := UO 55 (by decide)
      have U56 := UO 56 (by decide)
      have U57 := UO 57 (by decide)
      have U58 := UO 58 (by decide)
      have U59 := UO 59 (by decide)
      have U60 := UO 60 (by decide)
      refine wpOp_step rfl (fun K hK => ?_)
      simp only [frRs, e0, e2, e4, e5, e6, e7, e8, e41]
      go_simp
      refine hK _ _ ⟨updB us 42 (.pointer (some ⟨g, 2, none⟩)), by simp [frRs, updB, e0, e2, e4, e5, e6, e7, e8, e41] <;> rfl, { u0 := (U0.trans I.u0), u2 := (U2.trans I.u2), u4 := (U4.trans I.u4), u5 := (U5.trans I.u5), u6 := (U6.trans I.u6), u7 := (U7.trans I.u7), u8 := (U8.trans I.u8), bel := (I.bel), o0 := (fun h => U37.trans (I.o0 (D0.symm.trans h))), o1 := (fun h => U38.trans (I.o1 (D1.symm.trans h))), o2 := (fun h => U39.trans (I.o2 (D2.symm.trans h))), o3 := (fun h => U40.trans (I.o3 (D3.symm.trans h))), o4 := (fun h => U41.trans (I.o4 (D4.symm.trans h))), o5 := (fun _ => U42), o6 := (fun h => U43.trans (I.o6 (D6.symm.trans h))), o7 := (fun h => U44.trans (I.o7 (D7.symm.trans h))), o8 := (fun h => U45.trans (I.o8 (D8.symm.trans h))), o9 := (fun h => U46.trans (I.o9 (D9.symm.trans h))), o10 := (fun h => U47.trans (I.o10 (D10.symm.trans h))), o11 := (fun h => U48.trans (I.o11 (D11.symm.trans h))), o12 := (fun h => U49.trans (I.o12 (D12.symm.trans h))), o13 := (fun h => U50.trans (I.o13 (D13.symm.trans h))), o14 := (fun h => U51.trans (I.o14 (D14.symm.trans h))), o15 := (fun h => U52.trans (I.o15 (D15.symm.trans h))), o16 := (fun h => U53.trans (I.o16 (D16.symm.trans h))), o17 := (fun h => U54.trans (I.o17 (D17.symm.trans h))), o18 := (fun h => U55.trans (I.o18 (D18.symm.trans h))), o19 := (fun h => U56.trans (I.o19 (D19.symm.trans h))), o20 := (fun h => U57.trans (I.o20 (D20.symm.trans h))), o21 := (fun h => U58.trans (I.o21 (D21.symm.trans h))), o22 := (fun h => U59.trans (I.o22 (D22.symm.trans h))), o23 := (fun h => U60.trans (I.o23 (D23.symm.trans h))), o24 := (fun h => by rw [U9, D25]; exact I.o24 (D24.symm.trans h)), o25 := (fun h => D24.trans (I.o25 (D25.symm.trans h))) }⟩
    · skip
      have DO : ∀ n, 6 ≠ n → (d'.setIfInBounds 6 true).getD n false = d'.getD n false := fun n h => getD_set_ne false h
      have D6 : (d'.setIfInBounds 6 true).getD 6 false = true := setB_same hun
      have D0 := DO 0 (by decide)
      have D1 := DO 1 (by decide)
      have D2 := DO 2 (by decide)
      have D3 := DO 3 (by decide)
      have D4 := DO 4 (by decide)
      have D5 := DO 5 (by decide)
      have D7 := DO 7 (by decide)
      have D8 := DO 8 (by decide)
      have D9 := DO 9 (by decide)
      have D10 := DO 10 (by decide)
      have D11 := DO 11 (by decide)
      have D12 := DO 12 (by decide)
      have D13 := DO 13 (by decide)
      have D14 := DO 14 (by decide)
      have D15 := DO 15 (by decide)
      have D16 := DO 16 (by decide)
      have D17 := DO 17 (by decide)
      have D18 := DO 18 (by decide)
      have D19 := DO 19 (by decide)
      have D20 := DO 20 (by decide)
      have D21 := DO 21 (by decide)
      have D22 := DO 22 (by decide)
      have D23 := DO 23 (by decide)
      have D24 := DO 24 (by decide)
      have D25 := DO 25 (by decide)
      have e42 := I.o5 (hall ⟨5, .data⟩ (by simp) rfl)
      have UO : ∀ n, n ≠ 43 → updB us 43 (.string ⟨[l0, l1, l2].toArray⟩) n = us n := fun n h => updB_other h
      have U43 : updB us 43 (.string ⟨[l0, l1, l2].toArray⟩) 43 = (.string ⟨[l0, l1, l2].toArray⟩) := updB_same _ _ _
      have U0 := UO 0 (by decide)
      have U2 := UO 2 (by decide)
      have U4 := UO 4 (by decide)
      have U5 := UO 5 (by decide)
      have U6 := UO 6 (by decide)
      have U7 := UO 7 (by decide)
      have U8 := UO 8 (by decide)
      have U9 := UO 9 (by decide)
      have U37 := UO 37 (by decide)
      have U38 := UO 38 (by decide)
      have U39 := UO 39 (by decide)
      have U40 := UO 40 (by decide)
      have U41 := UO 41 (by decide)
      have U42 := UO 42 (by decide)
      have U44 := UO 44 (by decide)
      have U45 := UO 45 (by decide)
      have U46 := UO 46 (by decide)
      have U47 := UO 47 (by decide)
      have U48 := UO 48 (by decide)
      have U49 := UO 49 (by decide)
      have U50 := UO 50 (by decide)
      have U51 := UO 51 (by decide)
      have U52 := UO 52 (by decide)
      have U53 := UO 53 (by decide)
      have U54 := UO 54 (by decide)
      have U55 := UO 55 (by decide)
      have U56 := UO 56 (by decide)
      have U57 := UO 57 (by decide)
      have U58 := UO 58 (by decide)
      have U59 := UO 59 (by decide)
      have U60 := UO 60 (by decide)
      refine wpOp_step rfl (fun K hK => ?_)
      simp only [frRs, e0, e2, e4, e5, e6, e7, e8, e42]
      go_simp
      refine hK _ _ ⟨updB us 43 (.string ⟨[l0, l1, l2].toArray⟩), by simp [frRs, updB, e0, e2, e4, e5, e6, e7, e8, e42] <;> rfl, { u0 := (U0.trans I.u0), u2 := (U2.trans I.u2), u4 := (U4.trans I.u4), u5 := (U5.trans I.u5), u6 := (U6.trans I.u6), u7 := (U7.trans I.u7), u8 := (U8.trans I.u8), bel := (I.bel), o0 := (fun h => U37.trans (I.o0 (D0.symm.trans h))), o1 := (fun h => U38.trans (I.o1 (D1.symm.trans h))), o2 := (fun h => U39.trans (I.o2 (D2.symm.trans h))), o3 := (fun h => U40.trans (I.o3 (D3.symm.trans h))), o4 := (fun h => U41.trans (I.o4 (D4.symm.trans h))), o5 := (fun h => U42.trans (I.o5 (D5.symm.trans h))), o6 := (fun _ => U43), o7 := (fun h => U44.trans (I.o7 (D7.symm.trans h))), o8 := (fun h => U45.trans (I.o8 (D8.symm.trans h))), o9 := (fun h => U46.trans (I.o9 (D9.symm.trans h))), o10 := (fun h => U47.trans (I.o10 (D10.symm.trans h))), o11 := (fun h => U48.trans (I.o11 (D11.symm.trans h))), o12 := (fun h => U49.trans (I.o12 (D12.symm.trans h))), o13 := (fun h => U50.trans (I.o13 (D13.symm.trans h))), o14 := (fun h => U51.trans (I.o14 (D14.symm.trans h))), o15 := (fun h => U52.trans (I.o15 (D15.symm.trans h))), o16 := (fun h => U53.trans (I.o16 (D16.symm.trans h))), o17 := (fun h => U54.trans (I.o17 (D17.symm.trans h))), o18 := (fun h => U55.trans (I.o18 (D18.symm.trans h))), o19 := (fun h => U56.trans (I.o19 (D19.symm.trans h))), o20 := (fun h => U57.trans (I.o20 (D20.symm.trans h))), o21 := (fun h => U58.trans (I.o21 (D21.symm.trans h))), o22 := (fun h => U59.trans (I.o22 (D22.symm.trans h))), o23 := (fun h => U60.trans (I.o23 (D23.symm.trans h))), o24 := (fun h => by rw [U9, D25]; exact I.o24 (D24.symm.trans h)), o25 := (fun h => D24.trans (I.o25 (D25.symm.trans h))) }⟩
    · skip
      have DO : ∀ n, 7 ≠ n → (d'.setIfInBounds 7 true).getD n false = d'.getD n false := fun n h => getD_set_ne false h
      have D7 : (d'.setIfInBounds 7 true).getD 7 false = true := setB_same hun
      have D0 := DO 0 (by decide)
      have D1 := DO 1 (by decide)
      have D2 := DO 2 (by decide)
      have D3 := DO 3 (by decide)
      have D4 := DO 4 (by decide)
      have D5 := DO 5 (by decide)
      have D6 := DO 6 (by decide)
      have D8 := DO 8 (by decide)
      have D9 := DO 9 (by decide)
      have D10 := DO 10 (by decide)
      have D11 := DO 11 (by decide)
      have D12 := DO 12 (by decide)
      have D13 := DO 13 (by decide)
      have D14 := DO 14 (by decide)
      have D15 := DO 15 (by decide)
      have D16 := DO 16 (by decide)
      have D17 := DO 17 (by decide)
      have D18 := DO 18 (by decide)
      have D19 := DO 19 (by decide)
      have D20 := DO 20 (by decide)
      have D21 := DO 21 (by decide)
      have D22 := DO 22 (by decide)
      have D23 := DO 23 (by decide)
      have D24 := DO 24 (by decide)
      have D25 := DO 25 (by decide)
      have e43 := I.o6 (hall ⟨6, .data⟩ (by simp) rfl)
      have UO : ∀ n, n ≠ 44 → updB us 44 (.int .u8 (l0.toNat : Int)) n = us n := fun n h => updB_other h
      have U44 : updB us 44 (.int .u8 (l0.toNat : Int)) 44 = (.int .u8 (l0.toNat : Int)) := updB_same _ _ _
      have U0 := UO 0 (by decide)
      have U2 := UO 2 (by decide)
      have U4 := UO 4 (by decide)
      have U5 := UO 5 (by decide)
      have U6 := UO 6 (by decide)
      have U7 := UO 7 (by decide)
      have U8 := UO 8 (by decide)
      have U9 := UO 9 (by decide)
      have U37 := UO 37 (by decide)
      have U38 := UO 38 (by decide)
      have U39 := UO 39 (by decide)
      have U40 := UO 40 (by decide)
      have U41 := UO 41 (by decide)
      have U42 := UO 42 (by decide)
      have U43 := UO 43 (by decide)
      have U45 := UO 45 (by decide)
      have U46 := UO 46 (by decide)
      have U47 := UO 47 (by decide)
      have U48 := UO 48 (by decide)
      have U49 := UO 49 (by decide)
      have U50 := UO 50 (by decide)
      have U51 := UO 51 (by decide)
      have U52 := UO 52 (by decide)
      have U53 := UO 53 (by decide)
      have U54 := UO 54 (by decide)
      have U55 := UO 55 (by decide)
      have U56 := UO 56 (by decide)
      have U57 := UO 57 (by decide)
      have U58 := UO 58 (by decide)
      have U59 := UO 59 (by decide)
      have U60 := UO 60 (by decide)
      refine wpOp_step rfl (fun K hK => ?_)
      simp only [frRs, e0, e2, e4, e5, e6, e7, e8, e43]
      go_simp
      refine hK _ _ ⟨updB us 44 (.int .u8 (l0.toNat : Int)), by simp [frRs, updB, e0, e2, e4, e5, e6, e7, e8, e43] <;> rfl, { u0 := (U0.trans I.u0), u2 := (U2.trans I.u2), u4 := (U4.trans I.u4), u5 := (U5.trans I.u5), u6 := (U6.trans I.u6), u7 := (U7.trans I.u7), u8 := (U8.trans I.u8), bel := (I.bel), o0 := (fun h => U37.trans (I.o0 (D0.symm.trans h))), o1 := (fun h => U38.trans (I.o1 (D1.symm.trans h))), o2 := (fun h => U39.trans (I.o2 (D2.symm.trans h))), o3 := (fun h => U40.trans (I.o3 (D3.symm.trans h))), o4 := (fun h => U41.trans (I.o4 (D4.symm.trans h))), o5 := (fun h => U42.trans (I.o5 (D5.symm.trans h))), o6 := (fun h => U43.trans (I.o6 (D6.symm.trans h))), o7 := (fun _ => U44), o8 := (fun h => U45.trans (I.o8 (D8.symm.trans h))), o9 := (fun h => U46.trans (I.o9 (D9.symm.trans h))), o10 := (fun h => U47.trans (I.o10 (D10.symm.trans h))), o11 := (fun h => U48.trans (I.o11 (D11.symm.trans h))), o12 := (fun h => U49.trans (I.o12 (D12.symm.trans h))), o13 := (fun h => U50.trans (I.o13 (D13.symm.trans h))), o14 := (fun h => U51.trans (I.o14 (D14.symm.trans h))), o15 := (fun h => U52.trans (I.o15 (D15.symm.trans h))), o16 := (fun h => U53.trans (I.o16 (D16.symm.trans h))), o17 := (fun h => U54.trans (I.o17 (D17.symm.trans h))), o18 := (fun h => U55.trans (I.o18 (D18.symm.trans h))), o19 := (fun h => U56.trans (I.o19 (D19.symm.trans h))), o20 := (fun h => U57.trans (I.o20 (D20.symm.trans h))), o21 := (fun h => U58.trans (I.o21 (D21.symm.trans h))), o22 := (fun h => U59.trans (I.o22 (D22.symm.trans h))), o23 := (fun h => U60.trans (I.o23 (D23.symm.trans h))), o24 := (fun h => by rw [U9, D25]; exact I.o24 (D24.symm.trans h)), o25 := (fun h => D24.trans (I.o25 (D25.symm.trans h))) }⟩
    · skip
      have DO : ∀ n, 8 ≠ n → (d'.setIfInBounds 8 true).getD n false = d'.getD n false := fun n h => getD_set_ne false h
      have D8 : (d'.setIfInBounds 8 true).getD 8 false = true := setB_same hun
      have D0 := DO 0 (by decide)
      have D1 := DO 1 (by decide)
      have D2 := DO 2 (by decide)
      have D3 := DO 3 (by decide)
      have D4 := DO 4 (by decide)
      have D5 := DO 5 (by decide)
      have D6 := DO 6 (by decide)
      have D7 := DO 7 (by decide)
      have D9 := DO 9 (by decide)
      have D10 := DO 10 (by decide)
      have D11 := DO 11 (by decide)
      have D12 := DO 12 (by decide)
      have D13 := DO 13 (by decide)
      have D14 := DO 14 (by decide)
      have D15 := DO 15 (by decide)
      have D16 := DO 16 (by decide)
      have D17 := DO 17 (by decide)
      have D18 := DO 18 (by decide)
      have D19 := DO 19 (by decide)
      have D20 := DO 20 (by decide)
      have D21 := DO 21 (by decide)
      have D22 := DO 22 (by decide)
      have D23 := DO 23 (by decide)
      have D24 := DO 24 (by decide)
      have D25 := DO 25 (by decide)
      have e44 := I.o7 (hall ⟨7, .data⟩ (by simp) rfl)
      have UO : ∀ n, n ≠ 45 → updB us 45 (.int .i64 (rn l0)) n = us n := fun n h => updB_other h
      have U45 : updB us 45 (.int .i64 (rn l0)) 45 = (.int .i64 (rn l0)) := updB_same _ _ _
      have U0 := UO 0 (by decide)
      have U2 := UO 2 (by decide)
      have U4 := UO 4 (by decide)
      have U5 := UO 5 (by decide)
      have U6 := UO 6 (by decide)
      have U7 := UO 7 (by decide)
      have U8 := UO 8 (by decide)
      have U9 := UO 9 (by decide)
      have U37 := UO 37 (by decide)
      have U38 := UO 38 (by decide)
      have U39 := UO 39 (by decide)
      have U40 := UO 40 (by decide)
      have U41 := UO 41 (by decide)
      have U42 := UO 42 (by decide)
      have U43 := UO 43 (by decide)
      have U44 := UO 44 (by decide)
      have U46 := UO 46 (by decide)
      have U47 := UO 47 (by decide)
      have U48 := UO 48 (by decide)
      have U49 := UO 49 (by decide)
      have U50 := UO 50 (by decide)
      have U51 := UO 51 (by decide)
      have U52 := UO 52 (by decide)
      have U53 := UO 53 (by decide)
      have U54 := UO 54 (by decide)
      have U55 := UO 55 (by decide)
      have U56 := UO 56 (by decide)
      have U57 := UO 57 (by decide)
      have U58 := UO 58 (by decide)
      have U59 := UO 59 (by decide)
      have U60 := UO 60 (by decide)
      refine wpOp_step rfl (fun K hK => ?_)
      simp only [frRs, e0, e2, e4, e5, e6, e7, e8, e44]
      go_simp
      go_wp2_with (go_at_call 34; refine (PR.out l0 W).mono ?_; rintro e w2 ⟨rfl, hb2⟩)
      exact ⟨updB us 45 (.int .i64 (rn l0)), by simp [frRs, updB, e0, e2, e4, e5, e6, e7, e8, e44] <;> rfl, { u0 := (U0.trans I.u0), u2 := (U2.trans I.u2), u4 := (U4.trans I.u4), u5 := (U5.trans I.u5), u6 := (U6.trans I.u6), u7 := (U7.trans I.u7), u8 := (U8.trans I.u8), bel := (I.bel.trans (hb2.mono hsz)), o0 := (fun h => U37.trans (I.o0 (D0.symm.trans h))), o1 := (fun h => U38.trans (I.o1 (D1.symm.trans h))), o2 := (fun h => U39.trans (I.o2 (D2.symm.trans h))), o3 := (fun h => U40.trans (I.o3 (D3.symm.trans h))), o4 := (fun h => U41.trans (I.o4 (D4.symm.trans h))), o5 := (fun h => U42.trans (I.o5 (D5.symm.trans h))), o6 := (fun h => U43.trans (I.o6 (D6.symm.trans h))), o7 := (fun h => U44.trans (I.o7 (D7.symm.trans h))), o8 := (fun _ => U45), o9 := (fun h => U46.trans (I.o9 (D9.symm.trans h))), o10 := (fun h => U47.trans (I.o10 (D10.symm.trans h))), o11 := (fun h => U48.trans (I.o11 (D11.symm.trans h))), o12 := (fun h => U49.trans (I.o12 (D12.symm.trans h))), o13 := (fun h => U50.trans (I.o13 (D13.symm.trans h))), o14 := (fun h => U51.trans (I.o14 (D14.symm.trans h))), o15 := (fun h => U52.trans (I.o15 (D15.symm.trans h))), o16 := (fun h => U53.trans (I.o16 (D16.symm.trans h))), o17 := (fun h => U54.trans (I.o17 (D17.symm.trans h))), o18 := (fun h => U55.trans (I.o18 (D18.symm.trans h))), o19 := (fun h => U56.trans (I.o19 (D19.symm.trans h))), o20 := (fun h => U57.trans (I.o20 (D20.symm.trans h))), o21 := (fun h => U58.trans (I.o21 (D21.symm.trans h))), o22 := (fun h => U59.trans (I.o22 (D22.symm.trans h))), o23 := (fun h => U60.trans (I.o23 (D23.symm.trans h))), o24 := (fun h => by rw [U9, D25]; obtain ⟨B2, g1, g2, g3⟩ := I.o24 (D24.symm.trans h); exact ⟨B2, g1, g2, (hb2.block B2 (lt_some g3)).trans g3⟩), o25 := (fun h => D24.trans (I.o25 (D25.symm.trans h))) }⟩
    · skip
      have DO : ∀ n, 9 ≠ n → (d'.setIfInBounds 9 true).getD n false = d'.getD n false := fun n h => getD_set_ne false h
      have D9 : (d'.setIfInBounds 9 true).getD 9 false = true := setB_same hun
      have D0 := DO 0 (by decide)
      have D1 := DO 1 (by decide)
      have D2 := DO 2 (by decide)
      have D3 := DO 3 (by decide)
      have D4 := DO 4 (by decide)
      have D5 := DO 5 (by decide)
      have D6 := DO 6 (by decide)
      have D7 := DO 7 (by decide)
      have D8 := DO 8 (by decide)
      have D10 := DO 10 (by decide)
      have D11 := DO 11 (by decide)
      have D12 := DO 12 (by decide)
      have D13 := DO 13 (by decide)
      have D14 := DO 14 (by decide)
      have D15 := DO 15 (by decide)
      have D16 := DO 16 (by decide)
      have D17 := DO 17 (by decide)
      have D18 := DO 18 (by decide)
      have D19 := DO 19 (by decide)
      have D20 := DO 20 (by decide)
      have D21 := DO 21 (by decide)
      have D22 := DO 22 (by decide)
      have D23 := DO 23 (by decide)
      have D24 := DO 24 (by decide)
      have D25 := DO 25 (by decide)
      have UO : ∀ n, n ≠ 46 → updB us 46 (.slice (some ⟨g, 0, none⟩) 5 cap) n = us n := fun n h => updB_other h
      have U46 : updB us 46 (.slice (some ⟨g, 0, none⟩) 5 cap) 46 = (.slice (some ⟨g, 0, none⟩) 5 cap) := updB_same _ _ _
      have U0 := UO 0 (by decide)
      have U2 := UO 2 (by decide)
      have U4 := UO 4 (by decide)
      have U5 := UO 5 (by decide)
      have U6 := UO 6 (by decide)
      have U7 := UO 7 (by decide)
      have U8 := UO 8 (by decide)
      have U9 := UO 9 (by decide)
      have U37 := UO 37 (by decide)
      have U38 := UO 38 (by decide)
      have U39 := UO 39 (by decide)
      have U40 := UO 40 (by decide)
      have U41 := UO 41 (by decide)
      have U42 := UO 42 (by decide)
      have U43 := UO 43 (by decide)
      have U44 := UO 44 (by decide)
      have U45 := UO 45 (by decide)
      have U47 := UO 47 (by decide)
      have U48 := UO 48 (by decide)
      have U49 := UO 49 (by decide)
      have U50 := UO 50 (by decide)
      have U51 := UO 51 (by decide)
      have U52 := UO 52 (by decide)
      have U53 := UO 53 (by decide)
      have U54 := UO 54 (by decide)
      have U55 := UO 55 (by decide)
      have U56 := UO 56 (by decide)
      have U57 := UO 57 (by decide)
      have U58 := UO 58 (by decide)
      have U59 := UO 59 (by decide)
      have U60 := UO 60 (by decide)
      refine wpOp_step rfl (fun K hK => ?_)
      simp only [frRs, e0, e2, e4, e5, e6, e7, e8]
      go_simp
      refine hK _ _ ⟨updB us 46 (.slice (some ⟨g, 0, none⟩) 5 cap), by simp [frRs, updB, e0, e2, e4, e5, e6, e7, e8] <;> rfl, { u0 := (U0.trans I.u0), u2 := (U2.trans I.u2), u4 := (U4.trans I.u4), u5 := (U5.trans I.u5), u6 := (U6.trans I.u6), u7 := (U7.trans I.u7), u8 := (U8.trans I.u8), bel := (I.bel), o0 := (fun h => U37.trans (I.o0 (D0.symm.trans h))), o1 := (fun h => U38.trans (I.o1 (D1.symm.trans h))), o2 := (fun h => U39.trans (I.o2 (D2.symm.trans h))), o3 := (fun h => U40.trans (I.o3 (D3.symm.trans h))), o4 := (fun h => U41.trans (I.o4 (D4.symm.trans h))), o5 := (fun h => U42.trans (I.o5 (D5.symm.trans h))), o6 := (fun h => U43.trans (I.o6 (D6.symm.trans h))), o7 := (fun h => U44.trans (I.o7 (D7.symm.trans h))), o8 := (fun h => U45.trans (I.o8 (D8.symm.trans h))), o9 := (fun _ => U46), o10 := (fun h => U47.trans (I.o10 (D10.symm.trans h))), o11 := (fun h => U48.trans (I.o11 (D11.symm.trans h))), o12 := (fun h => U49.trans (I.o12 (D12.symm.trans h))), o13 := (fun h => U50.trans (I.o13 (D13.symm.trans h))), o14 := (fun h => U51.trans (I.o14 (D14.symm.trans h))), o15 := (fun h => U52.trans (I.o15 (D15.symm.trans h))), o16 := (fun h => U53.trans (I.o16 (D16.symm.trans h))), o17 := (fun h => U54.trans (I.o17 (D17.symm.trans h))), o18 := (fun h => U55.trans (I.o18 (D18.symm.trans h))), o19 := (fun h => U56.trans (I.o19 (D19.symm.trans h))), o20 := (fun h => U57.trans (I.o20 (D20.symm.trans h))), o21 := (fun h => U58.trans (I.o21 (D21.symm.trans h))), o22 := (fun h => U59.trans (I.o22 (D22.symm.trans h))), o23 := (fun h => U60.trans (I.o23 (D23.symm.trans h))), o24 := (fun h => by rw [U9, D25]; exact I.o24 (D24.symm.trans h)), o25 := (fun h => D24.trans (I.o25 (D25.symm.trans h))) }⟩
    · skip
      have DO : ∀ n, 10 ≠ n → (d'.setIfInBounds 10 true).getD n false = d'.getD n false := fun n h => getD_set_ne false h
      have D10 : (d'.setIfInBounds 10 true).getD 10 false = true := setB_same hun
      have D0 := DO 0 (by decide)
      have D1 := DO 1 (by decide)
      have D2 := DO 2 (by decide)
      have D3 := DO 3 (by decide)
      have D4 := DO 4 (by decide)
      have D5 := DO 5 (by decide)
      have D6 := DO 6 (by decide)
      have D7 := DO 7 (by decide)
      have D8 := DO 8 (by decide)
      have D9 := DO 9 (by decide)
      have D11 := DO 11 (by decide)
      have D12 := DO 12 (by decide)
      have D13 := DO 13 (by decide)
      have D14 := DO 14 (by decide)
      have D15 := DO 15 (by decide)
      have D16 := DO 16 (by decide)
      have D17 := DO 17 (by decide)
      have D18 := DO 18 (by decide)
      have D19 := DO 19 (by decide)
      have D20 := DO 20 (by decide)
      have D21 := DO 21 (by decide)
      have D22 := DO 22 (by decide)
      have D23 := DO 23 (by decide)
      have D24 := DO 24 (by decide)
      have D25 := DO 25 (by decide)
      have e46 := I.o9 (hall ⟨9, .data⟩ (by simp) rfl)
      have UO : ∀ n, n ≠ 47 → updB us 47 (.pointer (some ⟨g, 2, none⟩)) n = us n := fun n h => updB_other h
      have U47 : updB us 47 (.pointer (some ⟨g, 2, none⟩)) 47 = (.pointer (some ⟨g, 2, none⟩)) := updB_same _ _ _
      have U0 := UO 0 (by decide)
      have U2 := UO 2 (by decide)
      have U4 := UO 4 (by decide)
      have U5 := UO 5 (by decide)
      have U6 := UO 6 (by decide)
      have U7 := UO 7 (by decide)
      have U8 := UO 8 (by decide)
      have U9 := UO 9 (by decide)
      have U37 := UO 37 (by decide)
      have U38 := UO 38 (by decide)
      have U39 := UO 39 (by decide)
      have U40 := UO 40 (by decide)
      have U41 := UO 41 (by decide)
      have U42 := UO 42 (by decide)
      have U43 := UO 43 (by decide)
      have U44 := UO 44 (by decide)
      have U45 := UO 45 (by decide)
      have U46 := UO 46 (by decide)
      have U48 := UO 48 (by decide)
      have U49 := UO 49 (by decide)
      have U50 := UO 50 (by decide)
      have U51 := UO 51 (by decide)
      have U52 := UO 52 (by decide)
      have U53 := UO 53 (by decide)
      have U54 := UO 54 (by decide)
      have U55 := UO 55 (by decide)
      have U56 := UO 56 (by decide)
      have U57 := UO 57 (by decide)
      have U58 := UO 58 (by decide)
      have U59 := UO 59 (by decide)
      have U60 := UO 60 (by decide)
      refine wpOp_step rfl (fun K hK => ?_)
      simp only [frRs, e0, e2, e4, e5, e6, e7, e8, e46]
      go_simp
      refine hK _ _ ⟨updB us 47 (.pointer (some ⟨g, 2, none⟩)), by simp [frRs, updB, e0, e2, e4, e5, e6, e7, e8, e46] <;> rfl, { u0 := (U0.trans I.u0), u2 := (U2.trans I.u2), u4 := (U4.trans I.u4), u5 := (U5.trans I.u5), u6 := (U6.trans I.u6), u7 := (U7.trans I.u7), u8 := (U8.trans I.u8), bel := (I.bel), o0 := (fun h => U37.trans (I.o0 (D0.symm.trans h))), o1 := (fun h => U38.trans (I.o1 (D1.symm.trans h))), o2 := (fun h => U39.trans (I.o2 (D2.symm.trans h))), o3 := (fun h => U40.trans (I.o3 (D3.symm.trans h))), o4 := (fun h => U41.trans (I.o4 (D4.symm.trans h))), o5 := (fun h => U42.trans (I.o5 (D5.symm.trans h))), o6 := (fun h => U43.trans (I.o6 (D6.symm.trans h))), o7 := (fun h => U44.trans (I.o7 (D7.symm.trans h))), o8 := (fun h => U45.trans (I.o8 (D8.symm.trans h))), o9 := (fun h => U46.trans (I.o9 (D9.symm.trans h))), o10 := (fun _ => U47), o11 := (fun h => U48.trans (I.o11 (D11.symm.trans h))), o12 := (fun h => U49.trans (I.o12 (D12.symm.trans h))), o13 := (fun h => U50.trans (I.o13 (D13.symm.trans h))), o14 := (fun h => U51.trans (I.o14 (D14.symm.trans h))), o15 := (fun h => U52.trans (I.o15 (D15.symm.trans h))), o16 := (fun h => U53.trans (I.o16 (D16.symm.trans h))), o17 := (fun h => U54.trans (I.o17 (D17.symm.trans h))), o18 := (fun h => U55.trans (I.o18 (D18.symm.trans h))), o19 := (fun h => U56.trans (I.o19 (D19.symm.trans h))), o20 := (fun h => U57.trans (I.o20 (D20.symm.trans h))), o21 := (fun h => U58.trans (I.o21 (D21.symm.trans h))), o22 := (fun h => U59.trans (I.o22 (D22.symm.trans h))), o23 := (fun h => U60.trans (I.o23 (D23.symm.trans h))), o24 := (fun h => by rw [U9, D25]; exact I.o24 (D24.symm.trans h)), o25 := (fun h => D24.trans (I.o25 (D25.symm.trans h))) }⟩
    · skip
      have DO : ∀ n, 11 ≠ n → (d'.setIfInBounds 11 true).getD n false = d'.getD n false := fun n h => getD_set_ne false h
      have D11 : (d'.setIfInBounds 11 true).getD 11 false = true := setB_same hun
      have D0 := DO 0 (by decide)
      have D1 := DO 1 (by decide)
      have D2 := DO 2 (by decide)
      have D3 := DO 3 (by decide)
      have D4 := DO 4 (by decide)
      have D5 := DO 5 (by decide)
      have D6 := DO 6 (by decide)
      have D7 := DO 7 (by decide)
      have D8 := DO 8 (by decide)
      have D9 := DO 9 (by decide)
      have D10 := DO 10 (by decide)
      have D12 := DO 12 (by decide)
      have D13 := DO 13 (by decide)
      have D14 := DO 14 (by decide)
      have D15 := DO 15 (by decide)
      have D16 := DO 16 (by decide)
      have D17 := DO 17 (by decide)
      have D18 := DO 18 (by decide)
      have D19 := DO 19 (by decide)
      have D20 := DO 20 (by decide)
      have D21 := DO 21 (by decide)
      have D22 := DO 22 (by decide)
      have D23 := DO 23 (by decide)
      have D24 := DO 24 (by decide)
      have D25 := DO 25 (by decide)
      have e47 := I.o10 (hall ⟨10, .data⟩ (by simp) rfl)
      have UO : ∀ n, n ≠ 48 → updB us 48 (.string ⟨[l0, l1, l2].toArray⟩) n = us n := fun n h => updB_other h
      have U48 : updB us 48 (.string ⟨[l0, l1, l2].toArray⟩) 48 = (.string ⟨[l0, l1, l2].toArray⟩) := updB_same _ _ _
      have U0 := UO 0 (by decide)
      have U2 := UO 2 (by decide)
      have U4 := UO 4 (by decide)
      have U5 := UO 5 (by decide)
      have U6 := UO 6 (by decide)
      have U7 := UO 7 (by decide)
      have U8 := UO 8 (by decide)
      have U9 := UO 9 (by decide)
      have U37 := UO 37 (by decide)
      have U38 := UO 38 (by decide)
      have U39 := UO 39 (by decide)
      have U40 := UO 40 (by decide)
      have U41 := UO 41 (by decide)
      have U42 := UO 42 (by decide)
      have U43 := UO 43 (by decide)
      have U44 := UO 44 (by decide)
      have U45 := UO 45 (by decide)
      have U46 := UO 46 (by decide)
      have U47 := UO 47 (by decide)
      have U49 := UO 49 (by decide)
      have U50 := UO 50 (by decide)
      have U51 := UO 51 (by decide)
      have U52 := UO 52 (by decide)
      have U53 := UO 53 (by decide)
      have U54 := UO 54 (by decide)
      have U55 := UO 55 (by decide)
      have U56 := UO 56 (by decide)
      have U57 := UO 57 (by decide)
      have U58 := UO 58 (by decide)
      have U59 := UO 59 (by decide)
      have U60 := UO 60 (by decide)
      refine wpOp_step rfl (fun K hK => ?_)
      simp only [frRs, e0, e2, e4, e5, e6, e7, e8, e47]
      go_simp
      refine hK _ _ ⟨updB us 48 (.string ⟨[l0, l1, l2].toArray⟩), by simp [frRs, updB, e0, e2, e4, e5, e6, e7, e8, e47] <;> rfl, { u0 := (U0.trans I.u0), u2 := (U2.trans I.u2), u4 := (U4.trans I.u4), u5 := (U5.trans I.u5), u6 := (U6.trans I.u6), u7 := (U7.trans I.u7), u8 := (U8.trans I.u8), bel := (I.bel), o0 := (fun h => U37.trans (I.o0 (D0.symm.trans h))), o1 := (fun h => U38.trans (I.o1 (D1.symm.trans h))), o2 := (fun h => U39.trans (I.o2 (D2.symm.trans h))), o3 := (fun h => U40.trans (I.o3 (D3.symm.trans h))), o4 := (fun h => U41.trans (I.o4 (D4.symm.trans h))), o5 := (fun h => U42.trans (I.o5 (D5.symm.trans h))), o6 := (fun h => U43.trans (I.o6 (D6.symm.trans h))), o7 := (fun h => U44.trans (I.o7 (D7.symm.trans h))), o8 := (fun h => U45.trans (I.o8 (D8.symm.trans h))), o9 := (fun h => U46.trans (I.o9 (D9.symm.trans h))), o10 := (fun h => U47.trans (I.o10 (D10.symm.trans h))), o11 := (fun _ => U48), o12 := (fun h => U49.trans (I.o12 (D12.symm.trans h))), o13 := (fun h => U50.trans (I.o13 (D13.symm.trans h))), o14 := (fun h => U51.trans (I.o14 (D14.symm.trans h))), o15 := (fun h => U52.trans (I.o15 (D15.symm.trans h))), o16 := (fun h => U53.trans (I.o16 (D16.symm.trans h))), o17 := (fun h => U54.trans (I.o17 (D17.symm.trans h))), o18 := (fun h => U55.trans (I.o18 (D18.symm.trans h))), o19 := (fun h => U56.trans (I.o19 (D19.symm.trans h))), o20 := (fun h => U57.trans (I.o20 (D20.symm.trans h))), o21 := (fun h => U58.trans (I.o21 (D21.symm.trans h))), o22 := (fun h => U59.trans (I.o22 (D22.symm.trans h))), o23 := (fun h => U60.trans (I.o23 (D23.symm.trans h))), o24 := (fun h => by rw [U9, D25]; exact I.o24 (D24.symm.trans h)), o25 := (fun h => D24.trans (I.o25 (D25.symm.trans h))) }⟩
    · skip
      have DO : ∀ n, 12 ≠ n → (d'.setIfInBounds 12 true).getD n false = d'.getD n false := fun n h => getD_set_ne false h
      have D12 : (d'.setIfInBounds 12 true).getD 12 false = true := setB_same hun
      have D0 := DO 0 (by decide)
      have D1 := DO 1 (by decide)
      have D2 := DO 2 (by decide)
      have D3 := DO 3 (by decide)
      have D4 := DO 4 (by decide)
      have D5 := DO 5 (by decide)
      have D6 := DO 6 (by decide)
      have D7 := DO 7 (by decide)
      have D8 := DO 8 (by decide)
      have D9 := DO 9 (by decide)
      have D10 := DO 10 (by decide)
      have D11 := DO 11 (by decide)
      have D13 := DO 13 (by decide)
      have D14 := DO 14 (by decide)
      have D15 := DO 15 (by decide)
      have D16 := DO 16 (by decide)
      have D17 := DO 17 (by decide)
      have D18 := DO 18 (by decide)
      have D19 := DO 19 (by decide)
      have D20 := DO 20 (by decide)
      have D21 := DO 21 (by decide)
      have D22 := DO 22 (by decide)
      have D23 := DO 23 (by decide)
      have D24 := DO 24 (by decide)
      have D25 := DO 25 (by decide)
      have e48 := I.o11 (hall ⟨11, .data⟩ (by simp) rfl)
      have UO : ∀ n, n ≠ 49 → updB us 49 (.int .u8 (l1.toNat : Int)) n = us n := fun n h => updB_other h
      have U49 : updB us 49 (.int .u8 (l1.toNat : Int)) 49 = (.int .u8 (l1.toNat : Int)) := updB_same _ _ _
      have U0 := UO 0 (by decide)
      have U2 := UO 2 (by decide)
      have U4 := UO 4 (by decide)
      have U5 := UO 5 (by decide)
      have U6 := UO 6 (by decide)
      have U7 := UO 7 (by decide)
      have U8 := UO 8 (by decide)
      have U9 := UO 9 (by decide)
      have U37 := UO 37 (by decide)
      have U38 := UO 38 (by decide)
      have U39 := UO 39 (by decide)
      have U40 := UO 40 (by decide)
      have U41 := UO 41 (by decide)
      have U42 := UO 42 (by decide)
      have U43 := UO 43 (by decide)
      have U44 := UO 44 (by decide)
      have U45 := UO 45 (by decide)
      have U46 := UO 46 (by decide)
      have U47 := UO 47 (by decide)
      have U48 := UO 48 (by decide)
      have U50 := UO 50 (by decide)
      have U51 := UO 51 (by decide)
      have U52 := UO 52 (by decide)
      have U53 := UO 53 (by decide)
      have U54 := UO 54 (by decide)
      have U55 := UO 55 (by decide)
      have U56 := UO 56 (by decide)
      have U57 := UO 57 (by decide)
      have U58 := UO 58 (by decide)
      have U59 := UO 59 (by decide)
      have U60 := UO 60 (by decide)
      refine wpOp_step rfl (fun K hK => ?_)
      simp only [frRs, e0, e2, e4, e5, e6, e7, e8, e48]
      go_simp
      refine hK _ _ ⟨updB us 49 (.int .u8 (l1.toNat : Int)), by simp [frRs, updB, e0, e2, e4, e5, e6, e7, e8, e48] <;> rfl, { u0 := (U0.trans I.u0), u2 := (U2.trans I.u2), u4 := (U4.trans I.u4), u5 := (U5.trans I.u5), u6 := (U6.trans I.u6), u7 := (U7.trans I.u7), u8 := (U8.trans I.u8), bel := (I.bel), o0 := (fun h => U37.trans (I.o0 (D0.symm.trans h))), o1 := (fun h => U38.trans (I.o1 (D1.symm.trans h))), o2 := (fun h => U39.trans (I.o2 (D2.symm.trans h))), o3 := (fun h => U40.trans (I.o3 (D3.symm.trans h))), o4 := (fun h => U41.trans (I.o4 (D4.symm.trans h))), o5 := (fun h => U42.trans (I.o5 (D5.symm.trans h))), o6 := (fun h => U43.trans (I.o6 (D6.symm.trans h))), o7 := (fun h => U44.trans (I.o7 (D7.symm.trans h))), o8 := (fun h => U45.trans (I.o8 (D8.symm.trans h))), o9 := (fun h => U46.trans (I.o9 (D9.symm.trans h))), o10 := (fun h => U47.trans (I.o10 (D10.symm.trans h))), o11 := (fun h => U48.trans (I.o11 (D11.symm.trans h))), o12 := (fun _ => U49), o13 := (fun h => U50.trans (I.o13 (D13.symm.trans h))), o14 := (fun h => U51.trans (I.o14 (D14.symm.trans h))), o15 := (fun h => U52.trans (I.o15 (D15.symm.trans h))), o16 := (fun h => U53.trans (I.o16 (D16.symm.trans h))), o17 := (fun h => U54.trans (I.o17 (D17.symm.trans h))), o18 := (fun h => U55.trans (I.o18 (D18.symm.trans h))), o19 := (fun h => U56.trans (I.o19 (D19.symm.trans h))), o20 := (fun h => U57.trans (I.o20 (D20.symm.trans h))), o21 := (fun h => U58.trans (I.o21 (D21.symm.trans h))), o22 := (fun h => U59.trans (I.o22 (D22.symm.trans h))), o23 := (fun h => U60.trans (I.o23 (D23.symm.trans h))), o24 := (fun h => by rw [U9, D25]; exact I.o24 (D24.symm.trans h)), o25 := (fun h => D24.trans (I.o25 (D25.symm.trans h))) }⟩
    · skip
      have DO : ∀ n, 13 ≠ n → (d'.setIfInBounds 13 true).getD n false = d'.getD n false := fun n h => getD_set_ne false h
      have D13 : (d'.setIfInBounds 13 true).getD 13 false = true := setB_same hun
      have D0 := DO 0 (by decide)
      have D1 := DO 1 (by decide)
      have D2 := DO 2 (by decide)
      have D3 := DO 3 (by decide)
      have D4 := DO 4 (by decide)
      have D5 := DO 5 (by decide)
      have D6 := DO 6 (by decide)
      have D7 := DO 7 (by decide)
      have D8 := DO 8 (by decide)
      have D9 := DO 9 (by decide)
      have D10 := DO 10 (by decide)
      have D11 := DO 11 (by decide)
      have D12 := DO 12 (by decide)
      have D14 := DO 14 (by decide)
      have D15 := DO 15 (by decide)
      have D16 := DO 16 (by decide)
      have D17 := DO 17 (by decide)
      have D18 := DO 18 (by decide)
      have D19 := DO 19 (by decide)
      have D20 := DO 20 (by decide)
      have D21 := DO 21 (by decide)
      have D22 := DO 22 (by decide)
      have D23 := DO 23 (by decide)
      have D24 := DO 24 (by decide)
      have D25 := DO 25 (by decide)
      have e49 := I.o12 (hall ⟨12, .data⟩ (by simp) rfl)
      have UO : ∀ n, n ≠ 50 → updB us 50 (.int .i64 (rn l1)) n = us n := fun n h => updB_other h
      have U50 : updB us 50 (.int .i64 (rn l1)) 50 = (.int .i64 (rn l1)) := updB_same _ _ _
      have U0 := UO 0 (by decide)
      have U2 := UO 2 (by decide)
      have U4 := UO 4 (by decide)
      have U5 := UO 5 (by decide)
      have U6 := UO 6 (by decide)
      have U7 := UO 7 (by decide)
      have U8 := UO 8 (by decide)
      have U9 := UO 9 (by decide)
      have U37 := UO 37 (by decide)
      have U38 := UO 38 (by decide)
      have U39 := UO 39 (by decide)
      have U40 := UO 40 (by decide)
      have U41 := UO 41 (by decide)
      have U42 := UO 42 (by decide)
      have U43 := UO 43 (by decide)
      have U44 := UO 44 (by decide)
      have U45 := UO 45 (by decide)
      have U46 := UO 46 (by decide)
      have U47 := UO 47 (by decide)
      have U48 := UO 48 (by decide)
      have U49 := UO 49 (by decide)
      have U51 := UO 51 (by decide)
      have U52 := UO 52 (by decide)
      have U53 := UO 53 (by decide)
      have U54 := UO 54 (by decide)
      have U55 := UO 55 (by decide)
      have U56 := UO 56 (by decide)
      have U57 := UO 57 (by decide)
      have U58 := UO 58 (by decide)
      have U59 := UO 59 (by decide)
      have U60 := UO 60 (by decide)
      refine wpOp_step rfl (fun K hK => ?_)
      simp only [frRs, e0, e2, e4, e5, e6, e7, e8, e49]
      go_simp
      go_wp2_with (go_at_call 34; refine (PR.out l1 W).mono ?_; rintro e w2 ⟨rfl, hb2⟩)
      exact ⟨updB us 50 (.int .i64 (rn l1)), by simp [frRs, updB, e0, e2, e4, e5, e6, e7, e8, e49] <;> rfl, { u0 := (U0.trans I.u0), u2 := (U2.trans I.u2), u4 := (U4.trans I.u4), u5 := (U5.trans I.u5), u6 := (U6.trans I.u6), u7 := (U7.trans I.u7), u8 := (U8.trans I.u8), bel := (I.bel.trans (hb2.mono hsz)), o0 := (fun h => U37.trans (I.o0 (D0.symm.trans h))), o1 := (fun h => U38.trans (I.o1 (D1.symm.trans h))), o2 := (fun h => U39.trans (I.o2 (D2.symm.trans h))), o3 := (fun h => U40.trans (I.o3 (D3.symm.trans h))), o4 := (fun h => U41.trans (I.o4 (D4.symm.trans h))), o5 := (fun h => U42.trans (I.o5 (D5.symm.trans h))), o6 := (fun h => U43.trans (I.o6 (D6.symm.trans h))), o7 := (fun h => U44.trans (I.o7 (D7.symm.trans h))), o8 := (fun h => U45.trans (I.o8 (D8.symm.trans h))), o9 := (fun h => U46.trans (I.o9 (D9.symm.trans h))), o10 := (fun h => U47.trans (I.o10 (D10.symm.trans h))), o11 := (fun h => U48.trans (I.o11 (D11.symm.trans h))), o12 := (fun h => U49.trans (I.o12 (D12.symm.trans h))), o13 := (fun _ => U50), o14 := (fun h => U51.trans (I.o14 (D14.symm.trans h))), o15 := (fun h => U52.trans (I.o15 (D15.symm.trans h))), o16 := (fun h => U53.trans (I.o16 (D16.symm.trans h))), o17 := (fun h => U54.trans (I.o17 (D17.symm.trans h))), o18 := (fun h => U55.trans (I.o18 (D18.symm.trans h))), o19 := (fun h => U56.trans (I.o19 (D19.symm.trans h))), o20 := (fun h => U57.trans (I.o20 (D20.symm.trans h))), o21 := (fun h => U58.trans (I.o21 (D21.symm.trans h))), o22 := (fun h => U59.trans (I.o22 (D22.symm.trans h))), o23 := (fun h => U60.trans (I.o23 (D23.symm.trans h))), o24 := (fun h => by rw [U9, D25]; obtain ⟨B2, g1, g2, g3⟩ := I.o24 (D24.symm.trans h); exact ⟨B2, g1, g2, (hb2.block B2 (lt_some g3)).trans g3⟩), o25 := (fun h => D24.trans (I.o25 (D25.symm.trans h))) }⟩
    · skip
      have DO : ∀ n, 14 ≠ n → (d'.setIfInBounds 14 true).getD n false = d'.getD n false := fun n h => getD_set_ne false h
      have D14 : (d'.setIfInBounds 14 true).getD 14 false = true := setB_same hun
      have D0 := DO 0 (by decide)
      have D1 := DO 1 (by decide)
      have D2 := DO 2 (by decide)
      have D3 := DO 3 (by decide)
      have D4 := DO 4 (by decide)
      have D5 := DO 5 (by decide)
      have D6 := DO 6 (by decide)
      have D7 := DO 7 (by decide)
      have D8 := DO 8 (by decide)
      have D9 := DO 9 (by decide)
      have D10 := DO 10 (by decide)
      have D11 := DO 11 (by decide)
      have D12 := DO 12 (by decide)
      have D13 := DO 13 (by decide)
      have D15 := DO 15 (by decide)
      have D16 := DO 16 (by decide)
      have D17 := DO 17 (by decide)
      have D18 := DO 18 (by decide)
      have D19 := DO 19 (by decide)
      have D20 := DO 20 (by decide)
      have D21 := DO 21 (by decide)
      have D22 := DO 22 (by decide)
      have D23 := DO 23 (by decide)
      have D24 := DO 24 (by decide)
      have D25 := DO 25 (by decide)
      have UO : ∀ n, n ≠ 51 → updB us 51 (.slice (some ⟨g, 0, none⟩) 5 cap) n = us n := fun n h => updB_other h
      have U51 : updB us 51 (.slice (some ⟨g, 0, none⟩) 5 cap) 51 = (.slice (some ⟨g, 0, none⟩) 5 cap) := updB_same _ _ _
      have U0 := UO 0 (by decide)
      have U2 := UO 2 (by decide)
      have U4 := UO 4 (by decide)
      have U5 := UO 5 (by decide)
      have U6 := UO 6 (by decide)
      have U7 := UO 7 (by decide)
      have U8 := UO 8 (by decide)
      have U9 := UO 9 (by decide)
      have U37 := UO 37 (by decide)
      have U38 := UO 38 (by decide)
      have U39 := UO 39 (by decide)
      have U40 := UO 40 (by decide)
      have U41 := UO 41 (by decide)
      have U42 := UO 42 (by decide)
      have U43 := UO 43 (by decide)
      have U44 := UO 44 (by decide)
      have U45 := UO 45 (by decide)
      have U46 := UO 46 (by decide)
      have U47 := UO 47 (by decide)
      have U48 := UO 48 (by decide)
      have U49 := UO 49 (by decide)
      have U50 := UO 50 (by decide)
      have U52 := UO 52 (by decide)
      have U53 := UO 53 (by decide)
      have U54 := UO 54 (by decide)
      have U55 := UO 55 (by decide)
      have U56 := UO 56 (by decide)
      have U57 := UO 57 (by decide)
      have U58 := UO 58 (by decide)
      have U59 := UO 59 (by decide)
      have U60 := UO 60 (by decide)
      refine wpOp_step rfl (fun K hK => ?_)
      simp only [frRs, e0, e2, e4, e5, e6, e7, e8]
      go_simp
      refine hK _ _ ⟨updB us 51 (.slice (some ⟨g, 0, none⟩) 5 cap), by simp [frRs, updB, e0, e2, e4, e5, e6, e7, e8] <;> rfl, { u0 := (U0.trans I.u0), u2 := (U2.trans I.u2), u4 := (U4.trans I.u4), u5 := (U5.trans I.u5), u6 := (U6.trans I.u6), u7 := (U7.trans I.u7), u8 := (U8.trans I.u8), bel := (I.bel), o0 := (fun h => U37.trans (I.o0 (D0.symm.trans h))), o1 := (fun h => U38.trans (I.o1 (D1.symm.trans h))), o2 := (fun h => U39.trans (I.o2 (D2.symm.trans h))), o3 := (fun h => U40.trans (I.o3 (D3.symm.trans h))), o4 := (fun h => U41.trans (I.o4 (D4.symm.trans h))), o5 := (fun h => U42.trans (I.o5 (D5.symm.trans h))), o6 := (fun h => U43.trans (I.o6 (D6.symm.trans h))), o7 := (fun h => U44.trans (I.o7 (D7.symm.trans h))), o8 := (fun h => U45.trans (I.o8 (D8.symm.trans h))), o9 := (fun h => U46.trans (I.o9 (D9.symm.trans h))), o10 := (fun h => U47.trans (I.o10 (D10.symm.trans h))), o11 := (fun h => U48.trans (I.o11 (D11.symm.trans h))), o12 := (fun h => U49.trans (I.o12 (D12.symm.trans h))), o13 := (fun h => U50.trans (I.o13 (D13.symm.trans h))), o14 := (fun _ => U51), o15 := (fun h => U52.trans (I.o15 (D15.symm.trans h))), o16 := (fun h => U53.trans (I.o16 (D16.symm.trans h))), o17 := (fun h => U54.trans (I.o17 (D17.symm.trans h))), o18 := (fun h => U55.trans (I.o18 (D18.symm.trans h))), o19 := (fun h => U56.trans (I.o19 (D19.symm.trans h))), o20 := (fun h => U57.trans (I.o20 (D20.symm.trans h))), o21 := (fun h => U58.trans (I.o21 (D21.symm.trans h))), o22 := (fun h => U59.trans (I.o22 (D22.symm.trans h))), o23 := (fun h => U60.trans (I.o23 (D23.symm.trans h))), o24 := (fun h => by rw [U9, D25]; exact I.o24 (D24.symm.trans h)), o25 := (fun h => D24.trans (I.o25 (D25.symm.trans h))) }⟩
    · skip
      have DO : ∀ n, 15 ≠ n → (d'.setIfInBounds 15 true).getD n false = d'.getD n false := fun n h => getD_set_ne false h
      have D15 : (d'.setIfInBounds 15 true).getD 15 false = true := setB_same hun
      have D0 := DO 0 (by decide)
      have D1 := DO 1 (by decide)
      have D2 := DO 2 (by decide)
      have D3 := DO 3 (by decide)
      have D4 := DO 4 (by decide)
      have D5 := DO 5 (by decide)
      have D6 := DO 6 (by decide)
      have D7 := DO 7 (by decide)
      have D8 := DO 8 (by decide)
      have D9 := DO 9 (by decide)
      have D10 := DO 10 (by decide)
      have D11 := DO 11 (by decide)
      have D12 := DO 12 (by decide)
      have D13 := DO 13 (by decide)
      have D14 := DO 14 (by decide)
      have D16 := DO 16 (by decide)
      have D17 := DO 17 (by decide)
      have D18 := DO 18 (by decide)
      have D19 := DO 19 (by decide)
      have D20 := DO 20 (by decide)
      have D21 := DO 21 (by decide)
      have D22 := DO 22 (by decide)
      have D23 := DO 23 (by decide)
      have D24 := DO 24 (by decide)
      have D25 := DO 25 (by decide)
      have e51 := I.o14 (hall ⟨14, .data⟩ (by simp) rfl)
      have UO : ∀ n, n ≠ 52 → updB us 52 (.pointer (some ⟨g, 2, none⟩)) n = us n := fun n h => updB_other h
      have U52 : updB us 52 (.pointer (some ⟨g, 2, none⟩)) 52 = (.pointer (some ⟨g, 2, none⟩)) := updB_same _ _ _
      have U0 := UO 0 (by decide)
      have U2 := UO 2 (by decide)
      have U4 := UO 4 (by decide)
      have U5 := UO 5 (by decide)
      have U6 := UO 6 (by decide)
      have U7 := UO 7 (by decide)
      have U8 := UO 8 (by decide)
      have U9 := UO 9 (by decide)
      have U37 := UO 37 (by decide)
      have U38 := UO 38 (by decide)
      have U39 := UO 39 (by decide)
      have U40 := UO 40 (by decide)
      have U41 := UO 41 (by decide)
      have U42 := UO 42 (by decide)
      have U43 := UO 43 (by decide)
      have U44 := UO 44 (by decide)
      have U45 := UO 45 (by decide)
      have U46 := UO 46 (by decide)
      have U47 := UO 47 (by decide)
      have U48 := UO 48 (by decide)
      have U49 := UO 49 (by decide)
      have U50 := UO 50 (by decide)
      have U51 := UO 51 (by decide)
      have U53 := UO 53 (by decide)
      have U54 := UO 54 (by decide)
      have U55 := UO 55 (by decide)
      have U56 := UO 56 (by decide)
      have U57 := UO 57 (by decide)
      have U58 := UO 58 (by decide)
      have U59 := UO 59 (by decide)
      have U60 := UO 60 (by decide)
      refine wpOp_step rfl (fun K hK => ?_)
      simp only [frRs, e0, e2, e4, e5, e6, e7, e8, e51]
      go_simp
      refine hK _ _ ⟨updB us 52 (.pointer (some ⟨g, 2, none⟩)), by simp [frRs, updB, e0, e2, e4, e5, e6, e7, e8, e51] <;> rfl, { u0 := (U0.trans I.u0), u2 := (U2.trans I.u2), u4 := (U4.trans I.u4), u5 := (U5.trans I.u5), u6 := (U6.trans I.u6), u7 := (U7.trans I.u7), u8 := (U8.trans I.u8), bel := (I.bel), o0 := (fun h => U37.trans (I.o0 (D0.symm.trans h))), o1 := (fun h => U38.trans (I.o1 (D1.symm.trans h))), o2 := (fun h => U39.trans (I.o2 (D2.symm.trans h))), o3 := (fun h => U40.trans (I.o3 (D3.symm.trans h))), o4 := (fun h => U41.trans (I.o4 (D4.symm.trans h))), o5 := (fun h => U42.trans (I.o5 (D5.symm.trans h))), o6 := (fun h => U43.trans (I.o6 (D6.symm.trans h))), o7 := (fun h => U44.trans (I.o7 (D7.symm.trans h))), o8 := (fun h => U45.trans (I.o8 (D8.symm.trans h))), o9 := (fun h => U46.trans (I.o9 (D9.symm.trans h))), o10 := (fun h => U47.trans (I.o10 (D10.symm.trans h))), o11 := (fun h => U48.trans (I.o11 (D11.symm.trans h))), o12 := (fun h => U49.trans (I.o12 (D12.symm.trans h))), o13 := (fun h => U50.trans (I.o13 (D13.symm.trans h))), o14 := (fun h => U51.trans (I.o14 (D14.symm.trans h))), o15 := (fun _ => U52), o16 := (fun h => U53.trans (I.o16 (D16.symm.trans h))), o17 := (fun h => U54.trans (I.o17 (D17.symm.trans h))), o18 := (fun h => U55.trans (I.o18 (D18.symm.trans h))), o19 := (fun h => U56.trans (I.o19 (D19.symm.trans h))), o20 := (fun h => U57.trans (I.o20 (D20.symm.trans h))), o21 := (fun h => U58.trans (I.o21 (D21.symm.trans h))), o22 := (fun h => U59.trans (I.o22 (D22.symm.trans h))), o23 := (fun h => U60.trans (I.o23 (D23.symm.trans h))), o24 := (fun h => by rw [U9, D25]; exact I.o24 (D24.symm.trans h)), o25 := (fun h => D24.trans (I.o25 (D25.symm.trans h))) }⟩
    · skip
      have DO : ∀ n, 16 ≠ n → (d'.setIfInBounds 16 true).getD n false = d'.getD n false := fun n h => getD_set_ne false h
      have D16 : (d'.setIfInBounds 16 true).getD 16 false = true := setB_same hun
      have D0 := DO 0 (by decide)
      have D1 := DO 1 (by decide)
      have D2 := DO 2 (by decide)
      have D3 := DO 3 (by decide)
      have D4 := DO 4 (by decide)
      have D5 := DO 5 (by decide)
      have D6 := DO 6 (by decide)
      have D7 := DO 7 (by decide)
      have D8 := DO 8 (by decide)
      have D9 := DO 9 (by decide)
      have D10 := DO 10 (by decide)
      have D11 := DO 11 (by decide)
      have D12 := DO 12 (by decide)
      have D13 := DO 13 (by decide)
      have D14 := DO 14 (by decide)
      have D15 := DO 15 (by decide)
      have D17 := DO 17 (by decide)
      have D18 := DO 18 (by decide)
      have D19 := DO 19 (by decide)
      have D20 := DO 20 (by decide)
      have D21 := DO 21 (by decide)
      have D22 := DO 22 (by decide)
      have D23 := DO 23 (by decide)
      have D24 := DO 24 (by decide)
      have D25 := DO 25 (by decide)
      have e52 := I.o15 (hall ⟨15, .data⟩ (by simp) rfl)
      have UO : ∀ n, n ≠ 53 → updB us 53 (.string ⟨[l0, l1, l2].toArray⟩) n = us n := fun n h => updB_other h
      have U53 : updB us 53 (.string ⟨[l0, l1, l2].toArray⟩) 53 = (.string ⟨[l0, l1, l2].toArray⟩) := updB_same _ _ _
      have U0 := UO 0 (by decide)
      have U2 := UO 2 (by decide)
      have U4 := UO 4 (by decide)
      have U5 := UO 5 (by decide)
      have U6 := UO 6 (by decide)
      have U7 := UO 7 (by decide)
      have U8 := UO 8 (by decide)
      have U9 := UO 9 (by decide)
      have U37 := UO 37 (by decide)
      have U38 := UO 38 (by decide)
      have U39 := UO 39 (by decide)
      have U40 := UO 40 (by decide)
      have U41 := UO 41 (by decide)
      have U42 := UO 42 (by decide)
      have U43 := UO 43 (by decide)
      have U44 := UO 44 (by decide)
      have U45 := UO 45 (by decide)
      have U46 := UO 46 (by decide)
      have U47 := UO 47 (by decide)
      have U48 := UO 48 (by decide)
      have U49 := UO 49 (by decide)
      have U50 := UO 50 (by decide)
      have U51 := UO 51 (by decide)
      have U52 := UO 52 (by decide)
      have U54 := UO 54 (by decide)
      have U55 := UO 55 (by decide)
      have U56 := UO 56 (by decide)
      have U57 := UO 57 (by decide)
      have U58 := UO 58 (by decide)
      have U59 := UO 59 (by decide)
      have U60 := UO 60 (by decide)
      refine wpOp_step rfl (fun K hK => ?_)
      simp only [frRs, e0, e2, e4, e5, e6, e7, e8, e52]
      go_simp
      refine hK _ _ ⟨updB us 53 (.string ⟨[l0, l1, l2].toArray⟩), by simp [frRs, updB, e0, e2, e4, e5, e6, e7, e8, e52] <;> rfl, { u0 := (U0.trans I.u0), u2 := (U2.trans I.u2), u4 := (U4.trans I.u4), u5 := (U5.trans I.u5), u6 := (U6.trans I.u6), u7 := (U7.trans I.u7), u8 := (U8.trans I.u8), bel := (I.bel), o0 := (fun h => U37.trans (I.o0 (D0.symm.trans h))), o1 := (fun h => U38.trans (I.o1 (D1.symm.trans h))), o2 := (fun h => U39.trans (I.o2 (D2.symm.trans h))), o3 := (fun h => U40.trans (I.o3 (D3.symm.trans h))), o4 := (fun h => U41.trans (I.o4 (D4.symm.trans h))), o5 := (fun h => U42.trans (I.o5 (D5.symm.trans h))), o6 := (fun h => U43.trans (I.o6 (D6.symm.trans h))), o7 := (fun h => U44.trans (I.o7 (D7.symm.trans h))), o8 := (fun h => U45.trans (I.o8 (D8.symm.trans h))), o9 := (fun h => U46.trans (I.o9 (D9.symm.trans h))), o10 := (fun h => U47.trans (I.o10 (D10.symm.trans h))), o11 := (fun h => U48.trans (I.o11 (D11.symm.trans h))), o12 := (fun h => U49.trans (I.o12 (D12.symm.trans h))), o13 := (fun h => U50.trans (I.o13 (D13.symm.trans h))), o14 := (fun h => U51.trans (I.o14 (D14.symm.trans h))), o15 := (fun h => U52.trans (I.o15 (D15.symm.trans h))), o16 := (fun _ => U53), o17 := (fun h => U54.trans (I.o17 (D17.symm.trans h))), o18 := (fun h => U55.trans (I.o18 (D18.symm.trans h))), o19 := (fun h => U56.trans (I.o19 (D19.symm.trans h))), o20 := (fun h => U57.trans (I.o20 (D20.symm.trans h))), o21 := (fun h => U58.trans (I.o21 (D21.symm.trans h))), o22 := (fun h => U59.trans (I.o22 (D22.symm.trans h))), o23 := (fun h => U60.trans (I.o23 (D23.symm.trans h))), o24 := (fun h => by rw [U9, D25]; exact I.o24 (D24.symm.trans h)), o25 := (fun h => D24.trans (I.o25 (D25.symm.trans h))) }⟩
    · skip
      have DO : ∀ n, 17 ≠ n → (d'.setIfInBounds 17 true).getD n false = d'.getD n false := fun n h => getD_set_ne false h
      have D17 : (d'.setIfInBounds 17 true).getD 17 false = true := setB_same hun
      have D0 := DO 0 (by decide)
      have D1 := DO 1 (by decide)
      have D2 := DO 2 (by decide)
      have D3 := DO 3 (by decide)
      have D4 := DO 4 (by decide)
      have D5 := DO 5 (by decide)
      have D6 := DO 6 (by decide)
      have D7 := DO 7 (by decide)
      have D8 := DO 8 (by decide)
      have D9 := DO 9 (by decide)
      have D10 := DO 10 (by decide)
      have D11 := DO 11 (by decide)
      have D12 := DO 12 (by decide)
      have D13 := DO 13 (by decide)
      have D14 := DO 14 (by decide)
      have D15 := DO 15 (by decide)
      have D16 := DO 16 (by decide)
      have D18 := DO 18 (by decide)
      have D19 := DO 19 (by decide)
      have D20 := DO 20 (by decide)
      have D21 := DO 21 (by decide)
      have D22 := DO 22 (by decide)
      have D23 := DO 23 (by decide)
      have D24 := DO 24 (by decide)
      have D25 := DO 25 (by decide)
      have e53 := I.o16 (hall ⟨16, .data⟩ (by simp) rfl)
      have UO : ∀ n, n ≠ 54 → updB us 54 (.int .u8 (l2.toNat : Int)) n = us n := fun n h => updB_other h
      have U54 : updB us 54 (.int .u8 (l2.toNat : Int)) 54 = (.int .u8 (l2.toNat : Int)) := updB_same _ _ _
      have U0 := UO 0 (by decide)
      have U2 := UO 2 (by decide)
      have U4 := UO 4 (by decide)
      have U5 := UO 5 (by decide)
      have U6 := UO 6 (by decide)
      have U7 := UO 7 (by decide)
      have U8 := UO 8 (by decide)
      have U9 := UO 9 (by decide)
      have U37 := UO 37 (by decide)
      have U38 := UO 38 (by decide)
      have U39 := UO 39 (by decide)
      have U40 := UO 40 (by decide)
      have U41 := UO 41 (by decide)
      have U42 := UO 42 (by decide)
      have U43 := UO 43 (by decide)
      have U44 := UO 44 (by decide)
      have U45 := UO 45 (by decide)
      have U46 := UO 46 (by decide)
      have U47 := UO 47 (by decide)
      have U48 := UO 48 (by decide)
      have U49 := UO 49 (by decide)
      have U50 := UO 50 (by decide)
      have U51 := UO 51 (by decide)
      have U52 := UO 52 (by decide)
      have U53 := UO 53 (by decide)
      have U55 := UO 55 (by decide)
      have U56 := UO 56 (by decide)
      have U57 := UO 57 (by decide)
      have U58 := UO 58 (by decide)
      have U59 := UO 59 (by decide)
      have U60 := UO 60 (by decide)
      refine wpOp_step rfl (fun K hK => ?_)
      simp only [frRs, e0, e2, e4, e5, e6, e7, e8, e53]
      go_simp
      refine hK _ _ ⟨updB us 54 (.int .u8 (l2.toNat : Int)), by simp [frRs, updB, e0, e2, e4, e5, e6, e7, e8, e53] <;> rfl, { u0 := (U0.trans I.u0), u2 := (U2.trans I.u2), u4 := (U4.trans I.u4), u5 := (U5.trans I.u5), u6 := (U6.trans I.u6), u7 := (U7.trans I.u7), u8 := (U8.trans I.u8), bel := (I.bel), o0 := (fun h => U37.trans (I.o0 (D0.symm.trans h))), o1 := (fun h => U38.trans (I.o1 (D1.symm.trans h))), o2 := (fun h => U39.trans (I.o2 (D2.symm.trans h))), o3 := (fun h => U40.trans (I.o3 (D3.symm.trans h))), o4 := (fun h => U41.trans (I.o4 (D4.symm.trans h))), o5 := (fun h => U42.trans (I.o5 (D5.symm.trans h))), o6 := (fun h => U43.trans (I.o6 (D6.symm.trans h))), o7 := (fun h => U44.trans (I.o7 (D7.symm.trans h))), o8 := (fun h => U45.trans (I.o8 (D8.symm.trans h))), o9 := (fun h => U46.trans (I.o9 (D9.symm.trans h))), o10 := (fun h => U47.trans (I.o10 (D10.symm.trans h))), o11 := (fun h => U48.trans (I.o11 (D11.symm.trans h))), o12 := (fun h => U49.trans (I.o12 (D12.symm.trans h))), o13 := (fun h => U50.trans (I.o13 (D13.symm.trans h))), o14 := (fun h => U51.trans (I.o14 (D14.symm.trans h))), o15 := (fun h => U52.trans (I.o15 (D15.symm.trans h))), o16 := (fun h => U53.trans (I.o16 (D16.symm.trans h))), o17 := (fun _ => U54), o18 := (fun h => U55.trans (I.o18 (D18.symm.trans h))), o19 := (fun h => U56.trans (I.o19 (D19.symm.trans h))), o20 := (fun h => U57.trans (I.o20 (D20.symm.trans h))), o21 := (fun h => U58.trans (I.o21 (D21.symm.trans h))), o22 := (fun h => U59.trans (I.o22 (D22.symm.trans h))), o23 := (fun h => U60.trans (I.o23 (D23.symm.trans h))), o24 := (fun h => by rw [U9, D25]; exact I.o24 (D24.symm.trans h)), o25 := (fun h => D24.trans (I.o25 (D25.symm.trans h))) }⟩
    · skip
      have DO : ∀ n, 18 ≠ n → (d'.setIfInBounds 18 true).getD n false = d'.getD n false := fun n h => getD_set_ne false h
      have D18 : (d'.setIfInBounds 18 true).getD 18 false = true := setB_same hun
      have D0 := DO 0 (by decide)
      have D1 := DO 1 (by decide)
      have D2 := DO 2 (by decide)
      have D3 := DO 3 (by decide)
      have D4 := DO 4 (by decide)
      have D5 := DO 5 (by decide)
      have D6 := DO 6 (by decide)
      have D7 := DO 7 (by decide)
      have D8 := DO 8 (by decide)
      have D9 := DO 9 (by decide)
      have D10 := DO 10 (by decide)
      have D11 := DO 11 (by decide)
      have D12 := DO 12 (by decide)
      have D13 := DO 13 (by decide)
      have D14 := DO 14 (by decide)
      have D15 := DO 15 (by decide)
      have D16 := DO 16 (by decide)
      have D17 := DO 17 (by decide)
      have D19 := DO 19 (by decide)
      have D20 := DO 20 (by decide)
      have D21 := DO 21 (by decide)
      have D22 := DO 22 (by decide)
      have D23 := DO 23 (by decide)
      have D24 := DO 24 (by decide)
      have D25 := DO 25 (by decide)
      have e54 := I.o17 (hall ⟨17, .data⟩ (by simp) rfl)
      have UO : ∀ n, n ≠ 55 → updB us 55 (.int .i64 (rn l2)) n = us n := fun n h => updB_other h
      have U55 : updB us 55 (.int .i64 (rn l2)) 55 = (.int .i64 (rn l2)) := updB_same _ _ _
      have U0 := UO 0 (by decide)
      have U2 := UO 2 (by decide)
      have U4 := UO 4 (by decide)
      have U5 := UO 5 (by decide)
      have U6 := UO 6 (by decide)
      have U7 := UO 7 (by decide)
      have U8 := UO 8 (by decide)
      have U9 := UO 9 (by decide)
      have U37 := UO 37 (by decide)
      have U38 := UO 38 (by decide)
      have U39 := UO 39 (by decide)
      have U40 := UO 40 (by decide)
      have U41 := UO 41 (by decide)
      have U42 := UO 42 (by decide)
      have U43 := UO 43 (by decide)
      have U44 := UO 44 (by decide)
      have U45 := UO 45 (by decide)
      have U46 := UO 46 (by decide)
      have U47 := UO 47 (by decide)
      have U48 := UO 48 (by decide)
      have U49 := UO 49 (by decide)
      have U50 := UO 50 (by decide)
      have U51 := UO 51 (by decide)
      have U52 := UO 52 (by decide)
      have U53 := UO 53 (by decide)
      have U54 := UO 54 (by decide)
      have U56 := UO 56 (by decide)
      have U57 := UO 57 (by decide)
      have U58 := UO 58 (by decide)
      have U59 := UO 59 (by decide)
      have U60 := UO 60 (by decide)
      refine wpOp_step rfl (fun K hK => ?_)
      simp only [frRs, e0, e2, e4, e5, e6, e7, e8, e54]
      go_simp
      go_wp2_with (go_at_call 34; refine (PR.out l2 W).mono ?_; rintro e w2 ⟨rfl, hb2⟩)
      exact ⟨updB us 55 (.int .i64 (rn l2)), by simp [frRs, updB, e0, e2, e4, e5, e6, e7, e8, e54] <;> rfl, { u0 := (U0.trans I.u0), u2 := (U2.trans I.u2), u4 := (U4.trans I.u4), u5 := (U5.trans I.u5), u6 := (U6.trans I.u6), u7 := (U7.trans I.u7), u8 := (U8.trans I.u8), bel := (I.bel.trans (hb2.mono hsz)), o0 := (fun h => U37.trans (I.o0 (D0.symm.trans h))), o1 := (fun h => U38.trans (I.o1 (D1.symm.trans h))), o2 := (fun h => U39.trans (I.o2 (D2.symm.trans h))), o3 := (fun h => U40.trans (I.o3 (D3.symm.trans h))), o4 := (fun h => U41.trans (I.o4 (D4.symm.trans h))), o5 := (fun h => U42.trans (I.o5 (D5.symm.trans h))), o6 := (fun h => U43.trans (I.o6 (D6.symm.trans h))), o7 := (fun h => U44.trans (I.o7 (D7.symm.trans h))), o8 := (fun h => U45.trans (I.o8 (D8.symm.trans h))), o9 := (fun h => U46.trans (I.o9 (D9.symm.trans h))), o10 := (fun h => U47.trans (I.o10 (D10.symm.trans h))), o11 := (fun h => U48.trans (I.o11 (D11.symm.trans h))), o12 := (fun h => U49.trans (I.o12 (D12.symm.trans h))), o13 := (fun h => U50.trans (I.o13 (D13.symm.trans h))), o14 := (fun h => U51.trans (I.o14 (D14.symm.trans h))), o15 := (fun h => U52.trans (I.o15 (D15.symm.trans h))), o16 := (fun h => U53.trans (I.o16 (D16.symm.trans h))), o17 := (fun h => U54.trans (I.o17 (D17.symm.trans h))), o18 := (fun _ => U55), o19 := (fun h => U56.trans (I.o19 (D19.symm.trans h))), o20 := (fun h => U57.trans (I.o20 (D20.symm.trans h))), o21 := (fun h => U58.trans (I.o21 (D21.symm.trans h))), o22 := (fun h => U59.trans (I.o22 (D22.symm.trans h))), o23 := (fun h => U60.trans (I.o23 (D23.symm.trans h))), o24 := (fun h => by rw [U9, D25]; obtain ⟨B2, g1, g2, g3⟩ := I.o24 (D24.symm.trans h); exact ⟨B2, g1, g2, (hb2.block B2 (lt_some g3)).trans g3⟩), o25 := (fun h => D24.trans (I.o25 (D25.symm.trans h))) }⟩
    · skip
      have DO : ∀ n, 19 ≠ n → (d'.setIfInBounds 19 true).getD n false = d'.getD n false := fun n h => getD_set_ne false h
      have D19 : (d'.setIfInBounds 19 true).getD 19 false = true := setB_same hun
      have D0 := DO 0 (by decide)
      have D1 := DO 1 (by decide)
      have D2 := DO 2 (by decide)
      have D3 := DO 3 (by decide)
      have D4 := DO 4 (by decide)
      have D5 := DO 5 (by decide)
      have D6 := DO 6 (by decide)
      have D7 := DO 7 (by decide)
      have D8 := DO 8 (by decide)
      have D9 := DO 9 (by decide)
      have D10 := DO 10 (by decide)
      have D11 := DO 11 (by decide)
      have D12 := DO 12 (by decide)
      have D13 := DO 13 (by decide)
      have D14 := DO 14 (by decide)
      have D15 := DO 15 (by decide)
      have D16 := DO 16 (by decide)
      have D17 := DO 17 (by decide)
      have D18 := DO 18 (by decide)
      have D20 := DO 20 (by decide)
      have D21 := DO 21 (by decide)
      have D22 := DO 22 (by decide)
      have D23 := DO 23 (by decide)
      have D24 := DO 24 (by decide)
      have D25 := DO 25 (by decide)
      have UO : ∀ n, n ≠ 56 → updB us 56 (.int .i64 z) n = us n := fun n h => updB_other h
      have U56 : updB us 56 (.int .i64 z) 56 = (.int .i64 z) := updB_same _ _ _
      have U0 := UO 0 (by decide)
      have U2 := UO 2 (by decide)
      have U4 := UO 4 (by decide)
      have U5 := UO 5 (by decide)
      have U6 := UO 6 (by decide)
      have U7 := UO 7 (by decide)
      have U8 := UO 8 (by decide)
      have U9 := UO 9 (by decide)
      have U37 := UO 37 (by decide)
      have U38 := UO 38 (by decide)
      have U39 := UO 39 (by decide)
      have U40 := UO 40 (by decide)
      have U41 := UO 41 (by decide)
      have U42 := UO 42 (by decide)
      have U43 := UO 43 (by decide)
      have U44 := UO 44 (by decide)
      have U45 := UO 45 (by decide)
      have U46 := UO 46 (by decide)
      have U47 := UO 47 (by decide)
      have U48 := UO 48 (by decide)
      have U49 := UO 49 (by decide)
      have U50 := UO 50 (by decide)
      have U51 := UO 51 (by decide)
      have U52 := UO 52 (by decide)
      have U53 := UO 53 (by decide)
      have U54 := UO 54 (by decide)
      have U55 := UO 55 (by decide)
      have U57 := UO 57 (by decide)
      have U58 := UO 58 (by decide)
      have U59 := UO 59 (by decide)
      have U60 := UO 60 (by decide)
      refine wpOp_step rfl (fun K hK => ?_)
      simp only [frRs, e0, e2, e4, e5, e6, e7, e8]
      go_simp
      refine hK _ _ ⟨updB us 56 (.int .i64 z), by simp [frRs, updB, e0, e2, e4, e5, e6, e7, e8] <;> rfl, { u0 := (U0.trans I.u0), u2 := (U2.trans I.u2), u4 := (U4.trans I.u4), u5 := (U5.trans I.u5), u6 := (U6.trans I.u6), u7 := (U7.trans I.u7), u8 := (U8.trans I.u8), bel := (I.bel), o0 := (fun h => U37.trans (I.o0 (D0.symm.trans h))), o1 := (fun h => U38.trans (I.o1 (D1.symm.trans h))), o2 := (fun h => U39.trans (I.o2 (D2.symm.trans h))), o3 := (fun h => U40.trans (I.o3 (D3.symm.trans h))), o4 := (fun h => U41.trans (I.o4 (D4.symm.trans h))), o5 := (fun h => U42.trans (I.o5 (D5.symm.trans h))), o6 := (fun h => U43.trans (I.o6 (D6.symm.trans h))), o7 := (fun h => U44.trans (I.o7 (D7.symm.trans h))), o8 := (fun h => U45.trans (I.o8 (D8.symm.trans h))), o9 := (fun h => U46.trans (I.o9 (D9.symm.trans h))), o10 := (fun h => U47.trans (I.o10 (D10.symm.trans h))), o11 := (fun h => U48.trans (I.o11 (D11.symm.trans h))), o12 := (fun h => U49.trans (I.o12 (D12.symm.trans h))), o13 := (fun h => U50.trans (I.o13 (D13.symm.trans h))), o14 := (fun h => U51.trans (I.o14 (D14.symm.trans h))), o15 := (fun h => U52.trans (I.o15 (D15.symm.trans h))), o16 := (fun h => U53.trans (I.o16 (D16.symm.trans h))), o17 := (fun h => U54.trans (I.o17 (D17.symm.trans h))), o18 := (fun h => U55.trans (I.o18 (D18.symm.trans h))), o19 := (fun _ => U56), o20 := (fun h => U57.trans (I.o20 (D20.symm.trans h))), o21 := (fun h => U58.trans (I.o21 (D21.symm.trans h))), o22 := (fun h => U59.trans (I.o22 (D22.symm.trans h))), o23 := (fun h => U60.trans (I.o23 (D23.symm.trans h))), o24 := (fun h => by rw [U9, D25]; exact I.o24 (D24.symm.trans h)), o25 := (fun h => D24.trans (I.o25 (D25.symm.trans h))) }⟩
    · skip
      have DO : ∀ n, 20 ≠ n → (d'.setIfInBounds 20 true).getD n false = d'.getD n false := fun n h => getD_set_ne false h
      have D20 : (d'.setIfInBounds 20 true).getD 20 false = true := setB_same hun
      have D0 := DO 0 (by decide)
      have D1 := DO 1 (by decide)
      have D2 := DO 2 (by decide)
      have D3 := DO 3 (by decide)
      have D4 := DO 4 (by decide)
      have D5 := DO 5 (by decide)
      have D6 := DO 6 (by decide)
      have D7 := DO 7 (by decide)
      have D8 := DO 8 (by decide)
      have D9 := DO 9 (by decide)
      have D10 := DO 10 (by decide)
      have D11 := DO 11 (by decide)
      have D12 := DO 12 (by decide)
      have D13 := DO 13 (by decide)
      have D14 := DO 14 (by decide)
      have D15 := DO 15 (by decide)
      have D16 := DO 16 (by decide)
      have D17 := DO 17 (by decide)
      have D18 := DO 18 (by decide)
      have D19 := DO 19 (by decide)
      have D21 := DO 21 (by decide)
      have D22 := DO 22 (by decide)
      have D23 := DO 23 (by decide)
      have D24 := DO 24 (by decide)
      have D25 := DO 25 (by decide)
      have UO : ∀ n, n ≠ 57 → updB us 57 (.slice (some ⟨g, 0, none⟩) 5 cap) n = us n := fun n h => updB_other h
      have U57 : updB us 57 (.slice (some ⟨g, 0, none⟩) 5 cap) 57 = (.slice (some ⟨g, 0, none⟩) 5 cap) := updB_same _ _ _
      have U0 := UO 0 (by decide)
      have U2 := UO 2 (by decide)
      have U4 := UO 4 (by decide)
      have U5 := UO 5 (by decide)
      have U6 := UO 6 (by decide)
      have U7 := UO 7 (by decide)
      have U8 := UO 8 (by decide)
      have U9 := UO 9 (by decide)
      have U37 := UO 37 (by decide)
      have U38 := UO 38 (by decide)
      have U39 := UO 39 (by decide)
      have U40 := UO 40 (by decide)
      have U41 := UO 41 (by decide)
      have U42 := UO 42 (by decide)
      have U43 := UO 43 (by decide)
      have U44 := UO 44 (by decide)
      have U45 := UO 45 (by decide)
      have U46 := UO 46 (by decide)
      have U47 := UO 47 (by decide)
      have U48 := UO 48 (by decide)
      have U49 := UO 49 (by decide)
      have U50 := UO 50 (by decide)
      have U51 := UO 51 (by decide)
      have U52 := UO 52 (by decide)
      have U53 := UO 53 (by decide)
      have U54 := UO 54 (by decide)
      have U55 := UO 55 (by decide)
      have U56 := UO 56 (by decide)
      have U58 := UO 58 (by decide)
      have U59 := UO 59 (by decide)
      have U60 := UO 60 (by decide)
      refine wpOp_step rfl (fun K hK => ?_)
      simp only [frRs, e0, e2, e4, e5, e6, e7, e8]
      go_simp
      refine hK _ _ ⟨updB us 57 (.slice (some ⟨g, 0, none⟩) 5 cap), by simp [frRs, updB, e0, e2, e4, e5, e6, e7, e8] <;> rfl, { u0 := (U0.trans I.u0), u2 := (U2.trans I.u2), u4 := (U4.trans I.u4), u5 := (U5.trans I.u5), u6 := (U6.trans I.u6), u7 := (U7.trans I.u7), u8 := (U8.trans I.u8), bel := (I.bel), o0 := (fun h => U37.trans (I.o0 (D0.symm.trans h))), o1 := (fun h => U38.trans (I.o1 (D1.symm.trans h))), o2 := (fun h => U39.trans (I.o2 (D2.symm.trans h))), o3 := (fun h => U40.trans (I.o3 (D3.symm.trans h))), o4 := (fun h => U41.trans (I.o4 (D4.symm.trans h))), o5 := (fun h => U42.trans (I.o5 (D5.symm.trans h))), o6 := (fun h => U43.trans (I.o6 (D6.symm.trans h))), o7 := (fun h => U44.trans (I.o7 (D7.symm.trans h))), o8 := (fun h => U45.trans (I.o8 (D8.symm.trans h))), o9 := (fun h => U46.trans (I.o9 (D9.symm.trans h))), o10 := (fun h => U47.trans (I.o10 (D10.symm.trans h))), o11 := (fun h => U48.trans (I.o11 (D11.symm.trans h))), o12 := (fun h => U49.trans (I.o12 (D12.symm.trans h))), o13 := (fun h => U50.trans (I.o13 (D13.symm.trans h))), o14 := (fun h => U51.trans (I.o14 (D14.symm.trans h))), o15 := (fun h => U52.trans (I.o15 (D15.symm.trans h))), o16 := (fun h => U53.trans (I.o16 (D16.symm.trans h))), o17 := (fun h => U54.trans (I.o17 (D17.symm.trans h))), o18 := (fun h => U55.trans (I.o18 (D18.symm.trans h))), o19 := (fun h => U56.trans (I.o19 (D19.symm.trans h))), o20 := (fun _ => U57), o21 := (fun h => U58.trans (I.o21 (D21.symm.trans h))), o22 := (fun h => U59.trans (I.o22 (D22.symm.trans h))), o23 := (fun h => U60.trans (I.o23 (D23.symm.trans h))), o24 := (fun h => by rw [U9, D25]; exact I.o24 (D24.symm.trans h)), o25 := (fun h => D24.trans (I.o25 (D25.symm.trans h))) }⟩
    · skip
      have DO : ∀ n, 21 ≠ n → (d'.setIfInBounds 21 true).getD n false = d'.getD n false := fun n h => getD_set_ne false h
      have D21 : (d'.setIfInBounds 21 true).getD 21 false = true := setB_same hun
      have D0 := DO 0 (by decide)
      have D1 := DO 1 (by decide)
      have D2 := DO 2 (by decide)
      have D3 := DO 3 (by decide)
      have D4 := DO 4 (by decide)
      have D5 := DO 5 (by decide)
      have D6 := DO 6 (by decide)
      have D7 := DO 7 (by decide)
      have D8 := DO 8 (by decide)
      have D9 := DO 9 (by decide)
      have D10 := DO 10 (by decide)
      have D11 := DO 11 (by decide)
      have D12 := DO 12 (by decide)
      have D13 := DO 13 (by decide)
      have D14 := DO 14 (by decide)
      have D15 := DO 15 (by decide)
      have D16 := DO 16 (by decide)
      have D17 := DO 17 (by decide)
      have D18 := DO 18 (by decide)
      have D19 := DO 19 (by decide)
      have D20 := DO 20 (by decide)
      have D22 := DO 22 (by decide)
      have D23 := DO 23 (by decide)
      have D24 := DO 24 (by decide)
      have D25 := DO 25 (by decide)
      have e57 := I.o20 (hall ⟨20, .data⟩ (by simp) rfl)
      have UO : ∀ n, n ≠ 58 → updB us 58 (.pointer (some ⟨g, 4, none⟩)) n = us n := fun n h => updB_other h
      have U58 : updB us 58 (.pointer (some ⟨g, 4, none⟩)) 58 = (.pointer (some ⟨g, 4, none⟩)) := updB_same _ _ _
      have U0 := UO 0 (by decide)
      have U2 := UO 2 (by decide)
      have U4 := UO 4 (by decide)
      have U5 := UO 5 (by decide)
      have U6 := UO 6 (by decide)
      have U7 := UO 7 (by decide)
      have U8 := UO 8 (by decide)
      have U9 := UO 9 (by decide)
      have U37 := UO 37 (by decide)
      have U38 := UO 38 (by decide)
      have U39 := UO 39 (by decide)
      have U40 := UO 40 (by decide)
      have U41 := UO 41 (by decide)
      have U42 := UO 42 (by decide)
      have U43 := UO 43 (by decide)
      have U44 := UO 44 (by decide)
      have U45 := UO 45 (by decide)
      have U46 := UO 46 (by decide)
      have U47 := UO 47 (by decide)
      have U48 := UO 48 (by decide)
      have U49 := UO 49 (by decide)
      have U50 := UO 50 (by decide)
      have U51 := UO 51 (by decide)
      have U52 := UO 52 (by decide)
      have U53 := UO 53 (by decide)
      have U54 := UO 54 (by decide)
      have U55 := UO 55 (by decide)
      have U56 := UO 56 (by decide)
      have U57 := UO 57 (by decide)
      have U59 := UO 59 (by decide)
      have U60 := UO 60 (by decide)
      refine wpOp_step rfl (fun K hK => ?_)
      simp only [frRs, e0, e2, e4, e5, e6, e7, e8, e57]
      go_simp
      refine hK _ _ ⟨updB us 58 (.pointer (some ⟨g, 4, none⟩)), by simp [frRs, updB, e0, e2, e4, e5, e6, e7, e8, e57] <;> rfl, { u0 := (U0.trans I.u0), u2 := (U2.trans I.u2), u4 := (U4.trans I.u4), u5 := (U5.trans I.u5), u6 := (U6.trans I.u6), u7 := (U7.trans I.u7), u8 := (U8.trans I.u8), bel := (I.bel), o0 := (fun h => U37.trans (I.o0 (D0.symm.trans h))), o1 := (fun h => U38.trans (I.o1 (D1.symm.trans h))), o2 := (fun h => U39.trans (I.o2 (D2.symm.trans h))), o3 := (fun h => U40.trans (I.o3 (D3.symm.trans h))), o4 := (fun h => U41.trans (I.o4 (D4.symm.trans h))), o5 := (fun h => U42.trans (I.o5 (D5.symm.trans h))), o6 := (fun h => U43.trans (I.o6 (D6.symm.trans h))), o7 := (fun h => U44.trans (I.o7 (D7.symm.trans h))), o8 := (fun h => U45.trans (I.o8 (D8.symm.trans h))), o9 := (fun h => U46.trans (I.o9 (D9.symm.trans h))), o10 := (fun h => U47.trans (I.o10 (D10.symm.trans h))), o11 := (fun h => U48.trans (I.o11 (D11.symm.trans h))), o12 := (fun h => U49.trans (I.o12 (D12.symm.trans h))), o13 := (fun h => U50.trans (I.o13 (D13.symm.trans h))), o14 := (fun h => U51.trans (I.o14 (D14.symm.trans h))), o15 := (fun h => U52.trans (I.o15 (D15.symm.trans h))), o16 := (fun h => U53.trans (I.o16 (D16.symm.trans h))), o17 := (fun h => U54.trans (I.o17 (D17.symm.trans h))), o18 := (fun h => U55.trans (I.o18 (D18.symm.trans h))), o19 := (fun h => U56.trans (I.o19 (D19.symm.trans h))), o20 := (fun h => U57.trans (I.o20 (D20.symm.trans h))), o21 := (fun _ => U58), o22 := (fun h => U59.trans (I.o22 (D22.symm.trans h))), o23 := (fun h => U60.trans (I.o23 (D23.symm.trans h))), o24 := (fun h => by rw [U9, D25]; exact I.o24 (D24.symm.trans h)), o25 := (fun h => D24.trans (I.o25 (D25.symm.trans h))) }⟩
    · skip
      have DO : ∀ n, 22 ≠ n → (d'.setIfInBounds 22 true).getD n false = d'.getD n false := fun n h => getD_set_ne false h
      have D22 : (d'.setIfInBounds 22 true).getD 22 false = true := setB_same hun
      have D0 := DO 0 (by decide)
      have D1 := DO 1 (by decide)
      have D2 := DO 2 (by decide)
      have D3 := DO 3 (by decide)
      have D4 := DO 4 (by decide)
      have D5 := DO 5 (by decide)
      have D6 := DO 6 (by decide)
      have D7 := DO 7 (by decide)
      have D8 := DO 8 (by decide)
      have D9 := DO 9 (by decide)
      have D10 := DO 10 (by decide)
      have D11 := DO 11 (by decide)
      have D12 := DO 12 (by decide)
      have D13 := DO 13 (by decide)
      have D14 := DO 14 (by decide)
      have D15 := DO 15 (by decide)
      have D16 := DO 16 (by decide)
      have D17 := DO 17 (by decide)
      have D18 := DO 18 (by decide)
      have D19 := DO 19 (by decide)
      have D20 := DO 20 (by decide)
      have D21 := DO 21 (by decide)
      have D23 := DO 23 (by decide)
      have D24 := DO 24 (by decide)
      have D25 := DO 25 (by decide)
      have e58 := I.o21 (hall ⟨21, .data⟩ (by simp) rfl)
      have UO : ∀ n, n ≠ 59 → updB us 59 (.string ⟨f.toArray⟩) n = us n := fun n h => updB_other h
      have U59 : updB us 59 (.string ⟨f.toArray⟩) 59 = (.string ⟨f.toArray⟩) := updB_same _ _ _
      have U0 := UO 0 (by decide)
      have U2 := UO 2 (by decide)
      have U4 := UO 4 (by decide)
      have U5 := UO 5 (by decide)
      have U6 := UO 6 (by decide)
      have U7 := UO 7 (by decide)
      have U8 := UO 8 (by decide)
      have U9 := UO 9 (by decide)
      have U37 := UO 37 (by decide)
      have U38 := UO 38 (by decide)
      have U39 := UO 39 (by decide)
      have U40 := UO 40 (by decide)
      have U41 := UO 41 (by decide)
      have U42 := UO 42 (by decide)
      have U43 := UO 43 (by decide)
      have U44 := UO 44 (by decide)
      have U45 := UO 45 (by decide)
      have U46 := UO 46 (by decide)
      have U47 := UO 47 (by decide)
      have U48 := UO 48 (by decide)
      have U49 := UO 49 (by decide)
      have U50 := UO 50 (by decide)
      have U51 := UO 51 (by decide)
      have U52 := UO 52 (by decide)
      have U53 := UO 53 (by decide)
      have U54 := UO 54 (by decide)
      have U55 := UO 55 (by decide)
      have U56 := UO 56 (by decide)
      have U57 := UO 57 (by decide)
      have U58 := UO 58 (by decide)
      have U60 := UO 60 (by decide)
      refine wpOp_step rfl (fun K hK => ?_)
      simp only [frRs, e0, e2, e4, e5, e6, e7, e8, e58]
      go_simp
      refine hK _ _ ⟨updB us 59 (.string ⟨f.toArray⟩), by simp [frRs, updB, e0, e2, e4, e5, e6, e7, e8, e58] <;> rfl, { u0 := (U0.trans I.u0), u2 := (U2.trans I.u2), u4 := (U4.trans I.u4), u5 := (U5.trans I.u5), u6 := (U6.trans I.u6), u7 := (U7.trans I.u7), u8 := (U8.trans I.u8), bel := (I.bel), o0 := (fun h => U37.trans (I.o0 (D0.symm.trans h))), o1 := (fun h => U38.trans (I.o1 (D1.symm.trans h))), o2 := (fun h => U39.trans (I.o2 (D2.symm.trans h))), o3 := (fun h => U40.trans (I.o3 (D3.symm.trans h))), o4 := (fun h => U41.trans (I.o4 (D4.symm.trans h))), o5 := (fun h => U42.trans (I.o5 (D5.symm.trans h))), o6 := (fun h => U43.trans (I.o6 (D6.symm.trans h))), o7 := (fun h => U44.trans (I.o7 (D7.symm.trans h))), o8 := (fun h => U45.trans (I.o8 (D8.symm.trans h))), o9 := (fun h => U46.trans (I.o9 (D9.symm.trans h))), o10 := (fun h => U47.trans (I.o10 (D10.symm.trans h))), o11 := (fun h => U48.trans (I.o11 (D11.symm.trans h))), o12 := (fun h => U49.trans (I.o12 (D12.symm.trans h))), o13 := (fun h => U50.trans (I.o13 (D13.symm.trans h))), o14 := (fun h => U51.trans (I.o14 (D14.symm.trans h))), o15 := (fun h => U52.trans (I.o15 (D15.symm.trans h))), o16 := (fun h => U53.trans (I.o16 (D16.symm.trans h))), o17 := (fun h => U54.trans (I.o17 (D17.symm.trans h))), o18 := (fun h => U55.trans (I.o18 (D18.symm.trans h))), o19 := (fun h => U56.trans (I.o19 (D19.symm.trans h))), o20 := (fun h => U57.trans (I.o20 (D20.symm.trans h))), o21 := (fun h => U58.trans (I.o21 (D21.symm.trans h))), o22 := (fun _ => U59), o23 := (fun h => U60.trans (I.o23 (D23.symm.trans h))), o24 := (fun h => by rw [U9, D25]; exact I.o24 (D24.symm.trans h)), o25 := (fun h => D24.trans (I.o25 (D25.symm.trans h))) }⟩
    · skip
      have DO : ∀ n, 23 ≠ n → (d'.setIfInBounds 23 true).getD n false = d'.getD n false := fun n h => getD_set_ne false h
      have D23 : (d'.setIfInBounds 23 true).getD 23 false = true := setB_same hun
      have D0 := DO 0 (by decide)
      have D1 := DO 1 (by decide)
      have D2 := DO 2 (by decide)
      have D3 := DO 3 (by decide)
      have D4 := DO 4 (by decide)
      have D5 := DO 5 (by decide)
      have D6 := DO 6 (by decide)
      have D7 := DO 7 (by decide)
      have D8 := DO 8 (by decide)
      have D9 := DO 9 (by decide)
      have D10 := DO 10 (by decide)
      have D11 := DO 11 (by decide)
      have D12 := DO 12 (by decide)
      have D13 := DO 13 (by decide)
      have D14 := DO 14 (by decide)
      have D15 := DO 15 (by decide)
      have D16 := DO 16 (by decide)
      have D17 := DO 17 (by decide)
      have D18 := DO 18 (by decide)
      have D19 := DO 19 (by decide)
      have D20 := DO 20 (by decide)
      have D21 := DO 21 (by decide)
      have D22 := DO 22 (by decide)
      have D24 := DO 24 (by decide)
      have D25 := DO 25 (by decide)
      have e39 := I.o2 (hall ⟨2, .data⟩ (by simp) rfl)
      have e40 := I.o3 (hall ⟨3, .data⟩ (by simp) rfl)
      have e45 := I.o8 (hall ⟨8, .data⟩ (by simp) rfl)
      have e50 := I.o13 (hall ⟨13, .data⟩ (by simp) rfl)
      have e55 := I.o18 (hall ⟨18, .data⟩ (by simp) rfl)
      have e56 := I.o19 (hall ⟨19, .data⟩ (by simp) rfl)
      have e59 := I.o22 (hall ⟨22, .data⟩ (by simp) rfl)
      have UO : ∀ n, n ≠ 60 → updB us 60 (.agg #[.string ⟨a.toArray⟩, .int .i64 x, .int .i64 (rn l0), .int .i64 (rn l1), .int .i64 (rn l2), .int .i64 z, .string ⟨f.toArray⟩]) n = us n := fun n h => updB_other h
      have U60 : updB us 60 (.agg #[.string ⟨a.toArray⟩, .int .i64 x, .int .i64 (rn l0), .int .i64 (rn l1), .int .i64 (rn l2), .int .i64 z, .string ⟨f.toArray⟩]) 60 = (.agg #[.string ⟨a.toArray⟩, .int .i64 x, .int .i64 (rn l0), .int .i64 (rn l1), .int .i64 (rn l2), .int .i64 z, .string ⟨f.toArray⟩]) := updB_same _ _ _
      have U0 := UO 0 (by decide)
      have U2 := UO 2 (by decide)
      have U4 := UO 4 (by decide)
      have U5 := UO 5 (by decide)
      have U6 := UO 6 (by decide)
      have U7 := UO 7 (by decide)
      have U8 := UO 8 (by decide)
      have U9 := UO 9 (by decide)
      have U37 := UO 37 (by decide)
      have U38 := UO 38 (by decide)
      have U39 := UO 39 (by decide)
      have U40 := UO 40 (by decide)
      have U41 := UO 41 (by decide)
      have U42 := UO 42 (by decide)
      have U43 := UO 43 (by decide)
      have U44 := UO 44 (by decide)
      have U45 := UO 45 (by decide)
      have U46 := UO 46 (by decide)
      have U47 := UO 47 (by decide)
      have U48 := UO 48 (by decide)
      have U49 := UO 49 (by decide)
      have U50 := UO 50 (by decide)
      have U51 := UO 51 (by decide)
      have U52 := UO 52 (by decide)
      have U53 := UO 53 (by decide)
      have U54 := UO 54 (by decide)
      have U55 := UO 55 (by decide)
      have U56 := UO 56 (by decide)
      have U57 := UO 57 (by decide)
      have U58 := UO 58 (by decide)
      have U59 := UO 59 (by decide)
      refine wpOp_step rfl (fun K hK => ?_)
      simp only [frRs, e0, e2, e4, e5, e6, e7, e8, e39, e40, e45, e50, e55, e56, e59]
      go_simp
      refine hK _ _ ⟨updB us 60 (.agg #[.string ⟨a.toArray⟩, .int .i64 x, .int .i64 (rn l0), .int .i64 (rn l1), .int .i64 (rn l2), .int .i64 z, .string ⟨f.toArray⟩]), by simp [frRs, updB, e0, e2, e4, e5, e6, e7, e8, e39, e40, e45, e50, e55, e56, e59] <;> rfl, { u0 := (U0.trans I.u0), u2 := (U2.trans I.u2), u4 := (U4.trans I.u4), u5 := (U5.trans I.u5), u6 := (U6.trans I.u6), u7 := (U7.trans I.u7), u8 := (U8.trans I.u8), bel := (I.bel), o0 := (fun h => U37.trans (I.o0 (D0.symm.trans h))), o1 := (fun h => U38.trans (I.o1 (D1.symm.trans h))), o2 := (fun h => U39.trans (I.o2 (D2.symm.trans h))), o3 := (fun h => U40.trans (I.o3 (D3.symm.trans h))), o4 := (fun h => U41.trans (I.o4 (D4.symm.trans h))), o5 := (fun h => U42.trans (I.o5 (D5.symm.trans h))), o6 := (fun h => U43.trans (I.o6 (D6.symm.trans h))), o7 := (fun h => U44.trans (I.o7 (D7.symm.trans h))), o8 := (fun h => U45.trans (I.o8 (D8.symm.trans h))), o9 := (fun h => U46.trans (I.o9 (D9.symm.trans h))), o10 := (fun h => U47.trans (I.o10 (D10.symm.trans h))), o11 := (fun h => U48.trans (I.o11 (D11.symm.trans h))), o12 := (fun h => U49.trans (I.o12 (D12.symm.trans h))), o13 := (fun h => U50.trans (I.o13 (D13.symm.trans h))), o14 := (fun h => U51.trans (I.o14 (D14.symm.trans h))), o15 := (fun h => U52.trans (I.o15 (D15.symm.trans h))), o16 := (fun h => U53.trans (I.o16 (D16.symm.trans h))), o17 := (fun h => U54.trans (I.o17 (D17.symm.trans h))), o18 := (fun h => U55.trans (I.o18 (D18.symm.trans h))), o19 := (fun h => U56.trans (I.o19 (D19.symm.trans h))), o20 := (fun h => U57.trans (I.o20 (D20.symm.trans h))), o21 := (fun h => U58.trans (I.o21 (D21.symm.trans h))), o22 := (fun h => U59.trans (I.o22 (D22.symm.trans h))), o23 := (fun _ => U60), o24 := (fun h => by rw [U9, D25]; exact I.o24 (D24.symm.trans h)), o25 := (fun h => D24.trans (I.o25 (D25.symm.trans h))) }⟩
    · skip
      have DO : ∀ n, 24 ≠ n → (d'.setIfInBounds 24 true).getD n false = d'.getD n false := fun n h => getD_set_ne false h
      have D24 : (d'.setIfInBounds 24 true).getD 24 false = true := setB_same hun
      have D0 := DO 0 (by decide)
      have D1 := DO 1 (by decide)
      have D2 := DO 2 (by decide)
      have D3 := DO 3 (by decide)
      have D4 := DO 4 (by decide)
      have D5 := DO 5 (by decide)
      have D6 := DO 6 (by decide)
      have D7 := DO 7 (by decide)
      have D8 := DO 8 (by decide)
      have D9 := DO 9 (by decide)
      have D10 := DO 10 (by decide)
      have D11 := DO 11 (by decide)
      have D12 := DO 12 (by decide)
      have D13 := DO 13 (by decide)
      have D14 := DO 14 (by decide)
      have D15 := DO 15 (by decide)
      have D16 := DO 16 (by decide)
      have D17 := DO 17 (by decide)
      have D18 := DO 18 (by decide)
      have D19 := DO 19 (by decide)
      have D20 := DO 20 (by decide)
      have D21 := DO 21 (by decide)
      have D22 := DO 22 (by decide)
      have D23 := DO 23 (by decide)
      have D25 := DO 25 (by decide)
      have UO : ∀ n, n ≠ 9 → updB us 9 (.pointer (some ⟨W.heap.size, 0, none⟩)) n = us n := fun n h => updB_other h
      have U9 : updB us 9 (.pointer (some ⟨W.heap.size, 0, none⟩)) 9 = (.pointer (some ⟨W.heap.size, 0, none⟩)) := updB_same _ _ _
      have U0 := UO 0 (by decide)
      have U2 := UO 2 (by decide)
      have U4 := UO 4 (by decide)
      have U5 := UO 5 (by decide)
      have U6 := UO 6 (by decide)
      have U7 := UO 7 (by decide)
      have U8 := UO 8 (by decide)
      have U37 := UO 37 (by decide)
      have U38 := UO 38 (by decide)
      have U39 := UO 39 (by decide)
      have U40 := UO 40 (by decide)
      have U41 := UO 41 (by decide)
      have U42 := UO 42 (by decide)
      have U43 := UO 43 (by decide)
      have U44 := UO 44 (by decide)
      have U45 := UO 45 (by decide)
      have U46 := UO 46 (by decide)
      have U47 := UO 47 (by decide)
      have U48 := UO 48 (by decide)
      have U49 := UO 49 (by decide)
      have U50 := UO 50 (by decide)
      have U51 := UO 51 (by decide)
      have U52 := UO 52 (by decide)
      have U53 := UO 53 (by decide)
      have U54 := UO 54 (by decide)
      have U55 := UO 55 (by decide)
      have U56 := UO 56 (by decide)
      have U57 := UO 57 (by decide)
      have U58 := UO 58 (by decide)
      have U59 := UO 59 (by decide)
      have U60 := UO 60 (by decide)
      have hf : d'.getD 25 false = false := by
        cases h : d'.getD 25 false with
        | false => rfl
        | true => have h2 := getD_ft (I.o25 h); rw [hun] at h2; cases h2
      refine wpOp_step rfl (fun K hK => ?_)
      simp only [frRs, e0, e2, e4, e5, e6, e7, e8]
      go_simp
      refine hK _ _ ⟨updB us 9 (.pointer (some ⟨W.heap.size, 0, none⟩)), by simp [frRs, updB, e0, e2, e4, e5, e6, e7, e8] <;> rfl, { u0 := (U0.trans I.u0), u2 := (U2.trans I.u2), u4 := (U4.trans I.u4), u5 := (U5.trans I.u5), u6 := (U6.trans I.u6), u7 := (U7.trans I.u7), u8 := (U8.trans I.u8), bel := (I.bel.alloc hsz _), o0 := (fun h => U37.trans (I.o0 (D0.symm.trans h))), o1 := (fun h => U38.trans (I.o1 (D1.symm.trans h))), o2 := (fun h => U39.trans (I.o2 (D2.symm.trans h))), o3 := (fun h => U40.trans (I.o3 (D3.symm.trans h))), o4 := (fun h => U41.trans (I.o4 (D4.symm.trans h))), o5 := (fun h => U42.trans (I.o5 (D5.symm.trans h))), o6 := (fun h => U43.trans (I.o6 (D6.symm.trans h))), o7 := (fun h => U44.trans (I.o7 (D7.symm.trans h))), o8 := (fun h => U45.trans (I.o8 (D8.symm.trans h))), o9 := (fun h => U46.trans (I.o9 (D9.symm.trans h))), o10 := (fun h => U47.trans (I.o10 (D10.symm.trans h))), o11 := (fun h => U48.trans (I.o11 (D11.symm.trans h))), o12 := (fun h => U49.trans (I.o12 (D12.symm.trans h))), o13 := (fun h => U50.trans (I.o13 (D13.symm.trans h))), o14 := (fun h => U51.trans (I.o14 (D14.symm.trans h))), o15 := (fun h => U52.trans (I.o15 (D15.symm.trans h))), o16 := (fun h => U53.trans (I.o16 (D16.symm.trans h))), o17 := (fun h => U54.trans (I.o17 (D17.symm.trans h))), o18 := (fun h => U55.trans (I.o18 (D18.symm.trans h))), o19 := (fun h => U56.trans (I.o19 (D19.symm.trans h))), o20 := (fun h => U57.trans (I.o20 (D20.symm.trans h))), o21 := (fun h => U58.trans (I.o21 (D21.symm.trans h))), o22 := (fun h => U59.trans (I.o22 (D22.symm.trans h))), o23 := (fun h => U60.trans (I.o23 (D23.symm.trans h))), o24 := (fun _ => ⟨W.heap.size, U9, hsz, by rw [D25, hf, if_neg Bool.false_ne_true]; exact heap_alloc_new W _⟩), o25 := (fun h => by rw [D25, hf] at h; cases h) }⟩
    · skip
      have DO : ∀ n, 25 ≠ n → (d'.setIfInBounds 25 true).getD n false = d'.getD n false := fun n h => getD_set_ne false h
      have D25 : (d'.setIfInBounds 25 true).getD 25 false = true := setB_same hun
      have D0 := DO 0 (by decide)
      have D1 := DO 1 (by decide)
      have D2 := DO 2 (by decide)
      have D3 := DO 3 (by decide)
      have D4 := DO 4 (by decide)
      have D5 := DO 5 (by decide)
      have D6 := DO 6 (by decide)
      have D7 := DO 7 (by decide)
      have D8 := DO 8 (by decide)
      have D9 := DO 9 (by decide)
      have D10 := DO 10 (by decide)
      have D11 := DO 11 (by decide)
      have D12 := DO 12 (by decide)
      have D13 := DO 13 (by decide)
      have D14 := DO 14 (by decide)
      have D15 := DO 15 (by decide)
      have D16 := DO 16 (by decide)
      have D17 := DO 17 (by decide)
      have D18 := DO 18 (by decide)
      have D19 := DO 19 (by decide)
      have D20 := DO 20 (by decide)
      have D21 := DO 21 (by decide)
      have D22 := DO 22 (by decide)
      have D23 := DO 23 (by decide)
      have D24 := DO 24 (by decide)
      have e60 := I.o23 (hall ⟨23, .data⟩ (by simp) rfl)
      have hf := getB_f hun
      obtain ⟨B, e9, hlo, hB⟩ := I.o24 (hall ⟨24, .data⟩ (by simp) rfl)
      rw [hf, if_neg Bool.false_ne_true] at hB
      obtain ⟨b0, b1, b2, b3, b4, b5, b6, f0, f1, f2, f3, f4, f5, f6⟩ := cel7 hB
      obtain ⟨W2, hW2, hR, bW⟩ := done7 hB (.string ⟨a.toArray⟩) (.int .i64 x) (.int .i64 (rn l0)) (.int .i64 (rn l1)) (.int .i64 (rn l2)) (.int .i64 z) (.string ⟨f.toArray⟩)
      refine wpOp_step rfl (fun K hK => ?_)
      simp only [frRs, e0, e2, e4, e5, e6, e7, e8, e60, e9]
      go_simp
      try rw [hW2]
      refine hK _ _ ⟨us, by simp [frRs, e0, e2, e4, e5, e6, e7, e8, e60, e9], { u0 := I.u0, u2 := I.u2, u4 := I.u4, u5 := I.u5, u6 := I.u6, u7 := I.u7, u8 := I.u8, bel := (bW _ _ hlo I.bel), o0 := (fun h => I.o0 (D0.symm.trans h)), o1 := (fun h => I.o1 (D1.symm.trans h)), o2 := (fun h => I.o2 (D2.symm.trans h)), o3 := (fun h => I.o3 (D3.symm.trans h)), o4 := (fun h => I.o4 (D4.symm.trans h)), o5 := (fun h => I.o5 (D5.symm.trans h)), o6 := (fun h => I.o6 (D6.symm.trans h)), o7 := (fun h => I.o7 (D7.symm.trans h)), o8 := (fun h => I.o8 (D8.symm.trans h)), o9 := (fun h => I.o9 (D9.symm.trans h)), o10 := (fun h => I.o10 (D10.symm.trans h)), o11 := (fun h => I.o11 (D11.symm.trans h)), o12 := (fun h => I.o12 (D12.symm.trans h)), o13 := (fun h => I.o13 (D13.symm.trans h)), o14 := (fun h => I.o14 (D14.symm.trans h)), o15 := (fun h => I.o15 (D15.symm.trans h)), o16 := (fun h => I.o16 (D16.symm.trans h)), o17 := (fun h => I.o17 (D17.symm.trans h)), o18 := (fun h => I.o18 (D18.symm.trans h)), o19 := (fun h => I.o19 (D19.symm.trans h)), o20 := (fun h => I.o20 (D20.symm.trans h)), o21 := (fun h => I.o21 (D21.symm.trans h)), o22 := (fun h => I.o22 (D22.symm.trans h)), o23 := (fun h => I.o23 (D23.symm.trans h)), o24 := (fun h => ⟨B, e9, hlo, by rw [D25, if_pos rfl]; exact hR⟩), o25 := (fun _ => D24.trans (hall ⟨24, .data⟩ (by simp) rfl)) }⟩
  · intro d' a' W hd hall hI
    obtain ⟨us, rfl, I⟩ := hI
    have D : ∀ k, k < 26 → d'.getD k false = true := fun k hk => by
      have := hall k hk
      have hk2 : k < d'.size := by rw [hd]; exact hk
      simp [hk2] at this ⊢; exact this
    obtain ⟨R, e9, hRlo, hRow⟩ := I.o24 (D 24 (by decide))
    rw [D 25 (by decide), if_pos rfl] at hRow
    have e0 := I.u0
    have e2 := I.u2
    have e4 := I.u4
    have e5 := I.u5
    have e6 := I.u6
    have e7 := I.u7
    have e8 := I.u8
    have bR := I.bel
    clear I D hall hd
    simp only [frRs, e0, e2, e4, e5, e6, e7, e8, e9]
    have o6 := keepR bR o5
    have tB := belowGo HB (belowGo t5 bR)
    have hRne : R ≠ w.heap.size := by have := Nat.le_trans t5.size hRlo; simp at this; omega
    have hRw : w.heap.size ≤ R := by have := Nat.le_trans t5.size hRlo; simp at this; omega
    clear t5 o5 n0c n2c n4c bR hg
    by_cases hf46 : f = [46]
    · subst hf46
      obtain ⟨y0, y1, y2, y3, y4, y5, y6, f0, f1, f2, f3, f4, f5, f6⟩ := cel7 hRow
      obtain ⟨WT, hWT⟩ : ∃ WT, W.setCell ⟨R, 6, none⟩ (.string ⟨#[]⟩) = WT := ⟨_, rfl⟩
      have hRowT : WT.heap[R]? = some (.cells #[.string ⟨a.toArray⟩, .int .i64 x, .int .i64 (rn l0), .int .i64 (rn l1), .int .i64 (rn l2), .int .i64 z, .string ⟨#[]⟩] 25 (0, 0)) := by rw [← hWT, heap_setCell_same _ _ _ _ _ _ hRow]; rfl
      have o6' : WT.heap[w.heap.size]? = some (.cells #[.string ⟨#[]⟩, .int .i64 0, .int .i64 0, .int .i64 0, .int .i64 0, .int .i64 0, .string ⟨#[]⟩] 25 (0, 0)) := by rw [← hWT]; exact (heap_far hRne).trans o6
      have tB' : Below w.heap.size w WT := by rw [← hWT]; exact tB.setCell (p := ⟨R, 6, none⟩) hRw _
      clear hRow o6 tB hRne hRw
      have o6 := o6'
      have tB := tB'
      clear o6' tB'
      obtain ⟨P, hP⟩ : ∃ P : Cls, P = ⟨a, x, rn l0, rn l1, rn l2, z, []⟩ := ⟨_, rfl⟩
      have HX3 : Hid (∀ p, FitC s p → one = true ∧ two = true ∧ p = P) := Lib.hid fun p hp => by
        obtain ⟨h1, h2, h3⟩ := HX.out p hp
        refine ⟨h1, h2, ?_⟩
        rw [hP, h3]; unfold clsOf; rw [show unT [46] = [] from rfl]
      have hcl : P.c.length ≤ 9223372036854775807 := by rw [hP]; simp only; omega
      have htl : P.t.length ≤ 9223372036854775807 := by rw [hP]; simp only; simp
      have HV0 := Lib.hid (fun w => cvalid_s P w hcl htl)
      have HV : Hid (∀ w, Calls Tryd.prog 23 #[.agg #[.string ⟨a.toArray⟩, .int .i64 x, .int .i64 (rn l0), .int .i64 (rn l1), .int .i64 (rn l2), .int .i64 z, .string ⟨#[]⟩]] w (Gives w (.bool P.ok))) := Lib.hid (by
        intro w; have := HV0.out w; rw [hP] at this ⊢; exact this)
      have HTX0 := Lib.hid (fun (h : P.ok = true) w => ltext9_s P w h)
      have HTX : Hid (P.ok = true → ∀ w, Calls Tryd.prog 24 #[.agg #[.string ⟨a.toArray⟩, .int .i64 x, .int .i64 (rn l0), .int .i64 (rn l1), .int .i64 (rn l2), .int .i64 z, .string ⟨#[]⟩]] w (Gives1 w (ctext P))) := Lib.hid (by
        intro h w; have := HTX0.out h w; rw [hP] at this ⊢; exact this)
      have hok : Hid (P.ok = true ∧ ctext P = s → rcR s = (⟨a, x, rn l0, rn l1, rn l2, z, []⟩, 0)) := Lib.hid fun h => by
        rw [← hP]; exact rcR_ok h
      have hno : Hid (¬ (one = true ∧ two = true ∧ P.ok = true ∧ ctext P = s) → rcR s = (zeroC, 6)) := Lib.hid fun hn => rcR_no fun ⟨p, hp⟩ => hn (by
        obtain ⟨h1, h2, rfl⟩ := HX3.out p hp
        exact ⟨h1, h2, hp.1, hp.2⟩)
      clear HX HX3 HV0 HTX0 hcl htl hP
      generalize P.ok = pok at *
      generalize ctext P = tx at *
      generalize rcR s = r at *
      cases one with
      | false =>
        have E := Lib.hid (hno.out (by simp))
        clear hok hno HV HTX hRowT
        obtain ⟨r0, r1, r2, r3, r4, r5, r6, s0, s1, s2, s3, s4, s5, s6⟩ := cel7 o6
        go_wp2_with fail
        obtain ⟨W6, hW6, hR6, bW6⟩ := done7 o6 (.string ⟨#[]⟩) (.int .i64 0) (.int .i64 0) (.int .i64 0) (.int .i64 0) (.int .i64 0) (.string ⟨#[]⟩)
        rw [hW6]
        have b6 := bW6 w.heap.size w (Nat.le_refl _) tB
        obtain ⟨g0, g1, g2, g3, g4, g5, g6, _⟩ := cel7 hR6
        clear hW6 bW6 r0 s0 r1 s1 r2 s2 r3 s3 r4 s4 r5 s5 r6 s6
        exact bodyPost_ret (v := .tuple #[.agg #[.string ⟨#[]⟩, .int .i64 0, .int .i64 0, .int .i64 0, .int .i64 0, .int .i64 0, .string ⟨#[]⟩], .int .i64 6]) (by simp [results, Tryd.results12, go_sem, g0, g1, g2, g3, g4, g5, g6]) rfl ⟨by rw [E.out] <;> rfl, b6⟩
      | true =>
        cases two with
        | false =>
          have E := Lib.hid (hno.out (by simp))
          clear hok hno HV HTX hRowT
          obtain ⟨r0, r1, r2, r3, r4, r5, r6, s0, s1, s2, s3, s4, s5, s6⟩ := cel7 o6
          go_wp2_with fail
          obtain ⟨W6, hW6, hR6, bW6⟩ := done7 o6 (.string ⟨#[]⟩) (.int .i64 0) (.int .i64 0) (.int .i64 0) (.int .i64 0) (.int .i64 0) (.string ⟨#[]⟩)
          rw [hW6]
          have b6 := bW6 w.heap.size w (Nat.le_refl _) tB
          obtain ⟨g0, g1, g2, g3, g4, g5, g6, _⟩ := cel7 hR6
          clear hW6 bW6 r0 s0 r1 s1 r2 s2 r3 s3 r4 s4 r5 s5 r6 s6
          exact bodyPost_ret (v := .tuple #[.agg #[.string ⟨#[]⟩, .int .i64 0, .int .i64 0, .int .i64 0, .int .i64 0, .int .i64 0, .string ⟨#[]⟩], .int .i64 6]) (by simp [results, Tryd.results12, go_sem, g0, g1, g2, g3, g4, g5, g6]) rfl ⟨by rw [E.out] <;> rfl, b6⟩
        | true =>
          obtain ⟨c0, c1, c2, c3, c4, c5, c6, _⟩ := cel7 hRowT
          cases pok with
          | false =>
            have E := Lib.hid (hno.out (by simp))
            clear hok hno HTX
            go_wp2_with fail
            refine (HV.out _).mono ?_
            rintro e w6 ⟨rfl, b6'⟩
            have o7 := keepR b6' o6
            have t7 := belowGo tB b6'
            clear HV hRowT tB b6' c0 c1 c2 c3 c4 c5 c6 o6
            obtain ⟨r0, r1, r2, r3, r4, r5, r6, s0, s1, s2, s3, s4, s5, s6⟩ := cel7 o7
            go_wp2_with fail
            obtain ⟨W6, hW6, hR6, bW6⟩ := done7 o7 (.string ⟨#[]⟩) (.int .i64 0) (.int .i64 0) (.int .i64 0) (.int .i64 0) (.int .i64 0) (.string ⟨#[]⟩)
            rw [hW6]
            have b6 := bW6 w.heap.size w (Nat.le_refl _) t7
            obtain ⟨g0, g1, g2, g3, g4, g5, g6, _⟩ := cel7 hR6
            clear hW6 bW6 r0 s0 r1 s1 r2 s2 r3 s3 r4 s4 r5 s5 r6 s6
            exact bodyPost_ret (v := .tuple #[.agg #[.string ⟨#[]⟩, .int .i64 0, .int .i64 0, .int .i64 0, .int .i64 0, .int .i64 0, .string ⟨#[]⟩], .int .i64 6]) (by simp [results, Tryd.results12, go_sem, g0, g1, g2, g3, g4, g5, g6]) rfl ⟨by rw [E.out] <;> rfl, b6⟩
          | true =>
            have HTX1 := Lib.hid (HTX.out rfl)
            clear HTX
            go_wp2_with fail
            refine (HV.out _).mono ?_
            rintro e w6 ⟨rfl, b6'⟩
            have o7 := keepR b6' o6
            have row7 := keepR b6' hRowT
            have t7 := belowGo tB b6'
            clear HV hRowT tB b6' c0 c1 c2 c3 c4 c5 c6 o6
            obtain ⟨c0, c1, c2, c3, c4, c5, c6, _⟩ := cel7 row7
            go_wp2_with fail
            refine (HTX1.out _).mono ?_
            rintro e w8 ⟨rfl, b8⟩
            have o9 := keepR b8 o7
            have row9 := keepR b8 row7
            have t9 := belowGo t7 b8
            clear HTX1 row7 o7 t7 b8 c0 c1 c2 c3 c4 c5 c6
            by_cases hf : tx = s
            · have E := Lib.hid (hok.out (by simp [hf]))
              subst hf
              have q1 : (tx == tx) = true := by simp
              have q2 : (tx != tx) = false := by simp
              obtain ⟨c0, c1, c2, c3, c4, c5, c6, _⟩ := cel7 row9
              clear hok hno row9
              obtain ⟨r0, r1, r2, r3, r4, r5, r6, s0, s1, s2, s3, s4, s5, s6⟩ := cel7 o9
              go_wp2_with fail
              obtain ⟨W6, hW6, hR6, bW6⟩ := done7 o9 (.string ⟨a.toArray⟩) (.int .i64 x) (.int .i64 (rn l0)) (.int .i64 (rn l1)) (.int .i64 (rn l2)) (.int .i64 z) (.string ⟨#[]⟩)
              rw [hW6]
              have b6 := bW6 w.heap.size w (Nat.le_refl _) t9
              obtain ⟨g0, g1, g2, g3, g4, g5, g6, _⟩ := cel7 hR6
              clear hW6 bW6 r0 s0 r1 s1 r2 s2 r3 s3 r4 s4 r5 s5 r6 s6
              exact bodyPost_ret (v := .tuple #[.agg #[.string ⟨a.toArray⟩, .int .i64 x, .int .i64 (rn l0), .int .i64 (rn l1), .int .i64 (rn l2), .int .i64 z, .string ⟨#[]⟩], .int .i64 0]) (by simp [results, Tryd.results12, go_sem, g0, g1, g2, g3, g4, g5, g6]) rfl ⟨by rw [E.out] <;> rfl, b6⟩
            · have E := Lib.hid (hno.out (by simp [hf]))
              have htx : (tx == s) = false := by rw [beq_eq_false_iff_ne]; exact hf
              have htx2 : (tx != s) = true := by rw [bne, htx]; rfl
              clear hok hno row9 hf
              obtain ⟨r0, r1, r2, r3, r4, r5, r6, s0, s1, s2, s3, s4, s5, s6⟩ := cel7 o9
              go_wp2_with fail
              obtain ⟨W6, hW6, hR6, bW6⟩ := done7 o9 (.string ⟨#[]⟩) (.int .i64 0) (.int .i64 0) (.int .i64 0) (.int .i64 0) (.int .i64 0) (.string ⟨#[]⟩)
              rw [hW6]
              have b6 := bW6 w.heap.size w (Nat.le_refl _) t9
              obtain ⟨g0, g1, g2, g3, g4, g5, g6, _⟩ := cel7 hR6
              clear hW6 bW6 r0 s0 r1 s1 r2 s2 r3 s3 r4 s4 r5 s5 r6 s6
              exact bodyPost_ret (v := .tuple #[.agg #[.string ⟨#[]⟩, .int .i64 0, .int .i64 0, .int .i64 0, .int .i64 0, .int .i64 0, .string ⟨#[]⟩], .int .i64 6]) (by simp [results, Tryd.results12, go_sem, g0, g1, g2, g3, g4, g5, g6]) rfl ⟨by rw [E.out] <;> rfl, b6⟩
    · have z46 : (f == [46]) = false := beq_eq_false_iff_ne.2 hf46
      obtain ⟨y0, y1, y2, y3, y4, y5, y6, _⟩ := cel7 hRow
      have hRowT := hRow
      clear hRow hRne hRw
      obtain ⟨P, hP⟩ : ∃ P : Cls, P = ⟨a, x, rn l0, rn l1, rn l2, z, f⟩ := ⟨_, rfl⟩
      have HX3 : Hid (∀ p, FitC s p → one = true ∧ two = true ∧ p = P) := Lib.hid fun p hp => by
        obtain ⟨h1, h2, h3⟩ := HX.out p hp
        refine ⟨h1, h2, ?_⟩
        rw [hP, h3]; unfold clsOf; rw [show unT f = f from if_neg hf46]
      have hcl : P.c.length ≤ 9223372036854775807 := by rw [hP]; simp only; omega
      have htl : P.t.length ≤ 9223372036854775807 := by rw [hP]; simp only; omega
      have HV0 := Lib.hid (fun w => cvalid_s P w hcl htl)
      have HV : Hid (∀ w, Calls Tryd.prog 23 #[.agg #[.string ⟨a.toArray⟩, .int .i64 x, .int .i64 (rn l0), .int .i64 (rn l1), .int .i64 (rn l2), .int .i64 z, .string ⟨f.toArray⟩]] w (Gives w (.bool P.ok))) := Lib.hid (by
        intro w; have := HV0.out w; rw [hP] at this ⊢; exact this)
      have HTX0 := Lib.hid (fun (h : P.ok = true) w => ltext9_s P w h)
      have HTX : Hid (P.ok = true → ∀ w, Calls Tryd.prog 24 #[.agg #[.string ⟨a.toArray⟩, .int .i64 x, .int .i64 (rn l0), .int .i64 (rn l1), .int .i64 (rn l2), .int .i64 z, .string ⟨f.toArray⟩]] w (Gives1 w (ctext P))) := Lib.hid (by
        intro h w; have := HTX0.out h w; rw [hP] at this ⊢; exact this)
      have hok : Hid (P.ok = true ∧ ctext P = s → rcR s = (⟨a, x, rn l0, rn l1, rn l2, z, f⟩, 0)) := Lib.hid fun h => by
        rw [← hP]; exact rcR_ok h
      have hno : Hid (¬ (one = true ∧ two = true ∧ P.ok = true ∧ ctext P = s) → rcR s = (zeroC, 6)) := Lib.hid fun hn => rcR_no fun ⟨p, hp⟩ => hn (by
        obtain ⟨h1, h2, rfl⟩ := HX3.out p hp
        exact ⟨h1, h2, hp.1, hp.2⟩)
      clear HX HX3 HV0 HTX0 hcl htl hP
      generalize P.ok = pok at *
      generalize ctext P = tx at *
      generalize rcR s = r at *
      cases one with
      | false =>
        have E := Lib.hid (hno.out (by simp))
        clear hok hno HV HTX hRowT
        obtain ⟨r0, r1, r2, r3, r4, r5, r6, s0, s1, s2, s3, s4, s5, s6⟩ := cel7 o6
        go_wp2_with fail
        obtain ⟨W6, hW6, hR6, bW6⟩ := done7 o6 (.string ⟨#[]⟩) (.int .i64 0) (.int .i64 0) (.int .i64 0) (.int .i64 0) (.int .i64 0) (.string ⟨#[]⟩)
        rw [hW6]
        have b6 := bW6 w.heap.size w (Nat.le_refl _) tB
        obtain ⟨g0, g1, g2, g3, g4, g5, g6, _⟩ := cel7 hR6
        clear hW6 bW6 r0 s0 r1 s1 r2 s2 r3 s3 r4 s4 r5 s5 r6 s6
        exact bodyPost_ret (v := .tuple #[.agg #[.string ⟨#[]⟩, .int .i64 0, .int .i64 0, .int .i64 0, .int .i64 0, .int .i64 0, .string ⟨#[]⟩], .int .i64 6]) (by simp [results, Tryd.results12, go_sem, g0, g1, g2, g3, g4, g5, g6]) rfl ⟨by rw [E.out] <;> rfl, b6⟩
      | true =>
        cases two with
        | false =>
          have E := Lib.hid (hno.out (by simp))
          clear hok hno HV HTX hRowT
          obtain ⟨r0, r1, r2, r3, r4, r5, r6, s0, s1, s2, s3, s4, s5, s6⟩ := cel7 o6
          go_wp2_with fail
          obtain ⟨W6, hW6, hR6, bW6⟩ := done7 o6 (.string ⟨#[]⟩) (.int .i64 0) (.int .i64 0) (.int .i64 0) (.int .i64 0) (.int .i64 0) (.string ⟨#[]⟩)
          rw [hW6]
          have b6 := bW6 w.heap.size w (Nat.le_refl _) tB
          obtain ⟨g0, g1, g2, g3, g4, g5, g6, _⟩ := cel7 hR6
          clear hW6 bW6 r0 s0 r1 s1 r2 s2 r3 s3 r4 s4 r5 s5 r6 s6
          exact bodyPost_ret (v := .tuple #[.agg #[.string ⟨#[]⟩, .int .i64 0, .int .i64 0, .int .i64 0, .int .i64 0, .int .i64 0, .string ⟨#[]⟩], .int .i64 6]) (by simp [results, Tryd.results12, go_sem, g0, g1, g2, g3, g4, g5, g6]) rfl ⟨by rw [E.out] <;> rfl, b6⟩
        | true =>
          obtain ⟨c0, c1, c2, c3, c4, c5, c6, _⟩ := cel7 hRowT
          cases pok with
          | false =>
            have E := Lib.hid (hno.out (by simp))
            clear hok hno HTX
            go_wp2_with fail
            refine (HV.out _).mono ?_
            rintro e w6 ⟨rfl, b6'⟩
            have o7 := keepR b6' o6
            have t7 := belowGo tB b6'
            clear HV hRowT tB b6' c0 c1 c2 c3 c4 c5 c6 o6
            obtain ⟨r0, r1, r2, r3, r4, r5, r6, s0, s1, s2, s3, s4, s5, s6⟩ := cel7 o7
            go_wp2_with fail
            obtain ⟨W6, hW6, hR6, bW6⟩ := done7 o7 (.string ⟨#[]⟩) (.int .i64 0) (.int .i64 0) (.int .i64 0) (.int .i64 0) (.int .i64 0) (.string ⟨#[]⟩)
            rw [hW6]
            have b6 := bW6 w.heap.size w (Nat.le_refl _) t7
            obtain ⟨g0, g1, g2, g3, g4, g5, g6, _⟩ := cel7 hR6
            clear hW6 bW6 r0 s0 r1 s1 r2 s2 r3 s3 r4 s4 r5 s5 r6 s6
            exact bodyPost_ret (v := .tuple #[.agg #[.string ⟨#[]⟩, .int .i64 0, .int .i64 0, .int .i64 0, .int .i64 0, .int .i64 0, .string ⟨#[]⟩], .int .i64 6]) (by simp [results, Tryd.results12, go_sem, g0, g1, g2, g3, g4, g5, g6]) rfl ⟨by rw [E.out] <;> rfl, b6⟩
          | true =>
            have HTX1 := Lib.hid (HTX.out rfl)
            clear HTX
            go_wp2_with fail
            refine (HV.out _).mono ?_
            rintro e w6 ⟨rfl, b6'⟩
            have o7 := keepR b6' o6
            have row7 := keepR b6' hRowT
            have t7 := belowGo tB b6'
            clear HV hRowT tB b6' c0 c1 c2 c3 c4 c5 c6 o6
            obtain ⟨c0, c1, c2, c3, c4, c5, c6, _⟩ := cel7 row7
            go_wp2_with fail
            refine (HTX1.out _).mono ?_
            rintro e w8 ⟨rfl, b8⟩
            have o9 := keepR b8 o7
            have row9 := keepR b8 row7
            have t9 := belowGo t7 b8
            clear HTX1 row7 o7 t7 b8 c0 c1 c2 c3 c4 c5 c6
            by_cases hf : tx = s
            · have E := Lib.hid (hok.out (by simp [hf]))
              subst hf
              have q1 : (tx == tx) = true := by simp
              have q2 : (tx != tx) = false := by simp
              obtain ⟨c0, c1, c2, c3, c4, c5, c6, _⟩ := cel7 row9
              clear hok hno row9
              obtain ⟨r0, r1, r2, r3, r4, r5, r6, s0, s1, s2, s3, s4, s5, s6⟩ := cel7 o9
              go_wp2_with fail
              obtain ⟨W6, hW6, hR6, bW6⟩ := done7 o9 (.string ⟨a.toArray⟩) (.int .i64 x) (.int .i64 (rn l0)) (.int .i64 (rn l1)) (.int .i64 (rn l2)) (.int .i64 z) (.string ⟨f.toArray⟩)
              rw [hW6]
              have b6 := bW6 w.heap.size w (Nat.le_refl _) t9
              obtain ⟨g0, g1, g2, g3, g4, g5, g6, _⟩ := cel7 hR6
              clear hW6 bW6 r0 s0 r1 s1 r2 s2 r3 s3 r4 s4 r5 s5 r6 s6
              exact bodyPost_ret (v := .tuple #[.agg #[.string ⟨a.toArray⟩, .int .i64 x, .int .i64 (rn l0), .int .i64 (rn l1), .int .i64 (rn l2), .int .i64 z, .string ⟨f.toArray⟩], .int .i64 0]) (by simp [results, Tryd.results12, go_sem, g0, g1, g2, g3, g4, g5, g6]) rfl ⟨by rw [E.out] <;> rfl, b6⟩
            · have E := Lib.hid (hno.out (by simp [hf]))
              have htx : (tx == s) = false := by rw [beq_eq_false_iff_ne]; exact hf
              have htx2 : (tx != s) = true := by rw [bne, htx]; rfl
              clear hok hno row9 hf
              obtain ⟨r0, r1, r2, r3, r4, r5, r6, s0, s1, s2, s3, s4, s5, s6⟩ := cel7 o9
              go_wp2_with fail
              obtain ⟨W6, hW6, hR6, bW6⟩ := done7 o9 (.string ⟨#[]⟩) (.int .i64 0) (.int .i64 0) (.int .i64 0) (.int .i64 0) (.int .i64 0) (.string ⟨#[]⟩)
              rw [hW6]
              have b6 := bW6 w.heap.size w (Nat.le_refl _) t9
              obtain ⟨g0, g1, g2, g3, g4, g5, g6, _⟩ := cel7 hR6
              clear hW6 bW6 r0 s0 r1 s1 r2 s2 r3 s3 r4 s4 r5 s5 r6 s6
              exact bodyPost_ret (v := .tuple #[.agg #[.string ⟨#[]⟩, .int .i64 0, .int .i64 0, .int .i64 0, .int .i64 0, .int .i64 0, .string ⟨#[]⟩], .int .i64 6]) (by simp [results, Tryd.results12, go_sem, g0, g1, g2, g3, g4, g5, g6]) rfl ⟨by rw [E.out] <;> rfl, b6⟩
set_option maxRecDepth 100000 in
set_option maxHeartbeats 4000000 in
theorem rcls_s (s : List UInt8) (hl : s.length ≤ 1048576) (w : World) : Calls Tryd.prog 12 #[.string ⟨s.toArray⟩] w (GivRC w (rcR s)) := by
  have hsl := sps_len s []
  have hmem := sps_mem s []
  by_cases hx : ∃ a b l0 l1 l2 d f, [a, b, [l0, l1, l2], d, f] = sps [] s
  · obtain ⟨a, b, l0, l1, l2, d, f, hn⟩ := hx
    rw [← hn] at hmem
    have hm : ∀ x ∈ [a, b, [l0, l1, l2], d, f], x.length ≤ 1048576 := fun x hx => by have := hmem x hx; simp only [List.length_nil] at this; omega
    exact rcls_s3 s a b d f l0 l1 l2 w hn hl (hm a (by simp)) (hm b (by simp)) (hm d (by simp)) (hm f (by simp))
  · have E := Lib.hid (rcR_no (s := s) (by
      rintro ⟨p, hp⟩
      exact hx ⟨_, _, _, _, _, _, _, (fit_partsC hp).words.symm⟩))
    have o1 := heap_alloc_new w (.cells #[.string ⟨#[]⟩, .int .i64 0, .int .i64 0, .int .i64 0, .int .i64 0, .int .i64 0, .string ⟨#[]⟩] 25)
    have HB := below_alloc w (.cells #[.string ⟨#[]⟩, .int .i64 0, .int .i64 0, .int .i64 0, .int .i64 0, .int .i64 0, .string ⟨#[]⟩] 25)
    have HS := Lib.hid (fun w => splits_s s hl w)
    generalize sps [] s = ws at *
    generalize rcR s = r at *
    by_cases h5 : ws.length = 5
    · obtain ⟨a, b, c, d, f, rfl⟩ : ∃ a b c d e, ws = [a, b, c, d, e] := by
        match ws, h5 with
        | [a, b, c, d, e], _ => exact ⟨a, b, c, d, e, rfl⟩
      have hc3 : ¬ c.length = 3 := fun h3 => hx (by
        match c, h3 with
        | [l0, l1, l2], _ => exact ⟨a, b, l0, l1, l2, d, f, rfl⟩)
      have z3 : ((c.length : Int) != 3) = true := by simp; omega
      have e5' : ((([a, b, c, d, f] : List (List UInt8)).length : Int) != 5) = false := by simp
      have lc : c.length ≤ 1048576 := by have := hmem c (by simp); simp at this; omega
      clear hx hc3 hsl hmem h5
      go_enter Tryd.func12, Tryd.ntmps12
      go_wp2_with fail
      refine (HS.out _).mono ?_
      rintro _ w1 ⟨A, cap, rfl, ho, b1⟩
      obtain ⟨g, rfl, hg1, hcell⟩ := own_cellsS ho (by simp)
      have m2 : w1.cell? ⟨g, 2, none⟩ = some (.string ⟨c.toArray⟩) := hcell 2 _ rfl
      have o2 := keepR b1 o1
      have t1 := belowGo HB b1
      clear ho o1 HS hcell
      obtain ⟨r0, r1, r2, r3, r4, r5, r6, s0, s1, s2, s3, s4, s5, s6⟩ := cel7 o2
      go_wp2_with fail
      obtain ⟨W6, hW6, hR6, bW6⟩ := done7 o2 (.string ⟨#[]⟩) (.int .i64 0) (.int .i64 0) (.int .i64 0) (.int .i64 0) (.int .i64 0) (.string ⟨#[]⟩)
      rw [hW6]
      have b6 := bW6 w.heap.size w (Nat.le_refl _) t1
      obtain ⟨g0, g1, g2, g3, g4, g5, g6, _⟩ := cel7 hR6
      clear hW6 bW6 r0 s0 r1 s1 r2 s2 r3 s3 r4 s4 r5 s5 r6 s6
      exact bodyPost_ret (v := .tuple #[.agg #[.string ⟨#[]⟩, .int .i64 0, .int .i64 0, .int .i64 0, .int .i64 0, .int .i64 0, .string ⟨#[]⟩], .int .i64 6]) (by simp [results, Tryd.results12, go_sem, g0, g1, g2, g3, g4, g5, g6]) rfl ⟨by rw [E.out] <;> rfl, b6⟩
    · have hw5 : ws.length ≤ 1048577 := by omega
      have h5' : ((ws.length : Int) != 5) = true := by simp; omega
      clear h5 hmem hx hsl
      go_enter Tryd.func12, Tryd.ntmps12
      go_wp2_with fail
      refine (HS.out _).mono ?_
      rintro _ w1 ⟨A, d, rfl, ho, b1⟩
      have o2 := keepR b1 o1
      have t1 := belowGo HB b1
      clear ho o1 HS
      obtain ⟨r0, r1, r2, r3, r4, r5, r6, s0, s1, s2, s3, s4, s5, s6⟩ := cel7 o2
      go_wp2_with fail
      obtain ⟨W6, hW6, hR6, bW6⟩ := done7 o2 (.string ⟨#[]⟩) (.int .i64 0) (.int .i64 0) (.int .i64 0) (.int .i64 0) (.int .i64 0) (.string ⟨#[]⟩)
      rw [hW6]
      have b6 := bW6 w.heap.size w (Nat.le_refl _) t1
      obtain ⟨g0, g1, g2, g3, g4, g5, g6, _⟩ := cel7 hR6
      clear hW6 bW6 r0 s0 r1 s1 r2 s2 r3 s3 r4 s4 r5 s5 r6 s6
      exact bodyPost_ret (v := .tuple #[.agg #[.string ⟨#[]⟩, .int .i64 0, .int .i64 0, .int .i64 0, .int .i64 0, .int .i64 0, .string ⟨#[]⟩], .int .i64 6]) (by simp [results, Tryd.results12, go_sem, g0, g1, g2, g3, g4, g5, g6]) rfl ⟨by rw [E.out] <;> rfl, b6⟩
end Go.Proofs.YtmhlkbocejnpoaaDoor
