/- spec.ReadEvent. (by gen_re8.py) -/
import Derived.Test.YtifioecofeojpaaGreatDoorMRip
import Derived.Test.YtifioecofeojpaaGreatDoorMEtx
import Derived.Test.YtifioecofeojpaaGreatDoorMDig
namespace Go.Proofs.YtifioecofeojpaaGreatDoor
open Go.ChangeShapes Go.WideShapes Go.ChangeAt Go.RowKit
set_option linter.unusedVariables false

theorem cel3 {W : World} {g : Nat} {a b c : Value} {t : TypeId} (h : W.heap[g]? = some (.cells #[a, b, c] t (0, 0))) : W.cell? ⟨g, 0, none⟩ = some a ∧ W.cell? ⟨g, 1, none⟩ = some b ∧ W.cell? ⟨g, 2, none⟩ = some c :=
  ⟨by rw [cell_of_row _ _ _ _ _ _ h]; rfl, by rw [cell_of_row _ _ _ _ _ _ h]; rfl, by rw [cell_of_row _ _ _ _ _ _ h]; rfl⟩
theorem heap_far {W : World} {B g j : Nat} {v : Value} (h : B ≠ g) : (W.setCell ⟨B, j, none⟩ v).heap[g]? = W.heap[g]? := heap_setCell_other _ _ _ _ (Ne.symm h)
theorem cell_far {W : World} {B g j i : Nat} {v : Value} (h : B ≠ g) : (W.setCell ⟨B, j, none⟩ v).cell? ⟨g, i, none⟩ = W.cell? ⟨g, i, none⟩ := by
  unfold World.cell?
  simp only [heap_far h]
def frRt (us : Nat → Value) : Act := { tmps := #[us 0, us 1, us 2, us 3, us 4, us 5, us 6, us 7, us 8, us 9, us 10, us 11, us 12, us 13, us 14, us 15, us 16, us 17, us 18, us 19, us 20, us 21, us 22, us 23, us 24, us 25, us 26, us 27, us 28, us 29, us 30, us 31, us 32, us 33, us 34, us 35, us 36, us 37, us 38, us 39, us 40, us 41, us 42, us 43, us 44, us 45, us 46, us 47, us 48, us 49, us 50, us 51, us 52, us 53, us 54, us 55, us 56, us 57, us 58, us 59, us 60, us 61, us 62, us 63, us 64, us 65, us 66, us 67, us 68, us 69, us 70, us 71, us 72, us 73, us 74, us 75, us 76, us 77, us 78, us 79, us 80, us 81, us 82, us 83, us 84, us 85, us 86, us 87, us 88, us 89, us 90, us 91], defers := [] }
theorem frRt_of {x0 x1 x2 x3 x4 x5 x6 x7 x8 x9 x10 x11 x12 x13 x14 x15 x16 x17 x18 x19 x20 x21 x22 x23 x24 x25 x26 x27 x28 x29 x30 x31 x32 x33 x34 x35 x36 x37 x38 x39 x40 x41 x42 x43 x44 x45 x46 x47 x48 x49 x50 x51 x52 x53 x54 x55 x56 x57 x58 x59 x60 x61 x62 x63 x64 x65 x66 x67 x68 x69 x70 x71 x72 x73 x74 x75 x76 x77 x78 x79 x80 x81 x82 x83 x84 x85 x86 x87 x88 x89 x90 x91 : Value} : ({ tmps := #[x0, x1, x2, x3, x4, x5, x6, x7, x8, x9, x10, x11, x12, x13, x14, x15, x16, x17, x18, x19, x20, x21, x22, x23, x24, x25, x26, x27, x28, x29, x30, x31, x32, x33, x34, x35, x36, x37, x38, x39, x40, x41, x42, x43, x44, x45, x46, x47, x48, x49, x50, x51, x52, x53, x54, x55, x56, x57, x58, x59, x60, x61, x62, x63, x64, x65, x66, x67, x68, x69, x70, x71, x72, x73, x74, x75, x76, x77, x78, x79, x80, x81, x82, x83, x84, x85, x86, x87, x88, x89, x90, x91], defers := [] } : Act) = frRt (fun k => #[x0, x1, x2, x3, x4, x5, x6, x7, x8, x9, x10, x11, x12, x13, x14, x15, x16, x17, x18, x19, x20, x21, x22, x23, x24, x25, x26, x27, x28, x29, x30, x31, x32, x33, x34, x35, x36, x37, x38, x39, x40, x41, x42, x43, x44, x45, x46, x47, x48, x49, x50, x51, x52, x53, x54, x55, x56, x57, x58, x59, x60, x61, x62, x63, x64, x65, x66, x67, x68, x69, x70, x71, x72, x73, x74, x75, x76, x77, x78, x79, x80, x81, x82, x83, x84, x85, x86, x87, x88, x89, x90, x91].getD k undef) := rfl
structure InvRt (S0 P2 P5 : Value) (g cap dg : Nat) (c : List UInt8) (n0 x v : Int) (Y M D : Nat) (w : World) (d : Array Bool) (us : Nat → Value) (W : World) : Prop where
  u0 : us 0 = S0
  u2 : us 2 = P2
  u4 : us 4 = .slice (some ⟨g, 0, none⟩) 5 cap
  u5 : us 5 = P5
  u7 : us 7 = .int .i64 x
  u9 : us 9 = .int .i64 v
  bel : Below w.heap.size w W
  o0 : d.getD 0 false = true → us 51 = .agg #[.int .i64 (Y : Int), .int .i64 (M : Int), .int .i64 (D : Int)]
  o1 : d.getD 1 false = true → us 52 = .int .i64 n0
  o2 : d.getD 2 false = true → us 53 = .int .i64 x
  o3 : d.getD 3 false = true → us 54 = .slice (some ⟨g, 0, none⟩) 5 cap
  o4 : d.getD 4 false = true → us 55 = .pointer (some ⟨g, 2, none⟩)
  o5 : d.getD 5 false = true → us 56 = .string ⟨c.toArray⟩
  o6 : d.getD 6 false = true → us 57 = .int .i64 v
  o7 : d.getD 7 false = true → us 58 = .agg #[.int .i64 n0, .int .i64 x, .string ⟨c.toArray⟩, .int .i64 v, .bool false, .bool false, .bool false]
  o8 : d.getD 8 false = true → ∃ B, us 11 = .pointer (some ⟨B, 0, none⟩) ∧ w.heap.size ≤ B ∧ W.heap[B]? = some (.cells (if d.getD 9 false = true then #[.int .i64 n0, .int .i64 x, .string ⟨c.toArray⟩, .int .i64 v, .bool false, .bool false, .bool false] else #[.int .i64 0, .int .i64 0, .string ⟨#[]⟩, .int .i64 0, .bool false, .bool false, .bool false]) 25 (0, 0))
  o9 : d.getD 9 false = true → d.getD 8 false = true
set_option maxRecDepth 100000 in
set_option maxHeartbeats 16000000 in
theorem revt_s (s : List UInt8) (hl : s.length ≤ 1048576) (w : World) : Calls Tryz.prog 11 #[.string ⟨s.toArray⟩] w (GivRE w (reR s)) := by
  have o1 := heap_alloc_new w (.cells #[.int .i64 0, .int .i64 0, .string ⟨#[]⟩, .int .i64 0, .bool false, .bool false, .bool false] 25)
  have HB := below_alloc w (.cells #[.int .i64 0, .int .i64 0, .string ⟨#[]⟩, .int .i64 0, .bool false, .bool false, .bool false] 25)
  have HS := Lib.hid (fun w => splits_s s hl w)
  have hmem := Lib.hid (sps_mem s [])
  have HP := Lib.hid (fun (p : Evt) (hp : FitE s p) => fit_partsE hp)
  have HW := Lib.hid (fun (p : Evt) (n : Nat) (P : PartE s p n) => P.words)
  have hsl := sps_len s []
  obtain ⟨ws, hws⟩ : ∃ ws, sps [] s = ws := ⟨_, rfl⟩
  rw [hws] at HS hmem hsl
  have HW : Hid (∀ (p : Evt) (n : Nat) (P : PartE s p n), ws = [dayT p.d, Lib.decDigits n, p.c, money p.a, flg p.p p.v p.r]) := Lib.hid fun p n P => hws.symm.trans (HW.out p n P)
  by_cases h5 : ws.length = 5
  · obtain ⟨a, b, c, d, f, rfl⟩ : ∃ a b c d e, ws = [a, b, c, d, e] := by
      match ws, h5 with
      | [a, b, c, d, e], _ => exact ⟨a, b, c, d, e, rfl⟩
    have la : a.length ≤ 1048576 := by have := hmem.out a (by simp); simp at this; omega
    have lb : b.length ≤ 1048576 := by have := hmem.out b (by simp); simp at this; omega
    have lc : c.length ≤ 1048576 := by have := hmem.out c (by simp); simp at this; omega
    have ld : d.length ≤ 1048576 := by have := hmem.out d (by simp); simp at this; omega
    have lf : f.length ≤ 1048576 := by have := hmem.out f (by simp); simp at this; omega
    have HX : Hid (∀ p, FitE s p → (rdR a).2.2.2 = 0 ∧ (valR b).2 = true ∧ readR d = (p.a, 0) ∧ p = evOf a (valR b).1 c p.a f) := Lib.hid fun p hp => by
      obtain ⟨n, P⟩ := HP.out p hp
      have ew := HW.out p n P
      injection ew with e1 ew
      injection ew with e2 ew
      injection ew with e3 ew
      injection ew with e4 ew
      injection ew with e5 _
      have eb : valR b = ((n : Int), true) := by rw [e2]; exact dec_val (by have := P.n6; omega)
      have ed : readR d = (p.a, 0) := by rw [e4, read_ok P.v rfl]
      have ea : (rdR a).2.2.2 = 0 := by rw [e1]; exact (rday_dayT P.d).2.1
      rw [eb, ed]
      refine ⟨ea, rfl, rfl, ?_⟩
      simp only
      rw [e1, e3, e5]
      exact fit_ev P
    have PA := Lib.hid (fun w => rdate_s a la w)
    have PX := Lib.hid (fun h => rd_ex (s := a) h)
    have PB := Lib.hid (fun w => val_s b lb w)
    have PD := Lib.hid (fun w => readm_s d ld w)
    have e5' : ((([a, b, c, d, f] : List (List UInt8)).length : Int) != 5) = false := by simp
    have HT1 : Hid (has 112 f = has 112 f) := Lib.hid rfl
    clear hmem HP HW h5 la lb ld hsl hws HT1
    unfold evOf at HX
    obtain ⟨t1, ht1⟩ : ∃ t, has 112 f = t := ⟨_, rfl⟩
    obtain ⟨t2, ht2⟩ : ∃ t, has 118 f = t := ⟨_, rfl⟩
    obtain ⟨t3, ht3⟩ : ∃ t, has 114 f = t := ⟨_, rfl⟩
    rw [ht1, ht2, ht3] at HX
    have HT1 := Lib.hid ht1; have HT2 := Lib.hid ht2; have HT3 := Lib.hid ht3
    clear ht1 ht2 ht3
    generalize rday a = n0 at *
    generalize rdR a = ra at *
    obtain ⟨ya, yb, yc, ye⟩ := ra
    generalize valR b = rb at *
    obtain ⟨x, ok1⟩ := rb
    simp only at HX PB PX
    go_enter Tryz.func11, Tryz.ntmps11
    go_wp2_with fail
    refine (HS.out _).mono ?_
    rintro _ w1 ⟨A, cap, rfl, ho, b1⟩
    obtain ⟨g, rfl, hg1, hcell⟩ := own_cellsS ho (by simp)
    have m0 : w1.cell? ⟨g, 0, none⟩ = some (.string ⟨a.toArray⟩) := hcell 0 _ rfl
    have m1 : w1.cell? ⟨g, 1, none⟩ = some (.string ⟨b.toArray⟩) := hcell 1 _ rfl
    have m2 : w1.cell? ⟨g, 2, none⟩ = some (.string ⟨c.toArray⟩) := hcell 2 _ rfl
    have m3 : w1.cell? ⟨g, 3, none⟩ = some (.string ⟨d.toArray⟩) := hcell 3 _ rfl
    have m4 : w1.cell? ⟨g, 4, none⟩ = some (.string ⟨f.toArray⟩) := hcell 4 _ rfl
    have o2 := keepR b1 o1
    have s1 := b1
    clear hcell ho b1 o1 HS
    go_wp2_with fail
    refine (PA.out _).mono ?_
    rintro _ w2 ⟨rfl, b2⟩
    have d2 := heap_alloc_new w2 (.cells #[.int .i64 ya, .int .i64 yb, .int .i64 yc] 60)
    have a2 := below_alloc w2 (.cells #[.int .i64 ya, .int .i64 yb, .int .i64 yc] 60)
    have ba := belowGo b2 a2
    have k1 := (ba.cell (p := ⟨g, 1, none⟩) hg1).trans m1
    have k2 := (ba.cell (p := ⟨g, 2, none⟩) hg1).trans m2
    have k3 := (ba.cell (p := ⟨g, 3, none⟩) hg1).trans m3
    have k4 := (ba.cell (p := ⟨g, 4, none⟩) hg1).trans m4
    have o3 := keepR ba o2
    have s2 := belowGo s1 ba
    have hg2 := Nat.lt_of_lt_of_le hg1 ba.size
    clear m0 m1 m2 m3 m4 o2 b2 a2 s1 hg1 ba PA
    go_wp2_with fail
    obtain ⟨dg, hdg⟩ : ∃ n, n = w2.heap.size := ⟨_, rfl⟩
    rw [← hdg] at d2 ⊢
    generalize w2.alloc (.cells #[.int .i64 ya, .int .i64 yb, .int .i64 yc] 60) = wa at *
    clear hdg
    refine (PB.out _).mono ?_
    rintro _ w3 ⟨rfl, b3⟩
    have m2 := (b3.cell (p := ⟨g, 2, none⟩) hg2).trans k2
    have m3 := (b3.cell (p := ⟨g, 3, none⟩) hg2).trans k3
    have m4 := (b3.cell (p := ⟨g, 4, none⟩) hg2).trans k4
    have o4 := keepR b3 o3
    have d3 := keepR b3 d2
    have s3 := belowGo s2 b3
    have hg3 := Nat.lt_of_lt_of_le hg2 b3.size
    clear k1 k2 k3 k4 o3 d2 b3 s2 hg2 PB
    go_wp2_with fail
    refine (PD.out _).mono ?_
    rintro _ wq ⟨v, ok2, rfl, b4, hd⟩
    have n2c := (b4.cell (p := ⟨g, 2, none⟩) hg3).trans m2
    have n4c := (b4.cell (p := ⟨g, 4, none⟩) hg3).trans m4
    have o5 := keepR b4 o4
    have dq := keepR b4 d3
    have t5 := belowGo s3 b4
    have hg := Nat.lt_of_lt_of_le hg3 b4.size
    replace hd := Lib.hid hd
    clear m2 m3 m4 o4 d3 b4 s3 hg3 PD
    obtain ⟨pok, hpok⟩ : ∃ b, (⟨n0, x, c, v, t1, t2, t3⟩ : Evt).ok = b := ⟨_, rfl⟩
    have HV : Hid (∀ w, Calls Tryz.prog 18 #[.agg #[.int .i64 n0, .int .i64 x, .string ⟨c.toArray⟩, .int .i64 v, .bool t1, .bool t2, .bool t3]] w (Gives w (.bool pok))) := Lib.hid fun w => by
      have := evalid_s ⟨n0, x, c, v, t1, t2, t3⟩ w (by show c.length ≤ _; omega)
      rw [hpok] at this; exact this
    obtain ⟨tx, htx0⟩ : ∃ t, etext ⟨n0, x, c, v, t1, t2, t3⟩ = t := ⟨_, rfl⟩
    have HTX : Hid (pok = true → ∀ w, Calls Tryz.prog 19 #[.agg #[.int .i64 n0, .int .i64 x, .string ⟨c.toArray⟩, .int .i64 v, .bool t1, .bool t2, .bool t3]] w (Gives1 w tx)) := Lib.hid fun h w => by
      have := ltext8_s ⟨n0, x, c, v, t1, t2, t3⟩ w (hpok.trans h)
      rw [htx0] at this; exact this
    have hok : Hid (pok = true ∧ tx = s → reR s = (⟨n0, x, c, v, t1, t2, t3⟩, 0)) := Lib.hid fun ⟨h1, h2⟩ => reR_ok ⟨hpok.trans h1, htx0.trans h2⟩
    have hno : Hid (¬ (pok = true ∧ tx = s) ∨ ye ≠ 0 ∨ ok1 = false ∨ ok2 = false → reR s = (zeroE, 6)) := Lib.hid fun hn => reR_no fun ⟨p, hp⟩ => by
      obtain ⟨h1, h2, h3, h5⟩ := HX.out p hp
      have ev : ok2 = true ∧ p.a = v := by
        rcases hd.out with ⟨g1, g2⟩ | ⟨g1, g2⟩
        · rw [h3] at g2; exact ⟨g1, (Prod.mk.inj g2).1⟩
        · rw [h3] at g2; exact absurd (Prod.mk.inj g2).2 (by decide)
      rw [ev.2] at h5
      rcases hn with hn | hn | hn | hn
      · refine hn ⟨?_, ?_⟩
        · rw [← hpok, ← h5]; exact hp.1
        · rw [← htx0, ← h5]; exact hp.2
      · exact hn h1
      · rw [h2] at hn; cases hn
      · rw [ev.1] at hn; cases hn
    clear HX hpok htx0 hd lc
    generalize reR s = r at *
    by_cases hye : ye = 0
    · cases ok1 with
      | false =>
        have E := Lib.hid (hno.out (by simp))
        have t7 := belowGo HB t5
        have z0 : (ye != 0) = false := by simpa using hye
        clear hok hno HV HTX PX dq n2c n4c t5
        obtain ⟨r0, r1, r2, r3, r4, r5, r6, s0, s1, s2, s3, s4, s5, s6⟩ := cel7 o5
        go_wp2_with fail
        obtain ⟨W6, hW6, hR6, bW6⟩ := done7 o5 (.int .i64 0) (.int .i64 0) (.string ⟨#[]⟩) (.int .i64 0) (.bool false) (.bool false) (.bool false)
        rw [hW6]
        have b6 := bW6 w.heap.size w (Nat.le_refl _) t7
        obtain ⟨g0, g1, g2, g3, g4, g5, g6, _⟩ := cel7 hR6
        clear hW6 bW6 r0 s0 r1 s1 r2 s2 r3 s3 r4 s4 r5 s5 r6 s6
        exact bodyPost_ret (v := .tuple #[.agg #[.int .i64 0, .int .i64 0, .string ⟨#[]⟩, .int .i64 0, .bool false, .bool false, .bool false], .int .i64 6]) (by simp [results, Tryz.results11, go_sem, g0, g1, g2, g3, g4, g5, g6]) rfl ⟨by rw [E.out] <;> rfl, b6⟩
      | true =>
        cases ok2 with
        | false =>
          have E := Lib.hid (hno.out (by simp))
          have t7 := belowGo HB t5
          have z0 : (ye != 0) = false := by simpa using hye
          clear hok hno HV HTX PX dq n2c n4c t5
          obtain ⟨r0, r1, r2, r3, r4, r5, r6, s0, s1, s2, s3, s4, s5, s6⟩ := cel7 o5
          go_wp2_with fail
          obtain ⟨W6, hW6, hR6, bW6⟩ := done7 o5 (.int .i64 0) (.int .i64 0) (.string ⟨#[]⟩) (.int .i64 0) (.bool false) (.bool false) (.bool false)
          rw [hW6]
          have b6 := bW6 w.heap.size w (Nat.le_refl _) t7
          obtain ⟨g0, g1, g2, g3, g4, g5, g6, _⟩ := cel7 hR6
          clear hW6 bW6 r0 s0 r1 s1 r2 s2 r3 s3 r4 s4 r5 s5 r6 s6
          exact bodyPost_ret (v := .tuple #[.agg #[.int .i64 0, .int .i64 0, .string ⟨#[]⟩, .int .i64 0, .bool false, .bool false, .bool false], .int .i64 6]) (by simp [results, Tryz.results11, go_sem, g0, g1, g2, g3, g4, g5, g6]) rfl ⟨by rw [E.out] <;> rfl, b6⟩
        | true =>
          subst hye
          obtain ⟨Y, M, D, g1, _, e1⟩ := PX.out rfl
          injection e1 with e1 e1b; injection e1b with e1b e1c; injection e1c with e1c _
          subst e1 e1b e1c
          have HF := Lib.hid (fun w => g1.2 ▸ day_s Y M D g1.1 w)
          have hno := Lib.hid (fun h => hno.out (.inl h))
          clear PX g1
          go_wp2_with fail
          refine region_inv (by kernel_rfl) (by kernel_rfl) (fun d' a' W => ∃ us, a' = frRt us ∧ InvRt (.string ⟨s.toArray⟩) (.pointer (some ⟨w.heap.size, 0, none⟩)) (.pointer (some ⟨dg, 0, none⟩)) g cap dg c n0 x v Y M D wq d' us W) ?_ ?_ ?_
          · refine ⟨_, frRt_of, ?_⟩
            have Z : ∀ k, (Array.replicate 10 false).getD k false = false := fun k => by
              rcases Nat.lt_or_ge k 10 with h | h
              · simp [h]
              · simp [Array.getElem?_eq_none, h]
            have Zn : ∀ {k : Nat} {p : Prop}, (Array.replicate 10 false).getD k false = true → p := fun {k p} h => by rw [Z k] at h; cases h
            exact { u0 := rfl, u2 := rfl, u4 := rfl, u5 := rfl, u7 := rfl, u9 := rfl, bel := (Below.refl _ _).drew, o0 := Zn, o1 := Zn, o2 := Zn, o3 := Zn, o4 := Zn, o5 := Zn, o6 := Zn, o7 := Zn, o8 := Zn, o9 := Zn }
          · intro i d' a' W hi hI
            obtain ⟨hun, oi, hoi, hall⟩ := mem_ready.1 hi
            have hlt : i < 10 := (Array.getElem?_eq_some_iff.1 hoi).1
            obtain ⟨us, rfl, I⟩ := hI
            have hbel := I.bel
            have hsz : wq.heap.size ≤ W.heap.size := hbel.size
            have e0 := I.u0
            have e2 := I.u2
            have e4 := I.u4
            have e5 := I.u5
            have e7 := I.u7
            have e9 := I.u9
            have m2 := (I.bel.cell (p := ⟨g, 2, none⟩) hg).trans n2c
            have yy := cel3 (keepR I.bel dq)
            have y0 := yy.1
            have y1 := yy.2.1
            have y2 := yy.2.2
            rcases (by omega : i = 0 ∨ i = 1 ∨ i = 2 ∨ i = 3 ∨ i = 4 ∨ i = 5 ∨ i = 6 ∨ i = 7 ∨ i = 8 ∨ i = 9) with rfl | rfl | rfl | rfl | rfl | rfl | rfl | rfl | rfl | rfl
            all_goals
              obtain rfl := Option.some.inj hoi
              clear hoi hlt hi
            · skip
              have DO : ∀ n, 0 ≠ n → (d'.setIfInBounds 0 true).getD n false = d'.getD n false := fun n h => getD_set_ne false h
              have D0 : (d'.setIfInBounds 0 true).getD 0 false = true := setB_same hun
              have D1 := DO 1 (by decide)
              have D2 := DO 2 (by decide)
              have D3 := DO 3 (by decide)
              have D4 := DO 4 (by decide)
              have D5 := DO 5 (by decide)
              have D6 := DO 6 (by decide)
              have D7 := DO 7 (by decide)
              have D8 := DO 8 (by decide)
              have D9 := DO 9 (by decide)
              have UO : ∀ n, n ≠ 51 → updB us 51 (.agg #[.int .i64 (Y : Int), .int .i64 (M : Int), .int .i64 (D : Int)]) n = us n := fun n h => updB_other h
              have U51 : updB us 51 (.agg #[.int .i64 (Y : Int), .int .i64 (M : Int), .int .i64 (D : Int)]) 51 = (.agg #[.int .i64 (Y : Int), .int .i64 (M : Int), .int .i64 (D : Int)]) := updB_same _ _ _
              have U0 := UO 0 (by decide)
              have U2 := UO 2 (by decide)
              have U4 := UO 4 (by decide)
              have U5 := UO 5 (by decide)
              have U7 := UO 7 (by decide)
              have U9 := UO 9 (by decide)
              have U11 := UO 11 (by decide)
              have U52 := UO 52 (by decide)
              have U53 := UO 53 (by decide)
              have U54 := UO 54 (by decide)
              have U55 := UO 55 (by decide)
              have U56 := UO 56 (by decide)
              have U57 := UO 57 (by decide)
              have U58 := UO 58 (by decide)
              refine wpOp_step rfl (fun K hK => ?_)
              simp only [frRt, e0, e2, e4, e5, e7, e9]
              go_simp
              refine hK _ _ ⟨updB us 51 (.agg #[.int .i64 (Y : Int), .int .i64 (M : Int), .int .i64 (D : Int)]), by simp [frRt, updB, e0, e2, e4, e5, e7, e9], { u0 := (U0.trans I.u0), u2 := (U2.trans I.u2), u4 := (U4.trans I.u4), u5 := (U5.trans I.u5), u7 := (U7.trans I.u7), u9 := (U9.trans I.u9), bel := (I.bel), o0 := (fun _ => U51), o1 := (fun h => U52.trans (I.o1 (D1.symm.trans h))), o2 := (fun h => U53.trans (I.o2 (D2.symm.trans h))), o3 := (fun h => U54.trans (I.o3 (D3.symm.trans h))), o4 := (fun h => U55.trans (I.o4 (D4.symm.trans h))), o5 := (fun h => U56.trans (I.o5 (D5.symm.trans h))), o6 := (fun h => U57.trans (I.o6 (D6.symm.trans h))), o7 := (fun h => U58.trans (I.o7 (D7.symm.trans h))), o8 := (fun h => by rw [U11, D9]; exact I.o8 (D8.symm.trans h)), o9 := (fun h => D8.trans (I.o9 (D9.symm.trans h))) }⟩
            · skip
              have DO : ∀ n, 1 ≠ n → (d'.setIfInBounds 1 true).getD n false = d'.getD n false := fun n h => getD_set_ne false h
              have D1 : (d'.setIfInBounds 1 true).getD 1 false = true := setB_same hun
              have D0 := DO 0 (by decide)
              have D2 := DO 2 (by decide)
              have D3 := DO 3 (by decide)
              have D4 := DO 4 (by decide)
              have D5 := DO 5 (by decide)
              have D6 := DO 6 (by decide)
              have D7 := DO 7 (by decide)
              have D8 := DO 8 (by decide)
              have D9 := DO 9 (by decide)
              have e51 := I.o0 (hall ⟨0, .data⟩ (by simp) rfl)
              have UO : ∀ n, n ≠ 52 → updB us 52 (.int .i64 n0) n = us n := fun n h => updB_other h
              have U52 : updB us 52 (.int .i64 n0) 52 = (.int .i64 n0) := updB_same _ _ _
              have U0 := UO 0 (by decide)
              have U2 := UO 2 (by decide)
              have U4 := UO 4 (by decide)
              have U5 := UO 5 (by decide)
              have U7 := UO 7 (by decide)
              have U9 := UO 9 (by decide)
              have U11 := UO 11 (by decide)
              have U51 := UO 51 (by decide)
              have U53 := UO 53 (by decide)
              have U54 := UO 54 (by decide)
              have U55 := UO 55 (by decide)
              have U56 := UO 56 (by decide)
              have U57 := UO 57 (by decide)
              have U58 := UO 58 (by decide)
              refine wpOp_step rfl (fun K hK => ?_)
              simp only [frRt, e0, e2, e4, e5, e7, e9, e51]
              go_simp
              go_wp2_with (go_at_call 32; refine (HF.out W).mono ?_; rintro e w2 ⟨rfl, hb2⟩)
              exact ⟨updB us 52 (.int .i64 n0), by simp [frRt, updB, e0, e2, e4, e5, e7, e9, e51], { u0 := (U0.trans I.u0), u2 := (U2.trans I.u2), u4 := (U4.trans I.u4), u5 := (U5.trans I.u5), u7 := (U7.trans I.u7), u9 := (U9.trans I.u9), bel := (I.bel.trans (hb2.mono hsz)), o0 := (fun h => U51.trans (I.o0 (D0.symm.trans h))), o1 := (fun _ => U52), o2 := (fun h => U53.trans (I.o2 (D2.symm.trans h))), o3 := (fun h => U54.trans (I.o3 (D3.symm.trans h))), o4 := (fun h => U55.trans (I.o4 (D4.symm.trans h))), o5 := (fun h => U56.trans (I.o5 (D5.symm.trans h))), o6 := (fun h => U57.trans (I.o6 (D6.symm.trans h))), o7 := (fun h => U58.trans (I.o7 (D7.symm.trans h))), o8 := (fun h => by rw [U11, D9]; obtain ⟨B2, g1, g2, g3⟩ := I.o8 (D8.symm.trans h); exact ⟨B2, g1, g2, (hb2.block B2 (lt_some g3)).trans g3⟩), o9 := (fun h => D8.trans (I.o9 (D9.symm.trans h))) }⟩
            · skip
              have DO : ∀ n, 2 ≠ n → (d'.setIfInBounds 2 true).getD n false = d'.getD n false := fun n h => getD_set_ne false h
              have D2 : (d'.setIfInBounds 2 true).getD 2 false = true := setB_same hun
              have D0 := DO 0 (by decide)
              have D1 := DO 1 (by decide)
              have D3 := DO 3 (by decide)
              have D4 := DO 4 (by decide)
              have D5 := DO 5 (by decide)
              have D6 := DO 6 (by decide)
              have D7 := DO 7 (by decide)
              have D8 := DO 8 (by decide)
              have D9 := DO 9 (by decide)
              have UO : ∀ n, n ≠ 53 → updB us 53 (.int .i64 x) n = us n := fun n h => updB_other h
              have U53 : updB us 53 (.int .i64 x) 53 = (.int .i64 x) := updB_same _ _ _
              have U0 := UO 0 (by decide)
              have U2 := UO 2 (by decide)
              have U4 := UO 4 (by decide)
              have U5 := UO 5 (by decide)
              have U7 := UO 7 (by decide)
              have U9 := UO 9 (by decide)
              have U11 := UO 11 (by decide)
              have U51 := UO 51 (by decide)
              have U52 := UO 52 (by decide)
              have U54 := UO 54 (by decide)
              have U55 := UO 55 (by decide)
              have U56 := UO 56 (by decide)
              have U57 := UO 57 (by decide)
              have U58 := UO 58 (by decide)
              refine wpOp_step rfl (fun K hK => ?_)
              simp only [frRt, e0, e2, e4, e5, e7, e9]
              go_simp
              refine hK _ _ ⟨updB us 53 (.int .i64 x), by simp [frRt, updB, e0, e2, e4, e5, e7, e9], { u0 := (U0.trans I.u0), u2 := (U2.trans I.u2), u4 := (U4.trans I.u4), u5 := (U5.trans I.u5), u7 := (U7.trans I.u7), u9 := (U9.trans I.u9), bel := (I.bel), o0 := (fun h => U51.trans (I.o0 (D0.symm.trans h))), o1 := (fun h => U52.trans (I.o1 (D1.symm.trans h))), o2 := (fun _ => U53), o3 := (fun h => U54.trans (I.o3 (D3.symm.trans h))), o4 := (fun h => U55.trans (I.o4 (D4.symm.trans h))), o5 := (fun h => U56.trans (I.o5 (D5.symm.trans h))), o6 := (fun h => U57.trans (I.o6 (D6.symm.trans h))), o7 := (fun h => U58.trans (I.o7 (D7.symm.trans h))), o8 := (fun h => by rw [U11, D9]; exact I.o8 (D8.symm.trans h)), o9 := (fun h => D8.trans (I.o9 (D9.symm.trans h))) }⟩
            · skip
              have DO : ∀ n, 3 ≠ n → (d'.setIfInBounds 3 true).getD n false = d'.getD n false := fun n h => getD_set_ne false h
              have D3 : (d'.setIfInBounds 3 true).getD 3 false = true := setB_same hun
              have D0 := DO 0 (by decide)
              have D1 := DO 1 (by decide)
              have D2 := DO 2 (by decide)
              have D4 := DO 4 (by decide)
              have D5 := DO 5 (by decide)
              have D6 := DO 6 (by decide)
              have D7 := DO 7 (by decide)
              have D8 := DO 8 (by decide)
              have D9 := DO 9 (by decide)
              have UO : ∀ n, n ≠ 54 → updB us 54 (.slice (some ⟨g, 0, none⟩) 5 cap) n = us n := fun n h => updB_other h
              have U54 : updB us 54 (.slice (some ⟨g, 0, none⟩) 5 cap) 54 = (.slice (some ⟨g, 0, none⟩) 5 cap) := updB_same _ _ _
              have U0 := UO 0 (by decide)
              have U2 := UO 2 (by decide)
              have U4 := UO 4 (by decide)
              have U5 := UO 5 (by decide)
              have U7 := UO 7 (by decide)
              have U9 := UO 9 (by decide)
              have U11 := UO 11 (by decide)
              have U51 := UO 51 (by decide)
              have U52 := UO 52 (by decide)
              have U53 := UO 53 (by decide)
              have U55 := UO 55 (by decide)
              have U56 := UO 56 (by decide)
              have U57 := UO 57 (by decide)
              have U58 := UO 58 (by decide)
              refine wpOp_step rfl (fun K hK => ?_)
              simp only [frRt, e0, e2, e4, e5, e7, e9]
              go_simp
              refine hK _ _ ⟨updB us 54 (.slice (some ⟨g, 0, none⟩) 5 cap), by simp [frRt, updB, e0, e2, e4, e5, e7, e9], { u0 := (U0.trans I.u0), u2 := (U2.trans I.u2), u4 := (U4.trans I.u4), u5 := (U5.trans I.u5), u7 := (U7.trans I.u7), u9 := (U9.trans I.u9), bel := (I.bel), o0 := (fun h => U51.trans (I.o0 (D0.symm.trans h))), o1 := (fun h => U52.trans (I.o1 (D1.symm.trans h))), o2 := (fun h => U53.trans (I.o2 (D2.symm.trans h))), o3 := (fun _ => U54), o4 := (fun h => U55.trans (I.o4 (D4.symm.trans h))), o5 := (fun h => U56.trans (I.o5 (D5.symm.trans h))), o6 := (fun h => U57.trans (I.o6 (D6.symm.trans h))), o7 := (fun h => U58.trans (I.o7 (D7.symm.trans h))), o8 := (fun h => by rw [U11, D9]; exact I.o8 (D8.symm.trans h)), o9 := (fun h => D8.trans (I.o9 (D9.symm.trans h))) }⟩
            · skip
              have DO : ∀ n, 4 ≠ n → (d'.setIfInBounds 4 true).getD n false = d'.getD n false := fun n h => getD_set_ne false h
              have D4 : (d'.setIfInBounds 4 true).getD 4 false = true := setB_same hun
              have D0 := DO 0 (by decide)
              have D1 := DO 1 (by decide)
              have D2 := DO 2 (by decide)
              have D3 := DO 3 (by decide)
              have D5 := DO 5 (by decide)
              have D6 := DO 6 (by decide)
              have D7 := DO 7 (by decide)
              have D8 := DO 8 (by decide)
              have D9 := DO 9 (by decide)
              have e54 := I.o3 (hall ⟨3, .data⟩ (by simp) rfl)
              have UO : ∀ n, n ≠ 55 → updB us 55 (.pointer (some ⟨g, 2, none⟩)) n = us n := fun n h => updB_other h
              have U55 : updB us 55 (.pointer (some ⟨g, 2, none⟩)) 55 = (.pointer (some ⟨g, 2, none⟩)) := updB_same _ _ _
              have U0 := UO 0 (by decide)
              have U2 := UO 2 (by decide)
              have U4 := UO 4 (by decide)
              have U5 := UO 5 (by decide)
              have U7 := UO 7 (by decide)
              have U9 := UO 9 (by decide)
              have U11 := UO 11 (by decide)
              have U51 := UO 51 (by decide)
              have U52 := UO 52 (by decide)
              have U53 := UO 53 (by decide)
              have U54 := UO 54 (by decide)
              have U56 := UO 56 (by decide)
              have U57 := UO 57 (by decide)
              have U58 := UO 58 (by decide)
              refine wpOp_step rfl (fun K hK => ?_)
              simp only [frRt, e0, e2, e4, e5, e7, e9, e54]
              go_simp
              refine hK _ _ ⟨updB us 55 (.pointer (some ⟨g, 2, none⟩)), by simp [frRt, updB, e0, e2, e4, e5, e7, e9, e54], { u0 := (U0.trans I.u0), u2 := (U2.trans I.u2), u4 := (U4.trans I.u4), u5 := (U5.trans I.u5), u7 := (U7.trans I.u7), u9 := (U9.trans I.u9), bel := (I.bel), o0 := (fun h => U51.trans (I.o0 (D0.symm.trans h))), o1 := (fun h => U52.trans (I.o1 (D1.symm.trans h))), o2 := (fun h => U53.trans (I.o2 (D2.symm.trans h))), o3 := (fun h => U54.trans (I.o3 (D3.symm.trans h))), o4 := (fun _ => U55), o5 := (fun h => U56.trans (I.o5 (D5.symm.trans h))), o6 := (fun h => U57.trans (I.o6 (D6.symm.trans h))), o7 := (fun h => U58.trans (I.o7 (D7.symm.trans h))), o8 := (fun h => by rw [U11, D9]; exact I.o8 (D8.symm.trans h)), o9 := (fun h => D8.trans (I.o9 (D9.symm.trans h))) }⟩
            · skip
              have DO : ∀ n, 5 ≠ n → (d'.setIfInBounds 5 true).getD n false = d'.getD n false := fun n h => getD_set_ne false h
              have D5 : (d'.setIfInBounds 5 true).getD 5 false = true := setB_same hun
              have D0 := DO 0 (by decide)
              have D1 := DO 1 (by decide)
              have D2 := DO 2 (by decide)
              have D3 := DO 3 (by decide)
              have D4 := DO 4 (by decide)
              have D6 := DO 6 (by decide)
              have D7 := DO 7 (by decide)
              have D8 := DO 8 (by decide)
              have D9 := DO 9 (by decide)
              have e55 := I.o4 (hall ⟨4, .data⟩ (by simp) rfl)
              have UO : ∀ n, n ≠ 56 → updB us 56 (.string ⟨c.toArray⟩) n = us n := fun n h => updB_other h
              have U56 : updB us 56 (.string ⟨c.toArray⟩) 56 = (.string ⟨c.toArray⟩) := updB_same _ _ _
              have U0 := UO 0 (by decide)
              have U2 := UO 2 (by decide)
              have U4 := UO 4 (by decide)
              have U5 := UO 5 (by decide)
              have U7 := UO 7 (by decide)
              have U9 := UO 9 (by decide)
              have U11 := UO 11 (by decide)
              have U51 := UO 51 (by decide)
              have U52 := UO 52 (by decide)
              have U53 := UO 53 (by decide)
              have U54 := UO 54 (by decide)
              have U55 := UO 55 (by decide)
              have U57 := UO 57 (by decide)
              have U58 := UO 58 (by decide)
              refine wpOp_step rfl (fun K hK => ?_)
              simp only [frRt, e0, e2, e4, e5, e7, e9, e55]
              go_simp
              refine hK _ _ ⟨updB us 56 (.string ⟨c.toArray⟩), by simp [frRt, updB, e0, e2, e4, e5, e7, e9, e55], { u0 := (U0.trans I.u0), u2 := (U2.trans I.u2), u4 := (U4.trans I.u4), u5 := (U5.trans I.u5), u7 := (U7.trans I.u7), u9 := (U9.trans I.u9), bel := (I.bel), o0 := (fun h => U51.trans (I.o0 (D0.symm.trans h))), o1 := (fun h => U52.trans (I.o1 (D1.symm.trans h))), o2 := (fun h => U53.trans (I.o2 (D2.symm.trans h))), o3 := (fun h => U54.trans (I.o3 (D3.symm.trans h))), o4 := (fun h => U55.trans (I.o4 (D4.symm.trans h))), o5 := (fun _ => U56), o6 := (fun h => U57.trans (I.o6 (D6.symm.trans h))), o7 := (fun h => U58.trans (I.o7 (D7.symm.trans h))), o8 := (fun h => by rw [U11, D9]; exact I.o8 (D8.symm.trans h)), o9 := (fun h => D8.trans (I.o9 (D9.symm.trans h))) }⟩
            · skip
              have DO : ∀ n, 6 ≠ n → (d'.setIfInBounds 6 true).getD n false = d'.getD n false := fun n h => getD_set_ne false h
              have D6 : (d'.setIfInBounds 6 true).getD 6 false = true := setB_same hun
              have D0 := DO 0 (by decide)
              have D1 := DO 1 (by decide)
              have D2 := DO 2 (by decide)
              have D3 := DO 3 (by decide)
              have D4 := DO 4 (by decide)
              have D5 := DO 5 (by decide)
              have D7 := DO 7 (by decide)
              have D8 := DO 8 (by decide)
              have D9 := DO 9 (by decide)
              have UO : ∀ n, n ≠ 57 → updB us 57 (.int .i64 v) n = us n := fun n h => updB_other h
              have U57 : updB us 57 (.int .i64 v) 57 = (.int .i64 v) := updB_same _ _ _
              have U0 := UO 0 (by decide)
              have U2 := UO 2 (by decide)
              have U4 := UO 4 (by decide)
              have U5 := UO 5 (by decide)
              have U7 := UO 7 (by decide)
              have U9 := UO 9 (by decide)
              have U11 := UO 11 (by decide)
              have U51 := UO 51 (by decide)
              have U52 := UO 52 (by decide)
              have U53 := UO 53 (by decide)
              have U54 := UO 54 (by decide)
              have U55 := UO 55 (by decide)
              have U56 := UO 56 (by decide)
              have U58 := UO 58 (by decide)
              refine wpOp_step rfl (fun K hK => ?_)
              simp only [frRt, e0, e2, e4, e5, e7, e9]
              go_simp
              refine hK _ _ ⟨updB us 57 (.int .i64 v), by simp [frRt, updB, e0, e2, e4, e5, e7, e9], { u0 := (U0.trans I.u0), u2 := (U2.trans I.u2), u4 := (U4.trans I.u4), u5 := (U5.trans I.u5), u7 := (U7.trans I.u7), u9 := (U9.trans I.u9), bel := (I.bel), o0 := (fun h => U51.trans (I.o0 (D0.symm.trans h))), o1 := (fun h => U52.trans (I.o1 (D1.symm.trans h))), o2 := (fun h => U53.trans (I.o2 (D2.symm.trans h))), o3 := (fun h => U54.trans (I.o3 (D3.symm.trans h))), o4 := (fun h => U55.trans (I.o4 (D4.symm.trans h))), o5 := (fun h => U56.trans (I.o5 (D5.symm.trans h))), o6 := (fun _ => U57), o7 := (fun h => U58.trans (I.o7 (D7.symm.trans h))), o8 := (fun h => by rw [U11, D9]; exact I.o8 (D8.symm.trans h)), o9 := (fun h => D8.trans (I.o9 (D9.symm.trans h))) }⟩
            · skip
              have DO : ∀ n, 7 ≠ n → (d'.setIfInBounds 7 true).getD n false = d'.getD n false := fun n h => getD_set_ne false h
              have D7 : (d'.setIfInBounds 7 true).getD 7 false = true := setB_same hun
              have D0 := DO 0 (by decide)
              have D1 := DO 1 (by decide)
              have D2 := DO 2 (by decide)
              have D3 := DO 3 (by decide)
              have D4 := DO 4 (by decide)
              have D5 := DO 5 (by decide)
              have D6 := DO 6 (by decide)
              have D8 := DO 8 (by decide)
              have D9 := DO 9 (by decide)
              have e52 := I.o1 (hall ⟨1, .data⟩ (by simp) rfl)
              have e53 := I.o2 (hall ⟨2, .data⟩ (by simp) rfl)
              have e56 := I.o5 (hall ⟨5, .data⟩ (by simp) rfl)
              have e57 := I.o6 (hall ⟨6, .data⟩ (by simp) rfl)
              have UO : ∀ n, n ≠ 58 → updB us 58 (.agg #[.int .i64 n0, .int .i64 x, .string ⟨c.toArray⟩, .int .i64 v, .bool false, .bool false, .bool false]) n = us n := fun n h => updB_other h
              have U58 : updB us 58 (.agg #[.int .i64 n0, .int .i64 x, .string ⟨c.toArray⟩, .int .i64 v, .bool false, .bool false, .bool false]) 58 = (.agg #[.int .i64 n0, .int .i64 x, .string ⟨c.toArray⟩, .int .i64 v, .bool false, .bool false, .bool false]) := updB_same _ _ _
              have U0 := UO 0 (by decide)
              have U2 := UO 2 (by decide)
              have U4 := UO 4 (by decide)
              have U5 := UO 5 (by decide)
              have U7 := UO 7 (by decide)
              have U9 := UO 9 (by decide)
              have U11 := UO 11 (by decide)
              have U51 := UO 51 (by decide)
              have U52 := UO 52 (by decide)
              have U53 := UO 53 (by decide)
              have U54 := UO 54 (by decide)
              have U55 := UO 55 (by decide)
              have U56 := UO 56 (by decide)
              have U57 := UO 57 (by decide)
              refine wpOp_step rfl (fun K hK => ?_)
              simp only [frRt, e0, e2, e4, e5, e7, e9, e52, e53, e56, e57]
              go_simp
              refine hK _ _ ⟨updB us 58 (.agg #[.int .i64 n0, .int .i64 x, .string ⟨c.toArray⟩, .int .i64 v, .bool false, .bool false, .bool false]), by simp [frRt, updB, e0, e2, e4, e5, e7, e9, e52, e53, e56, e57], { u0 := (U0.trans I.u0), u2 := (U2.trans I.u2), u4 := (U4.trans I.u4), u5 := (U5.trans I.u5), u7 := (U7.trans I.u7), u9 := (U9.trans I.u9), bel := (I.bel), o0 := (fun h => U51.trans (I.o0 (D0.symm.trans h))), o1 := (fun h => U52.trans (I.o1 (D1.symm.trans h))), o2 := (fun h => U53.trans (I.o2 (D2.symm.trans h))), o3 := (fun h => U54.trans (I.o3 (D3.symm.trans h))), o4 := (fun h => U55.trans (I.o4 (D4.symm.trans h))), o5 := (fun h => U56.trans (I.o5 (D5.symm.trans h))), o6 := (fun h => U57.trans (I.o6 (D6.symm.trans h))), o7 := (fun _ => U58), o8 := (fun h => by rw [U11, D9]; exact I.o8 (D8.symm.trans h)), o9 := (fun h => D8.trans (I.o9 (D9.symm.trans h))) }⟩
            · skip
              have DO : ∀ n, 8 ≠ n → (d'.setIfInBounds 8 true).getD n false = d'.getD n false := fun n h => getD_set_ne false h
              have D8 : (d'.setIfInBounds 8 true).getD 8 false = true := setB_same hun
              have D0 := DO 0 (by decide)
              have D1 := DO 1 (by decide)
              have D2 := DO 2 (by decide)
              have D3 := DO 3 (by decide)
              have D4 := DO 4 (by decide)
              have D5 := DO 5 (by decide)
              have D6 := DO 6 (by decide)
              have D7 := DO 7 (by decide)
              have D9 := DO 9 (by decide)
              have UO : ∀ n, n ≠ 11 → updB us 11 (.pointer (some ⟨W.heap.size, 0, none⟩)) n = us n := fun n h => updB_other h
              have U11 : updB us 11 (.pointer (some ⟨W.heap.size, 0, none⟩)) 11 = (.pointer (some ⟨W.heap.size, 0, none⟩)) := updB_same _ _ _
              have U0 := UO 0 (by decide)
              have U2 := UO 2 (by decide)
              have U4 := UO 4 (by decide)
              have U5 := UO 5 (by decide)
              have U7 := UO 7 (by decide)
              have U9 := UO 9 (by decide)
              have U51 := UO 51 (by decide)
              have U52 := UO 52 (by decide)
              have U53 := UO 53 (by decide)
              have U54 := UO 54 (by decide)
              have U55 := UO 55 (by decide)
              have U56 := UO 56 (by decide)
              have U57 := UO 57 (by decide)
              have U58 := UO 58 (by decide)
              have hf : d'.getD 9 false = false := by
                cases h : d'.getD 9 false with
                | false => rfl
                | true => have h2 := getD_ft (I.o9 h); rw [hun] at h2; cases h2
              refine wpOp_step rfl (fun K hK => ?_)
              simp only [frRt, e0, e2, e4, e5, e7, e9]
              go_simp
              refine hK _ _ ⟨updB us 11 (.pointer (some ⟨W.heap.size, 0, none⟩)), by simp [frRt, updB, e0, e2, e4, e5, e7, e9], { u0 := (U0.trans I.u0), u2 := (U2.trans I.u2), u4 := (U4.trans I.u4), u5 := (U5.trans I.u5), u7 := (U7.trans I.u7), u9 := (U9.trans I.u9), bel := (I.bel.alloc hsz _), o0 := (fun h => U51.trans (I.o0 (D0.symm.trans h))), o1 := (fun h => U52.trans (I.o1 (D1.symm.trans h))), o2 := (fun h => U53.trans (I.o2 (D2.symm.trans h))), o3 := (fun h => U54.trans (I.o3 (D3.symm.trans h))), o4 := (fun h => U55.trans (I.o4 (D4.symm.trans h))), o5 := (fun h => U56.trans (I.o5 (D5.symm.trans h))), o6 := (fun h => U57.trans (I.o6 (D6.symm.trans h))), o7 := (fun h => U58.trans (I.o7 (D7.symm.trans h))), o8 := (fun _ => ⟨W.heap.size, U11, hsz, by rw [D9, hf, if_neg Bool.false_ne_true]; exact heap_alloc_new W _⟩), o9 := (fun h => by rw [D9, hf] at h; cases h) }⟩
            · skip
              have DO : ∀ n, 9 ≠ n → (d'.setIfInBounds 9 true).getD n false = d'.getD n false := fun n h => getD_set_ne false h
              have D9 : (d'.setIfInBounds 9 true).getD 9 false = true := setB_same hun
              have D0 := DO 0 (by decide)
              have D1 := DO 1 (by decide)
              have D2 := DO 2 (by decide)
              have D3 := DO 3 (by decide)
              have D4 := DO 4 (by decide)
              have D5 := DO 5 (by decide)
              have D6 := DO 6 (by decide)
              have D7 := DO 7 (by decide)
              have D8 := DO 8 (by decide)
              have e58 := I.o7 (hall ⟨7, .data⟩ (by simp) rfl)
              have hf := getB_f hun
              obtain ⟨B, e11, hlo, hB⟩ := I.o8 (hall ⟨8, .data⟩ (by simp) rfl)
              rw [hf, if_neg Bool.false_ne_true] at hB
              obtain ⟨b0, b1, b2, b3, b4, b5, b6, f0, f1, f2, f3, f4, f5, f6⟩ := cel7 hB
              obtain ⟨W2, hW2, hR, bW⟩ := done7 hB (.int .i64 n0) (.int .i64 x) (.string ⟨c.toArray⟩) (.int .i64 v) (.bool false) (.bool false) (.bool false)
              refine wpOp_step rfl (fun K hK => ?_)
              simp only [frRt, e0, e2, e4, e5, e7, e9, e58, e11]
              go_simp
              try rw [hW2]
              refine hK _ _ ⟨us, by simp [frRt, e0, e2, e4, e5, e7, e9, e58, e11], { u0 := I.u0, u2 := I.u2, u4 := I.u4, u5 := I.u5, u7 := I.u7, u9 := I.u9, bel := (bW _ _ hlo I.bel), o0 := (fun h => I.o0 (D0.symm.trans h)), o1 := (fun h => I.o1 (D1.symm.trans h)), o2 := (fun h => I.o2 (D2.symm.trans h)), o3 := (fun h => I.o3 (D3.symm.trans h)), o4 := (fun h => I.o4 (D4.symm.trans h)), o5 := (fun h => I.o5 (D5.symm.trans h)), o6 := (fun h => I.o6 (D6.symm.trans h)), o7 := (fun h => I.o7 (D7.symm.trans h)), o8 := (fun h => ⟨B, e11, hlo, by rw [D9, if_pos rfl]; exact hR⟩), o9 := (fun _ => D8.trans (hall ⟨8, .data⟩ (by simp) rfl)) }⟩
          · intro d' a' W hd hall hI
            obtain ⟨us, rfl, I⟩ := hI
            have D : ∀ k, k < 10 → d'.getD k false = true := fun k hk => by
              have := hall k hk
              have hk2 : k < d'.size := by rw [hd]; exact hk
              simp [hk2] at this ⊢; exact this
            obtain ⟨R, e11, hRlo, hRow⟩ := I.o8 (D 8 (by decide))
            rw [D 9 (by decide), if_pos rfl] at hRow
            have e0 := I.u0
            have e2 := I.u2
            have e4 := I.u4
            have e5 := I.u5
            have e7 := I.u7
            have e9 := I.u9
            have bR := I.bel
            clear I D hall hd
            simp only [frRt, e0, e2, e4, e5, e7, e9, e11]
            have o6 := keepR bR o5
            have t6 := bR
            have n4 := (bR.cell (p := ⟨g, 4, none⟩) hg).trans n4c
            have hgR : g < W.heap.size := Nat.lt_of_lt_of_le hg bR.size
            have hRw : Hid (w.heap.size ≤ R) := Lib.hid (Nat.le_trans (Nat.le_trans HB.size t5.size) hRlo)
            have tW := Lib.hid (belowGo t5 bR)
            have hRne : Hid (R ≠ w.heap.size) := Lib.hid (by have := Nat.le_trans t5.size hRlo; simp at this; omega)
            have hR1 : Hid (w.heap.size + 1 ≤ R) := Lib.hid (by have := Nat.le_trans t5.size hRlo; simp at this; omega)
            have hgne : Hid (R ≠ g) := Lib.hid (by omega)
            obtain ⟨wq2, hwq2⟩ : ∃ x, x = W := ⟨_, rfl⟩
            have hRq : R < wq2.heap.size := by rw [hwq2]; exact lt_some hRow
            rw [← hwq2] at hRow o6 n4 hgR tW ⊢
            clear t5 o5 n2c n4c bR t6 hwq2 dq hg
            go_wp2_with fail
            go_loopw [12] (fun i wr => ∃ k : Nat, k ≤ f.length ∧ i = .int .i64 k ∧ wr.heap[R]? = some (.cells #[.int .i64 n0, .int .i64 x, .string ⟨c.toArray⟩, .int .i64 v, .bool (has 112 (f.take k)), .bool (has 118 (f.take k)), .bool (has 114 (f.take k))] 25 (0, 0)) ∧ wr.cell? ⟨g, 4, none⟩ = some (.string ⟨f.toArray⟩) ∧ wr.heap[w.heap.size]? = some (.cells #[.int .i64 0, .int .i64 0, .string ⟨#[]⟩, .int .i64 0, .bool false, .bool false, .bool false] 25 (0, 0)) ∧ Below (w.heap.size + 1) (w.alloc (.cells #[.int .i64 0, .int .i64 0, .string ⟨#[]⟩, .int .i64 0, .bool false, .bool false, .bool false] 25)) wr) (fun i _ => f.length - (intOf i).toNat)
            case atStart => exact ⟨0, Nat.zero_le _, rfl, hRow, n4, o6, by simpa using tW.out⟩
            case round =>
              clear hRow n4 o6
              obtain ⟨k, hk, rfl, hrow, n4, o6, hb⟩ := hrel
              obtain ⟨c0, c1, c2, c3, c4, c5, c6, f0, f1, f2, f3, f4, f5, f6⟩ := cel7 hrow
              by_cases hlt : k < f.length
              · obtain ⟨b, hbk⟩ : ∃ b, f[k]? = some b := ⟨f[k], by simp [hlt]⟩
                have hbn := pbyte_at f k b hbk
                have S1 := has_snoc 112 (f.take k) b
                have S2 := has_snoc 118 (f.take k) b
                have S3 := has_snoc 114 (f.take k) b
                rw [← snoc_of hbk] at S1 S2 S3
                have S1 := Lib.hid S1; have S2 := Lib.hid S2; have S3 := Lib.hid S3
                have g4 := fun (v : Value) => Lib.hid (show (wr.setCell ⟨R, 4, none⟩ v).cell? ⟨g, 4, none⟩ = some (.string ⟨f.toArray⟩) from (cell_far hgne.out).trans n4)
                have g5 := fun (v : Value) => Lib.hid (show (wr.setCell ⟨R, 5, none⟩ v).cell? ⟨g, 4, none⟩ = some (.string ⟨f.toArray⟩) from (cell_far hgne.out).trans n4)
                have g6 := fun (v : Value) => Lib.hid (show (wr.setCell ⟨R, 6, none⟩ v).cell? ⟨g, 4, none⟩ = some (.string ⟨f.toArray⟩) from (cell_far hgne.out).trans n4)
                have r4 := Lib.hid (show (wr.setCell ⟨R, 4, none⟩ (.bool true)).heap[R]? = some (.cells #[.int .i64 n0, .int .i64 x, .string ⟨c.toArray⟩, .int .i64 v, .bool true, .bool (has 118 (f.take k)), .bool (has 114 (f.take k))] 25 (0, 0)) by rw [heap_setCell_same _ _ _ _ _ _ hrow]; rfl)
                have r5 := Lib.hid (show (wr.setCell ⟨R, 5, none⟩ (.bool true)).heap[R]? = some (.cells #[.int .i64 n0, .int .i64 x, .string ⟨c.toArray⟩, .int .i64 v, .bool (has 112 (f.take k)), .bool true, .bool (has 114 (f.take k))] 25 (0, 0)) by rw [heap_setCell_same _ _ _ _ _ _ hrow]; rfl)
                have r6 := Lib.hid (show (wr.setCell ⟨R, 6, none⟩ (.bool true)).heap[R]? = some (.cells #[.int .i64 n0, .int .i64 x, .string ⟨c.toArray⟩, .int .i64 v, .bool (has 112 (f.take k)), .bool (has 118 (f.take k)), .bool true] 25 (0, 0)) by rw [heap_setCell_same _ _ _ _ _ _ hrow]; rfl)
                have u4 := fun (j : Nat) (v : Value) => Lib.hid (show (wr.setCell ⟨R, j, none⟩ v).heap[w.heap.size]? = some (.cells #[.int .i64 0, .int .i64 0, .string ⟨#[]⟩, .int .i64 0, .bool false, .bool false, .bool false] 25 (0, 0)) from (heap_far hRne.out).trans o6)
                have b4 := fun (j : Nat) (v : Value) => Lib.hid (hb.setCell (p := ⟨R, j, none⟩) hR1.out v)
                have HRO := Lib.hid hrow; have HN4 := Lib.hid n4; have HO6 := Lib.hid o6; have HBB := Lib.hid hb
                clear hbk hrow o6 hb
                by_cases h1 : b = 112
                · have e1 : ((b.toNat : Int) == 112) = true := by subst h1; rfl
                  have R1 : Hid (has 112 (f.take (k + 1)) = true ∧ has 118 (f.take (k + 1)) = has 118 (f.take k) ∧ has 114 (f.take (k + 1)) = has 114 (f.take k)) := Lib.hid (by rw [S1.out, S2.out, S3.out]; subst h1; simp)
                  clear S1 S2 S3 h1
                  go_wp2_with fail
                  go_roundw
                  case rel => exact ⟨k + 1, by omega, by go_num, by rw [R1.out.1, R1.out.2.1, R1.out.2.2]; exact r4.out, (g4 _).out, (u4 4 _).out, (b4 4 _).out⟩
                  case measure => simp [intOf]; omega
                · have e1 : ((b.toNat : Int) == 112) = false := beq_eq_false_iff_ne.2 (fun h => h1 (by apply UInt8.toNat.inj; simpa using Int.ofNat.inj h))
                  by_cases h2 : b = 118
                  · have e2 : ((b.toNat : Int) == 118) = true := by subst h2; rfl
                    have R1 : Hid (has 112 (f.take (k + 1)) = has 112 (f.take k) ∧ has 118 (f.take (k + 1)) = true ∧ has 114 (f.take (k + 1)) = has 114 (f.take k)) := Lib.hid (by rw [S1.out, S2.out, S3.out]; subst h2; simp)
                    clear S1 S2 S3 h1 h2
                    go_wp2_with fail
                    go_roundw
                    case rel => exact ⟨k + 1, by omega, by go_num, by rw [R1.out.1, R1.out.2.1, R1.out.2.2]; exact r5.out, (g5 _).out, (u4 5 _).out, (b4 5 _).out⟩
                    case measure => simp [intOf]; omega
                  · have e2 : ((b.toNat : Int) == 118) = false := beq_eq_false_iff_ne.2 (fun h => h2 (by apply UInt8.toNat.inj; simpa using Int.ofNat.inj h))
                    by_cases h3 : b = 114
                    · have e3 : ((b.toNat : Int) == 114) = true := by subst h3; rfl
                      have R1 : Hid (has 112 (f.take (k + 1)) = has 112 (f.take k) ∧ has 118 (f.take (k + 1)) = has 118 (f.take k) ∧ has 114 (f.take (k + 1)) = true) := Lib.hid (by rw [S1.out, S2.out, S3.out]; subst h3; simp)
                      clear S1 S2 S3 h1 h2 h3
                      go_wp2_with fail
                      go_roundw
                      case rel => exact ⟨k + 1, by omega, by go_num, by rw [R1.out.1, R1.out.2.1, R1.out.2.2]; exact r6.out, (g6 _).out, (u4 6 _).out, (b4 6 _).out⟩
                      case measure => simp [intOf]; omega
                    · have e3 : ((b.toNat : Int) == 114) = false := beq_eq_false_iff_ne.2 (fun h => h3 (by apply UInt8.toNat.inj; simpa using Int.ofNat.inj h))
                      have R1 : Hid (has 112 (f.take (k + 1)) = has 112 (f.take k) ∧ has 118 (f.take (k + 1)) = has 118 (f.take k) ∧ has 114 (f.take (k + 1)) = has 114 (f.take k)) := Lib.hid (by rw [S1.out, S2.out, S3.out]; simp [h1, h2, h3])
                      clear S1 S2 S3 h1 h2 h3
                      go_wp2_with fail
                      go_roundw
                      case rel => exact ⟨k + 1, by omega, by go_num, by rw [R1.out.1, R1.out.2.1, R1.out.2.2]; exact HRO.out, HN4.out, HO6.out, HBB.out⟩
                      case measure => simp [intOf]; omega
              · obtain rfl : k = f.length := by omega
                rw [List.take_length, HT1.out, HT2.out, HT3.out] at hrow
                rw [List.take_length, HT1.out] at c4
                rw [List.take_length, HT2.out] at c5
                rw [List.take_length, HT3.out] at c6
                have tB : Below w.heap.size w wr := belowGo HB (by simpa using hb)
                clear f0 f1 f2 f3 f4 f5 f6 hb
                cases pok with
                | false =>
                  have E := Lib.hid (hno.out (by simp))
                  clear hok hno
                  go_wp2_with fail
                  refine (HV.out _).mono ?_
                  rintro e w6 ⟨rfl, b6'⟩
                  have o7 := keepR b6' o6
                  have t7 := belowGo tB b6'
                  clear HV HTX hrow tB b6' c0 c1 c2 c3 c4 c5 c6 o6 n4
                  obtain ⟨r0, r1, r2, r3, r4, r5, r6, s0, s1, s2, s3, s4, s5, s6⟩ := cel7 o7
                  go_wp2_with fail
                  obtain ⟨W6, hW6, hR6, bW6⟩ := done7 o7 (.int .i64 0) (.int .i64 0) (.string ⟨#[]⟩) (.int .i64 0) (.bool false) (.bool false) (.bool false)
                  rw [hW6]
                  have b6 := bW6 w.heap.size w (Nat.le_refl _) t7
                  obtain ⟨g0, g1, g2, g3, g4, g5, g6, _⟩ := cel7 hR6
                  clear hW6 bW6 r0 s0 r1 s1 r2 s2 r3 s3 r4 s4 r5 s5 r6 s6
                  exact bodyPost_ret (v := .tuple #[.agg #[.int .i64 0, .int .i64 0, .string ⟨#[]⟩, .int .i64 0, .bool false, .bool false, .bool false], .int .i64 6]) (by simp [results, Tryz.results11, go_sem, g0, g1, g2, g3, g4, g5, g6]) rfl ⟨by rw [E.out] <;> rfl, b6⟩
                | true =>
                  go_wp2_with fail
                  refine (HV.out _).mono ?_
                  rintro e w6 ⟨rfl, b6'⟩
                  have o7 := keepR b6' o6
                  have row7 := keepR b6' hrow
                  have t7 := belowGo tB b6'
                  clear HV hrow tB b6' c0 c1 c2 c3 c4 c5 c6 o6 n4
                  obtain ⟨c0, c1, c2, c3, c4, c5, c6, _⟩ := cel7 row7
                  go_wp2_with fail
                  refine (HTX.out (by simp) _).mono ?_
                  rintro e w8 ⟨rfl, b8⟩
                  have o9 := keepR b8 o7
                  have row9 := keepR b8 row7
                  have t9 := belowGo t7 b8
                  clear HTX row7 o7 t7 b8 c0 c1 c2 c3 c4 c5 c6
                  by_cases hf : tx = s
                  · have E := Lib.hid (hok.out (by simp [hf]))
                    subst hf
                    have q1 : (tx == tx) = true := by simp
                    have q2 : (tx != tx) = false := by simp
                    obtain ⟨c0, c1, c2, c3, c4, c5, c6, _⟩ := cel7 row9
                    clear hok hno row9
                    obtain ⟨r0, r1, r2, r3, r4, r5, r6, s0, s1, s2, s3, s4, s5, s6⟩ := cel7 o9
                    go_wp2_with fail
                    obtain ⟨W6, hW6, hR6, bW6⟩ := done7 o9 (.int .i64 n0) (.int .i64 x) (.string ⟨c.toArray⟩) (.int .i64 v) (.bool t1) (.bool t2) (.bool t3)
                    rw [hW6]
                    have b6 := bW6 w.heap.size w (Nat.le_refl _) t9
                    obtain ⟨g0, g1, g2, g3, g4, g5, g6, _⟩ := cel7 hR6
                    clear hW6 bW6 r0 s0 r1 s1 r2 s2 r3 s3 r4 s4 r5 s5 r6 s6
                    exact bodyPost_ret (v := .tuple #[.agg #[.int .i64 n0, .int .i64 x, .string ⟨c.toArray⟩, .int .i64 v, .bool t1, .bool t2, .bool t3], .int .i64 0]) (by simp [results, Tryz.results11, go_sem, g0, g1, g2, g3, g4, g5, g6]) rfl ⟨by rw [E.out] <;> rfl, b6⟩
                  · have E := Lib.hid (hno.out (by simp [hf]))
                    have htx : (tx == s) = false := by rw [beq_eq_false_iff_ne]; exact hf
                    have htx2 : (tx != s) = true := by rw [bne, htx]; rfl
                    clear hok hno row9 hf
                    obtain ⟨r0, r1, r2, r3, r4, r5, r6, s0, s1, s2, s3, s4, s5, s6⟩ := cel7 o9
                    go_wp2_with fail
                    obtain ⟨W6, hW6, hR6, bW6⟩ := done7 o9 (.int .i64 0) (.int .i64 0) (.string ⟨#[]⟩) (.int .i64 0) (.bool false) (.bool false) (.bool false)
                    rw [hW6]
                    have b6 := bW6 w.heap.size w (Nat.le_refl _) t9
                    obtain ⟨g0, g1, g2, g3, g4, g5, g6, _⟩ := cel7 hR6
                    clear hW6 bW6 r0 s0 r1 s1 r2 s2 r3 s3 r4 s4 r5 s5 r6 s6
                    exact bodyPost_ret (v := .tuple #[.agg #[.int .i64 0, .int .i64 0, .string ⟨#[]⟩, .int .i64 0, .bool false, .bool false, .bool false], .int .i64 6]) (by simp [results, Tryz.results11, go_sem, g0, g1, g2, g3, g4, g5, g6]) rfl ⟨by rw [E.out] <;> rfl, b6⟩
    · have E := Lib.hid (hno.out (.inr (.inl hye)))
      have t7 := belowGo HB t5
      have z0 : (ye != 0) = true := by simpa using hye
      clear hok hno HV HTX PX dq n2c n4c t5
      obtain ⟨r0, r1, r2, r3, r4, r5, r6, s0, s1, s2, s3, s4, s5, s6⟩ := cel7 o5
      go_wp2_with fail
      obtain ⟨W6, hW6, hR6, bW6⟩ := done7 o5 (.int .i64 0) (.int .i64 0) (.string ⟨#[]⟩) (.int .i64 0) (.bool false) (.bool false) (.bool false)
      rw [hW6]
      have b6 := bW6 w.heap.size w (Nat.le_refl _) t7
      obtain ⟨g0, g1, g2, g3, g4, g5, g6, _⟩ := cel7 hR6
      clear hW6 bW6 r0 s0 r1 s1 r2 s2 r3 s3 r4 s4 r5 s5 r6 s6
      exact bodyPost_ret (v := .tuple #[.agg #[.int .i64 0, .int .i64 0, .string ⟨#[]⟩, .int .i64 0, .bool false, .bool false, .bool false], .int .i64 6]) (by simp [results, Tryz.results11, go_sem, g0, g1, g2, g3, g4, g5, g6]) rfl ⟨by rw [E.out] <;> rfl, b6⟩
  · have E := Lib.hid (reR_no (s := s) (by
      rintro ⟨p, hp⟩
      obtain ⟨n, P⟩ := HP.out p hp
      exact h5 (by rw [HW.out p n P]; rfl)))
    have h5' : ((ws.length : Int) != 5) = true := by
      have : ((ws.length : Int) == 5) = false := by rw [beq_eq_false_iff_ne]; omega
      simp [bne, this]
    clear h5 hmem HP HW hws
    generalize reR s = r at *
    go_enter Tryz.func11, Tryz.ntmps11
    go_wp2_with fail
    refine (HS.out _).mono ?_
    rintro _ w1 ⟨A, d, rfl, ho, b1⟩
    have o2 := keepR b1 o1
    have t1 := belowGo HB b1
    clear ho o1 HS
    obtain ⟨r0, r1, r2, r3, r4, r5, r6, s0, s1, s2, s3, s4, s5, s6⟩ := cel7 o2
    go_wp2_with fail
    obtain ⟨W6, hW6, hR6, bW6⟩ := done7 o2 (.int .i64 0) (.int .i64 0) (.string ⟨#[]⟩) (.int .i64 0) (.bool false) (.bool false) (.bool false)
    rw [hW6]
    have b6 := bW6 w.heap.size w (Nat.le_refl _) t1
    obtain ⟨g0, g1, g2, g3, g4, g5, g6, _⟩ := cel7 hR6
    clear hW6 bW6 r0 s0 r1 s1 r2 s2 r3 s3 r4 s4 r5 s5 r6 s6
    exact bodyPost_ret (v := .tuple #[.agg #[.int .i64 0, .int .i64 0, .string ⟨#[]⟩, .int .i64 0, .bool false, .bool false, .bool false], .int .i64 6]) (by simp [results, Tryz.results11, go_sem, g0, g1, g2, g3, g4, g5, g6]) rfl ⟨by rw [E.out] <;> rfl, b6⟩
end Go.Proofs.YtifioecofeojpaaGreatDoor
