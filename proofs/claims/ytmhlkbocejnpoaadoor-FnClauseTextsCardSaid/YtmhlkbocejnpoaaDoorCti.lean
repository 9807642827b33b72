/- impl.ClauseText. (by gen_ctx.py) -/
import Derived.Test.YtmhlkbocejnpoaaDoorCtx
import Derived.Test.YtmhlkbocejnpoaaDoorHeldt
import Derived.Test.YtmhlkbocejnpoaaDoorRin
namespace Go.Proofs.YtmhlkbocejnpoaaDoor
open Go.ChangeShapes Go.WideShapes Go.ChangeAt Go.RowKit
set_option linter.unusedVariables false

theorem if_wanted {c : Bool} {A B : Prop} (h : c = true) (a : A) : (if c = true then A else B) := by rw [if_pos h]; exact a
def updC (us : Nat → Value) (j : Nat) (v : Value) : Nat → Value := fun n => if n = j then v else us n
theorem updC_same (us : Nat → Value) (j : Nat) (v : Value) : updC us j v j = v := by unfold updC; rw [if_pos rfl]
theorem updC_other {us : Nat → Value} {j n : Nat} {v : Value} (h : n ≠ j) : updC us j v n = us n := by unfold updC; rw [if_neg h]
theorem setB_sameC {d : Array Bool} {i : Nat} (h : d.getD i true = false) : (d.setIfInBounds i true).getD i false = true := by
  have hi : i < d.size := by
    rcases Nat.lt_or_ge i d.size with h2 | h2
    · exact h2
    · simp [Array.getElem?_eq_none h2] at h
  simp [hi]
theorem getB_fC {d : Array Bool} {i : Nat} (h : d.getD i true = false) : d.getD i false = false := by
  cases h2 : d.getD i false with
  | false => rfl
  | true => have := getD_ft h2; rw [h] at this; cases this
def frCt (us : Nat → Value) : Act := { tmps := #[us 0, us 1, us 2, us 3, us 4, us 5, us 6, us 7, us 8, us 9, us 10, us 11, us 12, us 13, us 14, us 15, us 16, us 17, us 18, us 19, us 20, us 21, us 22, us 23, us 24, us 25, us 26], defers := [] }
theorem frCt_of {x0 x1 x2 x3 x4 x5 x6 x7 x8 x9 x10 x11 x12 x13 x14 x15 x16 x17 x18 x19 x20 x21 x22 x23 x24 x25 x26 : Value} : ({ tmps := #[x0, x1, x2, x3, x4, x5, x6, x7, x8, x9, x10, x11, x12, x13, x14, x15, x16, x17, x18, x19, x20, x21, x22, x23, x24, x25, x26], defers := [] } : Act) = frCt (fun k => #[x0, x1, x2, x3, x4, x5, x6, x7, x8, x9, x10, x11, x12, x13, x14, x15, x16, x17, x18, x19, x20, x21, x22, x23, x24, x25, x26].getD k undef) := rfl
structure InvCt (g : Nat) (p : Cls) (KK L EE O T : List UInt8) (w : World) (d : Array Bool) (us : Nat → Value) (W : World) : Prop where
  u1 : us 1 = .pointer (some ⟨g, 0, none⟩)
  u4 : us 4 = .string ⟨KK.toArray⟩
  u5 : us 5 = .string ⟨EE.toArray⟩
  bel : Below w.heap.size w W
  o0 : d.getD 0 false = true → us 15 = .pointer (some ⟨g, 0, none⟩)
  o1 : d.getD 1 false = true → us 16 = .string ⟨p.c.toArray⟩
  o2 : d.getD 2 false = true → us 17 = .string ⟨KK.toArray⟩
  o3 : d.getD 3 false = true → us 18 = .agg #[.string ⟨p.c.toArray⟩, .int .i64 p.k, .int .i64 p.p, .int .i64 p.v, .int .i64 p.r, .int .i64 p.e, .string ⟨p.t.toArray⟩]
  o4 : d.getD 4 false = true → us 19 = .string ⟨L.toArray⟩
  o5 : d.getD 5 false = true → us 20 = .string ⟨EE.toArray⟩
  o6 : d.getD 6 false = true → us 21 = .pointer (some ⟨g, 6, none⟩)
  o7 : d.getD 7 false = true → us 22 = .string ⟨p.t.toArray⟩
  o8 : d.getD 8 false = true → ∃ B, us 23 = .slice (some ⟨B, 0, none⟩) 2 2 ∧ w.heap.size ≤ B ∧ W.heap[B]? = some (.cells #[.string ⟨p.t.toArray⟩, .string ⟨#[46]⟩] 9 (0, 0))
  o9 : d.getD 9 false = true → us 24 = .string ⟨O.toArray⟩
  o10 : d.getD 10 false = true → ∃ B, us 25 = .slice (some ⟨B, 0, none⟩) 5 5 ∧ w.heap.size ≤ B ∧ W.heap[B]? = some (.cells #[.string ⟨p.c.toArray⟩, .string ⟨KK.toArray⟩, .string ⟨L.toArray⟩, .string ⟨EE.toArray⟩, .string ⟨O.toArray⟩] 9 (0, 0))
  o11 : d.getD 11 false = true → us 26 = .string ⟨T.toArray⟩
  o12 : d.getD 12 false = true → us 2 = .string ⟨T.toArray⟩
  o13 : d.getD 13 false = true → us 3 = .int .i64 0
set_option maxRecDepth 100000 in
set_option maxHeartbeats 16000000 in
theorem ctext_iok (p : Cls) (w : World) (hp : p.ok = true) (hs : p.sz ≤ 1048600) (ht : Tab w) :
    Calls Tryd.prog 8 #[.agg #[.string ⟨p.c.toArray⟩, .int .i64 p.k, .int .i64 p.p, .int .i64 p.v, .int .i64 p.r, .int .i64 p.e, .string ⟨p.t.toArray⟩]] w (Text2 w (ctR p)) := by
  obtain ⟨hxc, hxt⟩ := sz_c hs
  obtain ⟨hc, hk, h0, h1, h2, he, hr⟩ := cok hp
  have kb := KeepC.new w p
  have lc : p.c.length ≤ 6 := (pcode_iff.1 hc).1.2
  have lk := itoa_le hk
  have hke : -1 ≤ p.e ∧ p.e ≤ 6 := by omega
  have le := itoa_le hke
  have lt := toT_le hp
  have ER := Lib.hid (ctR_ok hp)
  have HV := Lib.hid (fun w => cvalid_i p w hxc hxt)
  rw [hp] at HV
  have HL := Lib.hid (fun w => letters_iC p w (by omega) (by omega) (by omega))
  have HO := Lib.hid (fun g w h => orS_row p.t g w h)
  have HJ := Lib.hid (fun g w h => join5 p.c (Lib.itoa p.k) (ltrs p) (Lib.itoa p.e) (toT p) g w h (by rw [ltrs_len]; omega))
  have ET : ctext p = p.c ++ 47 :: (Lib.itoa p.k ++ 47 :: (ltrs p ++ 47 :: (Lib.itoa p.e ++ 47 :: toT p))) := rfl
  rw [← ET] at HJ
  have EO : toT p = orT p.t := rfl
  rw [EO] at HJ
  have HF := Lib.hid (fun (n : Int) (h : -1 ≤ n ∧ n ≤ 6) (y : Sub (KeepC w p)) => (fmt_any n h y.w (ht.below y.h.bel)).mono fun e w' h => (⟨h.1, ⟨w', y.h.step h.2⟩, rfl⟩ : e = .returned (.string ⟨(Lib.itoa n).toArray⟩) ∧ ∃ z : Sub (KeepC w p), w' = z.w))
  generalize orT p.t = O at *
  generalize ctext p = T at *
  generalize ltrs p = L at *
  have q0 : ∀ y : Sub (KeepC w p), y.w.cell? ⟨w.heap.size, 0, none⟩ = some (.string ⟨p.c.toArray⟩) := fun y => y.h.cells.c0
  have q1 : ∀ y : Sub (KeepC w p), y.w.cell? ⟨w.heap.size, 1, none⟩ = some (.int .i64 p.k) := fun y => y.h.cells.c1
  have q2 : ∀ y : Sub (KeepC w p), y.w.cell? ⟨w.heap.size, 2, none⟩ = some (.int .i64 p.p) := fun y => y.h.cells.c2
  have q3 : ∀ y : Sub (KeepC w p), y.w.cell? ⟨w.heap.size, 3, none⟩ = some (.int .i64 p.v) := fun y => y.h.cells.c3
  have q4 : ∀ y : Sub (KeepC w p), y.w.cell? ⟨w.heap.size, 4, none⟩ = some (.int .i64 p.r) := fun y => y.h.cells.c4
  have q5 : ∀ y : Sub (KeepC w p), y.w.cell? ⟨w.heap.size, 5, none⟩ = some (.int .i64 p.e) := fun y => y.h.cells.c5
  have q6 : ∀ y : Sub (KeepC w p), y.w.cell? ⟨w.heap.size, 6, none⟩ = some (.string ⟨p.t.toArray⟩) := fun y => y.h.cells.c6
  have HK := Lib.hid (fun y : Sub (KeepC w p) => y.h)
  clear ET EO hc h0 h1 h2 he hr lc lk le lt
  go_enter Tryd.func8, Tryd.ntmps8
  have c0 := kb.cells.c0; have c1 := kb.cells.c1; have c2 := kb.cells.c2; have c3 := kb.cells.c3; have c4 := kb.cells.c4; have c5 := kb.cells.c5; have c6 := kb.cells.c6
  go_wp2_with fail
  refine (HV.out _).mono ?_
  rintro e w1 ⟨rfl, b1⟩
  replace kb := kb.step b1
  clear c0 c1 c2 c3 c4 c5 c6 b1
  go_wp2_with fail
  refine region_held (KeepC w p) (by kernel_rfl) (by kernel_rfl) kb.drew ?_
  repeat (go_big_quiet_step ((first | rfl | (go_at_call 19; exact HF.out _ (by assumption) _))))
  refine wpQuiet_nil ?_
  rintro _ ⟨y, rfl⟩
  have ky := HK.out y
  have hg0 : w.heap.size < y.w.heap.size := lt_some ky.a
  have hxx := Lib.hid ky.cells
  have HB := Lib.hid ky.bel
  clear kb ky HK hk hke HF HV q0 q1 q2 q3 q4 q5 q6
  generalize Lib.itoa p.k = KK at *
  generalize Lib.itoa p.e = EE at *
  go_wp2_with fail
  obtain ⟨wq, hwq⟩ : ∃ wq, wq = y.w := ⟨_, rfl⟩
  rw [← hwq] at hg0 hxx HB ⊢
  clear hwq
  obtain ⟨g, hgz⟩ : ∃ g, g = w.heap.size := ⟨_, rfl⟩
  rw [← hgz] at hg0 hxx ⊢
  have hg := hg0
  have n0 := hxx.out.c0; have n1 := hxx.out.c1; have n2 := hxx.out.c2; have n3 := hxx.out.c3; have n4 := hxx.out.c4; have n5 := hxx.out.c5; have n6 := hxx.out.c6
  clear hg0 hxx hgz
  refine region_inv (by kernel_rfl) (by kernel_rfl) (fun d' a' W => ∃ us, a' = frCt us ∧ InvCt g p KK L EE O T wq d' us W) ?_ ?_ ?_
  · refine ⟨_, frCt_of, ?_⟩
    have Z : ∀ k, (Array.replicate 14 false).getD k false = false := fun k => by
      rcases Nat.lt_or_ge k 14 with h | h
      · simp [h]
      · simp [Array.getElem?_eq_none, h]
    have Zn : ∀ {k : Nat} {p : Prop}, (Array.replicate 14 false).getD k false = true → p := fun {k p} h => by rw [Z k] at h; cases h
    exact { u1 := rfl, u4 := rfl, u5 := rfl, bel := (Below.refl _ _).drew, o0 := Zn, o1 := Zn, o2 := Zn, o3 := Zn, o4 := Zn, o5 := Zn, o6 := Zn, o7 := Zn, o8 := Zn, o9 := Zn, o10 := Zn, o11 := Zn, o12 := Zn, o13 := Zn }
  · intro i d' a' W hi hI
    obtain ⟨hun, oi, hoi, hall⟩ := mem_ready.1 hi
    have hlt : i < 14 := (Array.getElem?_eq_some_iff.1 hoi).1
    obtain ⟨us, rfl, I⟩ := hI
    have hbel := I.bel
    have hsz : wq.heap.size ≤ W.heap.size := hbel.size
    have e1 := I.u1
    have e4 := I.u4
    have e5 := I.u5
    have m0 := (I.bel.cell (p := ⟨g, 0, none⟩) hg).trans n0
    have m1 := (I.bel.cell (p := ⟨g, 1, none⟩) hg).trans n1
    have m2 := (I.bel.cell (p := ⟨g, 2, none⟩) hg).trans n2
    have m3 := (I.bel.cell (p := ⟨g, 3, none⟩) hg).trans n3
    have m4 := (I.bel.cell (p := ⟨g, 4, none⟩) hg).trans n4
    have m5 := (I.bel.cell (p := ⟨g, 5, none⟩) hg).trans n5
    have m6 := (I.bel.cell (p := ⟨g, 6, none⟩) hg).trans n6
    rcases (by omega : i = 0 ∨ i = 1 ∨ i = 2 ∨ i = 3 ∨ i = 4 ∨ i = 5 ∨ i = 6 ∨ i = 7 ∨ i = 8 ∨ i = 9 ∨ i = 10 ∨ i = 11 ∨ i = 12 ∨ i = 13) with rfl | rfl | rfl | rfl | rfl | rfl | rfl | rfl | rfl | rfl | rfl | rfl | rfl | rfl
    all_goals
      obtain rfl := Option.some.inj hoi
      clear hoi hlt hi
    · skip
      have DO : ∀ n, 0 ≠ n → (d'.setIfInBounds 0 true).getD n false = d'.getD n false := fun n h => getD_set_ne false h
      have D0 : (d'.setIfInBounds 0 true).getD 0 false = true := setB_sameC hun
      have D1 := DO 1 (by decide)
      have D2 := DO 2 (by decide)
      have D3 := DO 3 (by decide)
      have D4 := DO 4 (by decide)
      have D5 := DO 5 (by decide)
      have D6 := DO 6 (by decide)
      have D7 := DO 7 (by decide)
      have D8 := DO 8 (by decide)
      have D9 := DO 9 (by decide)
      have D10 := DO 10 (by decide)
      have D11 := DO 11 (by decide)
      have D12 := DO 12 (by decide)
      have D13 := DO 13 (by decide)
      have UO : ∀ n, n ≠ 15 → updC us 15 (.pointer (some ⟨g, 0, none⟩)) n = us n := fun n h => updC_other h
      have U15 : updC us 15 (.pointer (some ⟨g, 0, none⟩)) 15 = (.pointer (some ⟨g, 0, none⟩)) := updC_same _ _ _
      have U1 := UO 1 (by decide)
      have U2 := UO 2 (by decide)
      have U3 := UO 3 (by decide)
      have U4 := UO 4 (by decide)
      have U5 := UO 5 (by decide)
      have U16 := UO 16 (by decide)
      have U17 := UO 17 (by decide)
      have U18 := UO 18 (by decide)
      have U19 := UO 19 (by decide)
      have U20 := UO 20 (by decide)
      have U21 := UO 21 (by decide)
      have U22 := UO 22 (by decide)
      have U23 := UO 23 (by decide)
      have U24 := UO 24 (by decide)
      have U25 := UO 25 (by decide)
      have U26 := UO 26 (by decide)
      refine wpOp_step rfl (fun K hK => ?_)
      simp only [frCt, e1, e4, e5]
      go_simp
      refine hK _ _ ⟨updC us 15 (.pointer (some ⟨g, 0, none⟩)), by simp [frCt, updC, e1, e4, e5], { u1 := (U1.trans I.u1), u4 := (U4.trans I.u4), u5 := (U5.trans I.u5), bel := (I.bel), o0 := (fun _ => U15), o1 := (fun h => U16.trans (I.o1 (D1.symm.trans h))), o2 := (fun h => U17.trans (I.o2 (D2.symm.trans h))), o3 := (fun h => U18.trans (I.o3 (D3.symm.trans h))), o4 := (fun h => U19.trans (I.o4 (D4.symm.trans h))), o5 := (fun h => U20.trans (I.o5 (D5.symm.trans h))), o6 := (fun h => U21.trans (I.o6 (D6.symm.trans h))), o7 := (fun h => U22.trans (I.o7 (D7.symm.trans h))), o8 := (fun h => by rw [U23]; obtain ⟨B2, g1, g2, g3⟩ := I.o8 (D8.symm.trans h); exact ⟨B2, g1, g2, g3⟩), o9 := (fun h => U24.trans (I.o9 (D9.symm.trans h))), o10 := (fun h => by rw [U25]; obtain ⟨B2, g1, g2, g3⟩ := I.o10 (D10.symm.trans h); exact ⟨B2, g1, g2, g3⟩), o11 := (fun h => U26.trans (I.o11 (D11.symm.trans h))), o12 := (fun h => U2.trans (I.o12 (D12.symm.trans h))), o13 := (fun h => U3.trans (I.o13 (D13.symm.trans h))) }⟩
    · skip
      have DO : ∀ n, 1 ≠ n → (d'.setIfInBounds 1 true).getD n false = d'.getD n false := fun n h => getD_set_ne false h
      have D1 : (d'.setIfInBounds 1 true).getD 1 false = true := setB_sameC hun
      have D0 := DO 0 (by decide)
      have D2 := DO 2 (by decide)
      have D3 := DO 3 (by decide)
      have D4 := DO 4 (by decide)
      have D5 := DO 5 (by decide)
      have D6 := DO 6 (by decide)
      have D7 := DO 7 (by decide)
      have D8 := DO 8 (by decide)
      have D9 := DO 9 (by decide)
      have D10 := DO 10 (by decide)
      have D11 := DO 11 (by decide)
      have D12 := DO 12 (by decide)
      have D13 := DO 13 (by decide)
      have e15 := I.o0 (hall ⟨0, .data⟩ (by simp) rfl)
      have UO : ∀ n, n ≠ 16 → updC us 16 (.string ⟨p.c.toArray⟩) n = us n := fun n h => updC_other h
      have U16 : updC us 16 (.string ⟨p.c.toArray⟩) 16 = (.string ⟨p.c.toArray⟩) := updC_same _ _ _
      have U1 := UO 1 (by decide)
      have U2 := UO 2 (by decide)
      have U3 := UO 3 (by decide)
      have U4 := UO 4 (by decide)
      have U5 := UO 5 (by decide)
      have U15 := UO 15 (by decide)
      have U17 := UO 17 (by decide)
      have U18 := UO 18 (by decide)
      have U19 := UO 19 (by decide)
      have U20 := UO 20 (by decide)
      have U21 := UO 21 (by decide)
      have U22 := UO 22 (by decide)
      have U23 := UO 23 (by decide)
      have U24 := UO 24 (by decide)
      have U25 := UO 25 (by decide)
      have U26 := UO 26 (by decide)
      refine wpOp_step rfl (fun K hK => ?_)
      simp only [frCt, e1, e4, e5, e15]
      go_simp
      refine hK _ _ ⟨updC us 16 (.string ⟨p.c.toArray⟩), by simp [frCt, updC, e1, e4, e5, e15], { u1 := (U1.trans I.u1), u4 := (U4.trans I.u4), u5 := (U5.trans I.u5), bel := (I.bel), o0 := (fun h => U15.trans (I.o0 (D0.symm.trans h))), o1 := (fun _ => U16), o2 := (fun h => U17.trans (I.o2 (D2.symm.trans h))), o3 := (fun h => U18.trans (I.o3 (D3.symm.trans h))), o4 := (fun h => U19.trans (I.o4 (D4.symm.trans h))), o5 := (fun h => U20.trans (I.o5 (D5.symm.trans h))), o6 := (fun h => U21.trans (I.o6 (D6.symm.trans h))), o7 := (fun h => U22.trans (I.o7 (D7.symm.trans h))), o8 := (fun h => by rw [U23]; obtain ⟨B2, g1, g2, g3⟩ := I.o8 (D8.symm.trans h); exact ⟨B2, g1, g2, g3⟩), o9 := (fun h => U24.trans (I.o9 (D9.symm.trans h))), o10 := (fun h => by rw [U25]; obtain ⟨B2, g1, g2, g3⟩ := I.o10 (D10.symm.trans h); exact ⟨B2, g1, g2, g3⟩), o11 := (fun h => U26.trans (I.o11 (D11.symm.trans h))), o12 := (fun h => U2.trans (I.o12 (D12.symm.trans h))), o13 := (fun h => U3.trans (I.o13 (D13.symm.trans h))) }⟩
    · skip
      have DO : ∀ n, 2 ≠ n → (d'.setIfInBounds 2 true).getD n false = d'.getD n false := fun n h => getD_set_ne false h
      have D2 : (d'.setIfInBounds 2 true).getD 2 false = true := setB_sameC hun
      have D0 := DO 0 (by decide)
      have D1 := DO 1 (by decide)
      have D3 := DO 3 (by decide)
      have D4 := DO 4 (by decide)
      have D5 := DO 5 (by decide)
      have D6 := DO 6 (by decide)
      have D7 := DO 7 (by decide)
      have D8 := DO 8 (by decide)
      have D9 := DO 9 (by decide)
      have D10 := DO 10 (by decide)
      have D11 := DO 11 (by decide)
      have D12 := DO 12 (by decide)
      have D13 := DO 13 (by decide)
      have UO : ∀ n, n ≠ 17 → updC us 17 (.string ⟨KK.toArray⟩) n = us n := fun n h => updC_other h
      have U17 : updC us 17 (.string ⟨KK.toArray⟩) 17 = (.string ⟨KK.toArray⟩) := updC_same _ _ _
      have U1 := UO 1 (by decide)
      have U2 := UO 2 (by decide)
      have U3 := UO 3 (by decide)
      have U4 := UO 4 (by decide)
      have U5 := UO 5 (by decide)
      have U15 := UO 15 (by decide)
      have U16 := UO 16 (by decide)
      have U18 := UO 18 (by decide)
      have U19 := UO 19 (by decide)
      have U20 := UO 20 (by decide)
      have U21 := UO 21 (by decide)
      have U22 := UO 22 (by decide)
      have U23 := UO 23 (by decide)
      have U24 := UO 24 (by decide)
      have U25 := UO 25 (by decide)
      have U26 := UO 26 (by decide)
      refine wpOp_step rfl (fun K hK => ?_)
      simp only [frCt, e1, e4, e5]
      go_simp
      refine hK _ _ ⟨updC us 17 (.string ⟨KK.toArray⟩), by simp [frCt, updC, e1, e4, e5], { u1 := (U1.trans I.u1), u4 := (U4.trans I.u4), u5 := (U5.trans I.u5), bel := (I.bel), o0 := (fun h => U15.trans (I.o0 (D0.symm.trans h))), o1 := (fun h => U16.trans (I.o1 (D1.symm.trans h))), o2 := (fun _ => U17), o3 := (fun h => U18.trans (I.o3 (D3.symm.trans h))), o4 := (fun h => U19.trans (I.o4 (D4.symm.trans h))), o5 := (fun h => U20.trans (I.o5 (D5.symm.trans h))), o6 := (fun h => U21.trans (I.o6 (D6.symm.trans h))), o7 := (fun h => U22.trans (I.o7 (D7.symm.trans h))), o8 := (fun h => by rw [U23]; obtain ⟨B2, g1, g2, g3⟩ := I.o8 (D8.symm.trans h); exact ⟨B2, g1, g2, g3⟩), o9 := (fun h => U24.trans (I.o9 (D9.symm.trans h))), o10 := (fun h => by rw [U25]; obtain ⟨B2, g1, g2, g3⟩ := I.o10 (D10.symm.trans h); exact ⟨B2, g1, g2, g3⟩), o11 := (fun h => U26.trans (I.o11 (D11.symm.trans h))), o12 := (fun h => U2.trans (I.o12 (D12.symm.trans h))), o13 := (fun h => U3.trans (I.o13 (D13.symm.trans h))) }⟩
    · skip
      have DO : ∀ n, 3 ≠ n → (d'.setIfInBounds 3 true).getD n false = d'.getD n false := fun n h => getD_set_ne false h
      have D3 : (d'.setIfInBounds 3 true).getD 3 false = true := setB_sameC hun
      have D0 := DO 0 (by decide)
      have D1 := DO 1 (by decide)
      have D2 := DO 2 (by decide)
      have D4 := DO 4 (by decide)
      have D5 := DO 5 (by decide)
      have D6 := DO 6 (by decide)
      have D7 := DO 7 (by decide)
      have D8 := DO 8 (by decide)
      have D9 := DO 9 (by decide)
      have D10 := DO 10 (by decide)
      have D11 := DO 11 (by decide)
      have D12 := DO 12 (by decide)
      have D13 := DO 13 (by decide)
      have UO : ∀ n, n ≠ 18 → updC us 18 (.agg #[.string ⟨p.c.toArray⟩, .int .i64 p.k, .int .i64 p.p, .int .i64 p.v, .int .i64 p.r, .int .i64 p.e, .string ⟨p.t.toArray⟩]) n = us n := fun n h => updC_other h
      have U18 : updC us 18 (.agg #[.string ⟨p.c.toArray⟩, .int .i64 p.k, .int .i64 p.p, .int .i64 p.v, .int .i64 p.r, .int .i64 p.e, .string ⟨p.t.toArray⟩]) 18 = (.agg #[.string ⟨p.c.toArray⟩, .int .i64 p.k, .int .i64 p.p, .int .i64 p.v, .int .i64 p.r, .int .i64 p.e, .string ⟨p.t.toArray⟩]) := updC_same _ _ _
      have U1 := UO 1 (by decide)
      have U2 := UO 2 (by decide)
      have U3 := UO 3 (by decide)
      have U4 := UO 4 (by decide)
      have U5 := UO 5 (by decide)
      have U15 := UO 15 (by decide)
      have U16 := UO 16 (by decide)
      have U17 := UO 17 (by decide)
      have U19 := UO 19 (by decide)
      have U20 := UO 20 (by decide)
      have U21 := UO 21 (by decide)
      have U22 := UO 22 (by decide)
      have U23 := UO 23 (by decide)
      have U24 := UO 24 (by decide)
      have U25 := UO 25 (by decide)
      have U26 := UO 26 (by decide)
      refine wpOp_step rfl (fun K hK => ?_)
      simp only [frCt, e1, e4, e5]
      go_simp
      refine hK _ _ ⟨updC us 18 (.agg #[.string ⟨p.c.toArray⟩, .int .i64 p.k, .int .i64 p.p, .int .i64 p.v, .int .i64 p.r, .int .i64 p.e, .string ⟨p.t.toArray⟩]), by simp [frCt, updC, e1, e4, e5], { u1 := (U1.trans I.u1), u4 := (U4.trans I.u4), u5 := (U5.trans I.u5), bel := (I.bel), o0 := (fun h => U15.trans (I.o0 (D0.symm.trans h))), o1 := (fun h => U16.trans (I.o1 (D1.symm.trans h))), o2 := (fun h => U17.trans (I.o2 (D2.symm.trans h))), o3 := (fun _ => U18), o4 := (fun h => U19.trans (I.o4 (D4.symm.trans h))), o5 := (fun h => U20.trans (I.o5 (D5.symm.trans h))), o6 := (fun h => U21.trans (I.o6 (D6.symm.trans h))), o7 := (fun h => U22.trans (I.o7 (D7.symm.trans h))), o8 := (fun h => by rw [U23]; obtain ⟨B2, g1, g2, g3⟩ := I.o8 (D8.symm.trans h); exact ⟨B2, g1, g2, g3⟩), o9 := (fun h => U24.trans (I.o9 (D9.symm.trans h))), o10 := (fun h => by rw [U25]; obtain ⟨B2, g1, g2, g3⟩ := I.o10 (D10.symm.trans h); exact ⟨B2, g1, g2, g3⟩), o11 := (fun h => U26.trans (I.o11 (D11.symm.trans h))), o12 := (fun h => U2.trans (I.o12 (D12.symm.trans h))), o13 := (fun h => U3.trans (I.o13 (D13.symm.trans h))) }⟩
    · skip
      have DO : ∀ n, 4 ≠ n → (d'.setIfInBounds 4 true).getD n false = d'.getD n false := fun n h => getD_set_ne false h
      have D4 : (d'.setIfInBounds 4 true).getD 4 false = true := setB_sameC hun
      have D0 := DO 0 (by decide)
      have D1 := DO 1 (by decide)
      have D2 := DO 2 (by decide)
      have D3 := DO 3 (by decide)
      have D5 := DO 5 (by decide)
      have D6 := DO 6 (by decide)
      have D7 := DO 7 (by decide)
      have D8 := DO 8 (by decide)
      have D9 := DO 9 (by decide)
      have D10 := DO 10 (by decide)
      have D11 := DO 11 (by decide)
      have D12 := DO 12 (by decide)
      have D13 := DO 13 (by decide)
      have e18 := I.o3 (hall ⟨3, .data⟩ (by simp) rfl)
      have UO : ∀ n, n ≠ 19 → updC us 19 (.string ⟨L.toArray⟩) n = us n := fun n h => updC_other h
      have U19 : updC us 19 (.string ⟨L.toArray⟩) 19 = (.string ⟨L.toArray⟩) := updC_same _ _ _
      have U1 := UO 1 (by decide)
      have U2 := UO 2 (by decide)
      have U3 := UO 3 (by decide)
      have U4 := UO 4 (by decide)
      have U5 := UO 5 (by decide)
      have U15 := UO 15 (by decide)
      have U16 := UO 16 (by decide)
      have U17 := UO 17 (by decide)
      have U18 := UO 18 (by decide)
      have U20 := UO 20 (by decide)
      have U21 := UO 21 (by decide)
      have U22 := UO 22 (by decide)
      have U23 := UO 23 (by decide)
      have U24 := UO 24 (by decide)
      have U25 := UO 25 (by decide)
      have U26 := UO 26 (by decide)
      refine wpOp_step rfl (fun K hK => ?_)
      simp only [frCt, e1, e4, e5, e18]
      go_simp
      go_wp2_with (go_at_call 21; refine (HL.out W).mono ?_; rintro e w2 ⟨rfl, hb2⟩)
      exact ⟨updC us 19 (.string ⟨L.toArray⟩), by simp [frCt, updC, e1, e4, e5, e18], { u1 := (U1.trans I.u1), u4 := (U4.trans I.u4), u5 := (U5.trans I.u5), bel := (I.bel.trans (hb2.mono hsz)), o0 := (fun h => U15.trans (I.o0 (D0.symm.trans h))), o1 := (fun h => U16.trans (I.o1 (D1.symm.trans h))), o2 := (fun h => U17.trans (I.o2 (D2.symm.trans h))), o3 := (fun h => U18.trans (I.o3 (D3.symm.trans h))), o4 := (fun _ => U19), o5 := (fun h => U20.trans (I.o5 (D5.symm.trans h))), o6 := (fun h => U21.trans (I.o6 (D6.symm.trans h))), o7 := (fun h => U22.trans (I.o7 (D7.symm.trans h))), o8 := (fun h => by rw [U23]; obtain ⟨B2, g1, g2, g3⟩ := I.o8 (D8.symm.trans h); exact ⟨B2, g1, g2, (hb2.block B2 (lt_some g3)).trans g3⟩), o9 := (fun h => U24.trans (I.o9 (D9.symm.trans h))), o10 := (fun h => by rw [U25]; obtain ⟨B2, g1, g2, g3⟩ := I.o10 (D10.symm.trans h); exact ⟨B2, g1, g2, (hb2.block B2 (lt_some g3)).trans g3⟩), o11 := (fun h => U26.trans (I.o11 (D11.symm.trans h))), o12 := (fun h => U2.trans (I.o12 (D12.symm.trans h))), o13 := (fun h => U3.trans (I.o13 (D13.symm.trans h))) }⟩
    · skip
      have DO : ∀ n, 5 ≠ n → (d'.setIfInBounds 5 true).getD n false = d'.getD n false := fun n h => getD_set_ne false h
      have D5 : (d'.setIfInBounds 5 true).getD 5 false = true := setB_sameC hun
      have D0 := DO 0 (by decide)
      have D1 := DO 1 (by decide)
      have D2 := DO 2 (by decide)
      have D3 := DO 3 (by decide)
      have D4 := DO 4 (by decide)
      have D6 := DO 6 (by decide)
      have D7 := DO 7 (by decide)
      have D8 := DO 8 (by decide)
      have D9 := DO 9 (by decide)
      have D10 := DO 10 (by decide)
      have D11 := DO 11 (by decide)
      have D12 := DO 12 (by decide)
      have D13 := DO 13 (by decide)
      have UO : ∀ n, n ≠ 20 → updC us 20 (.string ⟨EE.toArray⟩) n = us n := fun n h => updC_other h
      have U20 : updC us 20 (.string ⟨EE.toArray⟩) 20 = (.string ⟨EE.toArray⟩) := updC_same _ _ _
      have U1 := UO 1 (by decide)
      have U2 := UO 2 (by decide)
      have U3 := UO 3 (by decide)
      have U4 := UO 4 (by decide)
      have U5 := UO 5 (by decide)
      have U15 := UO 15 (by decide)
      have U16 := UO 16 (by decide)
      have U17 := UO 17 (by decide)
      have U18 := UO 18 (by decide)
      have U19 := UO 19 (by decide)
      have U21 := UO 21 (by decide)
      have U22 := UO 22 (by decide)
      have U23 := UO 23 (by decide)
      have U24 := UO 24 (by decide)
      have U25 := UO 25 (by decide)
      have U26 := UO 26 (by decide)
      refine wpOp_step rfl (fun K hK => ?_)
      simp only [frCt, e1, e4, e5]
      go_simp
      refine hK _ _ ⟨updC us 20 (.string ⟨EE.toArray⟩), by simp [frCt, updC, e1, e4, e5], { u1 := (U1.trans I.u1), u4 := (U4.trans I.u4), u5 := (U5.trans I.u5), bel := (I.bel), o0 := (fun h => U15.trans (I.o0 (D0.symm.trans h))), o1 := (fun h => U16.trans (I.o1 (D1.symm.trans h))), o2 := (fun h => U17.trans (I.o2 (D2.symm.trans h))), o3 := (fun h => U18.trans (I.o3 (D3.symm.trans h))), o4 := (fun h => U19.trans (I.o4 (D4.symm.trans h))), o5 := (fun _ => U20), o6 := (fun h => U21.trans (I.o6 (D6.symm.trans h))), o7 := (fun h => U22.trans (I.o7 (D7.symm.trans h))), o8 := (fun h => by rw [U23]; obtain ⟨B2, g1, g2, g3⟩ := I.o8 (D8.symm.trans h); exact ⟨B2, g1, g2, g3⟩), o9 := (fun h => U24.trans (I.o9 (D9.symm.trans h))), o10 := (fun h => by rw [U25]; obtain ⟨B2, g1, g2, g3⟩ := I.o10 (D10.symm.trans h); exact ⟨B2, g1, g2, g3⟩), o11 := (fun h => U26.trans (I.o11 (D11.symm.trans h))), o12 := (fun h => U2.trans (I.o12 (D12.symm.trans h))), o13 := (fun h => U3.trans (I.o13 (D13.symm.trans h))) }⟩
    · skip
      have DO : ∀ n, 6 ≠ n → (d'.setIfInBounds 6 true).getD n false = d'.getD n false := fun n h => getD_set_ne false h
      have D6 : (d'.setIfInBounds 6 true).getD 6 false = true := setB_sameC hun
      have D0 := DO 0 (by decide)
      have D1 := DO 1 (by decide)
      have D2 := DO 2 (by decide)
      have D3 := DO 3 (by decide)
      have D4 := DO 4 (by decide)
      have D5 := DO 5 (by decide)
      have D7 := DO 7 (by decide)
      have D8 := DO 8 (by decide)
      have D9 := DO 9 (by decide)
      have D10 := DO 10 (by decide)
      have D11 := DO 11 (by decide)
      have D12 := DO 12 (by decide)
      have D13 := DO 13 (by decide)
      have UO : ∀ n, n ≠ 21 → updC us 21 (.pointer (some ⟨g, 6, none⟩)) n = us n := fun n h => updC_other h
      have U21 : updC us 21 (.pointer (some ⟨g, 6, none⟩)) 21 = (.pointer (some ⟨g, 6, none⟩)) := updC_same _ _ _
      have U1 := UO 1 (by decide)
      have U2 := UO 2 (by decide)
      have U3 := UO 3 (by decide)
      have U4 := UO 4 (by decide)
      have U5 := UO 5 (by decide)
      have U15 := UO 15 (by decide)
      have U16 := UO 16 (by decide)
      have U17 := UO 17 (by decide)
      have U18 := UO 18 (by decide)
      have U19 := UO 19 (by decide)
      have U20 := UO 20 (by decide)
      have U22 := UO 22 (by decide)
      have U23 := UO 23 (by decide)
      have U24 := UO 24 (by decide)
      have U25 := UO 25 (by decide)
      have U26 := UO 26 (by decide)
      refine wpOp_step rfl (fun K hK => ?_)
      simp only [frCt, e1, e4, e5]
      go_simp
      refine hK _ _ ⟨updC us 21 (.pointer (some ⟨g, 6, none⟩)), by simp [frCt, updC, e1, e4, e5], { u1 := (U1.trans I.u1), u4 := (U4.trans I.u4), u5 := (U5.trans I.u5), bel := (I.bel), o0 := (fun h => U15.trans (I.o0 (D0.symm.trans h))), o1 := (fun h => U16.trans (I.o1 (D1.symm.trans h))), o2 := (fun h => U17.trans (I.o2 (D2.symm.trans h))), o3 := (fun h => U18.trans (I.o3 (D3.symm.trans h))), o4 := (fun h => U19.trans (I.o4 (D4.symm.trans h))), o5 := (fun h => U20.trans (I.o5 (D5.symm.trans h))), o6 := (fun _ => U21), o7 := (fun h => U22.trans (I.o7 (D7.symm.trans h))), o8 := (fun h => by rw [U23]; obtain ⟨B2, g1, g2, g3⟩ := I.o8 (D8.symm.trans h); exact ⟨B2, g1, g2, g3⟩), o9 := (fun h => U24.trans (I.o9 (D9.symm.trans h))), o10 := (fun h => by rw [U25]; obtain ⟨B2, g1, g2, g3⟩ := I.o10 (D10.symm.trans h); exact ⟨B2, g1, g2, g3⟩), o11 := (fun h => U26.trans (I.o11 (D11.symm.trans h))), o12 := (fun h => U2.trans (I.o12 (D12.symm.trans h))), o13 := (fun h => U3.trans (I.o13 (D13.symm.trans h))) }⟩
    · skip
      have DO : ∀ n, 7 ≠ n → (d'.setIfInBounds 7 true).getD n false = d'.getD n false := fun n h => getD_set_ne false h
      have D7 : (d'.setIfInBounds 7 true).getD 7 false = true := setB_sameC hun
      have D0 := DO 0 (by decide)
      have D1 := DO 1 (by decide)
      have D2 := DO 2 (by decide)
      have D3 := DO 3 (by decide)
      have D4 := DO 4 (by decide)
      have D5 := DO 5 (by decide)
      have D6 := DO 6 (by decide)
      have D8 := DO 8 (by decide)
      have D9 := DO 9 (by decide)
      have D10 := DO 10 (by decide)
      have D11 := DO 11 (by decide)
      have D12 := DO 12 (by decide)
      have D13 := DO 13 (by decide)
      have e21 := I.o6 (hall ⟨6, .data⟩ (by simp) rfl)
      have UO : ∀ n, n ≠ 22 → updC us 22 (.string ⟨p.t.toArray⟩) n = us n := fun n h => updC_other h
      have U22 : updC us 22 (.string ⟨p.t.toArray⟩) 22 = (.string ⟨p.t.toArray⟩) := updC_same _ _ _
      have U1 := UO 1 (by decide)
      have U2 := UO 2 (by decide)
      have U3 := UO 3 (by decide)
      have U4 := UO 4 (by decide)
      have U5 := UO 5 (by decide)
      have U15 := UO 15 (by decide)
      have U16 := UO 16 (by decide)
      have U17 := UO 17 (by decide)
      have U18 := UO 18 (by decide)
      have U19 := UO 19 (by decide)
      have U20 := UO 20 (by decide)
      have U21 := UO 21 (by decide)
      have U23 := UO 23 (by decide)
      have U24 := UO 24 (by decide)
      have U25 := UO 25 (by decide)
      have U26 := UO 26 (by decide)
      refine wpOp_step rfl (fun K hK => ?_)
      simp only [frCt, e1, e4, e5, e21]
      go_simp
      refine hK _ _ ⟨updC us 22 (.string ⟨p.t.toArray⟩), by simp [frCt, updC, e1, e4, e5, e21], { u1 := (U1.trans I.u1), u4 := (U4.trans I.u4), u5 := (U5.trans I.u5), bel := (I.bel), o0 := (fun h => U15.trans (I.o0 (D0.symm.trans h))), o1 := (fun h => U16.trans (I.o1 (D1.symm.trans h))), o2 := (fun h => U17.trans (I.o2 (D2.symm.trans h))), o3 := (fun h => U18.trans (I.o3 (D3.symm.trans h))), o4 := (fun h => U19.trans (I.o4 (D4.symm.trans h))), o5 := (fun h => U20.trans (I.o5 (D5.symm.trans h))), o6 := (fun h => U21.trans (I.o6 (D6.symm.trans h))), o7 := (fun _ => U22), o8 := (fun h => by rw [U23]; obtain ⟨B2, g1, g2, g3⟩ := I.o8 (D8.symm.trans h); exact ⟨B2, g1, g2, g3⟩), o9 := (fun h => U24.trans (I.o9 (D9.symm.trans h))), o10 := (fun h => by rw [U25]; obtain ⟨B2, g1, g2, g3⟩ := I.o10 (D10.symm.trans h); exact ⟨B2, g1, g2, g3⟩), o11 := (fun h => U26.trans (I.o11 (D11.symm.trans h))), o12 := (fun h => U2.trans (I.o12 (D12.symm.trans h))), o13 := (fun h => U3.trans (I.o13 (D13.symm.trans h))) }⟩
    · skip
      have DO : ∀ n, 8 ≠ n → (d'.setIfInBounds 8 true).getD n false = d'.getD n false := fun n h => getD_set_ne false h
      have D8 : (d'.setIfInBounds 8 true).getD 8 false = true := setB_sameC hun
      have D0 := DO 0 (by decide)
      have D1 := DO 1 (by decide)
      have D2 := DO 2 (by decide)
      have D3 := DO 3 (by decide)
      have D4 := DO 4 (by decide)
      have D5 := DO 5 (by decide)
      have D6 := DO 6 (by decide)
      have D7 := DO 7 (by decide)
      have D9 := DO 9 (by decide)
      have D10 := DO 10 (by decide)
      have D11 := DO 11 (by decide)
      have D12 := DO 12 (by decide)
      have D13 := DO 13 (by decide)
      have e22 := I.o7 (hall ⟨7, .data⟩ (by simp) rfl)
      have UO : ∀ n, n ≠ 23 → updC us 23 (.slice (some ⟨W.heap.size, 0, none⟩) 2 2) n = us n := fun n h => updC_other h
      have U23 : updC us 23 (.slice (some ⟨W.heap.size, 0, none⟩) 2 2) 23 = (.slice (some ⟨W.heap.size, 0, none⟩) 2 2) := updC_same _ _ _
      have U1 := UO 1 (by decide)
      have U2 := UO 2 (by decide)
      have U3 := UO 3 (by decide)
      have U4 := UO 4 (by decide)
      have U5 := UO 5 (by decide)
      have U15 := UO 15 (by decide)
      have U16 := UO 16 (by decide)
      have U17 := UO 17 (by decide)
      have U18 := UO 18 (by decide)
      have U19 := UO 19 (by decide)
      have U20 := UO 20 (by decide)
      have U21 := UO 21 (by decide)
      have U22 := UO 22 (by decide)
      have U24 := UO 24 (by decide)
      have U25 := UO 25 (by decide)
      have U26 := UO 26 (by decide)
      refine wpOp_step rfl (fun K hK => ?_)
      simp only [frCt, e1, e4, e5, e22]
      go_simp
      refine hK _ _ ⟨updC us 23 (.slice (some ⟨W.heap.size, 0, none⟩) 2 2), by simp [frCt, updC, e1, e4, e5, e22], { u1 := (U1.trans I.u1), u4 := (U4.trans I.u4), u5 := (U5.trans I.u5), bel := (I.bel.alloc hsz _), o0 := (fun h => U15.trans (I.o0 (D0.symm.trans h))), o1 := (fun h => U16.trans (I.o1 (D1.symm.trans h))), o2 := (fun h => U17.trans (I.o2 (D2.symm.trans h))), o3 := (fun h => U18.trans (I.o3 (D3.symm.trans h))), o4 := (fun h => U19.trans (I.o4 (D4.symm.trans h))), o5 := (fun h => U20.trans (I.o5 (D5.symm.trans h))), o6 := (fun h => U21.trans (I.o6 (D6.symm.trans h))), o7 := (fun h => U22.trans (I.o7 (D7.symm.trans h))), o8 := (fun _ => ⟨W.heap.size, U23, hsz, heap_alloc_new W _⟩), o9 := (fun h => U24.trans (I.o9 (D9.symm.trans h))), o10 := (fun h => by rw [U25]; obtain ⟨B2, g1, g2, g3⟩ := I.o10 (D10.symm.trans h); exact ⟨B2, g1, g2, (heap_alloc_old W _ (lt_some g3)).trans g3⟩), o11 := (fun h => U26.trans (I.o11 (D11.symm.trans h))), o12 := (fun h => U2.trans (I.o12 (D12.symm.trans h))), o13 := (fun h => U3.trans (I.o13 (D13.symm.trans h))) }⟩
    · skip
      have DO : ∀ n, 9 ≠ n → (d'.setIfInBounds 9 true).getD n false = d'.getD n false := fun n h => getD_set_ne false h
      have D9 : (d'.setIfInBounds 9 true).getD 9 false = true := setB_sameC hun
      have D0 := DO 0 (by decide)
      have D1 := DO 1 (by decide)
      have D2 := DO 2 (by decide)
      have D3 := DO 3 (by decide)
      have D4 := DO 4 (by decide)
      have D5 := DO 5 (by decide)
      have D6 := DO 6 (by decide)
      have D7 := DO 7 (by decide)
      have D8 := DO 8 (by decide)
      have D10 := DO 10 (by decide)
      have D11 := DO 11 (by decide)
      have D12 := DO 12 (by decide)
      have D13 := DO 13 (by decide)
      obtain ⟨B8, e23, hlo8, hB8⟩ := I.o8 (hall ⟨8, .data⟩ (by simp) rfl)
      have UO : ∀ n, n ≠ 24 → updC us 24 (.string ⟨O.toArray⟩) n = us n := fun n h => updC_other h
      have U24 : updC us 24 (.string ⟨O.toArray⟩) 24 = (.string ⟨O.toArray⟩) := updC_same _ _ _
      have U1 := UO 1 (by decide)
      have U2 := UO 2 (by decide)
      have U3 := UO 3 (by decide)
      have U4 := UO 4 (by decide)
      have U5 := UO 5 (by decide)
      have U15 := UO 15 (by decide)
      have U16 := UO 16 (by decide)
      have U17 := UO 17 (by decide)
      have U18 := UO 18 (by decide)
      have U19 := UO 19 (by decide)
      have U20 := UO 20 (by decide)
      have U21 := UO 21 (by decide)
      have U22 := UO 22 (by decide)
      have U23 := UO 23 (by decide)
      have U25 := UO 25 (by decide)
      have U26 := UO 26 (by decide)
      refine wpOp_step rfl (fun K hK => ?_)
      simp only [frCt, e1, e4, e5, e23]
      go_simp
      go_wp2_with (go_at_call 22; refine (HO.out B8 W hB8).mono ?_; rintro e w2 ⟨rfl, hb2⟩)
      exact ⟨updC us 24 (.string ⟨O.toArray⟩), by simp [frCt, updC, e1, e4, e5, e23], { u1 := (U1.trans I.u1), u4 := (U4.trans I.u4), u5 := (U5.trans I.u5), bel := (I.bel.trans (hb2.mono hsz)), o0 := (fun h => U15.trans (I.o0 (D0.symm.trans h))), o1 := (fun h => U16.trans (I.o1 (D1.symm.trans h))), o2 := (fun h => U17.trans (I.o2 (D2.symm.trans h))), o3 := (fun h => U18.trans (I.o3 (D3.symm.trans h))), o4 := (fun h => U19.trans (I.o4 (D4.symm.trans h))), o5 := (fun h => U20.trans (I.o5 (D5.symm.trans h))), o6 := (fun h => U21.trans (I.o6 (D6.symm.trans h))), o7 := (fun h => U22.trans (I.o7 (D7.symm.trans h))), o8 := (fun h => by rw [U23]; obtain ⟨B2, g1, g2, g3⟩ := I.o8 (D8.symm.trans h); exact ⟨B2, g1, g2, (hb2.block B2 (lt_some g3)).trans g3⟩), o9 := (fun _ => U24), o10 := (fun h => by rw [U25]; obtain ⟨B2, g1, g2, g3⟩ := I.o10 (D10.symm.trans h); exact ⟨B2, g1, g2, (hb2.block B2 (lt_some g3)).trans g3⟩), o11 := (fun h => U26.trans (I.o11 (D11.symm.trans h))), o12 := (fun h => U2.trans (I.o12 (D12.symm.trans h))), o13 := (fun h => U3.trans (I.o13 (D13.symm.trans h))) }⟩
    · skip
      have DO : ∀ n, 10 ≠ n → (d'.setIfInBounds 10 true).getD n false = d'.getD n false := fun n h => getD_set_ne false h
      have D10 : (d'.setIfInBounds 10 true).getD 10 false = true := setB_sameC hun
      have D0 := DO 0 (by decide)
      have D1 := DO 1 (by decide)
      have D2 := DO 2 (by decide)
      have D3 := DO 3 (by decide)
      have D4 := DO 4 (by decide)
      have D5 := DO 5 (by decide)
      have D6 := DO 6 (by decide)
      have D7 := DO 7 (by decide)
      have D8 := DO 8 (by decide)
      have D9 := DO 9 (by decide)
      have D11 := DO 11 (by decide)
      have D12 := DO 12 (by decide)
      have D13 := DO 13 (by decide)
      have e16 := I.o1 (hall ⟨1, .data⟩ (by simp) rfl)
      have e17 := I.o2 (hall ⟨2, .data⟩ (by simp) rfl)
      have e19 := I.o4 (hall ⟨4, .data⟩ (by simp) rfl)
      have e20 := I.o5 (hall ⟨5, .data⟩ (by simp) rfl)
      have e24 := I.o9 (hall ⟨9, .data⟩ (by simp) rfl)
      have UO : ∀ n, n ≠ 25 → updC us 25 (.slice (some ⟨W.heap.size, 0, none⟩) 5 5) n = us n := fun n h => updC_other h
      have U25 : updC us 25 (.slice (some ⟨W.heap.size, 0, none⟩) 5 5) 25 = (.slice (some ⟨W.heap.size, 0, none⟩) 5 5) := updC_same _ _ _
      have U1 := UO 1 (by decide)
      have U2 := UO 2 (by decide)
      have U3 := UO 3 (by decide)
      have U4 := UO 4 (by decide)
      have U5 := UO 5 (by decide)
      have U15 := UO 15 (by decide)
      have U16 := UO 16 (by decide)
      have U17 := UO 17 (by decide)
      have U18 := UO 18 (by decide)
      have U19 := UO 19 (by decide)
      have U20 := UO 20 (by decide)
      have U21 := UO 21 (by decide)
      have U22 := UO 22 (by decide)
      have U23 := UO 23 (by decide)
      have U24 := UO 24 (by decide)
      have U26 := UO 26 (by decide)
      refine wpOp_step rfl (fun K hK => ?_)
      simp only [frCt, e1, e4, e5, e16, e17, e19, e20, e24]
      go_simp
      refine hK _ _ ⟨updC us 25 (.slice (some ⟨W.heap.size, 0, none⟩) 5 5), by simp [frCt, updC, e1, e4, e5, e16, e17, e19, e20, e24], { u1 := (U1.trans I.u1), u4 := (U4.trans I.u4), u5 := (U5.trans I.u5), bel := (I.bel.alloc hsz _), o0 := (fun h => U15.trans (I.o0 (D0.symm.trans h))), o1 := (fun h => U16.trans (I.o1 (D1.symm.trans h))), o2 := (fun h => U17.trans (I.o2 (D2.symm.trans h))), o3 := (fun h => U18.trans (I.o3 (D3.symm.trans h))), o4 := (fun h => U19.trans (I.o4 (D4.symm.trans h))), o5 := (fun h => U20.trans (I.o5 (D5.symm.trans h))), o6 := (fun h => U21.trans (I.o6 (D6.symm.trans h))), o7 := (fun h => U22.trans (I.o7 (D7.symm.trans h))), o8 := (fun h => by rw [U23]; obtain ⟨B2, g1, g2, g3⟩ := I.o8 (D8.symm.trans h); exact ⟨B2, g1, g2, (heap_alloc_old W _ (lt_some g3)).trans g3⟩), o9 := (fun h => U24.trans (I.o9 (D9.symm.trans h))), o10 := (fun _ => ⟨W.heap.size, U25, hsz, heap_alloc_new W _⟩), o11 := (fun h => U26.trans (I.o11 (D11.symm.trans h))), o12 := (fun h => U2.trans (I.o12 (D12.symm.trans h))), o13 := (fun h => U3.trans (I.o13 (D13.symm.trans h))) }⟩
    · skip
      have DO : ∀ n, 11 ≠ n → (d'.setIfInBounds 11 true).getD n false = d'.getD n false := fun n h => getD_set_ne false h
      have D11 : (d'.setIfInBounds 11 true).getD 11 false = true := setB_sameC hun
      have D0 := DO 0 (by decide)
      have D1 := DO 1 (by decide)
      have D2 := DO 2 (by decide)
      have D3 := DO 3 (by decide)
      have D4 := DO 4 (by decide)
      have D5 := DO 5 (by decide)
      have D6 := DO 6 (by decide)
      have D7 := DO 7 (by decide)
      have D8 := DO 8 (by decide)
      have D9 := DO 9 (by decide)
      have D10 := DO 10 (by decide)
      have D12 := DO 12 (by decide)
      have D13 := DO 13 (by decide)
      obtain ⟨B10, e25, hlo10, hB10⟩ := I.o10 (hall ⟨10, .data⟩ (by simp) rfl)
      have UO : ∀ n, n ≠ 26 → updC us 26 (.string ⟨T.toArray⟩) n = us n := fun n h => updC_other h
      have U26 : updC us 26 (.string ⟨T.toArray⟩) 26 = (.string ⟨T.toArray⟩) := updC_same _ _ _
      have U1 := UO 1 (by decide)
      have U2 := UO 2 (by decide)
      have U3 := UO 3 (by decide)
      have U4 := UO 4 (by decide)
      have U5 := UO 5 (by decide)
      have U15 := UO 15 (by decide)
      have U16 := UO 16 (by decide)
      have U17 := UO 17 (by decide)
      have U18 := UO 18 (by decide)
      have U19 := UO 19 (by decide)
      have U20 := UO 20 (by decide)
      have U21 := UO 21 (by decide)
      have U22 := UO 22 (by decide)
      have U23 := UO 23 (by decide)
      have U24 := UO 24 (by decide)
      have U25 := UO 25 (by decide)
      refine wpOp_step rfl (fun K hK => ?_)
      simp only [frCt, e1, e4, e5, e25]
      go_simp
      go_wp2_with (go_at_call 20; refine (HJ.out B10 W hB10).mono ?_; rintro e w2 ⟨rfl, hb2⟩)
      exact ⟨updC us 26 (.string ⟨T.toArray⟩), by simp [frCt, updC, e1, e4, e5, e25], { u1 := (U1.trans I.u1), u4 := (U4.trans I.u4), u5 := (U5.trans I.u5), bel := (I.bel.trans (hb2.mono hsz)), o0 := (fun h => U15.trans (I.o0 (D0.symm.trans h))), o1 := (fun h => U16.trans (I.o1 (D1.symm.trans h))), o2 := (fun h => U17.trans (I.o2 (D2.symm.trans h))), o3 := (fun h => U18.trans (I.o3 (D3.symm.trans h))), o4 := (fun h => U19.trans (I.o4 (D4.symm.trans h))), o5 := (fun h => U20.trans (I.o5 (D5.symm.trans h))), o6 := (fun h => U21.trans (I.o6 (D6.symm.trans h))), o7 := (fun h => U22.trans (I.o7 (D7.symm.trans h))), o8 := (fun h => by rw [U23]; obtain ⟨B2, g1, g2, g3⟩ := I.o8 (D8.symm.trans h); exact ⟨B2, g1, g2, (hb2.block B2 (lt_some g3)).trans g3⟩), o9 := (fun h => U24.trans (I.o9 (D9.symm.trans h))), o10 := (fun h => by rw [U25]; obtain ⟨B2, g1, g2, g3⟩ := I.o10 (D10.symm.trans h); exact ⟨B2, g1, g2, (hb2.block B2 (lt_some g3)).trans g3⟩), o11 := (fun _ => U26), o12 := (fun h => U2.trans (I.o12 (D12.symm.trans h))), o13 := (fun h => U3.trans (I.o13 (D13.symm.trans h))) }⟩
    · skip
      have DO : ∀ n, 12 ≠ n → (d'.setIfInBounds 12 true).getD n false = d'.getD n false := fun n h => getD_set_ne false h
      have D12 : (d'.setIfInBounds 12 true).getD 12 false = true := setB_sameC hun
      have D0 := DO 0 (by decide)
      have D1 := DO 1 (by decide)
      have D2 := DO 2 (by decide)
      have D3 := DO 3 (by decide)
      have D4 := DO 4 (by decide)
      have D5 := DO 5 (by decide)
      have D6 := DO 6 (by decide)
      have D7 := DO 7 (by decide)
      have D8 := DO 8 (by decide)
      have D9 := DO 9 (by decide)
      have D10 := DO 10 (by decide)
      have D11 := DO 11 (by decide)
      have D13 := DO 13 (by decide)
      have e26 := I.o11 (hall ⟨11, .data⟩ (by simp) rfl)
      have UO : ∀ n, n ≠ 2 → updC us 2 (.string ⟨T.toArray⟩) n = us n := fun n h => updC_other h
      have U2 : updC us 2 (.string ⟨T.toArray⟩) 2 = (.string ⟨T.toArray⟩) := updC_same _ _ _
      have U1 := UO 1 (by decide)
      have U3 := UO 3 (by decide)
      have U4 := UO 4 (by decide)
      have U5 := UO 5 (by decide)
      have U15 := UO 15 (by decide)
      have U16 := UO 16 (by decide)
      have U17 := UO 17 (by decide)
      have U18 := UO 18 (by decide)
      have U19 := UO 19 (by decide)
      have U20 := UO 20 (by decide)
      have U21 := UO 21 (by decide)
      have U22 := UO 22 (by decide)
      have U23 := UO 23 (by decide)
      have U24 := UO 24 (by decide)
      have U25 := UO 25 (by decide)
      have U26 := UO 26 (by decide)
      refine wpOp_step rfl (fun K hK => ?_)
      simp only [frCt, e1, e4, e5, e26]
      go_simp
      refine hK _ _ ⟨updC us 2 (.string ⟨T.toArray⟩), by simp [frCt, updC, e1, e4, e5, e26], { u1 := (U1.trans I.u1), u4 := (U4.trans I.u4), u5 := (U5.trans I.u5), bel := (I.bel), o0 := (fun h => U15.trans (I.o0 (D0.symm.trans h))), o1 := (fun h => U16.trans (I.o1 (D1.symm.trans h))), o2 := (fun h => U17.trans (I.o2 (D2.symm.trans h))), o3 := (fun h => U18.trans (I.o3 (D3.symm.trans h))), o4 := (fun h => U19.trans (I.o4 (D4.symm.trans h))), o5 := (fun h => U20.trans (I.o5 (D5.symm.trans h))), o6 := (fun h => U21.trans (I.o6 (D6.symm.trans h))), o7 := (fun h => U22.trans (I.o7 (D7.symm.trans h))), o8 := (fun h => by rw [U23]; obtain ⟨B2, g1, g2, g3⟩ := I.o8 (D8.symm.trans h); exact ⟨B2, g1, g2, g3⟩), o9 := (fun h => U24.trans (I.o9 (D9.symm.trans h))), o10 := (fun h => by rw [U25]; obtain ⟨B2, g1, g2, g3⟩ := I.o10 (D10.symm.trans h); exact ⟨B2, g1, g2, g3⟩), o11 := (fun h => U26.trans (I.o11 (D11.symm.trans h))), o12 := (fun _ => U2), o13 := (fun h => U3.trans (I.o13 (D13.symm.trans h))) }⟩
    · skip
      have DO : ∀ n, 13 ≠ n → (d'.setIfInBounds 13 true).getD n false = d'.getD n false := fun n h => getD_set_ne false h
      have D13 : (d'.setIfInBounds 13 true).getD 13 false = true := setB_sameC hun
      have D0 := DO 0 (by decide)
      have D1 := DO 1 (by decide)
      have D2 := DO 2 (by decide)
      have D3 := DO 3 (by decide)
      have D4 := DO 4 (by decide)
      have D5 := DO 5 (by decide)
      have D6 := DO 6 (by decide)
      have D7 := DO 7 (by decide)
      have D8 := DO 8 (by decide)
      have D9 := DO 9 (by decide)
      have D10 := DO 10 (by decide)
      have D11 := DO 11 (by decide)
      have D12 := DO 12 (by decide)
      have UO : ∀ n, n ≠ 3 → updC us 3 (.int .i64 0) n = us n := fun n h => updC_other h
      have U3 : updC us 3 (.int .i64 0) 3 = (.int .i64 0) := updC_same _ _ _
      have U1 := UO 1 (by decide)
      have U2 := UO 2 (by decide)
      have U4 := UO 4 (by decide)
      have U5 := UO 5 (by decide)
      have U15 := UO 15 (by decide)
      have U16 := UO 16 (by decide)
      have U17 := UO 17 (by decide)
      have U18 := UO 18 (by decide)
      have U19 := UO 19 (by decide)
      have U20 := UO 20 (by decide)
      have U21 := UO 21 (by decide)
      have U22 := UO 22 (by decide)
      have U23 := UO 23 (by decide)
      have U24 := UO 24 (by decide)
      have U25 := UO 25 (by decide)
      have U26 := UO 26 (by decide)
      refine wpOp_step rfl (fun K hK => ?_)
      simp only [frCt, e1, e4, e5]
      go_simp
      refine hK _ _ ⟨updC us 3 (.int .i64 0), by simp [frCt, updC, e1, e4, e5], { u1 := (U1.trans I.u1), u4 := (U4.trans I.u4), u5 := (U5.trans I.u5), bel := (I.bel), o0 := (fun h => U15.trans (I.o0 (D0.symm.trans h))), o1 := (fun h => U16.trans (I.o1 (D1.symm.trans h))), o2 := (fun h => U17.trans (I.o2 (D2.symm.trans h))), o3 := (fun h => U18.trans (I.o3 (D3.symm.trans h))), o4 := (fun h => U19.trans (I.o4 (D4.symm.trans h))), o5 := (fun h => U20.trans (I.o5 (D5.symm.trans h))), o6 := (fun h => U21.trans (I.o6 (D6.symm.trans h))), o7 := (fun h => U22.trans (I.o7 (D7.symm.trans h))), o8 := (fun h => by rw [U23]; obtain ⟨B2, g1, g2, g3⟩ := I.o8 (D8.symm.trans h); exact ⟨B2, g1, g2, g3⟩), o9 := (fun h => U24.trans (I.o9 (D9.symm.trans h))), o10 := (fun h => by rw [U25]; obtain ⟨B2, g1, g2, g3⟩ := I.o10 (D10.symm.trans h); exact ⟨B2, g1, g2, g3⟩), o11 := (fun h => U26.trans (I.o11 (D11.symm.trans h))), o12 := (fun h => U2.trans (I.o12 (D12.symm.trans h))), o13 := (fun _ => U3) }⟩
  · intro d' a' W hd hall hI
    obtain ⟨us, rfl, I⟩ := hI
    have D : ∀ k, k < 14 → d'.getD k false = true := fun k hk => by
      have := hall k hk
      have hk2 : k < d'.size := by rw [hd]; exact hk
      simp [hk2] at this ⊢; exact this
    have e2 := I.o12 (D 12 (by decide))
    have e3 := I.o13 (D 13 (by decide))
    have e1 := I.u1
    have e4 := I.u4
    have e5 := I.u5
    have bR := I.bel
    clear I D hall hd
    simp only [frCt, e1, e4, e5, e2, e3]
    have b5 := Lib.hid (belowGo HB.out bR)
    clear bR
    go_wp2_with fail
    go_ret2
    exact ⟨by rw [ER.out] <;> rfl, b5.out⟩
set_option maxHeartbeats 2000000 in
theorem ctext_i (p : Cls) (w : World) (hs : p.sz ≤ 1048600) (ht : Tab w) :
    Calls Tryd.prog 8 #[.agg #[.string ⟨p.c.toArray⟩, .int .i64 p.k, .int .i64 p.p, .int .i64 p.v, .int .i64 p.r, .int .i64 p.e, .string ⟨p.t.toArray⟩]] w (Text2 w (ctR p)) := by
  rcases Bool.eq_false_or_eq_true p.ok with hv | hv
  · exact ctext_iok p w hv hs ht
  · have kb := KeepC.new w p
    obtain ⟨hxc, hxt⟩ := sz_c hs
    have HV := Lib.hid (fun w => cvalid_i p w hxc hxt)
    rw [hv] at HV
    have E := Lib.hid (ctR_no hv)
    generalize ctR p = r at *
    go_enter Tryd.func8, Tryd.ntmps8
    go_wp2_with (go_at_call 13; refine (HV.out _).mono ?_; rintro e w2 ⟨rfl, b2⟩; have kb2 := kb.step b2)
    go_ret2
    exact ⟨by rw [E.out] <;> rfl, kb2.bel⟩
end Go.Proofs.YtmhlkbocejnpoaaDoor
