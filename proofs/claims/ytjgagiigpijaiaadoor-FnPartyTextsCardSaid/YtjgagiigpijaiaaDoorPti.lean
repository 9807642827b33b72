/- impl.PartyText. (by gen_ptx.py) -/
import Derived.Test.YtjgagiigpijaiaaDoorPtx
import Derived.Test.YtjgagiigpijaiaaDoorAdpr
namespace Go.Proofs.YtjgagiigpijaiaaDoor
open Go.ChangeShapes Go.WideShapes Go.ChangeAt Go.RowKit
set_option linter.unusedVariables false

theorem orS_w (a b : List UInt8) (B : Nat) (W : World) (h0 : W.cell? ⟨B, 0, none⟩ = some (.string ⟨a.toArray⟩)) (h1 : W.cell? ⟨B, 1, none⟩ = some (.string ⟨b.toArray⟩)) : Calls Tryd.prog 56 #[.slice (some ⟨B, 0, none⟩) 2 2] W fun e w' => e = .returned (.string ⟨(orS a b).toArray⟩) ∧ W = w' := by
  rcases Bool.eq_false_or_eq_true (a == []) with ha | ha
  · have E : Hid (orS a b = b) := Lib.hid (by rw [orS, if_pos ha])
    have ha2 : (a != []) = false := by simpa using ha
    rcases Bool.eq_false_or_eq_true (b == []) with hb | hb
    · have hb2 : (b != []) = false := by simpa using hb
      have E : Hid (orS a b = []) := Lib.hid (by rw [E.out]; simpa using hb)
      go_enter Tryd.func56, Tryd.ntmps56
      go_wp2_with fail
      go_loop [8, 5] (fun i v => ∃ k : Nat, k ≤ 2 ∧ i = .int .i64 k) (fun i _ => 2 - (intOf i).toNat)
      case atStart => exact ⟨0, by omega, rfl⟩
      case round =>
        obtain ⟨k, hk, rfl⟩ := hrel
        rcases (by omega : k = 0 ∨ k = 1 ∨ k = 2) with rfl | rfl | rfl
        · go_wp2_with fail
          go_round
          case rel => exact ⟨1, by omega, rfl⟩
          case measure => simp [intOf]
        · go_wp2_with fail
          go_round
          case rel => exact ⟨2, by omega, rfl⟩
          case measure => simp [intOf]
        · go_wp2_with fail
          go_ret
          exact ⟨by rw [E.out] <;> rfl, rfl⟩
    · have hb2 : (b != []) = true := by simpa using hb
      go_enter Tryd.func56, Tryd.ntmps56
      go_wp2_with fail
      go_loop [8, 5] (fun i v => ∃ k : Nat, k ≤ 1 ∧ i = .int .i64 k) (fun i _ => 2 - (intOf i).toNat)
      case atStart => exact ⟨0, by omega, rfl⟩
      case round =>
        obtain ⟨k, hk, rfl⟩ := hrel
        rcases (by omega : k = 0 ∨ k = 1) with rfl | rfl
        · go_wp2_with fail
          go_round
          case rel => exact ⟨1, by omega, rfl⟩
          case measure => simp [intOf]
        · go_wp2_with fail
          go_ret
          exact ⟨by rw [E.out] <;> rfl, rfl⟩
  · have E : Hid (orS a b = a) := Lib.hid (by rw [orS, if_neg (by rw [ha]; exact Bool.false_ne_true)])
    have ha2 : (a != []) = true := by simpa using ha
    go_enter Tryd.func56, Tryd.ntmps56
    go_wp2_with fail
    go_loop [8, 5] (fun i v => i = .int .i64 0) (fun i _ => 2 - (intOf i).toNat)
    case atStart => rfl
    case round =>
      obtain rfl := hrel
      go_wp2_with fail
      go_ret
      exact ⟨by rw [E.out] <;> rfl, rfl⟩
def frPt (us : Nat → Value) : Act := { tmps := #[us 0, us 1, us 2, us 3, us 4, us 5, us 6, us 7, us 8, us 9, us 10, us 11, us 12, us 13, us 14, us 15, us 16, us 17, us 18, us 19], defers := [] }
theorem frPt_of {x0 x1 x2 x3 x4 x5 x6 x7 x8 x9 x10 x11 x12 x13 x14 x15 x16 x17 x18 x19 : Value} : ({ tmps := #[x0, x1, x2, x3, x4, x5, x6, x7, x8, x9, x10, x11, x12, x13, x14, x15, x16, x17, x18, x19], defers := [] } : Act) = frPt (fun k => #[x0, x1, x2, x3, x4, x5, x6, x7, x8, x9, x10, x11, x12, x13, x14, x15, x16, x17, x18, x19].getD k undef) := rfl
/-- The condition on which operations have come up. -/
structure InvPt (b0 n : Nat) (D O t1 t2 t3 t4 : List UInt8) (p : Pty) (w : World) (d : Array Bool) (us : Nat → Value) (W : World) : Prop where
  u1 : us 1 = .pointer (some ⟨b0, 0, none⟩)
  bel : Below w.heap.size w W
  o0 : d.getD 0 false = true → us 7 = .pointer (some ⟨b0, 0, none⟩)
  o1 : d.getD 1 false = true → us 8 = .string ⟨p.c.toArray⟩
  o2 : d.getD 2 false = true → us 9 = .string ⟨t1.toArray⟩
  o3 : d.getD 3 false = true → us 10 = .pointer (some ⟨b0, 1, none⟩)
  o4 : d.getD 4 false = true → us 11 = .int .i64 (n : Int)
  o5 : d.getD 5 false = true → us 12 = .string ⟨D.toArray⟩
  o6 : d.getD 6 false = true → us 13 = .string ⟨t2.toArray⟩
  o7 : d.getD 7 false = true → us 14 = .string ⟨t3.toArray⟩
  o8 : d.getD 8 false = true → us 15 = .pointer (some ⟨b0, 2, none⟩)
  o9 : d.getD 9 false = true → us 16 = .string ⟨p.a.toArray⟩
  o10 : d.getD 10 false = true → ∃ B, us 17 = .slice (some ⟨B, 0, none⟩) 2 2 ∧ W.heap[B]? = some (.cells #[.string ⟨p.a.toArray⟩, .string ⟨#[45]⟩] 9 (0, 0))
  o11 : d.getD 11 false = true → us 18 = .string ⟨O.toArray⟩
  o12 : d.getD 12 false = true → us 19 = .string ⟨t4.toArray⟩
  o13 : d.getD 13 false = true → us 2 = .string ⟨t4.toArray⟩
  o14 : d.getD 14 false = true → us 3 = .int .i64 0

set_option maxRecDepth 100000 in
set_option maxHeartbeats 16000000 in
theorem ptext_i (p : Pty) (w : World) (hs : p.sz ≤ 1048576) (ht : Tab w) :
    Calls Tryd.prog 30 #[.agg #[.string ⟨p.c.toArray⟩, .int .i64 p.k, .string ⟨p.a.toArray⟩]] w (Text2 w (ptR p)) := by
  obtain ⟨hxc, hxa⟩ := sz_c hs
  have kb := KeepP.new w p
  have c0 := kb.cells.c0; have c1 := kb.cells.c1; have c2 := kb.cells.c2
  have HV := Lib.hid (fun w => pvalid_i p w hxc hxa)
  rcases Bool.eq_false_or_eq_true p.ok with hv | hv
  · have E := Lib.hid (ptR_ok hv)
    obtain ⟨hc, ⟨hk0, hk4⟩, ha⟩ := pok hv
    have lc : p.c.length ≤ 6 := (pcode_iff.1 hc).1.2
    have la : p.a.length ≤ 6 := by
      rcases ha with h | ⟨h, _⟩
      · rw [h]; simp
      · exact (pcode_iff.1 h).1.2
    have ES := Lib.hid (ptext_str p.c (Lib.decDigits p.k.toNat) (orS p.a [45]))
    have ET : Hid (ptext p = p.c ++ 47 :: (Lib.decDigits p.k.toNat ++ 47 :: orS p.a [45])) := Lib.hid rfl
    obtain ⟨n, hn⟩ := Int.eq_ofNat_of_zero_le hk0
    rw [hn, Int.toNat_natCast] at ES ET
    have HF := Lib.hid (fun w hT => fmt_i n (by omega) w hT)
    have HO := Lib.hid (fun B W h0 h1 => orS_w p.a [45] B W h0 h1)
    have ld : (Lib.decDigits n).length ≤ 19 := dec_len 18 n (by omega)
    have lo := orS_len la
    generalize Lib.decDigits n = D at *
    generalize orS p.a [45] = O at *
    generalize ptext p = T at *
    rw [hv, hn] at HV
    rw [hn] at kb c1
    generalize ptR p = r at *
    have lc1 : (p.c ++ [47]).length = p.c.length + 1 := by simp
    have lc2 : (p.c ++ [47] ++ D).length = p.c.length + 1 + D.length := by simp; omega
    have lc3 : (p.c ++ [47] ++ D ++ [47]).length = p.c.length + 1 + D.length + 1 := by simp; omega
    have s1 := str_app p.c [47]
    have s2 := str_app (p.c ++ [47]) D
    have s3 := str_app (p.c ++ [47] ++ D) [47]
    have s4 := str_app (p.c ++ [47] ++ D ++ [47]) O
    have EQ : Hid (p.c ++ [47] ++ D ++ [47] ++ O = T) := Lib.hid (by rw [ET.out]; simp)
    obtain ⟨t1, h1⟩ : ∃ t, t = p.c ++ [47] := ⟨_, rfl⟩
    rw [← h1] at s1 s2 s3 s4 lc1 lc2 lc3 EQ
    obtain ⟨t2, h2⟩ : ∃ t, t = t1 ++ D := ⟨_, rfl⟩
    rw [← h2] at s2 s3 s4 lc2 lc3 EQ
    obtain ⟨t3, h3⟩ : ∃ t, t = t2 ++ [47] := ⟨_, rfl⟩
    rw [← h3] at s3 s4 lc3 EQ
    obtain ⟨t4, h4⟩ : ∃ t, t = t3 ++ O := ⟨_, rfl⟩
    rw [← h4] at s4 EQ
    clear h1 h2 h3 h4 ES ET
    have s1 : (⟨p.c.toArray⟩ ++ ⟨#[47]⟩ : ByteArray) = ⟨t1.toArray⟩ := s1
    have s3 : (⟨t2.toArray⟩ ++ ⟨#[47]⟩ : ByteArray) = ⟨t3.toArray⟩ := s3
    have g1 : ¬9223372036854775807 < p.c.length + 1 := by omega
    have g2 : ¬9223372036854775807 < t1.length + D.length := by omega
    have g3 : ¬9223372036854775807 < t2.length + 1 := by omega
    have g4 : ¬9223372036854775807 < t3.length + O.length := by omega
    have g5 : ¬9223372036854775807 < p.c.length + 1 + D.length := by omega
    have g6 : ¬9223372036854775807 < p.c.length + 1 + D.length + 1 := by omega
    have g7 : ¬9223372036854775807 < p.c.length + 1 + D.length + 1 + O.length := by omega
    go_enter Tryd.func30, Tryd.ntmps30
    go_wp2_with fail
    refine (HV.out _).mono ?_
    rintro e w2 ⟨rfl, b2⟩
    have kb2 := kb.step b2
    go_wp2_with fail
    have hbox := kb2.cells
    have hb0 : w.heap.size < w2.heap.size := lt_some kb2.a
    have hT := ht.below kb2.bel
    obtain ⟨wq, hwq⟩ : ∃ q, q = w2 := ⟨_, rfl⟩
    subst hwq
    have hbox0 : PtyC wq w.heap.size 0 p := hbox
    have hk1 : wq.cell? ⟨w.heap.size, 0 + 1, none⟩ = some (.int .i64 (n : Int)) := by rw [← hn]; exact hbox0.c1
    refine region_inv (by kernel_rfl) (by kernel_rfl) (fun d a W => ∃ us, a = frPt us ∧ InvPt w.heap.size n D O t1 t2 t3 t4 p wq d us W) ?_ ?_ ?_
    · refine ⟨_, frPt_of, ?_⟩
      have Z : ∀ k, (Array.replicate 15 false).getD k false = false := fun k => by
        rcases Nat.lt_or_ge k 15 with h | h
        · simp [h]
        · simp [Array.getElem?_eq_none, h]
      have Zn : ∀ {k : Nat} {p : Prop}, (Array.replicate 15 false).getD k false = true → p := fun {k p} h => by rw [Z k] at h; cases h
      exact { u1 := rfl, bel := (Below.refl _ _).drew, o0 := Zn, o1 := Zn, o2 := Zn, o3 := Zn, o4 := Zn, o5 := Zn, o6 := Zn, o7 := Zn, o8 := Zn, o9 := Zn, o10 := Zn, o11 := Zn, o12 := Zn, o13 := Zn, o14 := Zn }
    · intro i d a W hi hI
      obtain ⟨hun, oi, hoi, hall⟩ := mem_ready.1 hi
      have hlt : i < 15 := (Array.getElem?_eq_some_iff.1 hoi).1
      obtain ⟨us, rfl, I⟩ := hI
      have hsz : wq.heap.size ≤ W.heap.size := I.bel.size
      have e1 := I.u1
      have hbx := hbox.belowB hb0 I.bel
      have c0 := hbx.c0
      have c1 := (I.bel.cell (p := ⟨w.heap.size, 0 + 1, none⟩) hb0).trans hk1
      have c2 := hbx.c2
      have hTab := hT.below I.bel
      rcases (by omega : i = 0 ∨ i = 1 ∨ i = 2 ∨ i = 3 ∨ i = 4 ∨ i = 5 ∨ i = 6 ∨ i = 7 ∨ i = 8 ∨ i = 9 ∨ i = 10 ∨ i = 11 ∨ i = 12 ∨ i = 13 ∨ i = 14) with rfl | rfl | rfl | rfl | rfl | rfl | rfl | rfl | rfl | rfl | rfl | rfl | rfl | rfl | rfl
      all_goals
        obtain rfl := Option.some.inj hoi
        clear hoi hlt hi
      · skip
        have D0 : (d.setIfInBounds 0 true).getD 0 false = true := getD_set_same hun
        have D1 : (d.setIfInBounds 0 true).getD 1 false = d.getD 1 false := getD_set_ne false (by decide)
        have D2 : (d.setIfInBounds 0 true).getD 2 false = d.getD 2 false := getD_set_ne false (by decide)
        have D3 : (d.setIfInBounds 0 true).getD 3 false = d.getD 3 false := getD_set_ne false (by decide)
        have D4 : (d.setIfInBounds 0 true).getD 4 false = d.getD 4 false := getD_set_ne false (by decide)
        have D5 : (d.setIfInBounds 0 true).getD 5 false = d.getD 5 false := getD_set_ne false (by decide)
        have D6 : (d.setIfInBounds 0 true).getD 6 false = d.getD 6 false := getD_set_ne false (by decide)
        have D7 : (d.setIfInBounds 0 true).getD 7 false = d.getD 7 false := getD_set_ne false (by decide)
        have D8 : (d.setIfInBounds 0 true).getD 8 false = d.getD 8 false := getD_set_ne false (by decide)
        have D9 : (d.setIfInBounds 0 true).getD 9 false = d.getD 9 false := getD_set_ne false (by decide)
        have D10 : (d.setIfInBounds 0 true).getD 10 false = d.getD 10 false := getD_set_ne false (by decide)
        have D11 : (d.setIfInBounds 0 true).getD 11 false = d.getD 11 false := getD_set_ne false (by decide)
        have D12 : (d.setIfInBounds 0 true).getD 12 false = d.getD 12 false := getD_set_ne false (by decide)
        have D13 : (d.setIfInBounds 0 true).getD 13 false = d.getD 13 false := getD_set_ne false (by decide)
        have D14 : (d.setIfInBounds 0 true).getD 14 false = d.getD 14 false := getD_set_ne false (by decide)
        have U1 : updA us 7 (.pointer (some ⟨(w.heap.size), 0, none⟩)) 1 = us 1 := upd_other (by decide)
        have U2 : updA us 7 (.pointer (some ⟨(w.heap.size), 0, none⟩)) 2 = us 2 := upd_other (by decide)
        have U3 : updA us 7 (.pointer (some ⟨(w.heap.size), 0, none⟩)) 3 = us 3 := upd_other (by decide)
        have U7 : updA us 7 (.pointer (some ⟨(w.heap.size), 0, none⟩)) 7 = (.pointer (some ⟨(w.heap.size), 0, none⟩)) := upd_same _ _ _
        have U8 : updA us 7 (.pointer (some ⟨(w.heap.size), 0, none⟩)) 8 = us 8 := upd_other (by decide)
        have U9 : updA us 7 (.pointer (some ⟨(w.heap.size), 0, none⟩)) 9 = us 9 := upd_other (by decide)
        have U10 : updA us 7 (.pointer (some ⟨(w.heap.size), 0, none⟩)) 10 = us 10 := upd_other (by decide)
        have U11 : updA us 7 (.pointer (some ⟨(w.heap.size), 0, none⟩)) 11 = us 11 := upd_other (by decide)
        have U12 : updA us 7 (.pointer (some ⟨(w.heap.size), 0, none⟩)) 12 = us 12 := upd_other (by decide)
        have U13 : updA us 7 (.pointer (some ⟨(w.heap.size), 0, none⟩)) 13 = us 13 := upd_other (by decide)
        have U14 : updA us 7 (.pointer (some ⟨(w.heap.size), 0, none⟩)) 14 = us 14 := upd_other (by decide)
        have U15 : updA us 7 (.pointer (some ⟨(w.heap.size), 0, none⟩)) 15 = us 15 := upd_other (by decide)
        have U16 : updA us 7 (.pointer (some ⟨(w.heap.size), 0, none⟩)) 16 = us 16 := upd_other (by decide)
        have U17 : updA us 7 (.pointer (some ⟨(w.heap.size), 0, none⟩)) 17 = us 17 := upd_other (by decide)
        have U18 : updA us 7 (.pointer (some ⟨(w.heap.size), 0, none⟩)) 18 = us 18 := upd_other (by decide)
        have U19 : updA us 7 (.pointer (some ⟨(w.heap.size), 0, none⟩)) 19 = us 19 := upd_other (by decide)
        refine wpOp_step rfl (fun K hK => ?_)
        simp only [frPt, e1]
        go_simp
        refine hK _ _ ⟨updA us 7 (.pointer (some ⟨(w.heap.size), 0, none⟩)), by simp [frPt, updA, e1], { u1 := (U1.trans I.u1), bel := (I.bel), o0 := (fun _ => U7), o1 := (fun h => U8.trans (I.o1 (D1.symm.trans h))), o2 := (fun h => U9.trans (I.o2 (D2.symm.trans h))), o3 := (fun h => U10.trans (I.o3 (D3.symm.trans h))), o4 := (fun h => U11.trans (I.o4 (D4.symm.trans h))), o5 := (fun h => U12.trans (I.o5 (D5.symm.trans h))), o6 := (fun h => U13.trans (I.o6 (D6.symm.trans h))), o7 := (fun h => U14.trans (I.o7 (D7.symm.trans h))), o8 := (fun h => U15.trans (I.o8 (D8.symm.trans h))), o9 := (fun h => U16.trans (I.o9 (D9.symm.trans h))), o10 := (fun h => by rw [U17]; exact I.o10 (D10.symm.trans h)), o11 := (fun h => U18.trans (I.o11 (D11.symm.trans h))), o12 := (fun h => U19.trans (I.o12 (D12.symm.trans h))), o13 := (fun h => U2.trans (I.o13 (D13.symm.trans h))), o14 := (fun h => U3.trans (I.o14 (D14.symm.trans h))) }⟩
      · skip
        have D0 : (d.setIfInBounds 1 true).getD 0 false = d.getD 0 false := getD_set_ne false (by decide)
        have D1 : (d.setIfInBounds 1 true).getD 1 false = true := getD_set_same hun
        have D2 : (d.setIfInBounds 1 true).getD 2 false = d.getD 2 false := getD_set_ne false (by decide)
        have D3 : (d.setIfInBounds 1 true).getD 3 false = d.getD 3 false := getD_set_ne false (by decide)
        have D4 : (d.setIfInBounds 1 true).getD 4 false = d.getD 4 false := getD_set_ne false (by decide)
        have D5 : (d.setIfInBounds 1 true).getD 5 false = d.getD 5 false := getD_set_ne false (by decide)
        have D6 : (d.setIfInBounds 1 true).getD 6 false = d.getD 6 false := getD_set_ne false (by decide)
        have D7 : (d.setIfInBounds 1 true).getD 7 false = d.getD 7 false := getD_set_ne false (by decide)
        have D8 : (d.setIfInBounds 1 true).getD 8 false = d.getD 8 false := getD_set_ne false (by decide)
        have D9 : (d.setIfInBounds 1 true).getD 9 false = d.getD 9 false := getD_set_ne false (by decide)
        have D10 : (d.setIfInBounds 1 true).getD 10 false = d.getD 10 false := getD_set_ne false (by decide)
        have D11 : (d.setIfInBounds 1 true).getD 11 false = d.getD 11 false := getD_set_ne false (by decide)
        have D12 : (d.setIfInBounds 1 true).getD 12 false = d.getD 12 false := getD_set_ne false (by decide)
        have D13 : (d.setIfInBounds 1 true).getD 13 false = d.getD 13 false := getD_set_ne false (by decide)
        have D14 : (d.setIfInBounds 1 true).getD 14 false = d.getD 14 false := getD_set_ne false (by decide)
        have e7 := I.o0 (hall ⟨0, .data⟩ (by simp) rfl)
        have U1 : updA us 8 (.string ⟨p.c.toArray⟩) 1 = us 1 := upd_other (by decide)
        have U2 : updA us 8 (.string ⟨p.c.toArray⟩) 2 = us 2 := upd_other (by decide)
        have U3 : updA us 8 (.string ⟨p.c.toArray⟩) 3 = us 3 := upd_other (by decide)
        have U7 : updA us 8 (.string ⟨p.c.toArray⟩) 7 = us 7 := upd_other (by decide)
        have U8 : updA us 8 (.string ⟨p.c.toArray⟩) 8 = (.string ⟨p.c.toArray⟩) := upd_same _ _ _
        have U9 : updA us 8 (.string ⟨p.c.toArray⟩) 9 = us 9 := upd_other (by decide)
        have U10 : updA us 8 (.string ⟨p.c.toArray⟩) 10 = us 10 := upd_other (by decide)
        have U11 : updA us 8 (.string ⟨p.c.toArray⟩) 11 = us 11 := upd_other (by decide)
        have U12 : updA us 8 (.string ⟨p.c.toArray⟩) 12 = us 12 := upd_other (by decide)
        have U13 : updA us 8 (.string ⟨p.c.toArray⟩) 13 = us 13 := upd_other (by decide)
        have U14 : updA us 8 (.string ⟨p.c.toArray⟩) 14 = us 14 := upd_other (by decide)
        have U15 : updA us 8 (.string ⟨p.c.toArray⟩) 15 = us 15 := upd_other (by decide)
        have U16 : updA us 8 (.string ⟨p.c.toArray⟩) 16 = us 16 := upd_other (by decide)
        have U17 : updA us 8 (.string ⟨p.c.toArray⟩) 17 = us 17 := upd_other (by decide)
        have U18 : updA us 8 (.string ⟨p.c.toArray⟩) 18 = us 18 := upd_other (by decide)
        have U19 : updA us 8 (.string ⟨p.c.toArray⟩) 19 = us 19 := upd_other (by decide)
        refine wpOp_step rfl (fun K hK => ?_)
        simp only [frPt, e1, e7]
        go_simp
        refine hK _ _ ⟨updA us 8 (.string ⟨p.c.toArray⟩), by simp [frPt, updA, e1, e7], { u1 := (U1.trans I.u1), bel := (I.bel), o0 := (fun h => U7.trans (I.o0 (D0.symm.trans h))), o1 := (fun _ => U8), o2 := (fun h => U9.trans (I.o2 (D2.symm.trans h))), o3 := (fun h => U10.trans (I.o3 (D3.symm.trans h))), o4 := (fun h => U11.trans (I.o4 (D4.symm.trans h))), o5 := (fun h => U12.trans (I.o5 (D5.symm.trans h))), o6 := (fun h => U13.trans (I.o6 (D6.symm.trans h))), o7 := (fun h => U14.trans (I.o7 (D7.symm.trans h))), o8 := (fun h => U15.trans (I.o8 (D8.symm.trans h))), o9 := (fun h => U16.trans (I.o9 (D9.symm.trans h))), o10 := (fun h => by rw [U17]; exact I.o10 (D10.symm.trans h)), o11 := (fun h => U18.trans (I.o11 (D11.symm.trans h))), o12 := (fun h => U19.trans (I.o12 (D12.symm.trans h))), o13 := (fun h => U2.trans (I.o13 (D13.symm.trans h))), o14 := (fun h => U3.trans (I.o14 (D14.symm.trans h))) }⟩
      · skip
        have D0 : (d.setIfInBounds 2 true).getD 0 false = d.getD 0 false := getD_set_ne false (by decide)
        have D1 : (d.setIfInBounds 2 true).getD 1 false = d.getD 1 false := getD_set_ne false (by decide)
        have D2 : (d.setIfInBounds 2 true).getD 2 false = true := getD_set_same hun
        have D3 : (d.setIfInBounds 2 true).getD 3 false = d.getD 3 false := getD_set_ne false (by decide)
        have D4 : (d.setIfInBounds 2 true).getD 4 false = d.getD 4 false := getD_set_ne false (by decide)
        have D5 : (d.setIfInBounds 2 true).getD 5 false = d.getD 5 false := getD_set_ne false (by decide)
        have D6 : (d.setIfInBounds 2 true).getD 6 false = d.getD 6 false := getD_set_ne false (by decide)
        have D7 : (d.setIfInBounds 2 true).getD 7 false = d.getD 7 false := getD_set_ne false (by decide)
        have D8 : (d.setIfInBounds 2 true).getD 8 false = d.getD 8 false := getD_set_ne false (by decide)
        have D9 : (d.setIfInBounds 2 true).getD 9 false = d.getD 9 false := getD_set_ne false (by decide)
        have D10 : (d.setIfInBounds 2 true).getD 10 false = d.getD 10 false := getD_set_ne false (by decide)
        have D11 : (d.setIfInBounds 2 true).getD 11 false = d.getD 11 false := getD_set_ne false (by decide)
        have D12 : (d.setIfInBounds 2 true).getD 12 false = d.getD 12 false := getD_set_ne false (by decide)
        have D13 : (d.setIfInBounds 2 true).getD 13 false = d.getD 13 false := getD_set_ne false (by decide)
        have D14 : (d.setIfInBounds 2 true).getD 14 false = d.getD 14 false := getD_set_ne false (by decide)
        have e8 := I.o1 (hall ⟨1, .data⟩ (by simp) rfl)
        have U1 : updA us 9 (.string ⟨t1.toArray⟩) 1 = us 1 := upd_other (by decide)
        have U2 : updA us 9 (.string ⟨t1.toArray⟩) 2 = us 2 := upd_other (by decide)
        have U3 : updA us 9 (.string ⟨t1.toArray⟩) 3 = us 3 := upd_other (by decide)
        have U7 : updA us 9 (.string ⟨t1.toArray⟩) 7 = us 7 := upd_other (by decide)
        have U8 : updA us 9 (.string ⟨t1.toArray⟩) 8 = us 8 := upd_other (by decide)
        have U9 : updA us 9 (.string ⟨t1.toArray⟩) 9 = (.string ⟨t1.toArray⟩) := upd_same _ _ _
        have U10 : updA us 9 (.string ⟨t1.toArray⟩) 10 = us 10 := upd_other (by decide)
        have U11 : updA us 9 (.string ⟨t1.toArray⟩) 11 = us 11 := upd_other (by decide)
        have U12 : updA us 9 (.string ⟨t1.toArray⟩) 12 = us 12 := upd_other (by decide)
        have U13 : updA us 9 (.string ⟨t1.toArray⟩) 13 = us 13 := upd_other (by decide)
        have U14 : updA us 9 (.string ⟨t1.toArray⟩) 14 = us 14 := upd_other (by decide)
        have U15 : updA us 9 (.string ⟨t1.toArray⟩) 15 = us 15 := upd_other (by decide)
        have U16 : updA us 9 (.string ⟨t1.toArray⟩) 16 = us 16 := upd_other (by decide)
        have U17 : updA us 9 (.string ⟨t1.toArray⟩) 17 = us 17 := upd_other (by decide)
        have U18 : updA us 9 (.string ⟨t1.toArray⟩) 18 = us 18 := upd_other (by decide)
        have U19 : updA us 9 (.string ⟨t1.toArray⟩) 19 = us 19 := upd_other (by decide)
        refine wpOp_step rfl (fun K hK => ?_)
        simp only [frPt, e1, e8]
        go_simp
        refine hK _ _ ⟨updA us 9 (.string ⟨t1.toArray⟩), by simp [frPt, updA, e1, e8, s1], { u1 := (U1.trans I.u1), bel := (I.bel), o0 := (fun h => U7.trans (I.o0 (D0.symm.trans h))), o1 := (fun h => U8.trans (I.o1 (D1.symm.trans h))), o2 := (fun _ => U9), o3 := (fun h => U10.trans (I.o3 (D3.symm.trans h))), o4 := (fun h => U11.trans (I.o4 (D4.symm.trans h))), o5 := (fun h => U12.trans (I.o5 (D5.symm.trans h))), o6 := (fun h => U13.trans (I.o6 (D6.symm.trans h))), o7 := (fun h => U14.trans (I.o7 (D7.symm.trans h))), o8 := (fun h => U15.trans (I.o8 (D8.symm.trans h))), o9 := (fun h => U16.trans (I.o9 (D9.symm.trans h))), o10 := (fun h => by rw [U17]; exact I.o10 (D10.symm.trans h)), o11 := (fun h => U18.trans (I.o11 (D11.symm.trans h))), o12 := (fun h => U19.trans (I.o12 (D12.symm.trans h))), o13 := (fun h => U2.trans (I.o13 (D13.symm.trans h))), o14 := (fun h => U3.trans (I.o14 (D14.symm.trans h))) }⟩
      · skip
        have D0 : (d.setIfInBounds 3 true).getD 0 false = d.getD 0 false := getD_set_ne false (by decide)
        have D1 : (d.setIfInBounds 3 true).getD 1 false = d.getD 1 false := getD_set_ne false (by decide)
        have D2 : (d.setIfInBounds 3 true).getD 2 false = d.getD 2 false := getD_set_ne false (by decide)
        have D3 : (d.setIfInBounds 3 true).getD 3 false = true := getD_set_same hun
        have D4 : (d.setIfInBounds 3 true).getD 4 false = d.getD 4 false := getD_set_ne false (by decide)
        have D5 : (d.setIfInBounds 3 true).getD 5 false = d.getD 5 false := getD_set_ne false (by decide)
        have D6 : (d.setIfInBounds 3 true).getD 6 false = d.getD 6 false := getD_set_ne false (by decide)
        have D7 : (d.setIfInBounds 3 true).getD 7 false = d.getD 7 false := getD_set_ne false (by decide)
        have D8 : (d.setIfInBounds 3 true).getD 8 false = d.getD 8 false := getD_set_ne false (by decide)
        have D9 : (d.setIfInBounds 3 true).getD 9 false = d.getD 9 false := getD_set_ne false (by decide)
        have D10 : (d.setIfInBounds 3 true).getD 10 false = d.getD 10 false := getD_set_ne false (by decide)
        have D11 : (d.setIfInBounds 3 true).getD 11 false = d.getD 11 false := getD_set_ne false (by decide)
        have D12 : (d.setIfInBounds 3 true).getD 12 false = d.getD 12 false := getD_set_ne false (by decide)
        have D13 : (d.setIfInBounds 3 true).getD 13 false = d.getD 13 false := getD_set_ne false (by decide)
        have D14 : (d.setIfInBounds 3 true).getD 14 false = d.getD 14 false := getD_set_ne false (by decide)
        have U1 : updA us 10 (.pointer (some ⟨(w.heap.size), 1, none⟩)) 1 = us 1 := upd_other (by decide)
        have U2 : updA us 10 (.pointer (some ⟨(w.heap.size), 1, none⟩)) 2 = us 2 := upd_other (by decide)
        have U3 : updA us 10 (.pointer (some ⟨(w.heap.size), 1, none⟩)) 3 = us 3 := upd_other (by decide)
        have U7 : updA us 10 (.pointer (some ⟨(w.heap.size), 1, none⟩)) 7 = us 7 := upd_other (by decide)
        have U8 : updA us 10 (.pointer (some ⟨(w.heap.size), 1, none⟩)) 8 = us 8 := upd_other (by decide)
        have U9 : updA us 10 (.pointer (some ⟨(w.heap.size), 1, none⟩)) 9 = us 9 := upd_other (by decide)
        have U10 : updA us 10 (.pointer (some ⟨(w.heap.size), 1, none⟩)) 10 = (.pointer (some ⟨(w.heap.size), 1, none⟩)) := upd_same _ _ _
        have U11 : updA us 10 (.pointer (some ⟨(w.heap.size), 1, none⟩)) 11 = us 11 := upd_other (by decide)
        have U12 : updA us 10 (.pointer (some ⟨(w.heap.size), 1, none⟩)) 12 = us 12 := upd_other (by decide)
        have U13 : updA us 10 (.pointer (some ⟨(w.heap.size), 1, none⟩)) 13 = us 13 := upd_other (by decide)
        have U14 : updA us 10 (.pointer (some ⟨(w.heap.size), 1, none⟩)) 14 = us 14 := upd_other (by decide)
        have U15 : updA us 10 (.pointer (some ⟨(w.heap.size), 1, none⟩)) 15 = us 15 := upd_other (by decide)
        have U16 : updA us 10 (.pointer (some ⟨(w.heap.size), 1, none⟩)) 16 = us 16 := upd_other (by decide)
        have U17 : updA us 10 (.pointer (some ⟨(w.heap.size), 1, none⟩)) 17 = us 17 := upd_other (by decide)
        have U18 : updA us 10 (.pointer (some ⟨(w.heap.size), 1, none⟩)) 18 = us 18 := upd_other (by decide)
        have U19 : updA us 10 (.pointer (some ⟨(w.heap.size), 1, none⟩)) 19 = us 19 := upd_other (by decide)
        refine wpOp_step rfl (fun K hK => ?_)
        simp only [frPt, e1]
        go_simp
        refine hK _ _ ⟨updA us 10 (.pointer (some ⟨(w.heap.size), 1, none⟩)), by simp [frPt, updA, e1], { u1 := (U1.trans I.u1), bel := (I.bel), o0 := (fun h => U7.trans (I.o0 (D0.symm.trans h))), o1 := (fun h => U8.trans (I.o1 (D1.symm.trans h))), o2 := (fun h => U9.trans (I.o2 (D2.symm.trans h))), o3 := (fun _ => U10), o4 := (fun h => U11.trans (I.o4 (D4.symm.trans h))), o5 := (fun h => U12.trans (I.o5 (D5.symm.trans h))), o6 := (fun h => U13.trans (I.o6 (D6.symm.trans h))), o7 := (fun h => U14.trans (I.o7 (D7.symm.trans h))), o8 := (fun h => U15.trans (I.o8 (D8.symm.trans h))), o9 := (fun h => U16.trans (I.o9 (D9.symm.trans h))), o10 := (fun h => by rw [U17]; exact I.o10 (D10.symm.trans h)), o11 := (fun h => U18.trans (I.o11 (D11.symm.trans h))), o12 := (fun h => U19.trans (I.o12 (D12.symm.trans h))), o13 := (fun h => U2.trans (I.o13 (D13.symm.trans h))), o14 := (fun h => U3.trans (I.o14 (D14.symm.trans h))) }⟩
      · skip
        have D0 : (d.setIfInBounds 4 true).getD 0 false = d.getD 0 false := getD_set_ne false (by decide)
        have D1 : (d.setIfInBounds 4 true).getD 1 false = d.getD 1 false := getD_set_ne false (by decide)
        have D2 : (d.setIfInBounds 4 true).getD 2 false = d.getD 2 false := getD_set_ne false (by decide)
        have D3 : (d.setIfInBounds 4 true).getD 3 false = d.getD 3 false := getD_set_ne false (by decide)
        have D4 : (d.setIfInBounds 4 true).getD 4 false = true := getD_set_same hun
        have D5 : (d.setIfInBounds 4 true).getD 5 false = d.getD 5 false := getD_set_ne false (by decide)
        have D6 : (d.setIfInBounds 4 true).getD 6 false = d.getD 6 false := getD_set_ne false (by decide)
        have D7 : (d.setIfInBounds 4 true).getD 7 false = d.getD 7 false := getD_set_ne false (by decide)
        have D8 : (d.setIfInBounds 4 true).getD 8 false = d.getD 8 false := getD_set_ne false (by decide)
        have D9 : (d.setIfInBounds 4 true).getD 9 false = d.getD 9 false := getD_set_ne false (by decide)
        have D10 : (d.setIfInBounds 4 true).getD 10 false = d.getD 10 false := getD_set_ne false (by decide)
        have D11 : (d.setIfInBounds 4 true).getD 11 false = d.getD 11 false := getD_set_ne false (by decide)
        have D12 : (d.setIfInBounds 4 true).getD 12 false = d.getD 12 false := getD_set_ne false (by decide)
        have D13 : (d.setIfInBounds 4 true).getD 13 false = d.getD 13 false := getD_set_ne false (by decide)
        have D14 : (d.setIfInBounds 4 true).getD 14 false = d.getD 14 false := getD_set_ne false (by decide)
        have e10 := I.o3 (hall ⟨3, .data⟩ (by simp) rfl)
        have U1 : updA us 11 (.int .i64 (n : Int)) 1 = us 1 := upd_other (by decide)
        have U2 : updA us 11 (.int .i64 (n : Int)) 2 = us 2 := upd_other (by decide)
        have U3 : updA us 11 (.int .i64 (n : Int)) 3 = us 3 := upd_other (by decide)
        have U7 : updA us 11 (.int .i64 (n : Int)) 7 = us 7 := upd_other (by decide)
        have U8 : updA us 11 (.int .i64 (n : Int)) 8 = us 8 := upd_other (by decide)
        have U9 : updA us 11 (.int .i64 (n : Int)) 9 = us 9 := upd_other (by decide)
        have U10 : updA us 11 (.int .i64 (n : Int)) 10 = us 10 := upd_other (by decide)
        have U11 : updA us 11 (.int .i64 (n : Int)) 11 = (.int .i64 (n : Int)) := upd_same _ _ _
        have U12 : updA us 11 (.int .i64 (n : Int)) 12 = us 12 := upd_other (by decide)
        have U13 : updA us 11 (.int .i64 (n : Int)) 13 = us 13 := upd_other (by decide)
        have U14 : updA us 11 (.int .i64 (n : Int)) 14 = us 14 := upd_other (by decide)
        have U15 : updA us 11 (.int .i64 (n : Int)) 15 = us 15 := upd_other (by decide)
        have U16 : updA us 11 (.int .i64 (n : Int)) 16 = us 16 := upd_other (by decide)
        have U17 : updA us 11 (.int .i64 (n : Int)) 17 = us 17 := upd_other (by decide)
        have U18 : updA us 11 (.int .i64 (n : Int)) 18 = us 18 := upd_other (by decide)
        have U19 : updA us 11 (.int .i64 (n : Int)) 19 = us 19 := upd_other (by decide)
        refine wpOp_step rfl (fun K hK => ?_)
        simp only [frPt, e1, e10]
        go_simp
        refine hK _ _ ⟨updA us 11 (.int .i64 (n : Int)), by simp [frPt, updA, e1, e10], { u1 := (U1.trans I.u1), bel := (I.bel), o0 := (fun h => U7.trans (I.o0 (D0.symm.trans h))), o1 := (fun h => U8.trans (I.o1 (D1.symm.trans h))), o2 := (fun h => U9.trans (I.o2 (D2.symm.trans h))), o3 := (fun h => U10.trans (I.o3 (D3.symm.trans h))), o4 := (fun _ => U11), o5 := (fun h => U12.trans (I.o5 (D5.symm.trans h))), o6 := (fun h => U13.trans (I.o6 (D6.symm.trans h))), o7 := (fun h => U14.trans (I.o7 (D7.symm.trans h))), o8 := (fun h => U15.trans (I.o8 (D8.symm.trans h))), o9 := (fun h => U16.trans (I.o9 (D9.symm.trans h))), o10 := (fun h => by rw [U17]; exact I.o10 (D10.symm.trans h)), o11 := (fun h => U18.trans (I.o11 (D11.symm.trans h))), o12 := (fun h => U19.trans (I.o12 (D12.symm.trans h))), o13 := (fun h => U2.trans (I.o13 (D13.symm.trans h))), o14 := (fun h => U3.trans (I.o14 (D14.symm.trans h))) }⟩
      · skip
        have D0 : (d.setIfInBounds 5 true).getD 0 false = d.getD 0 false := getD_set_ne false (by decide)
        have D1 : (d.setIfInBounds 5 true).getD 1 false = d.getD 1 false := getD_set_ne false (by decide)
        have D2 : (d.setIfInBounds 5 true).getD 2 false = d.getD 2 false := getD_set_ne false (by decide)
        have D3 : (d.setIfInBounds 5 true).getD 3 false = d.getD 3 false := getD_set_ne false (by decide)
        have D4 : (d.setIfInBounds 5 true).getD 4 false = d.getD 4 false := getD_set_ne false (by decide)
        have D5 : (d.setIfInBounds 5 true).getD 5 false = true := getD_set_same hun
        have D6 : (d.setIfInBounds 5 true).getD 6 false = d.getD 6 false := getD_set_ne false (by decide)
        have D7 : (d.setIfInBounds 5 true).getD 7 false = d.getD 7 false := getD_set_ne false (by decide)
        have D8 : (d.setIfInBounds 5 true).getD 8 false = d.getD 8 false := getD_set_ne false (by decide)
        have D9 : (d.setIfInBounds 5 true).getD 9 false = d.getD 9 false := getD_set_ne false (by decide)
        have D10 : (d.setIfInBounds 5 true).getD 10 false = d.getD 10 false := getD_set_ne false (by decide)
        have D11 : (d.setIfInBounds 5 true).getD 11 false = d.getD 11 false := getD_set_ne false (by decide)
        have D12 : (d.setIfInBounds 5 true).getD 12 false = d.getD 12 false := getD_set_ne false (by decide)
        have D13 : (d.setIfInBounds 5 true).getD 13 false = d.getD 13 false := getD_set_ne false (by decide)
        have D14 : (d.setIfInBounds 5 true).getD 14 false = d.getD 14 false := getD_set_ne false (by decide)
        have e11 := I.o4 (hall ⟨4, .data⟩ (by simp) rfl)
        have U1 : updA us 12 (.string ⟨D.toArray⟩) 1 = us 1 := upd_other (by decide)
        have U2 : updA us 12 (.string ⟨D.toArray⟩) 2 = us 2 := upd_other (by decide)
        have U3 : updA us 12 (.string ⟨D.toArray⟩) 3 = us 3 := upd_other (by decide)
        have U7 : updA us 12 (.string ⟨D.toArray⟩) 7 = us 7 := upd_other (by decide)
        have U8 : updA us 12 (.string ⟨D.toArray⟩) 8 = us 8 := upd_other (by decide)
        have U9 : updA us 12 (.string ⟨D.toArray⟩) 9 = us 9 := upd_other (by decide)
        have U10 : updA us 12 (.string ⟨D.toArray⟩) 10 = us 10 := upd_other (by decide)
        have U11 : updA us 12 (.string ⟨D.toArray⟩) 11 = us 11 := upd_other (by decide)
        have U12 : updA us 12 (.string ⟨D.toArray⟩) 12 = (.string ⟨D.toArray⟩) := upd_same _ _ _
        have U13 : updA us 12 (.string ⟨D.toArray⟩) 13 = us 13 := upd_other (by decide)
        have U14 : updA us 12 (.string ⟨D.toArray⟩) 14 = us 14 := upd_other (by decide)
        have U15 : updA us 12 (.string ⟨D.toArray⟩) 15 = us 15 := upd_other (by decide)
        have U16 : updA us 12 (.string ⟨D.toArray⟩) 16 = us 16 := upd_other (by decide)
        have U17 : updA us 12 (.string ⟨D.toArray⟩) 17 = us 17 := upd_other (by decide)
        have U18 : updA us 12 (.string ⟨D.toArray⟩) 18 = us 18 := upd_other (by decide)
        have U19 : updA us 12 (.string ⟨D.toArray⟩) 19 = us 19 := upd_other (by decide)
        refine wpOp_step rfl (fun K hK => ?_)
        simp only [frPt, e1, e11]
        go_simp
        go_wp2_with (go_at_call 61; refine (HF.out W hTab).mono ?_; rintro e w2 ⟨rfl, hb2⟩)
        exact ⟨updA us 12 (.string ⟨D.toArray⟩), by simp [frPt, updA, e1, e11], { u1 := (U1.trans I.u1), bel := (I.bel.trans (hb2.mono hsz)), o0 := (fun h => U7.trans (I.o0 (D0.symm.trans h))), o1 := (fun h => U8.trans (I.o1 (D1.symm.trans h))), o2 := (fun h => U9.trans (I.o2 (D2.symm.trans h))), o3 := (fun h => U10.trans (I.o3 (D3.symm.trans h))), o4 := (fun h => U11.trans (I.o4 (D4.symm.trans h))), o5 := (fun _ => U12), o6 := (fun h => U13.trans (I.o6 (D6.symm.trans h))), o7 := (fun h => U14.trans (I.o7 (D7.symm.trans h))), o8 := (fun h => U15.trans (I.o8 (D8.symm.trans h))), o9 := (fun h => U16.trans (I.o9 (D9.symm.trans h))), o10 := (fun h => by rw [U17]; obtain ⟨B2, g1, g2⟩ := I.o10 (D10.symm.trans h); exact ⟨B2, g1, (hb2.block B2 (lt_some g2)).trans g2⟩), o11 := (fun h => U18.trans (I.o11 (D11.symm.trans h))), o12 := (fun h => U19.trans (I.o12 (D12.symm.trans h))), o13 := (fun h => U2.trans (I.o13 (D13.symm.trans h))), o14 := (fun h => U3.trans (I.o14 (D14.symm.trans h))) }⟩
      · skip
        have D0 : (d.setIfInBounds 6 true).getD 0 false = d.getD 0 false := getD_set_ne false (by decide)
        have D1 : (d.setIfInBounds 6 true).getD 1 false = d.getD 1 false := getD_set_ne false (by decide)
        have D2 : (d.setIfInBounds 6 true).getD 2 false = d.getD 2 false := getD_set_ne false (by decide)
        have D3 : (d.setIfInBounds 6 true).getD 3 false = d.getD 3 false := getD_set_ne false (by decide)
        have D4 : (d.setIfInBounds 6 true).getD 4 false = d.getD 4 false := getD_set_ne false (by decide)
        have D5 : (d.setIfInBounds 6 true).getD 5 false = d.getD 5 false := getD_set_ne false (by decide)
        have D6 : (d.setIfInBounds 6 true).getD 6 false = true := getD_set_same hun
        have D7 : (d.setIfInBounds 6 true).getD 7 false = d.getD 7 false := getD_set_ne false (by decide)
        have D8 : (d.setIfInBounds 6 true).getD 8 false = d.getD 8 false := getD_set_ne false (by decide)
        have D9 : (d.setIfInBounds 6 true).getD 9 false = d.getD 9 false := getD_set_ne false (by decide)
        have D10 : (d.setIfInBounds 6 true).getD 10 false = d.getD 10 false := getD_set_ne false (by decide)
        have D11 : (d.setIfInBounds 6 true).getD 11 false = d.getD 11 false := getD_set_ne false (by decide)
        have D12 : (d.setIfInBounds 6 true).getD 12 false = d.getD 12 false := getD_set_ne false (by decide)
        have D13 : (d.setIfInBounds 6 true).getD 13 false = d.getD 13 false := getD_set_ne false (by decide)
        have D14 : (d.setIfInBounds 6 true).getD 14 false = d.getD 14 false := getD_set_ne false (by decide)
        have e9 := I.o2 (hall ⟨2, .data⟩ (by simp) rfl)
        have e12 := I.o5 (hall ⟨5, .data⟩ (by simp) rfl)
        have U1 : updA us 13 (.string ⟨t2.toArray⟩) 1 = us 1 := upd_other (by decide)
        have U2 : updA us 13 (.string ⟨t2.toArray⟩) 2 = us 2 := upd_other (by decide)
        have U3 : updA us 13 (.string ⟨t2.toArray⟩) 3 = us 3 := upd_other (by decide)
        have U7 : updA us 13 (.string ⟨t2.toArray⟩) 7 = us 7 := upd_other (by decide)
        have U8 : updA us 13 (.string ⟨t2.toArray⟩) 8 = us 8 := upd_other (by decide)
        have U9 : updA us 13 (.string ⟨t2.toArray⟩) 9 = us 9 := upd_other (by decide)
        have U10 : updA us 13 (.string ⟨t2.toArray⟩) 10 = us 10 := upd_other (by decide)
        have U11 : updA us 13 (.string ⟨t2.toArray⟩) 11 = us 11 := upd_other (by decide)
        have U12 : updA us 13 (.string ⟨t2.toArray⟩) 12 = us 12 := upd_other (by decide)
        have U13 : updA us 13 (.string ⟨t2.toArray⟩) 13 = (.string ⟨t2.toArray⟩) := upd_same _ _ _
        have U14 : updA us 13 (.string ⟨t2.toArray⟩) 14 = us 14 := upd_other (by decide)
        have U15 : updA us 13 (.string ⟨t2.toArray⟩) 15 = us 15 := upd_other (by decide)
        have U16 : updA us 13 (.string ⟨t2.toArray⟩) 16 = us 16 := upd_other (by decide)
        have U17 : updA us 13 (.string ⟨t2.toArray⟩) 17 = us 17 := upd_other (by decide)
        have U18 : updA us 13 (.string ⟨t2.toArray⟩) 18 = us 18 := upd_other (by decide)
        have U19 : updA us 13 (.string ⟨t2.toArray⟩) 19 = us 19 := upd_other (by decide)
        refine wpOp_step rfl (fun K hK => ?_)
        simp only [frPt, e1, e9, e12]
        go_simp
        refine hK _ _ ⟨updA us 13 (.string ⟨t2.toArray⟩), by simp [frPt, updA, e1, e9, e12, s2], { u1 := (U1.trans I.u1), bel := (I.bel), o0 := (fun h => U7.trans (I.o0 (D0.symm.trans h))), o1 := (fun h => U8.trans (I.o1 (D1.symm.trans h))), o2 := (fun h => U9.trans (I.o2 (D2.symm.trans h))), o3 := (fun h => U10.trans (I.o3 (D3.symm.trans h))), o4 := (fun h => U11.trans (I.o4 (D4.symm.trans h))), o5 := (fun h => U12.trans (I.o5 (D5.symm.trans h))), o6 := (fun _ => U13), o7 := (fun h => U14.trans (I.o7 (D7.symm.trans h))), o8 := (fun h => U15.trans (I.o8 (D8.symm.trans h))), o9 := (fun h => U16.trans (I.o9 (D9.symm.trans h))), o10 := (fun h => by rw [U17]; exact I.o10 (D10.symm.trans h)), o11 := (fun h => U18.trans (I.o11 (D11.symm.trans h))), o12 := (fun h => U19.trans (I.o12 (D12.symm.trans h))), o13 := (fun h => U2.trans (I.o13 (D13.symm.trans h))), o14 := (fun h => U3.trans (I.o14 (D14.symm.trans h))) }⟩
      · skip
        have D0 : (d.setIfInBounds 7 true).getD 0 false = d.getD 0 false := getD_set_ne false (by decide)
        have D1 : (d.setIfInBounds 7 true).getD 1 false = d.getD 1 false := getD_set_ne false (by decide)
        have D2 : (d.setIfInBounds 7 true).getD 2 false = d.getD 2 false := getD_set_ne false (by decide)
        have D3 : (d.setIfInBounds 7 true).getD 3 false = d.getD 3 false := getD_set_ne false (by decide)
        have D4 : (d.setIfInBounds 7 true).getD 4 false = d.getD 4 false := getD_set_ne false (by decide)
        have D5 : (d.setIfInBounds 7 true).getD 5 false = d.getD 5 false := getD_set_ne false (by decide)
        have D6 : (d.setIfInBounds 7 true).getD 6 false = d.getD 6 false := getD_set_ne false (by decide)
        have D7 : (d.setIfInBounds 7 true).getD 7 false = true := getD_set_same hun
        have D8 : (d.setIfInBounds 7 true).getD 8 false = d.getD 8 false := getD_set_ne false (by decide)
        have D9 : (d.setIfInBounds 7 true).getD 9 false = d.getD 9 false := getD_set_ne false (by decide)
        have D10 : (d.setIfInBounds 7 true).getD 10 false = d.getD 10 false := getD_set_ne false (by decide)
        have D11 : (d.setIfInBounds 7 true).getD 11 false = d.getD 11 false := getD_set_ne false (by decide)
        have D12 : (d.setIfInBounds 7 true).getD 12 false = d.getD 12 false := getD_set_ne false (by decide)
        have D13 : (d.setIfInBounds 7 true).getD 13 false = d.getD 13 false := getD_set_ne false (by decide)
        have D14 : (d.setIfInBounds 7 true).getD 14 false = d.getD 14 false := getD_set_ne false (by decide)
        have e13 := I.o6 (hall ⟨6, .data⟩ (by simp) rfl)
        have U1 : updA us 14 (.string ⟨t3.toArray⟩) 1 = us 1 := upd_other (by decide)
        have U2 : updA us 14 (.string ⟨t3.toArray⟩) 2 = us 2 := upd_other (by decide)
        have U3 : updA us 14 (.string ⟨t3.toArray⟩) 3 = us 3 := upd_other (by decide)
        have U7 : updA us 14 (.string ⟨t3.toArray⟩) 7 = us 7 := upd_other (by decide)
        have U8 : updA us 14 (.string ⟨t3.toArray⟩) 8 = us 8 := upd_other (by decide)
        have U9 : updA us 14 (.string ⟨t3.toArray⟩) 9 = us 9 := upd_other (by decide)
        have U10 : updA us 14 (.string ⟨t3.toArray⟩) 10 = us 10 := upd_other (by decide)
        have U11 : updA us 14 (.string ⟨t3.toArray⟩) 11 = us 11 := upd_other (by decide)
        have U12 : updA us 14 (.string ⟨t3.toArray⟩) 12 = us 12 := upd_other (by decide)
        have U13 : updA us 14 (.string ⟨t3.toArray⟩) 13 = us 13 := upd_other (by decide)
        have U14 : updA us 14 (.string ⟨t3.toArray⟩) 14 = (.string ⟨t3.toArray⟩) := upd_same _ _ _
        have U15 : updA us 14 (.string ⟨t3.toArray⟩) 15 = us 15 := upd_other (by decide)
        have U16 : updA us 14 (.string ⟨t3.toArray⟩) 16 = us 16 := upd_other (by decide)
        have U17 : updA us 14 (.string ⟨t3.toArray⟩) 17 = us 17 := upd_other (by decide)
        have U18 : updA us 14 (.string ⟨t3.toArray⟩) 18 = us 18 := upd_other (by decide)
        have U19 : updA us 14 (.string ⟨t3.toArray⟩) 19 = us 19 := upd_other (by decide)
        refine wpOp_step rfl (fun K hK => ?_)
        simp only [frPt, e1, e13]
        go_simp
        refine hK _ _ ⟨updA us 14 (.string ⟨t3.toArray⟩), by simp [frPt, updA, e1, e13, s3], { u1 := (U1.trans I.u1), bel := (I.bel), o0 := (fun h => U7.trans (I.o0 (D0.symm.trans h))), o1 := (fun h => U8.trans (I.o1 (D1.symm.trans h))), o2 := (fun h => U9.trans (I.o2 (D2.symm.trans h))), o3 := (fun h => U10.trans (I.o3 (D3.symm.trans h))), o4 := (fun h => U11.trans (I.o4 (D4.symm.trans h))), o5 := (fun h => U12.trans (I.o5 (D5.symm.trans h))), o6 := (fun h => U13.trans (I.o6 (D6.symm.trans h))), o7 := (fun _ => U14), o8 := (fun h => U15.trans (I.o8 (D8.symm.trans h))), o9 := (fun h => U16.trans (I.o9 (D9.symm.trans h))), o10 := (fun h => by rw [U17]; exact I.o10 (D10.symm.trans h)), o11 := (fun h => U18.trans (I.o11 (D11.symm.trans h))), o12 := (fun h => U19.trans (I.o12 (D12.symm.trans h))), o13 := (fun h => U2.trans (I.o13 (D13.symm.trans h))), o14 := (fun h => U3.trans (I.o14 (D14.symm.trans h))) }⟩
      · skip
        have D0 : (d.setIfInBounds 8 true).getD 0 false = d.getD 0 false := getD_set_ne false (by decide)
        have D1 : (d.setIfInBounds 8 true).getD 1 false = d.getD 1 false := getD_set_ne false (by decide)
        have D2 : (d.setIfInBounds 8 true).getD 2 false = d.getD 2 false := getD_set_ne false (by decide)
        have D3 : (d.setIfInBounds 8 true).getD 3 false = d.getD 3 false := getD_set_ne false (by decide)
        have D4 : (d.setIfInBounds 8 true).getD 4 false = d.getD 4 false := getD_set_ne false (by decide)
        have D5 : (d.setIfInBounds 8 true).getD 5 false = d.getD 5 false := getD_set_ne false (by decide)
        have D6 : (d.setIfInBounds 8 true).getD 6 false = d.getD 6 false := getD_set_ne false (by decide)
        have D7 : (d.setIfInBounds 8 true).getD 7 false = d.getD 7 false := getD_set_ne false (by decide)
        have D8 : (d.setIfInBounds 8 true).getD 8 false = true := getD_set_same hun
        have D9 : (d.setIfInBounds 8 true).getD 9 false = d.getD 9 false := getD_set_ne false (by decide)
        have D10 : (d.setIfInBounds 8 true).getD 10 false = d.getD 10 false := getD_set_ne false (by decide)
        have D11 : (d.setIfInBounds 8 true).getD 11 false = d.getD 11 false := getD_set_ne false (by decide)
        have D12 : (d.setIfInBounds 8 true).getD 12 false = d.getD 12 false := getD_set_ne false (by decide)
        have D13 : (d.setIfInBounds 8 true).getD 13 false = d.getD 13 false := getD_set_ne false (by decide)
        have D14 : (d.setIfInBounds 8 true).getD 14 false = d.getD 14 false := getD_set_ne false (by decide)
        have U1 : updA us 15 (.pointer (some ⟨(w.heap.size), 2, none⟩)) 1 = us 1 := upd_other (by decide)
        have U2 : updA us 15 (.pointer (some ⟨(w.heap.size), 2, none⟩)) 2 = us 2 := upd_other (by decide)
        have U3 : updA us 15 (.pointer (some ⟨(w.heap.size), 2, none⟩)) 3 = us 3 := upd_other (by decide)
        have U7 : updA us 15 (.pointer (some ⟨(w.heap.size), 2, none⟩)) 7 = us 7 := upd_other (by decide)
        have U8 : updA us 15 (.pointer (some ⟨(w.heap.size), 2, none⟩)) 8 = us 8 := upd_other (by decide)
        have U9 : updA us 15 (.pointer (some ⟨(w.heap.size), 2, none⟩)) 9 = us 9 := upd_other (by decide)
        have U10 : updA us 15 (.pointer (some ⟨(w.heap.size), 2, none⟩)) 10 = us 10 := upd_other (by decide)
        have U11 : updA us 15 (.pointer (some ⟨(w.heap.size), 2, none⟩)) 11 = us 11 := upd_other (by decide)
        have U12 : updA us 15 (.pointer (some ⟨(w.heap.size), 2, none⟩)) 12 = us 12 := upd_other (by decide)
        have U13 : updA us 15 (.pointer (some ⟨(w.heap.size), 2, none⟩)) 13 = us 13 := upd_other (by decide)
        have U14 : updA us 15 (.pointer (some ⟨(w.heap.size), 2, none⟩)) 14 = us 14 := upd_other (by decide)
        have U15 : updA us 15 (.pointer (some ⟨(w.heap.size), 2, none⟩)) 15 = (.pointer (some ⟨(w.heap.size), 2, none⟩)) := upd_same _ _ _
        have U16 : updA us 15 (.pointer (some ⟨(w.heap.size), 2, none⟩)) 16 = us 16 := upd_other (by decide)
        have U17 : updA us 15 (.pointer (some ⟨(w.heap.size), 2, none⟩)) 17 = us 17 := upd_other (by decide)
        have U18 : updA us 15 (.pointer (some ⟨(w.heap.size), 2, none⟩)) 18 = us 18 := upd_other (by decide)
        have U19 : updA us 15 (.pointer (some ⟨(w.heap.size), 2, none⟩)) 19 = us 19 := upd_other (by decide)
        refine wpOp_step rfl (fun K hK => ?_)
        simp only [frPt, e1]
        go_simp
        refine hK _ _ ⟨updA us 15 (.pointer (some ⟨(w.heap.size), 2, none⟩)), by simp [frPt, updA, e1], { u1 := (U1.trans I.u1), bel := (I.bel), o0 := (fun h => U7.trans (I.o0 (D0.symm.trans h))), o1 := (fun h => U8.trans (I.o1 (D1.symm.trans h))), o2 := (fun h => U9.trans (I.o2 (D2.symm.trans h))), o3 := (fun h => U10.trans (I.o3 (D3.symm.trans h))), o4 := (fun h => U11.trans (I.o4 (D4.symm.trans h))), o5 := (fun h => U12.trans (I.o5 (D5.symm.trans h))), o6 := (fun h => U13.trans (I.o6 (D6.symm.trans h))), o7 := (fun h => U14.trans (I.o7 (D7.symm.trans h))), o8 := (fun _ => U15), o9 := (fun h => U16.trans (I.o9 (D9.symm.trans h))), o10 := (fun h => by rw [U17]; exact I.o10 (D10.symm.trans h)), o11 := (fun h => U18.trans (I.o11 (D11.symm.trans h))), o12 := (fun h => U19.trans (I.o12 (D12.symm.trans h))), o13 := (fun h => U2.trans (I.o13 (D13.symm.trans h))), o14 := (fun h => U3.trans (I.o14 (D14.symm.trans h))) }⟩
      · skip
        have D0 : (d.setIfInBounds 9 true).getD 0 false = d.getD 0 false := getD_set_ne false (by decide)
        have D1 : (d.setIfInBounds 9 true).getD 1 false = d.getD 1 false := getD_set_ne false (by decide)
        have D2 : (d.setIfInBounds 9 true).getD 2 false = d.getD 2 false := getD_set_ne false (by decide)
        have D3 : (d.setIfInBounds 9 true).getD 3 false = d.getD 3 false := getD_set_ne false (by decide)
        have D4 : (d.setIfInBounds 9 true).getD 4 false = d.getD 4 false := getD_set_ne false (by decide)
        have D5 : (d.setIfInBounds 9 true).getD 5 false = d.getD 5 false := getD_set_ne false (by decide)
        have D6 : (d.setIfInBounds 9 true).getD 6 false = d.getD 6 false := getD_set_ne false (by decide)
        have D7 : (d.setIfInBounds 9 true).getD 7 false = d.getD 7 false := getD_set_ne false (by decide)
        have D8 : (d.setIfInBounds 9 true).getD 8 false = d.getD 8 false := getD_set_ne false (by decide)
        have D9 : (d.setIfInBounds 9 true).getD 9 false = true := getD_set_same hun
        have D10 : (d.setIfInBounds 9 true).getD 10 false = d.getD 10 false := getD_set_ne false (by decide)
        have D11 : (d.setIfInBounds 9 true).getD 11 false = d.getD 11 false := getD_set_ne false (by decide)
        have D12 : (d.setIfInBounds 9 true).getD 12 false = d.getD 12 false := getD_set_ne false (by decide)
        have D13 : (d.setIfInBounds 9 true).getD 13 false = d.getD 13 false := getD_set_ne false (by decide)
        have D14 : (d.setIfInBounds 9 true).getD 14 false = d.getD 14 false := getD_set_ne false (by decide)
        have e15 := I.o8 (hall ⟨8, .data⟩ (by simp) rfl)
        have U1 : updA us 16 (.string ⟨p.a.toArray⟩) 1 = us 1 := upd_other (by decide)
        have U2 : updA us 16 (.string ⟨p.a.toArray⟩) 2 = us 2 := upd_other (by decide)
        have U3 : updA us 16 (.string ⟨p.a.toArray⟩) 3 = us 3 := upd_other (by decide)
        have U7 : updA us 16 (.string ⟨p.a.toArray⟩) 7 = us 7 := upd_other (by decide)
        have U8 : updA us 16 (.string ⟨p.a.toArray⟩) 8 = us 8 := upd_other (by decide)
        have U9 : updA us 16 (.string ⟨p.a.toArray⟩) 9 = us 9 := upd_other (by decide)
        have U10 : updA us 16 (.string ⟨p.a.toArray⟩) 10 = us 10 := upd_other (by decide)
        have U11 : updA us 16 (.string ⟨p.a.toArray⟩) 11 = us 11 := upd_other (by decide)
        have U12 : updA us 16 (.string ⟨p.a.toArray⟩) 12 = us 12 := upd_other (by decide)
        have U13 : updA us 16 (.string ⟨p.a.toArray⟩) 13 = us 13 := upd_other (by decide)
        have U14 : updA us 16 (.string ⟨p.a.toArray⟩) 14 = us 14 := upd_other (by decide)
        have U15 : updA us 16 (.string ⟨p.a.toArray⟩) 15 = us 15 := upd_other (by decide)
        have U16 : updA us 16 (.string ⟨p.a.toArray⟩) 16 = (.string ⟨p.a.toArray⟩) := upd_same _ _ _
        have U17 : updA us 16 (.string ⟨p.a.toArray⟩) 17 = us 17 := upd_other (by decide)
        have U18 : updA us 16 (.string ⟨p.a.toArray⟩) 18 = us 18 := upd_other (by decide)
        have U19 : updA us 16 (.string ⟨p.a.toArray⟩) 19 = us 19 := upd_other (by decide)
        refine wpOp_step rfl (fun K hK => ?_)
        simp only [frPt, e1, e15]
        go_simp
        refine hK _ _ ⟨updA us 16 (.string ⟨p.a.toArray⟩), by simp [frPt, updA, e1, e15], { u1 := (U1.trans I.u1), bel := (I.bel), o0 := (fun h => U7.trans (I.o0 (D0.symm.trans h))), o1 := (fun h => U8.trans (I.o1 (D1.symm.trans h))), o2 := (fun h => U9.trans (I.o2 (D2.symm.trans h))), o3 := (fun h => U10.trans (I.o3 (D3.symm.trans h))), o4 := (fun h => U11.trans (I.o4 (D4.symm.trans h))), o5 := (fun h => U12.trans (I.o5 (D5.symm.trans h))), o6 := (fun h => U13.trans (I.o6 (D6.symm.trans h))), o7 := (fun h => U14.trans (I.o7 (D7.symm.trans h))), o8 := (fun h => U15.trans (I.o8 (D8.symm.trans h))), o9 := (fun _ => U16), o10 := (fun h => by rw [U17]; exact I.o10 (D10.symm.trans h)), o11 := (fun h => U18.trans (I.o11 (D11.symm.trans h))), o12 := (fun h => U19.trans (I.o12 (D12.symm.trans h))), o13 := (fun h => U2.trans (I.o13 (D13.symm.trans h))), o14 := (fun h => U3.trans (I.o14 (D14.symm.trans h))) }⟩
      · skip
        have D0 : (d.setIfInBounds 10 true).getD 0 false = d.getD 0 false := getD_set_ne false (by decide)
        have D1 : (d.setIfInBounds 10 true).getD 1 false = d.getD 1 false := getD_set_ne false (by decide)
        have D2 : (d.setIfInBounds 10 true).getD 2 false = d.getD 2 false := getD_set_ne false (by decide)
        have D3 : (d.setIfInBounds 10 true).getD 3 false = d.getD 3 false := getD_set_ne false (by decide)
        have D4 : (d.setIfInBounds 10 true).getD 4 false = d.getD 4 false := getD_set_ne false (by decide)
        have D5 : (d.setIfInBounds 10 true).getD 5 false = d.getD 5 false := getD_set_ne false (by decide)
        have D6 : (d.setIfInBounds 10 true).getD 6 false = d.getD 6 false := getD_set_ne false (by decide)
        have D7 : (d.setIfInBounds 10 true).getD 7 false = d.getD 7 false := getD_set_ne false (by decide)
        have D8 : (d.setIfInBounds 10 true).getD 8 false = d.getD 8 false := getD_set_ne false (by decide)
        have D9 : (d.setIfInBounds 10 true).getD 9 false = d.getD 9 false := getD_set_ne false (by decide)
        have D10 : (d.setIfInBounds 10 true).getD 10 false = true := getD_set_same hun
        have D11 : (d.setIfInBounds 10 true).getD 11 false = d.getD 11 false := getD_set_ne false (by decide)
        have D12 : (d.setIfInBounds 10 true).getD 12 false = d.getD 12 false := getD_set_ne false (by decide)
        have D13 : (d.setIfInBounds 10 true).getD 13 false = d.getD 13 false := getD_set_ne false (by decide)
        have D14 : (d.setIfInBounds 10 true).getD 14 false = d.getD 14 false := getD_set_ne false (by decide)
        have e16 := I.o9 (hall ⟨9, .data⟩ (by simp) rfl)
        have U1 : updA us 17 (.slice (some ⟨W.heap.size, 0, none⟩) 2 2) 1 = us 1 := upd_other (by decide)
        have U2 : updA us 17 (.slice (some ⟨W.heap.size, 0, none⟩) 2 2) 2 = us 2 := upd_other (by decide)
        have U3 : updA us 17 (.slice (some ⟨W.heap.size, 0, none⟩) 2 2) 3 = us 3 := upd_other (by decide)
        have U7 : updA us 17 (.slice (some ⟨W.heap.size, 0, none⟩) 2 2) 7 = us 7 := upd_other (by decide)
        have U8 : updA us 17 (.slice (some ⟨W.heap.size, 0, none⟩) 2 2) 8 = us 8 := upd_other (by decide)
        have U9 : updA us 17 (.slice (some ⟨W.heap.size, 0, none⟩) 2 2) 9 = us 9 := upd_other (by decide)
        have U10 : updA us 17 (.slice (some ⟨W.heap.size, 0, none⟩) 2 2) 10 = us 10 := upd_other (by decide)
        have U11 : updA us 17 (.slice (some ⟨W.heap.size, 0, none⟩) 2 2) 11 = us 11 := upd_other (by decide)
        have U12 : updA us 17 (.slice (some ⟨W.heap.size, 0, none⟩) 2 2) 12 = us 12 := upd_other (by decide)
        have U13 : updA us 17 (.slice (some ⟨W.heap.size, 0, none⟩) 2 2) 13 = us 13 := upd_other (by decide)
        have U14 : updA us 17 (.slice (some ⟨W.heap.size, 0, none⟩) 2 2) 14 = us 14 := upd_other (by decide)
        have U15 : updA us 17 (.slice (some ⟨W.heap.size, 0, none⟩) 2 2) 15 = us 15 := upd_other (by decide)
        have U16 : updA us 17 (.slice (some ⟨W.heap.size, 0, none⟩) 2 2) 16 = us 16 := upd_other (by decide)
        have U17 : updA us 17 (.slice (some ⟨W.heap.size, 0, none⟩) 2 2) 17 = (.slice (some ⟨W.heap.size, 0, none⟩) 2 2) := upd_same _ _ _
        have U18 : updA us 17 (.slice (some ⟨W.heap.size, 0, none⟩) 2 2) 18 = us 18 := upd_other (by decide)
        have U19 : updA us 17 (.slice (some ⟨W.heap.size, 0, none⟩) 2 2) 19 = us 19 := upd_other (by decide)
        refine wpOp_step rfl (fun K hK => ?_)
        simp only [frPt, e1, e16]
        go_simp
        refine hK _ _ ⟨updA us 17 (.slice (some ⟨W.heap.size, 0, none⟩) 2 2), by simp [frPt, updA, e1, e16], { u1 := (U1.trans I.u1), bel := (I.bel.alloc hsz _), o0 := (fun h => U7.trans (I.o0 (D0.symm.trans h))), o1 := (fun h => U8.trans (I.o1 (D1.symm.trans h))), o2 := (fun h => U9.trans (I.o2 (D2.symm.trans h))), o3 := (fun h => U10.trans (I.o3 (D3.symm.trans h))), o4 := (fun h => U11.trans (I.o4 (D4.symm.trans h))), o5 := (fun h => U12.trans (I.o5 (D5.symm.trans h))), o6 := (fun h => U13.trans (I.o6 (D6.symm.trans h))), o7 := (fun h => U14.trans (I.o7 (D7.symm.trans h))), o8 := (fun h => U15.trans (I.o8 (D8.symm.trans h))), o9 := (fun h => U16.trans (I.o9 (D9.symm.trans h))), o10 := (fun _ => ⟨W.heap.size, U17, heap_alloc_new W _⟩), o11 := (fun h => U18.trans (I.o11 (D11.symm.trans h))), o12 := (fun h => U19.trans (I.o12 (D12.symm.trans h))), o13 := (fun h => U2.trans (I.o13 (D13.symm.trans h))), o14 := (fun h => U3.trans (I.o14 (D14.symm.trans h))) }⟩
      · skip
        have D0 : (d.setIfInBounds 11 true).getD 0 false = d.getD 0 false := getD_set_ne false (by decide)
        have D1 : (d.setIfInBounds 11 true).getD 1 false = d.getD 1 false := getD_set_ne false (by decide)
        have D2 : (d.setIfInBounds 11 true).getD 2 false = d.getD 2 false := getD_set_ne false (by decide)
        have D3 : (d.setIfInBounds 11 true).getD 3 false = d.getD 3 false := getD_set_ne false (by decide)
        have D4 : (d.setIfInBounds 11 true).getD 4 false = d.getD 4 false := getD_set_ne false (by decide)
        have D5 : (d.setIfInBounds 11 true).getD 5 false = d.getD 5 false := getD_set_ne false (by decide)
        have D6 : (d.setIfInBounds 11 true).getD 6 false = d.getD 6 false := getD_set_ne false (by decide)
        have D7 : (d.setIfInBounds 11 true).getD 7 false = d.getD 7 false := getD_set_ne false (by decide)
        have D8 : (d.setIfInBounds 11 true).getD 8 false = d.getD 8 false := getD_set_ne false (by decide)
        have D9 : (d.setIfInBounds 11 true).getD 9 false = d.getD 9 false := getD_set_ne false (by decide)
        have D10 : (d.setIfInBounds 11 true).getD 10 false = d.getD 10 false := getD_set_ne false (by decide)
        have D11 : (d.setIfInBounds 11 true).getD 11 false = true := getD_set_same hun
        have D12 : (d.setIfInBounds 11 true).getD 12 false = d.getD 12 false := getD_set_ne false (by decide)
        have D13 : (d.setIfInBounds 11 true).getD 13 false = d.getD 13 false := getD_set_ne false (by decide)
        have D14 : (d.setIfInBounds 11 true).getD 14 false = d.getD 14 false := getD_set_ne false (by decide)
        obtain ⟨B, e17, hB⟩ := I.o10 (hall ⟨10, .data⟩ (by simp) rfl)
        have hb2 := Below.refl W.heap.size W
        have d0 : W.cell? ⟨B, 0, none⟩ = some (.string ⟨p.a.toArray⟩) := by rw [cell_of_row _ _ _ _ _ _ hB]; rfl
        have d1 : W.cell? ⟨B, 1, none⟩ = some (.string ⟨#[45]⟩) := by rw [cell_of_row _ _ _ _ _ _ hB]; rfl
        have U1 : updA us 18 (.string ⟨O.toArray⟩) 1 = us 1 := upd_other (by decide)
        have U2 : updA us 18 (.string ⟨O.toArray⟩) 2 = us 2 := upd_other (by decide)
        have U3 : updA us 18 (.string ⟨O.toArray⟩) 3 = us 3 := upd_other (by decide)
        have U7 : updA us 18 (.string ⟨O.toArray⟩) 7 = us 7 := upd_other (by decide)
        have U8 : updA us 18 (.string ⟨O.toArray⟩) 8 = us 8 := upd_other (by decide)
        have U9 : updA us 18 (.string ⟨O.toArray⟩) 9 = us 9 := upd_other (by decide)
        have U10 : updA us 18 (.string ⟨O.toArray⟩) 10 = us 10 := upd_other (by decide)
        have U11 : updA us 18 (.string ⟨O.toArray⟩) 11 = us 11 := upd_other (by decide)
        have U12 : updA us 18 (.string ⟨O.toArray⟩) 12 = us 12 := upd_other (by decide)
        have U13 : updA us 18 (.string ⟨O.toArray⟩) 13 = us 13 := upd_other (by decide)
        have U14 : updA us 18 (.string ⟨O.toArray⟩) 14 = us 14 := upd_other (by decide)
        have U15 : updA us 18 (.string ⟨O.toArray⟩) 15 = us 15 := upd_other (by decide)
        have U16 : updA us 18 (.string ⟨O.toArray⟩) 16 = us 16 := upd_other (by decide)
        have U17 : updA us 18 (.string ⟨O.toArray⟩) 17 = us 17 := upd_other (by decide)
        have U18 : updA us 18 (.string ⟨O.toArray⟩) 18 = (.string ⟨O.toArray⟩) := upd_same _ _ _
        have U19 : updA us 18 (.string ⟨O.toArray⟩) 19 = us 19 := upd_other (by decide)
        refine wpOp_step rfl (fun K hK => ?_)
        simp only [frPt, e1, e17]
        go_simp
        go_wp2_with (go_at_call 56; refine (HO.out B W d0 d1).mono ?_; rintro e w2 ⟨rfl, rfl⟩)
        exact ⟨updA us 18 (.string ⟨O.toArray⟩), by simp [frPt, updA, e1, e17], { u1 := (U1.trans I.u1), bel := (I.bel.trans (hb2.mono hsz)), o0 := (fun h => U7.trans (I.o0 (D0.symm.trans h))), o1 := (fun h => U8.trans (I.o1 (D1.symm.trans h))), o2 := (fun h => U9.trans (I.o2 (D2.symm.trans h))), o3 := (fun h => U10.trans (I.o3 (D3.symm.trans h))), o4 := (fun h => U11.trans (I.o4 (D4.symm.trans h))), o5 := (fun h => U12.trans (I.o5 (D5.symm.trans h))), o6 := (fun h => U13.trans (I.o6 (D6.symm.trans h))), o7 := (fun h => U14.trans (I.o7 (D7.symm.trans h))), o8 := (fun h => U15.trans (I.o8 (D8.symm.trans h))), o9 := (fun h => U16.trans (I.o9 (D9.symm.trans h))), o10 := (fun h => by rw [U17]; obtain ⟨B2, g1, g2⟩ := I.o10 (D10.symm.trans h); exact ⟨B2, g1, (hb2.block B2 (lt_some g2)).trans g2⟩), o11 := (fun _ => U18), o12 := (fun h => U19.trans (I.o12 (D12.symm.trans h))), o13 := (fun h => U2.trans (I.o13 (D13.symm.trans h))), o14 := (fun h => U3.trans (I.o14 (D14.symm.trans h))) }⟩
      · skip
        have D0 : (d.setIfInBounds 12 true).getD 0 false = d.getD 0 false := getD_set_ne false (by decide)
        have D1 : (d.setIfInBounds 12 true).getD 1 false = d.getD 1 false := getD_set_ne false (by decide)
        have D2 : (d.setIfInBounds 12 true).getD 2 false = d.getD 2 false := getD_set_ne false (by decide)
        have D3 : (d.setIfInBounds 12 true).getD 3 false = d.getD 3 false := getD_set_ne false (by decide)
        have D4 : (d.setIfInBounds 12 true).getD 4 false = d.getD 4 false := getD_set_ne false (by decide)
        have D5 : (d.setIfInBounds 12 true).getD 5 false = d.getD 5 false := getD_set_ne false (by decide)
        have D6 : (d.setIfInBounds 12 true).getD 6 false = d.getD 6 false := getD_set_ne false (by decide)
        have D7 : (d.setIfInBounds 12 true).getD 7 false = d.getD 7 false := getD_set_ne false (by decide)
        have D8 : (d.setIfInBounds 12 true).getD 8 false = d.getD 8 false := getD_set_ne false (by decide)
        have D9 : (d.setIfInBounds 12 true).getD 9 false = d.getD 9 false := getD_set_ne false (by decide)
        have D10 : (d.setIfInBounds 12 true).getD 10 false = d.getD 10 false := getD_set_ne false (by decide)
        have D11 : (d.setIfInBounds 12 true).getD 11 false = d.getD 11 false := getD_set_ne false (by decide)
        have D12 : (d.setIfInBounds 12 true).getD 12 false = true := getD_set_same hun
        have D13 : (d.setIfInBounds 12 true).getD 13 false = d.getD 13 false := getD_set_ne false (by decide)
        have D14 : (d.setIfInBounds 12 true).getD 14 false = d.getD 14 false := getD_set_ne false (by decide)
        have e14 := I.o7 (hall ⟨7, .data⟩ (by simp) rfl)
        have e18 := I.o11 (hall ⟨11, .data⟩ (by simp) rfl)
        have U1 : updA us 19 (.string ⟨t4.toArray⟩) 1 = us 1 := upd_other (by decide)
        have U2 : updA us 19 (.string ⟨t4.toArray⟩) 2 = us 2 := upd_other (by decide)
        have U3 : updA us 19 (.string ⟨t4.toArray⟩) 3 = us 3 := upd_other (by decide)
        have U7 : updA us 19 (.string ⟨t4.toArray⟩) 7 = us 7 := upd_other (by decide)
        have U8 : updA us 19 (.string ⟨t4.toArray⟩) 8 = us 8 := upd_other (by decide)
        have U9 : updA us 19 (.string ⟨t4.toArray⟩) 9 = us 9 := upd_other (by decide)
        have U10 : updA us 19 (.string ⟨t4.toArray⟩) 10 = us 10 := upd_other (by decide)
        have U11 : updA us 19 (.string ⟨t4.toArray⟩) 11 = us 11 := upd_other (by decide)
        have U12 : updA us 19 (.string ⟨t4.toArray⟩) 12 = us 12 := upd_other (by decide)
        have U13 : updA us 19 (.string ⟨t4.toArray⟩) 13 = us 13 := upd_other (by decide)
        have U14 : updA us 19 (.string ⟨t4.toArray⟩) 14 = us 14 := upd_other (by decide)
        have U15 : updA us 19 (.string ⟨t4.toArray⟩) 15 = us 15 := upd_other (by decide)
        have U16 : updA us 19 (.string ⟨t4.toArray⟩) 16 = us 16 := upd_other (by decide)
        have U17 : updA us 19 (.string ⟨t4.toArray⟩) 17 = us 17 := upd_other (by decide)
        have U18 : updA us 19 (.string ⟨t4.toArray⟩) 18 = us 18 := upd_other (by decide)
        have U19 : updA us 19 (.string ⟨t4.toArray⟩) 19 = (.string ⟨t4.toArray⟩) := upd_same _ _ _
        refine wpOp_step rfl (fun K hK => ?_)
        simp only [frPt, e1, e14, e18]
        go_simp
        refine hK _ _ ⟨updA us 19 (.string ⟨t4.toArray⟩), by simp [frPt, updA, e1, e14, e18, s4], { u1 := (U1.trans I.u1), bel := (I.bel), o0 := (fun h => U7.trans (I.o0 (D0.symm.trans h))), o1 := (fun h => U8.trans (I.o1 (D1.symm.trans h))), o2 := (fun h => U9.trans (I.o2 (D2.symm.trans h))), o3 := (fun h => U10.trans (I.o3 (D3.symm.trans h))), o4 := (fun h => U11.trans (I.o4 (D4.symm.trans h))), o5 := (fun h => U12.trans (I.o5 (D5.symm.trans h))), o6 := (fun h => U13.trans (I.o6 (D6.symm.trans h))), o7 := (fun h => U14.trans (I.o7 (D7.symm.trans h))), o8 := (fun h => U15.trans (I.o8 (D8.symm.trans h))), o9 := (fun h => U16.trans (I.o9 (D9.symm.trans h))), o10 := (fun h => by rw [U17]; exact I.o10 (D10.symm.trans h)), o11 := (fun h => U18.trans (I.o11 (D11.symm.trans h))), o12 := (fun _ => U19), o13 := (fun h => U2.trans (I.o13 (D13.symm.trans h))), o14 := (fun h => U3.trans (I.o14 (D14.symm.trans h))) }⟩
      · skip
        have D0 : (d.setIfInBounds 13 true).getD 0 false = d.getD 0 false := getD_set_ne false (by decide)
        have D1 : (d.setIfInBounds 13 true).getD 1 false = d.getD 1 false := getD_set_ne false (by decide)
        have D2 : (d.setIfInBounds 13 true).getD 2 false = d.getD 2 false := getD_set_ne false (by decide)
        have D3 : (d.setIfInBounds 13 true).getD 3 false = d.getD 3 false := getD_set_ne false (by decide)
        have D4 : (d.setIfInBounds 13 true).getD 4 false = d.getD 4 false := getD_set_ne false (by decide)
        have D5 : (d.setIfInBounds 13 true).getD 5 false = d.getD 5 false := getD_set_ne false (by decide)
        have D6 : (d.setIfInBounds 13 true).getD 6 false = d.getD 6 false := getD_set_ne false (by decide)
        have D7 : (d.setIfInBounds 13 true).getD 7 false = d.getD 7 false := getD_set_ne false (by decide)
        have D8 : (d.setIfInBounds 13 true).getD 8 false = d.getD 8 false := getD_set_ne false (by decide)
        have D9 : (d.setIfInBounds 13 true).getD 9 false = d.getD 9 false := getD_set_ne false (by decide)
        have D10 : (d.setIfInBounds 13 true).getD 10 false = d.getD 10 false := getD_set_ne false (by decide)
        have D11 : (d.setIfInBounds 13 true).getD 11 false = d.getD 11 false := getD_set_ne false (by decide)
        have D12 : (d.setIfInBounds 13 true).getD 12 false = d.getD 12 false := getD_set_ne false (by decide)
        have D13 : (d.setIfInBounds 13 true).getD 13 false = true := getD_set_same hun
        have D14 : (d.setIfInBounds 13 true).getD 14 false = d.getD 14 false := getD_set_ne false (by decide)
        have e19 := I.o12 (hall ⟨12, .data⟩ (by simp) rfl)
        have U1 : updA us 2 (.string ⟨t4.toArray⟩) 1 = us 1 := upd_other (by decide)
        have U2 : updA us 2 (.string ⟨t4.toArray⟩) 2 = (.string ⟨t4.toArray⟩) := upd_same _ _ _
        have U3 : updA us 2 (.string ⟨t4.toArray⟩) 3 = us 3 := upd_other (by decide)
        have U7 : updA us 2 (.string ⟨t4.toArray⟩) 7 = us 7 := upd_other (by decide)
        have U8 : updA us 2 (.string ⟨t4.toArray⟩) 8 = us 8 := upd_other (by decide)
        have U9 : updA us 2 (.string ⟨t4.toArray⟩) 9 = us 9 := upd_other (by decide)
        have U10 : updA us 2 (.string ⟨t4.toArray⟩) 10 = us 10 := upd_other (by decide)
        have U11 : updA us 2 (.string ⟨t4.toArray⟩) 11 = us 11 := upd_other (by decide)
        have U12 : updA us 2 (.string ⟨t4.toArray⟩) 12 = us 12 := upd_other (by decide)
        have U13 : updA us 2 (.string ⟨t4.toArray⟩) 13 = us 13 := upd_other (by decide)
        have U14 : updA us 2 (.string ⟨t4.toArray⟩) 14 = us 14 := upd_other (by decide)
        have U15 : updA us 2 (.string ⟨t4.toArray⟩) 15 = us 15 := upd_other (by decide)
        have U16 : updA us 2 (.string ⟨t4.toArray⟩) 16 = us 16 := upd_other (by decide)
        have U17 : updA us 2 (.string ⟨t4.toArray⟩) 17 = us 17 := upd_other (by decide)
        have U18 : updA us 2 (.string ⟨t4.toArray⟩) 18 = us 18 := upd_other (by decide)
        have U19 : updA us 2 (.string ⟨t4.toArray⟩) 19 = us 19 := upd_other (by decide)
        refine wpOp_step rfl (fun K hK => ?_)
        simp only [frPt, e1, e19]
        go_simp
        refine hK _ _ ⟨updA us 2 (.string ⟨t4.toArray⟩), by simp [frPt, updA, e1, e19], { u1 := (U1.trans I.u1), bel := (I.bel), o0 := (fun h => U7.trans (I.o0 (D0.symm.trans h))), o1 := (fun h => U8.trans (I.o1 (D1.symm.trans h))), o2 := (fun h => U9.trans (I.o2 (D2.symm.trans h))), o3 := (fun h => U10.trans (I.o3 (D3.symm.trans h))), o4 := (fun h => U11.trans (I.o4 (D4.symm.trans h))), o5 := (fun h => U12.trans (I.o5 (D5.symm.trans h))), o6 := (fun h => U13.trans (I.o6 (D6.symm.trans h))), o7 := (fun h => U14.trans (I.o7 (D7.symm.trans h))), o8 := (fun h => U15.trans (I.o8 (D8.symm.trans h))), o9 := (fun h => U16.trans (I.o9 (D9.symm.trans h))), o10 := (fun h => by rw [U17]; exact I.o10 (D10.symm.trans h)), o11 := (fun h => U18.trans (I.o11 (D11.symm.trans h))), o12 := (fun h => U19.trans (I.o12 (D12.symm.trans h))), o13 := (fun _ => U2), o14 := (fun h => U3.trans (I.o14 (D14.symm.trans h))) }⟩
      · skip
        have D0 : (d.setIfInBounds 14 true).getD 0 false = d.getD 0 false := getD_set_ne false (by decide)
        have D1 : (d.setIfInBounds 14 true).getD 1 false = d.getD 1 false := getD_set_ne false (by decide)
        have D2 : (d.setIfInBounds 14 true).getD 2 false = d.getD 2 false := getD_set_ne false (by decide)
        have D3 : (d.setIfInBounds 14 true).getD 3 false = d.getD 3 false := getD_set_ne false (by decide)
        have D4 : (d.setIfInBounds 14 true).getD 4 false = d.getD 4 false := getD_set_ne false (by decide)
        have D5 : (d.setIfInBounds 14 true).getD 5 false = d.getD 5 false := getD_set_ne false (by decide)
        have D6 : (d.setIfInBounds 14 true).getD 6 false = d.getD 6 false := getD_set_ne false (by decide)
        have D7 : (d.setIfInBounds 14 true).getD 7 false = d.getD 7 false := getD_set_ne false (by decide)
        have D8 : (d.setIfInBounds 14 true).getD 8 false = d.getD 8 false := getD_set_ne false (by decide)
        have D9 : (d.setIfInBounds 14 true).getD 9 false = d.getD 9 false := getD_set_ne false (by decide)
        have D10 : (d.setIfInBounds 14 true).getD 10 false = d.getD 10 false := getD_set_ne false (by decide)
        have D11 : (d.setIfInBounds 14 true).getD 11 false = d.getD 11 false := getD_set_ne false (by decide)
        have D12 : (d.setIfInBounds 14 true).getD 12 false = d.getD 12 false := getD_set_ne false (by decide)
        have D13 : (d.setIfInBounds 14 true).getD 13 false = d.getD 13 false := getD_set_ne false (by decide)
        have D14 : (d.setIfInBounds 14 true).getD 14 false = true := getD_set_same hun
        have U1 : updA us 3 (.int .i64 0) 1 = us 1 := upd_other (by decide)
        have U2 : updA us 3 (.int .i64 0) 2 = us 2 := upd_other (by decide)
        have U3 : updA us 3 (.int .i64 0) 3 = (.int .i64 0) := upd_same _ _ _
        have U7 : updA us 3 (.int .i64 0) 7 = us 7 := upd_other (by decide)
        have U8 : updA us 3 (.int .i64 0) 8 = us 8 := upd_other (by decide)
        have U9 : updA us 3 (.int .i64 0) 9 = us 9 := upd_other (by decide)
        have U10 : updA us 3 (.int .i64 0) 10 = us 10 := upd_other (by decide)
        have U11 : updA us 3 (.int .i64 0) 11 = us 11 := upd_other (by decide)
        have U12 : updA us 3 (.int .i64 0) 12 = us 12 := upd_other (by decide)
        have U13 : updA us 3 (.int .i64 0) 13 = us 13 := upd_other (by decide)
        have U14 : updA us 3 (.int .i64 0) 14 = us 14 := upd_other (by decide)
        have U15 : updA us 3 (.int .i64 0) 15 = us 15 := upd_other (by decide)
        have U16 : updA us 3 (.int .i64 0) 16 = us 16 := upd_other (by decide)
        have U17 : updA us 3 (.int .i64 0) 17 = us 17 := upd_other (by decide)
        have U18 : updA us 3 (.int .i64 0) 18 = us 18 := upd_other (by decide)
        have U19 : updA us 3 (.int .i64 0) 19 = us 19 := upd_other (by decide)
        refine wpOp_step rfl (fun K hK => ?_)
        simp only [frPt, e1]
        go_simp
        refine hK _ _ ⟨updA us 3 (.int .i64 0), by simp [frPt, updA, e1], { u1 := (U1.trans I.u1), bel := (I.bel), o0 := (fun h => U7.trans (I.o0 (D0.symm.trans h))), o1 := (fun h => U8.trans (I.o1 (D1.symm.trans h))), o2 := (fun h => U9.trans (I.o2 (D2.symm.trans h))), o3 := (fun h => U10.trans (I.o3 (D3.symm.trans h))), o4 := (fun h => U11.trans (I.o4 (D4.symm.trans h))), o5 := (fun h => U12.trans (I.o5 (D5.symm.trans h))), o6 := (fun h => U13.trans (I.o6 (D6.symm.trans h))), o7 := (fun h => U14.trans (I.o7 (D7.symm.trans h))), o8 := (fun h => U15.trans (I.o8 (D8.symm.trans h))), o9 := (fun h => U16.trans (I.o9 (D9.symm.trans h))), o10 := (fun h => by rw [U17]; exact I.o10 (D10.symm.trans h)), o11 := (fun h => U18.trans (I.o11 (D11.symm.trans h))), o12 := (fun h => U19.trans (I.o12 (D12.symm.trans h))), o13 := (fun h => U2.trans (I.o13 (D13.symm.trans h))), o14 := (fun _ => U3) }⟩
    · intro d a W hd hall hI
      obtain ⟨us, rfl, I⟩ := hI
      have D : ∀ k, k < 15 → d.getD k false = true := fun k hk => by
        have := hall k hk
        have hk2 : k < d.size := by rw [hd]; exact hk
        simp [hk2] at this ⊢; exact this
      have e2 := I.o13 (D 13 (by decide))
      have e3 := I.o14 (D 14 (by decide))
      have hbel := I.bel
      simp only [frPt, e2, e3]
      go_wp2_with fail
      go_ret2
      exact ⟨by rw [E.out, ← EQ.out] <;> rfl, belowGo kb2.bel hbel⟩
  · have E := Lib.hid (ptR_no hv)
    rw [hv] at HV
    generalize ptR p = r at *
    go_enter Tryd.func30, Tryd.ntmps30
    go_wp2_with (go_at_call 60; refine (HV.out _).mono ?_; rintro e w2 ⟨rfl, b2⟩; have kb2 := kb.step b2)
    go_ret2
    exact ⟨by rw [E.out] <;> rfl, kb2.bel⟩
end Go.Proofs.YtjgagiigpijaiaaDoor
