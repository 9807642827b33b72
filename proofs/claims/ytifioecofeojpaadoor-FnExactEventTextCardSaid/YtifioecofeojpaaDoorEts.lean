/- spec.l08Text, spec.EventText. (by gen_eti.py) -/
import Derived.Test.YtifioecofeojpaaDoorEtx
import Derived.Test.YtifioecofeojpaaDoorEvs
namespace Go.Proofs.YtifioecofeojpaaDoor
open Go.ChangeShapes Go.WideShapes Go.ChangeAt Go.RowKit
set_option linter.unusedVariables false

theorem date_yE {S : World → Prop} {n : Int} {Y M D : Nat} (h : DIs n Y M D) (y : Sub S) (hS : ∀ w', Below y.w.heap.size y.w w' → S w') : Calls Tryd.prog 18 #[.int .i64 n] y.w fun e w' => e = .returned (.agg #[.int .i64 Y, .int .i64 M, .int .i64 D]) ∧ ∃ z : Sub S, w' = z.w := by
  have hn := numd_in h.1
  rw [h.2] at hn
  refine (date_s n y.w hn.1 hn.2).mono ?_
  rintro e w' ⟨a, b, c, rfl, h1, h2, h3⟩
  obtain ⟨rfl, rfl, rfl⟩ := numd_inj h1 h.1 (h2.trans h.2.symm)
  exact ⟨rfl, ⟨w', hS w' h3⟩, rfl⟩
def TBE (Y M D : Nat) : Prop := 1970 ≤ Y ∧ Y ≤ 2069 ∧ M < 100 ∧ D < 100
theorem text_yE {S : World → Prop} {Y M D : Nat} (h : TBE Y M D) (y : Sub S) (hS : ∀ w', Below y.w.heap.size y.w w' → S w') : Calls Tryd.prog 17 #[.agg #[.int .i64 Y, .int .i64 M, .int .i64 D]] y.w fun e w' => e = .returned (.string ⟨(dtext Y M D).toArray⟩) ∧ ∃ z : Sub S, w' = z.w := by
  obtain ⟨a, b, c, d⟩ := h
  exact (ltext_s Y M D (by omega) c d y.w).mono fun e w' k => ⟨k.1, ⟨w', hS w' k.2⟩, rfl⟩
theorem etext_str (t d c m f : List UInt8) : (⟨t.toArray⟩ ++ ⟨#[47]⟩ ++ ⟨d.toArray⟩ ++ ⟨#[47]⟩ ++ ⟨c.toArray⟩ ++ ⟨#[47]⟩ ++ ⟨m.toArray⟩ ++ ⟨#[47]⟩ ++ ⟨f.toArray⟩ : ByteArray) = ⟨(t ++ 47 :: (d ++ 47 :: (c ++ 47 :: (m ++ 47 :: f)))).toArray⟩ := by
  apply ByteArray.ext; simp [ByteArray.data_append]

theorem loop_ne (b : ByteArray) : ∀ (n i : Nat) (r : List UInt8), b.size - i = n → r ≠ [] → ByteArray.toList.loop b i r ≠ [] := by
  intro n
  induction n with
  | zero =>
    intro i r h hr
    rw [ByteArray.toList.loop, if_neg (by omega)]
    simpa using hr
  | succ n ih =>
    intro i r h hr
    rw [ByteArray.toList.loop, if_pos (by omega)]
    exact ih _ _ (by omega) (by simp)
theorem bytes_ne {b : ByteArray} (h : 0 < b.size) : b.toList.isEmpty = false := by
  unfold ByteArray.toList
  rw [ByteArray.toList.loop, if_pos h]
  have := loop_ne b _ 1 [b.get! 0] rfl (by simp)
  cases hh : ByteArray.toList.loop b (0 + 1) [b.get! 0] with
  | nil => exact absurd hh this
  | cons => rfl
set_option maxRecDepth 100000 in
set_option maxHeartbeats 8000000 in
theorem ltext8_s (p : Evt) (w : World) (hp : p.ok = true) :
    Calls Tryd.prog 9 #[.agg #[.int .i64 p.d, .int .i64 p.k, .string ⟨p.c.toArray⟩, .int .i64 p.a, .bool p.p, .bool p.v, .bool p.r]] w (Gives1 w (etext p)) := by
  obtain ⟨⟨hd0, hd1⟩, ⟨hk0, hk6⟩, hc, ⟨ha0, ha1⟩⟩ := eok hp
  obtain ⟨Y, MM, D, hdi⟩ := date_exI (inr_iff.2 ⟨hd0, hd1⟩)
  have hTB : TBE Y MM D := by have := hdi.bd; exact this
  have lt : (dtext Y MM D).length ≤ 25 := dtext_le hdi.bd.2.1
  have lc : p.c.length ≤ 6 := (pcode_iff.1 hc).1.2
  have lm := moneyI_len ha0 ha1
  have lf := flg_le p.p p.v p.r
  have k0 := (KeepE.new w p).drew
  have ET : Hid (etext p = dtext Y MM D ++ 47 :: (Lib.decDigits p.k.toNat ++ 47 :: (p.c ++ 47 :: (money p.a ++ 47 :: flg p.p p.v p.r)))) := Lib.hid (by unfold etext; rw [dayT_of hdi])
  have HM := Lib.hid (fun y : Sub (KeepE w p) => (money_s p.a (amt_val ha0 ha1) y.w).mono fun e w' h => (⟨h.1, ⟨w', y.h.step h.2⟩, rfl⟩ : e = .returned (.string ⟨(money p.a).toArray⟩) ∧ ∃ z : Sub (KeepE w p), w' = z.w))
  have HDt := Lib.hid (fun y : Sub (KeepE w p) => date_yE hdi y fun w' b => y.h.step b)
  have HTx := Lib.hid (fun y : Sub (KeepE w p) => text_yE hTB y fun w' b => y.h.step b)
  have ld : (Lib.decDigits p.k.toNat).length ≤ 19 := dec_len 18 p.k.toNat (by omega)
  have HDc : Hid (∀ y : Sub (KeepE w p), Calls Tryd.prog 19 #[.int .i64 p.k] y.w fun e w' => e = .returned (.string ⟨(Lib.decDigits p.k.toNat).toArray⟩) ∧ ∃ z : Sub (KeepE w p), w' = z.w) := Lib.hid (by
    intro y
    obtain ⟨n, hn⟩ := Int.eq_ofNat_of_zero_le hk0
    rw [hn, Int.toNat_natCast]
    exact (dec_any 18 n y.w (by omega) (by omega)).mono fun e w' h => ⟨h.1, ⟨w', y.h.step h.2⟩, rfl⟩)
  have HB := Lib.hid (fun y : Sub (KeepE w p) => y.h.bel)
  have ES := Lib.hid (etext_str (dtext Y MM D) (Lib.decDigits p.k.toNat) p.c (money p.a) (flg p.p p.v p.r))
  have kb := KeepE.new w p
  have c0 := kb.cells.c0; have c1 := kb.cells.c1; have c2 := kb.cells.c2; have c3 := kb.cells.c3; have c4 := kb.cells.c4; have c5 := kb.cells.c5; have c6 := kb.cells.c6
  have q0 : ∀ y : Sub (KeepE w p), y.w.cell? ⟨w.heap.size, 0, none⟩ = some (.int .i64 p.d) := fun y => y.h.cells.c0
  have q1 : ∀ y : Sub (KeepE w p), y.w.cell? ⟨w.heap.size, 1, none⟩ = some (.int .i64 p.k) := fun y => y.h.cells.c1
  have q2 : ∀ y : Sub (KeepE w p), y.w.cell? ⟨w.heap.size, 2, none⟩ = some (.string ⟨p.c.toArray⟩) := fun y => y.h.cells.c2
  have q3 : ∀ y : Sub (KeepE w p), y.w.cell? ⟨w.heap.size, 3, none⟩ = some (.int .i64 p.a) := fun y => y.h.cells.c3
  have q4 : ∀ y : Sub (KeepE w p), y.w.cell? ⟨w.heap.size, 4, none⟩ = some (.bool p.p) := fun y => y.h.cells.c4
  have q5 : ∀ y : Sub (KeepE w p), y.w.cell? ⟨w.heap.size, 5, none⟩ = some (.bool p.v) := fun y => y.h.cells.c5
  have q6 : ∀ y : Sub (KeepE w p), y.w.cell? ⟨w.heap.size, 6, none⟩ = some (.bool p.r) := fun y => y.h.cells.c6
  generalize Lib.decDigits p.k.toNat = DG at *
  generalize money p.a = M at *
  generalize etext p = T at *
  generalize dtext Y MM D = TT at *
  have g1 : ¬9223372036854775807 < TT.length + 1 := by omega
  have g2 : ¬9223372036854775807 < TT.length + 1 + DG.length := by omega
  have g3 : ¬9223372036854775807 < TT.length + 1 + DG.length + 1 := by omega
  have g4 : ¬9223372036854775807 < TT.length + 1 + DG.length + 1 + p.c.length := by omega
  have g5 : ¬9223372036854775807 < TT.length + 1 + DG.length + 1 + p.c.length + 1 := by omega
  have g6 : ¬9223372036854775807 < TT.length + 1 + DG.length + 1 + p.c.length + 1 + M.length := by omega
  have g7 : ¬9223372036854775807 < TT.length + 1 + DG.length + 1 + p.c.length + 1 + M.length + 1 := by omega
  have g8_1 : ¬9223372036854775807 < TT.length + 1 + DG.length + 1 + p.c.length + 1 + M.length + 1 + 1 := by omega
  have g8_2 : ¬9223372036854775807 < TT.length + 1 + DG.length + 1 + p.c.length + 1 + M.length + 1 + 2 := by omega
  have g8_3 : ¬9223372036854775807 < TT.length + 1 + DG.length + 1 + p.c.length + 1 + M.length + 1 + 3 := by omega
  have z0 : (((⟨#[]⟩ : ByteArray) ++ ⟨#[114]⟩)).toList.isEmpty = false := bytes_ne (by decide)
  have z1 : (((⟨#[]⟩ : ByteArray) ++ ⟨#[118]⟩)).toList.isEmpty = false := bytes_ne (by decide)
  have z2 : ((((⟨#[]⟩ : ByteArray) ++ ⟨#[118]⟩) ++ ⟨#[114]⟩)).toList.isEmpty = false := bytes_ne (by decide)
  have z3 : (((⟨#[]⟩ : ByteArray) ++ ⟨#[112]⟩)).toList.isEmpty = false := bytes_ne (by decide)
  have z4 : ((((⟨#[]⟩ : ByteArray) ++ ⟨#[112]⟩) ++ ⟨#[114]⟩)).toList.isEmpty = false := bytes_ne (by decide)
  have z5 : ((((⟨#[]⟩ : ByteArray) ++ ⟨#[112]⟩) ++ ⟨#[118]⟩)).toList.isEmpty = false := bytes_ne (by decide)
  have z6 : (((((⟨#[]⟩ : ByteArray) ++ ⟨#[112]⟩) ++ ⟨#[118]⟩) ++ ⟨#[114]⟩)).toList.isEmpty = false := bytes_ne (by decide)
  clear hdi hp hc hd0 hd1 hk6 hk0 ha0 ha1 lc lm lt ld
  obtain ⟨pd, pk, pc, pa, pp, pv, pr⟩ := p
  cases pp <;> cases pv <;> cases pr
  all_goals
    go_enter Tryd.func9, Tryd.ntmps9
    go_wp2_with fail
    refine region_held (KeepE w _) (by kernel_rfl) (by kernel_rfl) k0 ?_
    repeat (go_big_quiet_step ((first | rfl | (go_at_call 18; exact HDt.out _) | (go_at_call 17; exact HTx.out _) | (go_at_call 19; exact HDc.out _) | (go_at_call 20; exact HM.out _))))
    refine wpQuiet_nil ?_
    rintro _ ⟨y, rfl⟩
    go_wp2_with fail
    go_ret
    exact ⟨by rw [ET.out, ← ES.out] <;> rfl, HB.out y⟩
set_option maxHeartbeats 2000000 in
theorem evtext_s (p : Evt) (w : World) (hs : p.sz ≤ 1048600) :
    Calls Tryd.prog 5 #[.agg #[.int .i64 p.d, .int .i64 p.k, .string ⟨p.c.toArray⟩, .int .i64 p.a, .bool p.p, .bool p.v, .bool p.r]] w (Text2 w (etR p)) := by
  have hxc := sz_e hs
  have kb := KeepE.new w p
  have c0 := kb.cells.c0; have c1 := kb.cells.c1; have c2 := kb.cells.c2; have c3 := kb.cells.c3; have c4 := kb.cells.c4; have c5 := kb.cells.c5; have c6 := kb.cells.c6
  have HV := Lib.hid (fun w => evalid_s p w hxc)
  rcases Bool.eq_false_or_eq_true p.ok with hv | hv
  · have E := Lib.hid (etR_ok hv)
    have HT := Lib.hid (fun w => ltext8_s p w hv)
    rw [hv] at HV
    generalize etext p = T at *
    generalize etR p = r at *
    go_enter Tryd.func5, Tryd.ntmps5
    go_wp2_with (first
      | (go_at_call 8; refine (HV.out _).mono ?_; rintro e w2 ⟨rfl, b2⟩; have kb2 := kb.step b2; clear c0 c1 c2 c3 c4 c5 c6; have c0 := kb2.cells.c0; have c1 := kb2.cells.c1; have c2 := kb2.cells.c2; have c3 := kb2.cells.c3; have c4 := kb2.cells.c4; have c5 := kb2.cells.c5; have c6 := kb2.cells.c6)
      | (go_at_call 9; refine (HT.out _).mono ?_; rintro e w3 ⟨rfl, b3⟩))
    go_ret2
    exact ⟨by rw [E.out] <;> rfl, belowGo kb2.bel b3⟩
  · have E := Lib.hid (etR_no hv)
    rw [hv] at HV
    generalize etR p = r at *
    go_enter Tryd.func5, Tryd.ntmps5
    go_wp2_with (go_at_call 8; refine (HV.out _).mono ?_; rintro e w2 ⟨rfl, b2⟩; have kb2 := kb.step b2)
    go_ret2
    exact ⟨by rw [E.out] <;> rfl, kb2.bel⟩
end Go.Proofs.YtifioecofeojpaaDoor
