import Derived.Test.YtifioecofeojpaaGreatDoorDyt
import Derived.Test.YtifioecofeojpaaGreatDoorJn5
import Derived.Test.YtifioecofeojpaaGreatDoorMEvl
import Derived.Test.YtifioecofeojpaaGreatDoorHeldt
/- Texts of events: what they are; cmp.Or over two strings, (impl.truths).letters, (impl.Event).told. -/
namespace Go.Proofs.YtifioecofeojpaaGreatDoor
open Go.ChangeShapes Go.WideShapes Go.ChangeAt Go.RowKit
set_option linter.unusedVariables false

/-- The letters of what is true. -/
def lets (p v r : Bool) : List UInt8 := (if p = true then [112] else []) ++ ((if v = true then [118] else []) ++ (if r = true then [114] else []))
def flg (p v r : Bool) : List UInt8 := if lets p v r = [] then [45] else lets p v r
theorem flg_le (p v r : Bool) : (flg p v r).length ≤ 3 := by cases p <;> cases v <;> cases r <;> decide
noncomputable def etext (p : Evt) : List UInt8 := dayT p.d ++ 47 :: (Lib.decDigits p.k.toNat ++ 47 :: (p.c ++ 47 :: (money p.a ++ 47 :: flg p.p p.v p.r)))
noncomputable def etR (p : Evt) : List UInt8 × Int := if p.ok = true then (etext p, 0) else ([], 1)
theorem etR_ok {p : Evt} (h : p.ok = true) : etR p = (etext p, 0) := by unfold etR; rw [if_pos h]
theorem etR_no {p : Evt} (h : p.ok = false) : etR p = ([], 1) := by unfold etR; rw [if_neg (by rw [h]; exact Bool.false_ne_true)]
theorem flg_tf (p v r : Bool) : flg p v r = if p = true then (if v = true then (if r = true then [112, 118, 114] else [112, 118]) else (if r = true then [112, 114] else [112])) else (if v = true then (if r = true then [118, 114] else [118]) else (if r = true then [114] else [45])) := by
  cases p <;> cases v <;> cases r <;> rfl

theorem orS_nil (w : World) (n : Nat) (hn : n = w.heap.size) : Calls Tryz.prog 74 #[.slice (some ⟨n, 0, none⟩) 2 2] (w.alloc (.cells #[.string ⟨#[]⟩, .string ⟨#[45]⟩] 9)) fun e w' => e = .returned (.string ⟨#[45]⟩) ∧ w.alloc (.cells #[.string ⟨#[]⟩, .string ⟨#[45]⟩] 9) = w' := by
  subst hn
  go_enter Tryz.func74, Tryz.ntmps74
  go_wp2_with fail
  go_loop [8, 5] (fun i v => ∃ k : Nat, k ≤ 1 ∧ i = .int .i64 k) (fun i _ => 2 - (intOf i).toNat)
  case atStart => exact ⟨0, by omega, rfl⟩
  case round =>
    obtain ⟨k, hk, rfl⟩ := hrel
    rcases (by omega : k = 0 ∨ k = 1) with rfl | rfl
    · go_wp2_with fail
      go_round
      case rel => exact ⟨1, by omega, rfl⟩
      case measure => simp [intOf]
    · go_wp2_with fail
      go_ret
      exact ⟨rfl, rfl⟩
theorem orS_cons (x : UInt8) (l : List UInt8) (w : World) (n : Nat) (hn : n = w.heap.size) : Calls Tryz.prog 74 #[.slice (some ⟨n, 0, none⟩) 2 2] (w.alloc (.cells #[.string ⟨(x :: l).toArray⟩, .string ⟨#[45]⟩] 9)) fun e w' => e = .returned (.string ⟨(x :: l).toArray⟩) ∧ w.alloc (.cells #[.string ⟨(x :: l).toArray⟩, .string ⟨#[45]⟩] 9) = w' := by
  subst hn
  go_enter Tryz.func74, Tryz.ntmps74
  go_wp2_with fail
  go_loop [8, 5] (fun i v => i = .int .i64 0) (fun i _ => 2 - (intOf i).toNat)
  case atStart => rfl
  case round =>
    obtain rfl := hrel
    go_wp2_with fail
    go_ret
    exact ⟨rfl, rfl⟩
set_option maxHeartbeats 4000000 in
theorem letters_i (p v r : Bool) (w : World) : Calls Tryz.prog 45 #[.agg #[.bool p, .bool v, .bool r]] w (Gives1 w (flg p v r)) := by
  have B : ∀ o q, Hid (Below w.heap.size w ((w.alloc o).alloc q)) := fun o q => Lib.hid (((Below.refl _ _).alloc (Nat.le_refl _) _).alloc (by simp) _)
  cases p <;> cases v <;> cases r
  all_goals
    go_enter Tryz.func45, Tryz.ntmps45
    go_wp2_with (go_at_call 74; refine (by first | exact orS_nil _ _ (by simp) | exact orS_cons _ _ _ _ (by simp) : Calls _ _ _ _ _).mono ?_; rintro e w' ⟨rfl, rfl⟩)
    go_ret
    exact ⟨rfl, (B _ _).out⟩
set_option maxHeartbeats 4000000 in
theorem told_i (p : Evt) (w : World) : Calls Tryz.prog 16 #[.agg #[.int .i64 p.d, .int .i64 p.k, .string ⟨p.c.toArray⟩, .int .i64 p.a, .bool p.p, .bool p.v, .bool p.r]] w (Gives w (.agg #[.int .i64 p.d, .int .i64 p.k, .string ⟨p.c.toArray⟩, .int .i64 p.a, .bool p.p, .bool p.v, .bool p.r])) := by
  have B : ∀ o q, Hid (Below w.heap.size w ((w.alloc o).alloc q)) := fun o q => Lib.hid (((Below.refl _ _).alloc (Nat.le_refl _) _).alloc (by simp) _)
  go_enter Tryz.func16, Tryz.ntmps16
  go_wp2_with fail
  exact bodyPost_ret (v := .agg #[.int .i64 p.d, .int .i64 p.k, .string ⟨p.c.toArray⟩, .int .i64 p.a, .bool p.p, .bool p.v, .bool p.r]) (by simp [results, Tryz.results16, go_sem]) rfl ⟨rfl, (B _ _).out⟩
/-- A box of a told event. -/
structure KeepT (w0 : World) (p : Evt) (W : World) : Prop where
  a : W.heap[w0.heap.size]? = some (.cells #[.int .i64 p.d, .int .i64 p.k, .string ⟨p.c.toArray⟩, .int .i64 p.a, .bool p.p, .bool p.v, .bool p.r] 41 (0, 0))
  bel : Below w0.heap.size w0 W
theorem KeepT.step {w0 W w' : World} {p : Evt} (k : KeepT w0 p W) (b : Below W.heap.size W w') : KeepT w0 p w' := ⟨(b.block _ (lt_some k.a)).trans k.a, belowGo k.bel b⟩
theorem KeepT.drew {w0 W : World} {p : Evt} (k : KeepT w0 p W) : KeepT w0 p W.drew := ⟨k.a, k.bel.drew⟩
theorem KeepT.new (w : World) (p : Evt) : KeepT w p (w.alloc (.cells #[.int .i64 p.d, .int .i64 p.k, .string ⟨p.c.toArray⟩, .int .i64 p.a, .bool p.p, .bool p.v, .bool p.r] 41)) := ⟨heap_alloc_new _ _, (Below.refl _ _).alloc (Nat.le_refl _) _⟩
theorem KeepT.cells {w0 W : World} {p : Evt} (k : KeepT w0 p W) : EvtC W w0.heap.size 0 p :=
  ⟨by rw [cell_of_row _ _ _ _ _ _ k.a]; rfl, by rw [cell_of_row _ _ _ _ _ _ k.a]; rfl, by rw [cell_of_row _ _ _ _ _ _ k.a]; rfl, by rw [cell_of_row _ _ _ _ _ _ k.a]; rfl, by rw [cell_of_row _ _ _ _ _ _ k.a]; rfl, by rw [cell_of_row _ _ _ _ _ _ k.a]; rfl, by rw [cell_of_row _ _ _ _ _ _ k.a]; rfl⟩
end Go.Proofs.YtifioecofeojpaaGreatDoor

/- spec.l08Text, spec.EventText. (by gen_eti.py) -/
namespace Go.Proofs.YtifioecofeojpaaGreatDoor
open Go.ChangeShapes Go.WideShapes Go.ChangeAt Go.RowKit
set_option linter.unusedVariables false

theorem date_yE {S : World → Prop} {n : Int} {Y M D : Nat} (h : DIs n Y M D) (y : Sub S) (hS : ∀ w', Below y.w.heap.size y.w w' → S w') : Calls Tryz.prog 51 #[.int .i64 n] y.w fun e w' => e = .returned (.agg #[.int .i64 Y, .int .i64 M, .int .i64 D]) ∧ ∃ z : Sub S, w' = z.w := by
  have hn := numd_in h.1
  rw [h.2] at hn
  refine (date_s n y.w hn.1 hn.2).mono ?_
  rintro e w' ⟨a, b, c, rfl, h1, h2, h3⟩
  obtain ⟨rfl, rfl, rfl⟩ := numd_inj h1 h.1 (h2.trans h.2.symm)
  exact ⟨rfl, ⟨w', hS w' h3⟩, rfl⟩
def TBE (Y M D : Nat) : Prop := 1970 ≤ Y ∧ Y ≤ 2069 ∧ M < 100 ∧ D < 100
theorem text_yE {S : World → Prop} {Y M D : Nat} (h : TBE Y M D) (y : Sub S) (hS : ∀ w', Below y.w.heap.size y.w w' → S w') : Calls Tryz.prog 50 #[.agg #[.int .i64 Y, .int .i64 M, .int .i64 D]] y.w fun e w' => e = .returned (.string ⟨(dtext Y M D).toArray⟩) ∧ ∃ z : Sub S, w' = z.w := by
  obtain ⟨a, b, c, d⟩ := h
  exact (ltext_s Y M D (by omega) c d y.w).mono fun e w' k => ⟨k.1, ⟨w', hS w' k.2⟩, rfl⟩
theorem etext_str (t d c m f : List UInt8) : (⟨t.toArray⟩ ++ ⟨#[47]⟩ ++ ⟨d.toArray⟩ ++ ⟨#[47]⟩ ++ ⟨c.toArray⟩ ++ ⟨#[47]⟩ ++ ⟨m.toArray⟩ ++ ⟨#[47]⟩ ++ ⟨f.toArray⟩ : ByteArray) = ⟨(t ++ 47 :: (d ++ 47 :: (c ++ 47 :: (m ++ 47 :: f)))).toArray⟩ := by
  apply ByteArray.ext; simp [ByteArray.data_append]

theorem loop_ne (b : ByteArray) : ∀ (n i : Nat) (r : List UInt8), b.size - i = n → r ≠ [] → ByteArray.toList.loop b i r ≠ [] := by
  intro n
  induction n with
  | zero =>
    intro i r h hr
    rw [ByteArray.toList.loop, if_neg (by omega)]
    simpa using hr
  | succ n ih =>
    intro i r h hr
    rw [ByteArray.toList.loop, if_pos (by omega)]
    exact ih _ _ (by omega) (by simp)
theorem bytes_ne {b : ByteArray} (h : 0 < b.size) : b.toList.isEmpty = false := by
  unfold ByteArray.toList
  rw [ByteArray.toList.loop, if_pos h]
  have := loop_ne b _ 1 [b.get! 0] rfl (by simp)
  cases hh : ByteArray.toList.loop b (0 + 1) [b.get! 0] with
  | nil => exact absurd hh this
  | cons => rfl
set_option maxRecDepth 100000 in
set_option maxHeartbeats 8000000 in
theorem ltext8_s (p : Evt) (w : World) (hp : p.ok = true) :
    Calls Tryz.prog 19 #[.agg #[.int .i64 p.d, .int .i64 p.k, .string ⟨p.c.toArray⟩, .int .i64 p.a, .bool p.p, .bool p.v, .bool p.r]] w (Gives1 w (etext p)) := by
  obtain ⟨⟨hd0, hd1⟩, ⟨hk0, hk6⟩, hc, ⟨ha0, ha1⟩⟩ := eok hp
  obtain ⟨Y, MM, D, hdi⟩ := date_exI (inr_iff.2 ⟨hd0, hd1⟩)
  have hTB : TBE Y MM D := by have := hdi.bd; exact this
  have lt : (dtext Y MM D).length ≤ 25 := dtext_le hdi.bd.2.1
  have lc : p.c.length ≤ 6 := (pcode_iff.1 hc).1.2
  have lm := moneyI_len ha0 ha1
  have lf := flg_le p.p p.v p.r
  have k0 := (KeepE.new w p).drew
  have ET : Hid (etext p = dtext Y MM D ++ 47 :: (Lib.decDigits p.k.toNat ++ 47 :: (p.c ++ 47 :: (money p.a ++ 47 :: flg p.p p.v p.r)))) := Lib.hid (by unfold etext; rw [dayT_of hdi])
  have HM := Lib.hid (fun y : Sub (KeepE w p) => (money_s p.a (amt_val ha0 ha1) y.w).mono fun e w' h => (⟨h.1, ⟨w', y.h.step h.2⟩, rfl⟩ : e = .returned (.string ⟨(money p.a).toArray⟩) ∧ ∃ z : Sub (KeepE w p), w' = z.w))
  have HDt := Lib.hid (fun y : Sub (KeepE w p) => date_yE hdi y fun w' b => y.h.step b)
  have HTx := Lib.hid (fun y : Sub (KeepE w p) => text_yE hTB y fun w' b => y.h.step b)
  have ld : (Lib.decDigits p.k.toNat).length ≤ 19 := dec_len 18 p.k.toNat (by omega)
  have HDc : Hid (∀ y : Sub (KeepE w p), Calls Tryz.prog 52 #[.int .i64 p.k] y.w fun e w' => e = .returned (.string ⟨(Lib.decDigits p.k.toNat).toArray⟩) ∧ ∃ z : Sub (KeepE w p), w' = z.w) := Lib.hid (by
    intro y
    obtain ⟨n, hn⟩ := Int.eq_ofNat_of_zero_le hk0
    rw [hn, Int.toNat_natCast]
    exact (dec_any 18 n y.w (by omega) (by omega)).mono fun e w' h => ⟨h.1, ⟨w', y.h.step h.2⟩, rfl⟩)
  have HB := Lib.hid (fun y : Sub (KeepE w p) => y.h.bel)
  have ES := Lib.hid (etext_str (dtext Y MM D) (Lib.decDigits p.k.toNat) p.c (money p.a) (flg p.p p.v p.r))
  have kb := KeepE.new w p
  have c0 := kb.cells.c0; have c1 := kb.cells.c1; have c2 := kb.cells.c2; have c3 := kb.cells.c3; have c4 := kb.cells.c4; have c5 := kb.cells.c5; have c6 := kb.cells.c6
  have q0 : ∀ y : Sub (KeepE w p), y.w.cell? ⟨w.heap.size, 0, none⟩ = some (.int .i64 p.d) := fun y => y.h.cells.c0
  have q1 : ∀ y : Sub (KeepE w p), y.w.cell? ⟨w.heap.size, 1, none⟩ = some (.int .i64 p.k) := fun y => y.h.cells.c1
  have q2 : ∀ y : Sub (KeepE w p), y.w.cell? ⟨w.heap.size, 2, none⟩ = some (.string ⟨p.c.toArray⟩) := fun y => y.h.cells.c2
  have q3 : ∀ y : Sub (KeepE w p), y.w.cell? ⟨w.heap.size, 3, none⟩ = some (.int .i64 p.a) := fun y => y.h.cells.c3
  have q4 : ∀ y : Sub (KeepE w p), y.w.cell? ⟨w.heap.size, 4, none⟩ = some (.bool p.p) := fun y => y.h.cells.c4
  have q5 : ∀ y : Sub (KeepE w p), y.w.cell? ⟨w.heap.size, 5, none⟩ = some (.bool p.v) := fun y => y.h.cells.c5
  have q6 : ∀ y : Sub (KeepE w p), y.w.cell? ⟨w.heap.size, 6, none⟩ = some (.bool p.r) := fun y => y.h.cells.c6
  generalize Lib.decDigits p.k.toNat = DG at *
  generalize money p.a = M at *
  generalize etext p = T at *
  generalize dtext Y MM D = TT at *
  have g1 : ¬9223372036854775807 < TT.length + 1 := by omega
  have g2 : ¬9223372036854775807 < TT.length + 1 + DG.length := by omega
  have g3 : ¬9223372036854775807 < TT.length + 1 + DG.length + 1 := by omega
  have g4 : ¬9223372036854775807 < TT.length + 1 + DG.length + 1 + p.c.length := by omega
  have g5 : ¬9223372036854775807 < TT.length + 1 + DG.length + 1 + p.c.length + 1 := by omega
  have g6 : ¬9223372036854775807 < TT.length + 1 + DG.length + 1 + p.c.length + 1 + M.length := by omega
  have g7 : ¬9223372036854775807 < TT.length + 1 + DG.length + 1 + p.c.length + 1 + M.length + 1 := by omega
  have g8_1 : ¬9223372036854775807 < TT.length + 1 + DG.length + 1 + p.c.length + 1 + M.length + 1 + 1 := by omega
  have g8_2 : ¬9223372036854775807 < TT.length + 1 + DG.length + 1 + p.c.length + 1 + M.length + 1 + 2 := by omega
  have g8_3 : ¬9223372036854775807 < TT.length + 1 + DG.length + 1 + p.c.length + 1 + M.length + 1 + 3 := by omega
  have z0 : (((⟨#[]⟩ : ByteArray) ++ ⟨#[114]⟩)).toList.isEmpty = false := bytes_ne (by decide)
  have z1 : (((⟨#[]⟩ : ByteArray) ++ ⟨#[118]⟩)).toList.isEmpty = false := bytes_ne (by decide)
  have z2 : ((((⟨#[]⟩ : ByteArray) ++ ⟨#[118]⟩) ++ ⟨#[114]⟩)).toList.isEmpty = false := bytes_ne (by decide)
  have z3 : (((⟨#[]⟩ : ByteArray) ++ ⟨#[112]⟩)).toList.isEmpty = false := bytes_ne (by decide)
  have z4 : ((((⟨#[]⟩ : ByteArray) ++ ⟨#[112]⟩) ++ ⟨#[114]⟩)).toList.isEmpty = false := bytes_ne (by decide)
  have z5 : ((((⟨#[]⟩ : ByteArray) ++ ⟨#[112]⟩) ++ ⟨#[118]⟩)).toList.isEmpty = false := bytes_ne (by decide)
  have z6 : (((((⟨#[]⟩ : ByteArray) ++ ⟨#[112]⟩) ++ ⟨#[118]⟩) ++ ⟨#[114]⟩)).toList.isEmpty = false := bytes_ne (by decide)
  clear hdi hp hc hd0 hd1 hk6 hk0 ha0 ha1 lc lm lt ld
  obtain ⟨pd, pk, pc, pa, pp, pv, pr⟩ := p
  cases pp <;> cases pv <;> cases pr
  all_goals
    go_enter Tryz.func19, Tryz.ntmps19
    go_wp2_with fail
    refine region_held (KeepE w _) (by kernel_rfl) (by kernel_rfl) k0 ?_
    repeat (go_big_quiet_step ((first | rfl | (go_at_call 51; exact HDt.out _) | (go_at_call 50; exact HTx.out _) | (go_at_call 52; exact HDc.out _) | (go_at_call 53; exact HM.out _))))
    refine wpQuiet_nil ?_
    rintro _ ⟨y, rfl⟩
    go_wp2_with fail
    go_ret
    exact ⟨by rw [ET.out, ← ES.out] <;> rfl, HB.out y⟩
set_option maxHeartbeats 2000000 in
theorem evtext_s (p : Evt) (w : World) (hs : p.sz ≤ 1048600) :
    Calls Tryz.prog 8 #[.agg #[.int .i64 p.d, .int .i64 p.k, .string ⟨p.c.toArray⟩, .int .i64 p.a, .bool p.p, .bool p.v, .bool p.r]] w (Text2 w (etR p)) := by
  have hxc := sz_e hs
  have kb := KeepE.new w p
  have c0 := kb.cells.c0; have c1 := kb.cells.c1; have c2 := kb.cells.c2; have c3 := kb.cells.c3; have c4 := kb.cells.c4; have c5 := kb.cells.c5; have c6 := kb.cells.c6
  have HV := Lib.hid (fun w => evalid_s p w hxc)
  rcases Bool.eq_false_or_eq_true p.ok with hv | hv
  · have E := Lib.hid (etR_ok hv)
    have HT := Lib.hid (fun w => ltext8_s p w hv)
    rw [hv] at HV
    generalize etext p = T at *
    generalize etR p = r at *
    go_enter Tryz.func8, Tryz.ntmps8
    go_wp2_with (first
      | (go_at_call 18; refine (HV.out _).mono ?_; rintro e w2 ⟨rfl, b2⟩; have kb2 := kb.step b2; clear c0 c1 c2 c3 c4 c5 c6; have c0 := kb2.cells.c0; have c1 := kb2.cells.c1; have c2 := kb2.cells.c2; have c3 := kb2.cells.c3; have c4 := kb2.cells.c4; have c5 := kb2.cells.c5; have c6 := kb2.cells.c6)
      | (go_at_call 19; refine (HT.out _).mono ?_; rintro e w3 ⟨rfl, b3⟩))
    go_ret2
    exact ⟨by rw [E.out] <;> rfl, belowGo kb2.bel b3⟩
  · have E := Lib.hid (etR_no hv)
    rw [hv] at HV
    generalize etR p = r at *
    go_enter Tryz.func8, Tryz.ntmps8
    go_wp2_with (go_at_call 18; refine (HV.out _).mono ?_; rintro e w2 ⟨rfl, b2⟩; have kb2 := kb.step b2)
    go_ret2
    exact ⟨by rw [E.out] <;> rfl, kb2.bel⟩
end Go.Proofs.YtifioecofeojpaaGreatDoor

/- impl.EventText. (by gen_eti.py) -/
namespace Go.Proofs.YtifioecofeojpaaGreatDoor
open Go.ChangeShapes Go.WideShapes Go.ChangeAt Go.RowKit
set_option linter.unusedVariables false

set_option maxRecDepth 100000 in
set_option maxHeartbeats 8000000 in
theorem ttext_i (p : Evt) (w : World) (hp : p.ok = true) (ht : Tab w) :
    Calls Tryz.prog 17 #[.agg #[.int .i64 p.d, .int .i64 p.k, .string ⟨p.c.toArray⟩, .int .i64 p.a, .bool p.p, .bool p.v, .bool p.r]] w (Gives1 w (etext p)) := by
  obtain ⟨⟨hd0, hd1⟩, ⟨hk0, hk6⟩, hc, ⟨ha0, ha1⟩⟩ := eok hp
  have hday : inr p.d 0 36524 = true := inr_iff.2 ⟨hd0, hd1⟩
  have kb := KeepT.new w p
  have c0 := kb.cells.c0; have c1 := kb.cells.c1; have c2 := kb.cells.c2; have c3 := kb.cells.c3; have c4 := kb.cells.c4; have c5 := kb.cells.c5; have c6 := kb.cells.c6
  have lc : p.c.length ≤ 6 := (pcode_iff.1 hc).1.2
  have lm := moneyI_len ha0 ha1
  have lf := flg_le p.p p.v p.r
  have lt := dayT_le p.d
  have HM := Lib.hid (fun w h => text_i p.a w h)
  rw [textR_ok (amt_val ha0 ha1)] at HM
  have ET : Hid (etext p = dayT p.d ++ 47 :: (Lib.decDigits p.k.toNat ++ 47 :: (p.c ++ 47 :: (money p.a ++ 47 :: flg p.p p.v p.r)))) := Lib.hid rfl
  have ld : (Lib.decDigits p.k.toNat).length ≤ 19 := dec_len 18 p.k.toNat (by omega)
  have HB := Lib.hid (fun y : Sub (KeepT w p) => y.h.bel)
  have HF : Hid (∀ w, Tab w → Calls Tryz.prog 41 #[.int .i64 p.k, .int .i64 10] w (Gives1 w (Lib.decDigits p.k.toNat))) := Lib.hid (by
    intro w h
    obtain ⟨n, hn⟩ := Int.eq_ofNat_of_zero_le hk0
    rw [hn, Int.toNat_natCast]; exact fmt_i n (by omega) w h)
  have HD := Lib.hid (fun (y : Sub (KeepT w p)) => (dayText_i p.d y.w (ht.below y.h.bel) hday).mono fun e w' h => (⟨h.1, ⟨w', y.h.step h.2⟩, rfl⟩ : e = .returned (.string ⟨(dayT p.d).toArray⟩) ∧ ∃ z : Sub (KeepT w p), w' = z.w))
  have HL := Lib.hid (fun (y : Sub (KeepT w p)) => (letters_i p.p p.v p.r y.w).mono fun e w' h => (⟨h.1, ⟨w', y.h.step h.2⟩, rfl⟩ : e = .returned (.string ⟨(flg p.p p.v p.r).toArray⟩) ∧ ∃ z : Sub (KeepT w p), w' = z.w))
  have HJ := Lib.hid (fun g w h => join5 (dayT p.d) (Lib.decDigits p.k.toNat) p.c (money p.a) (flg p.p p.v p.r) g w h (by omega))
  rw [← ET.out] at HJ
  have q0 : ∀ y : Sub (KeepT w p), y.w.cell? ⟨w.heap.size, 0, none⟩ = some (.int .i64 p.d) := fun y => y.h.cells.c0
  have q1 : ∀ y : Sub (KeepT w p), y.w.cell? ⟨w.heap.size, 1, none⟩ = some (.int .i64 p.k) := fun y => y.h.cells.c1
  have q2 : ∀ y : Sub (KeepT w p), y.w.cell? ⟨w.heap.size, 2, none⟩ = some (.string ⟨p.c.toArray⟩) := fun y => y.h.cells.c2
  have q3 : ∀ y : Sub (KeepT w p), y.w.cell? ⟨w.heap.size, 3, none⟩ = some (.int .i64 p.a) := fun y => y.h.cells.c3
  have q4 : ∀ y : Sub (KeepT w p), y.w.cell? ⟨w.heap.size, 4, none⟩ = some (.bool p.p) := fun y => y.h.cells.c4
  have q5 : ∀ y : Sub (KeepT w p), y.w.cell? ⟨w.heap.size, 5, none⟩ = some (.bool p.v) := fun y => y.h.cells.c5
  have q6 : ∀ y : Sub (KeepT w p), y.w.cell? ⟨w.heap.size, 6, none⟩ = some (.bool p.r) := fun y => y.h.cells.c6
  generalize Lib.decDigits p.k.toNat = DG at *
  generalize money p.a = M at *
  generalize etext p = T at *
  generalize dayT p.d = DD at *
  generalize flg p.p p.v p.r = FL at *
  clear ET hday hp hc hd0 hd1 hk0 hk6 ha0 ha1
  go_enter Tryz.func17, Tryz.ntmps17
  go_wp2_with fail
  refine (HF.out _ (ht.below kb.bel)).mono ?_
  rintro e w2 ⟨rfl, b2⟩
  have kb2 := kb.step b2
  clear c0 c1 c2 c3 c4 c5 c6
  have c0 := kb2.cells.c0; have c1 := kb2.cells.c1; have c2 := kb2.cells.c2; have c3 := kb2.cells.c3; have c4 := kb2.cells.c4; have c5 := kb2.cells.c5; have c6 := kb2.cells.c6
  go_wp2_with fail
  refine (HM.out _ (ht.below kb2.bel)).mono ?_
  rintro e w3 ⟨rfl, b3⟩
  have kb3 := (kb2.step b3).drew
  clear c0 c1 c2 c3 c4 c5 c6
  go_wp2_with fail
  refine region_tail 10 (KeepT w p) (by kernel_rfl) (by kernel_rfl) kb3 ?_
  simp only [List.take_succ_cons, List.take_zero, List.drop_succ_cons, List.drop_zero]
  repeat (go_big_quiet_step ((first | rfl | (go_at_call 44; exact HD.out _) | (go_at_call 45; exact HL.out _))))
  refine wpQuiet_nil ?_
  intro y
  have hJ := Lib.hid (HJ.out y.w.heap.size _ (heap_alloc_new y.w _))
  have hB := Lib.hid (belowGo (HB.out y) (below_alloc y.w (.cells #[.string ⟨DD.toArray⟩, .string ⟨DG.toArray⟩, .string ⟨p.c.toArray⟩, .string ⟨M.toArray⟩, .string ⟨FL.toArray⟩] 9)))
  go_wp2_with fail
  refine (hJ.out).mono ?_
  rintro e w5 ⟨rfl, b5⟩
  go_wp2_with fail
  go_ret
  exact ⟨rfl, belowGo hB.out b5⟩
set_option maxHeartbeats 2000000 in
theorem evtext_i (p : Evt) (w : World) (hs : p.sz ≤ 1048600) (ht : Tab w) :
    Calls Tryz.prog 7 #[.agg #[.int .i64 p.d, .int .i64 p.k, .string ⟨p.c.toArray⟩, .int .i64 p.a, .bool p.p, .bool p.v, .bool p.r]] w (Text2 w (etR p)) := by
  have hxc := sz_e hs
  have kb := KeepE.new w p
  have c0 := kb.cells.c0; have c1 := kb.cells.c1; have c2 := kb.cells.c2; have c3 := kb.cells.c3; have c4 := kb.cells.c4; have c5 := kb.cells.c5; have c6 := kb.cells.c6
  have HV := Lib.hid (fun w => evalid_i p w hxc)
  rcases Bool.eq_false_or_eq_true p.ok with hv | hv
  · have E := Lib.hid (etR_ok hv)
    have HT := Lib.hid (fun w h => ttext_i p w hv h)
    have HTo := Lib.hid (fun w => told_i p w)
    rw [hv] at HV
    generalize etext p = T at *
    generalize etR p = r at *
    go_enter Tryz.func7, Tryz.ntmps7
    go_wp2_with (first
      | (go_at_call 12; refine (HV.out _).mono ?_; rintro e w2 ⟨rfl, b2⟩; have kb2 := kb.step b2; clear c0 c1 c2 c3 c4 c5 c6; have c0 := kb2.cells.c0; have c1 := kb2.cells.c1; have c2 := kb2.cells.c2; have c3 := kb2.cells.c3; have c4 := kb2.cells.c4; have c5 := kb2.cells.c5; have c6 := kb2.cells.c6)
      | (go_at_call 16; refine (HTo.out _).mono ?_; rintro e w3 ⟨rfl, b3⟩; have kb3 := kb2.step b3)
      | (go_at_call 17; refine (HT.out _ (ht.below kb3.bel)).mono ?_; rintro e w4 ⟨rfl, b4⟩))
    go_ret2
    exact ⟨by rw [E.out] <;> rfl, belowGo kb3.bel b4⟩
  · have E := Lib.hid (etR_no hv)
    rw [hv] at HV
    generalize etR p = r at *
    go_enter Tryz.func7, Tryz.ntmps7
    go_wp2_with (go_at_call 12; refine (HV.out _).mono ?_; rintro e w2 ⟨rfl, b2⟩; have kb2 := kb.step b2)
    go_ret2
    exact ⟨by rw [E.out] <;> rfl, kb2.bel⟩
end Go.Proofs.YtifioecofeojpaaGreatDoor

