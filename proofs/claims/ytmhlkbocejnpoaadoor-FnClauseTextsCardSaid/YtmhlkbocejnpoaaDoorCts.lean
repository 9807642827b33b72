/- spec.l01Number, l09Text, ClauseText. (by gen_cts.py) -/
import Derived.Test.YtmhlkbocejnpoaaDoorCtx
import Derived.Test.YtmhlkbocejnpoaaDoorHeld
namespace Go.Proofs.YtmhlkbocejnpoaaDoor
open Go.ChangeShapes Go.WideShapes Go.ChangeAt Go.RowKit
set_option linter.unusedVariables false

theorem num_s (n : Int) (h : -1 ≤ n ∧ n ≤ 6) (w : World) : Calls Tryd.prog 49 #[.int .i64 n] w (Gives1 w (Lib.itoa n)) := by
  by_cases h0 : n = -1
  · subst h0
    have E := Lib.hid (show Lib.itoa (-1) = 45 :: Lib.decDigits 1 by rw [show (-1 : Int) = -((1 : Nat) : Int) from rfl, Lib.itoa_neg 1 (by decide)])
    have hl : (Lib.decDigits 1).length ≤ 19 := dec_len 18 1 (by decide)
    have HD := Lib.hid (dec_any 18 1 w (by decide) (by decide))
    have ES := Lib.hid (show (⟨#[45]⟩ : ByteArray) ++ ⟨(Lib.decDigits 1).toArray⟩ = ⟨(45 :: Lib.decDigits 1).toArray⟩ by apply ByteArray.ext; simp [ByteArray.data_append])
    generalize Lib.decDigits 1 = D at *
    have g1 : ¬9223372036854775807 < 1 + D.length := by omega
    go_enter Tryd.func49, Tryd.ntmps49
    go_wp2_with fail
    refine HD.out.mono ?_
    rintro e w1 ⟨rfl, b1⟩
    go_wp2_with fail
    go_ret
    exact ⟨by rw [E.out, ← ES.out] <;> rfl, b1⟩
  · obtain ⟨u, rfl⟩ := Int.eq_ofNat_of_zero_le (show 0 ≤ n by omega)
    rw [Lib.itoa_nonneg]
    have HD := Lib.hid (dec_any 18 u w (by omega) (by omega))
    have z0 : decide ((u : Int) < 0) = false := decide_eq_false (by omega)
    clear h0
    go_enter Tryd.func49, Tryd.ntmps49
    go_wp2_with fail
    refine HD.out.mono ?_
    rintro e w1 ⟨rfl, b1⟩
    go_wp2_with fail
    go_ret
    exact ⟨rfl, b1⟩
theorem wrap1 {n : Int} (h : 0 ≤ n ∧ n ≤ 2) : IntKind.i64.wrap (n + 1) = n + 1 := by
  rcases (by omega : n = 0 ∨ n = 1 ∨ n = 2) with rfl | rfl | rfl <;> rfl
theorem sl_ltr (n : Int) (h : n = 0 ∨ n = 1 ∨ n = 2) (w : World) : (Instr.slice 9 (.string ⟨#[42, 43, 45]⟩) (some (.int .i64 n)) (some (.int .i64 (n + 1))) none).run Tryd.prog w = .ok (.string ⟨#[ltr n]⟩) w := by
  rcases h with rfl | rfl | rfl <;> kernel_rfl
theorem ctext_str (c k e t : List UInt8) (a b d : UInt8) : (⟨c.toArray⟩ ++ ⟨#[47]⟩ ++ ⟨k.toArray⟩ ++ ⟨#[47]⟩ ++ ⟨#[a]⟩ ++ ⟨#[b]⟩ ++ ⟨#[d]⟩ ++ ⟨#[47]⟩ ++ ⟨e.toArray⟩ ++ ⟨#[47]⟩ ++ ⟨t.toArray⟩ : ByteArray) = ⟨(c ++ 47 :: (k ++ 47 :: ([a, b, d] ++ 47 :: (e ++ 47 :: t)))).toArray⟩ := by
  apply ByteArray.ext; simp [ByteArray.data_append]
set_option maxRecDepth 100000 in
set_option maxHeartbeats 16000000 in
theorem ltext9_g (p : Cls) (w : World) (lc : p.c.length ≤ 7) (lt : (orT p.t).length ≤ 7) (hk : -1 ≤ p.k ∧ p.k ≤ 6) (h0 : 0 ≤ p.p ∧ p.p ≤ 2) (h1 : 0 ≤ p.v ∧ p.v ≤ 2) (h2 : 0 ≤ p.r ∧ p.r ≤ 2) (he : 0 ≤ p.e ∧ p.e ≤ 3) :
    Calls Tryd.prog 24 #[.agg #[.string ⟨p.c.toArray⟩, .int .i64 p.k, .int .i64 p.p, .int .i64 p.v, .int .i64 p.r, .int .i64 p.e, .string ⟨p.t.toArray⟩]] w (Gives1 w (ctext p)) := by
  have lk := itoa_le hk
  have hke : -1 ≤ p.e ∧ p.e ≤ 6 := by omega
  have le := itoa_le hke
  obtain ⟨ei, hei⟩ := Int.eq_ofNat_of_zero_le he.1
  have hei6 : ei ≤ 6 := by omega
  have kb := KeepC.new w p
  have kd := kb.drew
  have ET : ctext p = p.c ++ 47 :: (Lib.itoa p.k ++ 47 :: ([ltr p.p, ltr p.v, ltr p.r] ++ 47 :: (Lib.itoa p.e ++ 47 :: orT p.t))) := rfl
  have ES := Lib.hid ((congrArg (fun l : List UInt8 => (⟨l.toArray⟩ : ByteArray)) ET).trans (ctext_str p.c (Lib.itoa p.k) (Lib.itoa p.e) (orT p.t) (ltr p.p) (ltr p.v) (ltr p.r)).symm)
  have HN := Lib.hid (fun (y : Sub (KeepC w p)) => (num_s p.k hk y.w).mono fun e w' h => (⟨h.1, ⟨w', y.h.step h.2⟩, rfl⟩ : e = .returned (.string ⟨(Lib.itoa p.k).toArray⟩) ∧ ∃ z : Sub (KeepC w p), w' = z.w))
  have HD := Lib.hid (fun (y : Sub (KeepC w p)) => (dec_any 18 ei y.w (by omega) (by omega)).mono fun e w' h => (⟨by rw [hei, Lib.itoa_nonneg]; exact h.1, ⟨w', y.h.step h.2⟩, rfl⟩ : e = .returned (.string ⟨(Lib.itoa p.e).toArray⟩) ∧ ∃ z : Sub (KeepC w p), w' = z.w))
  rw [← hei] at HD
  have q0 : ∀ y : Sub (KeepC w p), y.w.cell? ⟨w.heap.size, 0, none⟩ = some (.string ⟨p.c.toArray⟩) := fun y => y.h.cells.c0
  have q1 : ∀ y : Sub (KeepC w p), y.w.cell? ⟨w.heap.size, 1, none⟩ = some (.int .i64 p.k) := fun y => y.h.cells.c1
  have q2 : ∀ y : Sub (KeepC w p), y.w.cell? ⟨w.heap.size, 2, none⟩ = some (.int .i64 p.p) := fun y => y.h.cells.c2
  have q3 : ∀ y : Sub (KeepC w p), y.w.cell? ⟨w.heap.size, 3, none⟩ = some (.int .i64 p.v) := fun y => y.h.cells.c3
  have q4 : ∀ y : Sub (KeepC w p), y.w.cell? ⟨w.heap.size, 4, none⟩ = some (.int .i64 p.r) := fun y => y.h.cells.c4
  have q5 : ∀ y : Sub (KeepC w p), y.w.cell? ⟨w.heap.size, 5, none⟩ = some (.int .i64 p.e) := fun y => y.h.cells.c5
  have q6 : ∀ y : Sub (KeepC w p), y.w.cell? ⟨w.heap.size, 6, none⟩ = some (.string ⟨p.t.toArray⟩) := fun y => y.h.cells.c6
  have s0 := sl_ltr p.p (by omega)
  have s1 := sl_ltr p.v (by omega)
  have s2 := sl_ltr p.r (by omega)
  have HB := Lib.hid (fun y : Sub (KeepC w p) => y.h.bel)
  have HKD := Lib.hid kd
  have w0 := wrap1 h0
  have w1 := wrap1 h1
  have w2 := wrap1 h2
  clear kd hei hei6 hk he ET hke
  generalize ctext p = T at *
  generalize Lib.itoa p.k = K at *
  generalize Lib.itoa p.e = E at *
  generalize ltr p.p = la at *
  generalize ltr p.v = lb at *
  generalize ltr p.r = lr at *
  obtain ⟨O, hO⟩ : ∃ O, O = orT p.t := ⟨_, rfl⟩
  rw [← hO] at ES lt
  have g0 : ¬9223372036854775807 < p.c.length + 1 := by omega
  have g1 : ¬9223372036854775807 < p.c.length + 1 + K.length := by omega
  have g2 : ¬9223372036854775807 < p.c.length + 1 + K.length + 1 := by omega
  have g3 : ¬9223372036854775807 < p.c.length + 1 + K.length + 1 + 1 := by omega
  have g4 : ¬9223372036854775807 < p.c.length + 1 + K.length + 1 + 1 + 1 := by omega
  have g5 : ¬9223372036854775807 < p.c.length + 1 + K.length + 1 + 1 + 1 + 1 := by omega
  have g6 : ¬9223372036854775807 < p.c.length + 1 + K.length + 1 + 1 + 1 + 1 + 1 := by omega
  have g7 : ¬9223372036854775807 < p.c.length + 1 + K.length + 1 + 1 + 1 + 1 + 1 + E.length := by omega
  have g8 : ¬9223372036854775807 < p.c.length + 1 + K.length + 1 + 1 + 1 + 1 + 1 + E.length + 1 := by omega
  have g9 : ¬9223372036854775807 < p.c.length + 1 + K.length + 1 + 1 + 1 + 1 + 1 + E.length + 1 + O.length := by omega
  have c6 := kb.cells.c6
  have HPK := Lib.hid (show p.t = [] → O = [46] from fun h => by rw [hO, h]; rfl)
  have HPC := Lib.hid (show ∀ x l, p.t = x :: l → O = x :: l from fun x l h => by rw [hO, h]; rfl)
  clear hO kb
  obtain ⟨t, ht⟩ : ∃ t, t = p.t := ⟨_, rfl⟩
  rw [← ht] at c6 q6 HPK HPC HKD ⊢
  clear ht
  cases t with
  | nil =>
    obtain rfl := HPK.out rfl
    clear HPK HPC
    go_enter Tryd.func24, Tryd.ntmps24
    go_wp2_with fail
    refine region_held (KeepC w p) (by kernel_rfl) (by kernel_rfl) HKD.out ?_
    repeat (go_big_quiet_step ((first | rfl | (go_at_call 49; exact HN.out _) | (go_at_call 50; exact HD.out _))))
    refine wpQuiet_nil ?_
    rintro _ ⟨y, rfl⟩
    go_wp2_with fail
    go_ret
    exact ⟨by rw [ES.out] <;> rfl, HB.out y⟩
  | cons x l =>
    obtain rfl := HPC.out x l rfl
    clear HPK HPC
    have ll : l.length + 1 ≤ 7 := by simpa using lt
    have h9 : ¬9223372036854775807 < p.c.length + 1 + K.length + 1 + 1 + 1 + 1 + 1 + E.length + 1 + (l.length + 1) := by omega
    go_enter Tryd.func24, Tryd.ntmps24
    go_wp2_with fail
    refine region_held (KeepC w p) (by kernel_rfl) (by kernel_rfl) HKD.out ?_
    repeat (go_big_quiet_step ((first | rfl | (go_at_call 49; exact HN.out _) | (go_at_call 50; exact HD.out _))))
    refine wpQuiet_nil ?_
    rintro _ ⟨y, rfl⟩
    go_wp2_with fail
    go_ret
    exact ⟨by rw [ES.out] <;> rfl, HB.out y⟩
theorem ltext9_s (p : Cls) (w : World) (hp : p.ok = true) : Calls Tryd.prog 24 #[.agg #[.string ⟨p.c.toArray⟩, .int .i64 p.k, .int .i64 p.p, .int .i64 p.v, .int .i64 p.r, .int .i64 p.e, .string ⟨p.t.toArray⟩]] w (Gives1 w (ctext p)) := by
  obtain ⟨hc, hk, h0, h1, h2, he, hr⟩ := cok hp
  exact ltext9_g p w (Nat.le_trans (pcode_iff.1 hc).1.2 (by decide)) (Nat.le_trans (toT_le hp) (by decide)) hk h0 h1 h2 he
set_option maxHeartbeats 2000000 in
theorem ctext_s (p : Cls) (w : World) (hs : p.sz ≤ 1048600) :
    Calls Tryd.prog 9 #[.agg #[.string ⟨p.c.toArray⟩, .int .i64 p.k, .int .i64 p.p, .int .i64 p.v, .int .i64 p.r, .int .i64 p.e, .string ⟨p.t.toArray⟩]] w (Text2 w (ctR p)) := by
  obtain ⟨hxc, hxt⟩ := sz_c hs
  have kb := KeepC.new w p
  have c0 := kb.cells.c0; have c1 := kb.cells.c1; have c2 := kb.cells.c2; have c3 := kb.cells.c3; have c4 := kb.cells.c4; have c5 := kb.cells.c5; have c6 := kb.cells.c6
  have HV := Lib.hid (fun w => cvalid_s p w hxc hxt)
  rcases Bool.eq_false_or_eq_true p.ok with hv | hv
  · have E := Lib.hid (ctR_ok hv)
    have HT := Lib.hid (fun w => ltext9_s p w hv)
    rw [hv] at HV
    generalize ctext p = T at *
    generalize ctR p = r at *
    go_enter Tryd.func9, Tryd.ntmps9
    go_wp2_with (first
      | (go_at_call 23; refine (HV.out _).mono ?_; rintro e w2 ⟨rfl, b2⟩; have kb2 := kb.step b2; have d0 := kb2.cells.c0; have d1 := kb2.cells.c1; have d2 := kb2.cells.c2; have d3 := kb2.cells.c3; have d4 := kb2.cells.c4; have d5 := kb2.cells.c5; have d6 := kb2.cells.c6)
      | (go_at_call 24; refine (HT.out _).mono ?_; rintro e w3 ⟨rfl, b3⟩))
    go_ret2
    exact ⟨by rw [E.out] <;> rfl, belowGo kb2.bel b3⟩
  · have E := Lib.hid (ctR_no hv)
    rw [hv] at HV
    generalize ctR p = r at *
    go_enter Tryd.func9, Tryd.ntmps9
    go_wp2_with (go_at_call 23; refine (HV.out _).mono ?_; rintro e w2 ⟨rfl, b2⟩; have kb2 := kb.step b2)
    go_ret2
    exact ⟨by rw [E.out] <;> rfl, kb2.bel⟩
end Go.Proofs.YtmhlkbocejnpoaaDoor
