/- impl.EventText. (by gen_eti.py) -/
import Derived.Test.YtifioecofeojpaaDoorEtx
import Derived.Test.YtifioecofeojpaaDoorHeldt
namespace Go.Proofs.YtifioecofeojpaaDoor
open Go.ChangeShapes Go.WideShapes Go.ChangeAt Go.RowKit
set_option linter.unusedVariables false

set_option maxRecDepth 100000 in
set_option maxHeartbeats 8000000 in
theorem ttext_i (p : Evt) (w : World) (hp : p.ok = true) (ht : Tab w) :
    Calls Tryd.prog 12 #[.agg #[.int .i64 p.d, .int .i64 p.k, .string ⟨p.c.toArray⟩, .int .i64 p.a, .bool p.p, .bool p.v, .bool p.r]] w (Gives1 w (etext p)) := by
  obtain ⟨⟨hd0, hd1⟩, ⟨hk0, hk6⟩, hc, ⟨ha0, ha1⟩⟩ := eok hp
  have hday : inr p.d 0 36524 = true := inr_iff.2 ⟨hd0, hd1⟩
  have kb := KeepT.new w p
  have c0 := kb.cells.c0; have c1 := kb.cells.c1; have c2 := kb.cells.c2; have c3 := kb.cells.c3; have c4 := kb.cells.c4; have c5 := kb.cells.c5; have c6 := kb.cells.c6
  have lc : p.c.length ≤ 6 := (pcode_iff.1 hc).1.2
  have lm := moneyI_len ha0 ha1
  have lf := flg_le p.p p.v p.r
  have lt := dayT_le p.d
  have HM := Lib.hid (fun w h => text_i p.a w h)
  rw [textR_ok (amt_val ha0 ha1)] at HM
  have ET : Hid (etext p = dayT p.d ++ 47 :: (Lib.decDigits p.k.toNat ++ 47 :: (p.c ++ 47 :: (money p.a ++ 47 :: flg p.p p.v p.r)))) := Lib.hid rfl
  have ld : (Lib.decDigits p.k.toNat).length ≤ 19 := dec_len 18 p.k.toNat (by omega)
  have HB := Lib.hid (fun y : Sub (KeepT w p) => y.h.bel)
  have HF : Hid (∀ w, Tab w → Calls Tryd.prog 25 #[.int .i64 p.k, .int .i64 10] w (Gives1 w (Lib.decDigits p.k.toNat))) := Lib.hid (by
    intro w h
    obtain ⟨n, hn⟩ := Int.eq_ofNat_of_zero_le hk0
    rw [hn, Int.toNat_natCast]; exact fmt_i n (by omega) w h)
  have HD := Lib.hid (fun (y : Sub (KeepT w p)) => (dayText_i p.d y.w (ht.below y.h.bel) hday).mono fun e w' h => (⟨h.1, ⟨w', y.h.step h.2⟩, rfl⟩ : e = .returned (.string ⟨(dayT p.d).toArray⟩) ∧ ∃ z : Sub (KeepT w p), w' = z.w))
  have HL := Lib.hid (fun (y : Sub (KeepT w p)) => (letters_i p.p p.v p.r y.w).mono fun e w' h => (⟨h.1, ⟨w', y.h.step h.2⟩, rfl⟩ : e = .returned (.string ⟨(flg p.p p.v p.r).toArray⟩) ∧ ∃ z : Sub (KeepT w p), w' = z.w))
  have HJ := Lib.hid (fun g w h => join5 (dayT p.d) (Lib.decDigits p.k.toNat) p.c (money p.a) (flg p.p p.v p.r) g w h (by omega))
  rw [← ET.out] at HJ
  have q0 : ∀ y : Sub (KeepT w p), y.w.cell? ⟨w.heap.size, 0, none⟩ = some (.int .i64 p.d) := fun y => y.h.cells.c0
  have q1 : ∀ y : Sub (KeepT w p), y.w.cell? ⟨w.heap.size, 1, none⟩ = some (.int .i64 p.k) := fun y => y.h.cells.c1
  have q2 : ∀ y : Sub (KeepT w p), y.w.cell? ⟨w.heap.size, 2, none⟩ = some (.string ⟨p.c.toArray⟩) := fun y => y.h.cells.c2
  have q3 : ∀ y : Sub (KeepT w p), y.w.cell? ⟨w.heap.size, 3, none⟩ = some (.int .i64 p.a) := fun y => y.h.cells.c3
  have q4 : ∀ y : Sub (KeepT w p), y.w.cell? ⟨w.heap.size, 4, none⟩ = some (.bool p.p) := fun y => y.h.cells.c4
  have q5 : ∀ y : Sub (KeepT w p), y.w.cell? ⟨w.heap.size, 5, none⟩ = some (.bool p.v) := fun y => y.h.cells.c5
  have q6 : ∀ y : Sub (KeepT w p), y.w.cell? ⟨w.heap.size, 6, none⟩ = some (.bool p.r) := fun y => y.h.cells.c6
  generalize Lib.decDigits p.k.toNat = DG at *
  generalize money p.a = M at *
  generalize etext p = T at *
  generalize dayT p.d = DD at *
  generalize flg p.p p.v p.r = FL at *
  clear ET hday hp hc hd0 hd1 hk0 hk6 ha0 ha1
  go_enter Tryd.func12, Tryd.ntmps12
  go_wp2_with fail
  refine (HF.out _ (ht.below kb.bel)).mono ?_
  rintro e w2 ⟨rfl, b2⟩
  have kb2 := kb.step b2
  clear c0 c1 c2 c3 c4 c5 c6
  have c0 := kb2.cells.c0; have c1 := kb2.cells.c1; have c2 := kb2.cells.c2; have c3 := kb2.cells.c3; have c4 := kb2.cells.c4; have c5 := kb2.cells.c5; have c6 := kb2.cells.c6
  go_wp2_with fail
  refine (HM.out _ (ht.below kb2.bel)).mono ?_
  rintro e w3 ⟨rfl, b3⟩
  have kb3 := (kb2.step b3).drew
  clear c0 c1 c2 c3 c4 c5 c6
  go_wp2_with fail
  refine region_tail 10 (KeepT w p) (by kernel_rfl) (by kernel_rfl) kb3 ?_
  simp only [List.take_succ_cons, List.take_zero, List.drop_succ_cons, List.drop_zero]
  repeat (go_big_quiet_step ((first | rfl | (go_at_call 28; exact HD.out _) | (go_at_call 29; exact HL.out _))))
  refine wpQuiet_nil ?_
  intro y
  have hJ := Lib.hid (HJ.out y.w.heap.size _ (heap_alloc_new y.w _))
  have hB := Lib.hid (belowGo (HB.out y) (below_alloc y.w (.cells #[.string ⟨DD.toArray⟩, .string ⟨DG.toArray⟩, .string ⟨p.c.toArray⟩, .string ⟨M.toArray⟩, .string ⟨FL.toArray⟩] 9)))
  go_wp2_with fail
  refine (hJ.out).mono ?_
  rintro e w5 ⟨rfl, b5⟩
  go_wp2_with fail
  go_ret
  exact ⟨rfl, belowGo hB.out b5⟩
set_option maxHeartbeats 2000000 in
theorem evtext_i (p : Evt) (w : World) (hs : p.sz ≤ 1048600) (ht : Tab w) :
    Calls Tryd.prog 7 #[.agg #[.int .i64 p.d, .int .i64 p.k, .string ⟨p.c.toArray⟩, .int .i64 p.a, .bool p.p, .bool p.v, .bool p.r]] w (Text2 w (etR p)) := by
  have hxc := sz_e hs
  have kb := KeepE.new w p
  have c0 := kb.cells.c0; have c1 := kb.cells.c1; have c2 := kb.cells.c2; have c3 := kb.cells.c3; have c4 := kb.cells.c4; have c5 := kb.cells.c5; have c6 := kb.cells.c6
  have HV := Lib.hid (fun w => evalid_i p w hxc)
  rcases Bool.eq_false_or_eq_true p.ok with hv | hv
  · have E := Lib.hid (etR_ok hv)
    have HT := Lib.hid (fun w h => ttext_i p w hv h)
    have HTo := Lib.hid (fun w => told_i p w)
    rw [hv] at HV
    generalize etext p = T at *
    generalize etR p = r at *
    go_enter Tryd.func7, Tryd.ntmps7
    go_wp2_with (first
      | (go_at_call 10; refine (HV.out _).mono ?_; rintro e w2 ⟨rfl, b2⟩; have kb2 := kb.step b2; clear c0 c1 c2 c3 c4 c5 c6; have c0 := kb2.cells.c0; have c1 := kb2.cells.c1; have c2 := kb2.cells.c2; have c3 := kb2.cells.c3; have c4 := kb2.cells.c4; have c5 := kb2.cells.c5; have c6 := kb2.cells.c6)
      | (go_at_call 11; refine (HTo.out _).mono ?_; rintro e w3 ⟨rfl, b3⟩; have kb3 := kb2.step b3)
      | (go_at_call 12; refine (HT.out _ (ht.below kb3.bel)).mono ?_; rintro e w4 ⟨rfl, b4⟩))
    go_ret2
    exact ⟨by rw [E.out] <;> rfl, belowGo kb3.bel b4⟩
  · have E := Lib.hid (etR_no hv)
    rw [hv] at HV
    generalize etR p = r at *
    go_enter Tryd.func7, Tryd.ntmps7
    go_wp2_with (go_at_call 10; refine (HV.out _).mono ?_; rintro e w2 ⟨rfl, b2⟩; have kb2 := kb.step b2)
    go_ret2
    exact ⟨by rw [E.out] <;> rfl, kb2.bel⟩
end Go.Proofs.YtifioecofeojpaaDoor
