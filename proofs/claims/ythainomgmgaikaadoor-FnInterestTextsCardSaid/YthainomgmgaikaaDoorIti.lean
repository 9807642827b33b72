/- impl.InterestText. -/
import Derived.Test.YthainomgmgaikaaDoorItx
namespace Go.Proofs.YthainomgmgaikaaDoor
open Go.ChangeShapes Go.WideShapes Go.ChangeAt Go.RowKit
set_option linter.unusedVariables false

set_option maxRecDepth 100000 in
set_option maxHeartbeats 8000000 in
theorem itext_i (p : Ist) (w : World) (hs : p.sz ≤ 1048600) (ht : Tab w) :
    Calls Tryd.prog 8 #[.agg #[.string ⟨p.c.toArray⟩, .int .i64 p.k, .string ⟨p.o.toArray⟩, .int .i64 p.v, .int .i64 p.a]] w (Text2 w (itR p)) := by
  obtain ⟨hxc, hxa⟩ := sz_i hs
  have kb := KeepI.new w p
  have c0 := kb.cells.c0; have c1 := kb.cells.c1; have c2 := kb.cells.c2; have c3 := kb.cells.c3; have c4 := kb.cells.c4
  have HV := Lib.hid (fun w => ivalid_i p w hxc hxa)
  rcases Bool.eq_false_or_eq_true p.ok with hv | hv
  · have E := Lib.hid (itR_ok hv)
    obtain ⟨hc, ho, ⟨hk0, hk3⟩, ⟨hv0, hv1⟩, ⟨ha0, ha1⟩, _⟩ := iokT hv
    have lc : p.c.length ≤ 6 := (pcode_iff.1 hc).1.2
    have lo : p.o.length ≤ 6 := (pcode_iff.1 ho).1.2
    have lm := moneyI_len hv0 hv1
    have HM := Lib.hid (fun w h => text_i p.v w h)
    rw [textR_ok (amt_val hv0 hv1)] at HM
    have ET : Hid (itext p = p.c ++ 47 :: (Lib.decDigits p.k.toNat ++ 47 :: (p.o ++ 47 :: (money p.v ++ 47 :: Lib.decDigits p.a.toNat)))) := Lib.hid rfl
    obtain ⟨n, hn⟩ := Int.eq_ofNat_of_zero_le hk0
    obtain ⟨m, hm⟩ := Int.eq_ofNat_of_zero_le ha0
    rw [hn, Int.toNat_natCast] at ET
    rw [hm, Int.toNat_natCast] at ET
    have ld : (Lib.decDigits n).length ≤ 19 := dec_len 18 n (by omega)
    have le : (Lib.decDigits m).length ≤ 19 := dec_len 18 m (by omega)
    have HB := Lib.hid (fun y : Sub (KeepI w p) => y.h.bel)
    have HD := Lib.hid (fun (n : Nat) (h : n ≤ 100) (y : Sub (KeepI w p)) => (fmt_i n (by omega) y.w (ht.below y.h.bel)).mono fun e w' h => (⟨h.1, ⟨w', y.h.step h.2⟩, rfl⟩ : e = .returned (.string ⟨(Lib.decDigits n).toArray⟩) ∧ ∃ z : Sub (KeepI w p), w' = z.w))
    have hn100 : n ≤ 100 := by omega
    have hm100 : m ≤ 100 := by omega
    have HJ := Lib.hid (fun g w h => join5 p.c (Lib.decDigits n) p.o (money p.v) (Lib.decDigits m) g w h (by omega))
    rw [← ET.out] at HJ
    have q0 : ∀ y : Sub (KeepI w p), y.w.cell? ⟨w.heap.size, 0, none⟩ = some (.string ⟨p.c.toArray⟩) := fun y => y.h.cells.c0
    have q1 : ∀ y : Sub (KeepI w p), y.w.cell? ⟨w.heap.size, 1, none⟩ = some (.int .i64 n) := fun y => by rw [← hn]; exact y.h.cells.c1
    have q2 : ∀ y : Sub (KeepI w p), y.w.cell? ⟨w.heap.size, 2, none⟩ = some (.string ⟨p.o.toArray⟩) := fun y => y.h.cells.c2
    have q3 : ∀ y : Sub (KeepI w p), y.w.cell? ⟨w.heap.size, 3, none⟩ = some (.int .i64 p.v) := fun y => y.h.cells.c3
    have q4 : ∀ y : Sub (KeepI w p), y.w.cell? ⟨w.heap.size, 4, none⟩ = some (.int .i64 m) := fun y => by rw [← hm]; exact y.h.cells.c4
    generalize Lib.decDigits = dd at *
    generalize money p.v = M at *
    generalize itext p = T at *
    rw [hv] at HV
    clear ET
    generalize itR p = r at *
    clear hn hm hk0 hk3 ha0 ha1
    go_enter Tryd.func8, Tryd.ntmps8
    go_wp2_with fail
    refine (HV.out _).mono ?_
    rintro e w2 ⟨rfl, b2⟩
    have kb2 := kb.step b2
    have c0 := kb2.cells.c0; have c1 := kb2.cells.c1; have c2 := kb2.cells.c2; have c3 := kb2.cells.c3; have c4 := kb2.cells.c4
    have HT2 := Lib.hid (ht.below kb2.bel)
    go_wp2_with fail
    refine (HM.out _ HT2.out).mono ?_
    rintro e w3 ⟨rfl, b3⟩
    have kb3 := (kb2.step b3).drew
    clear c0 c1 c2 c3 c4
    go_wp2_with fail
    refine region_held (KeepI w p) (by kernel_rfl) (by kernel_rfl) kb3 ?_
    repeat (go_big_quiet_step ((first | rfl | (go_at_call 20; exact HD.out _ (by assumption) _))))
    refine wpQuiet_nil ?_
    rintro _ ⟨y, rfl⟩
    have c0 := q0 y; have c1 := q1 y; have c2 := q2 y; have c3 := q3 y; have c4 := q4 y
    have hJ := Lib.hid (HJ.out y.w.heap.size _ (heap_alloc_new y.w _))
    have hB := Lib.hid (belowGo (HB.out y) (below_alloc y.w (.cells #[.string ⟨p.c.toArray⟩, .string ⟨(dd n).toArray⟩, .string ⟨p.o.toArray⟩, .string ⟨M.toArray⟩, .string ⟨(dd m).toArray⟩] 9)))
    go_wp2_with fail
    refine (hJ.out).mono ?_
    rintro e w5 ⟨rfl, b5⟩
    go_wp2_with fail
    go_ret2
    exact ⟨by rw [E.out] <;> rfl, belowGo hB.out b5⟩
  · have E := Lib.hid (itR_no hv)
    rw [hv] at HV
    generalize itR p = r at *
    go_enter Tryd.func8, Tryd.ntmps8
    go_wp2_with (go_at_call 13; refine (HV.out _).mono ?_; rintro e w2 ⟨rfl, b2⟩; have kb2 := kb.step b2)
    go_ret2
    exact ⟨by rw [E.out] <;> rfl, kb2.bel⟩
end Go.Proofs.YthainomgmgaikaaDoor
