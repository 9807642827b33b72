/- The law FnEventTexts. (by gen_etw.py) -/
import Derived.Test.YtifioecofeojpaaGreatDoorDet
import Derived.Test.YtifioecofeojpaaGreatDoorEri
import Derived.Test.YtifioecofeojpaaGreatDoorErs
import Derived.Test.YtifioecofeojpaaGreatDoorMParse
import Derived.Laws.StructEq
namespace Go.Proofs.YtifioecofeojpaaGreatDoor
open Go.ChangeShapes Go.WideShapes Go.ChangeAt Go.RowKit
set_option linter.unusedVariables false

theorem big_p (A : Option Addr) (c : Nat) (bs : List Int) (w : World) (hm : bs.length ≤ maxLen) :
    Calls Tryz.prog 5 #[.slice A bs.length c] w fun e w' => e = .returned (.bool (decide (4096 < bs.length))) ∧ w = w' := by
  have hm2 : bs.length ≤ 9223372036854775807 := by unfold maxLen at hm; omega
  have E : Hid (decide (4096 < (bs.length : Int)) = decide (4096 < bs.length)) := Lib.hid (by rw [decide_eq_decide]; omega)
  go_enter Tryz.func5, Tryz.ntmps5
  go_wp2_with fail
  go_ret
  exact ⟨by rw [← E.out] <;> rfl, rfl⟩
theorem neq_evt (W : World) (p : Evt) : (binOp .neq 25 (.agg #[.int .i64 p.d, .int .i64 p.k, .string ⟨p.c.toArray⟩, .int .i64 p.a, .bool p.p, .bool p.v, .bool p.r]) (.agg #[.int .i64 p.d, .int .i64 p.k, .string ⟨p.c.toArray⟩, .int .i64 p.a, .bool p.p, .bool p.v, .bool p.r])).run Tryz.prog W = .ok (.bool false) W := by
  have h : (Op.equalIn (9999 + 1) 25 (.agg #[.int .i64 p.d, .int .i64 p.k, .string ⟨p.c.toArray⟩, .int .i64 p.a, .bool p.p, .bool p.v, .bool p.r]) (.agg #[.int .i64 p.d, .int .i64 p.k, .string ⟨p.c.toArray⟩, .int .i64 p.a, .bool p.p, .bool p.v, .bool p.r])).run Tryz.prog W = .ok true W := by
    rw [run_equalIn_agg W 9999 25 _ _ (by kernel_rfl) (by kernel_rfl)]
    obtain ⟨k, hk⟩ : ∃ k, 9999 = k + 1 := ⟨9998, rfl⟩
    rw [hk]
    simp only [Program.fieldsOf, Tryz.underlying25]
    have H := fun (x y : Int) => run_equalIn_int (P := Tryz.prog) W k 2 .i64 .i64 x y Tryz.underlying2
    have HS := fun (x y : ByteArray) => run_equalIn_string (P := Tryz.prog) W k 9 x y Tryz.underlying9
    have HBo := fun (x y : Bool) => run_equalIn_bool (P := Tryz.prog) W k 4 x y Tryz.underlying4
    clear hk
    simp [Op.eqFields, go_sem, part, H, HS, HBo]
  rw [run_neq_struct]
  exact (congrArg (fun r => Result.andThen r _) h).trans rfl
theorem ok_szE {p : Evt} (h : p.ok = true) : p.sz ≤ 1048600 := by
  have lc := (pcode_iff.1 (eok h).2.2.1).1.2
  unfold Evt.sz; omega
theorem etR_inv {p : Evt} (h : (etR p).2 = 0) : reR (etR p).1 = (p, 0) ∧ (etR p).1.length ≤ 100 := by
  rcases Bool.eq_false_or_eq_true p.ok with g | g
  · rw [etR_ok g]; exact ⟨reR_ok ⟨g, rfl⟩, Nat.le_trans (etext_short g) (by decide)⟩
  · rw [etR_no g] at h; cases h
theorem etR_code (p : Evt) : p.ok = ((etR p).2 == 0) := by
  rcases Bool.eq_false_or_eq_true p.ok with g | g
  · rw [etR_ok g, g]; rfl
  · rw [etR_no g, g]; rfl
theorem reR_inv {s : List UInt8} (h : (reR s).2 = 0) : etR (reR s).1 = (s, 0) ∧ (reR s).1.sz ≤ 1048600 := by
  by_cases hv : ∃ p, FitE s p
  · obtain ⟨p, g1, g2⟩ := hv
    rw [reR_ok ⟨g1, g2⟩]
    exact ⟨by rw [etR_ok g1, g2], ok_szE g1⟩
  · rw [reR_no hv] at h; cases h
set_option maxRecDepth 100000 in
set_option maxHeartbeats 8000000 in
theorem law_FnEventTexts (A : Option Addr) (c : Nat) (bs : List Int) (w : World) (hA : Rw w A (bs.map (Value.int .u8))) (hm : bs.length ≤ maxLen) (hb : ∀ b ∈ bs, 0 ≤ b ∧ b ≤ 255) (hB : bs ≠ [] → Bd A w.heap.size)
    (ht : Tab w) (hs : ErrVar "strconv.ErrSyntax" w) (hr : ErrVar "strconv.ErrRange" w) :
    Calls Tryz.prog 3 #[.slice A bs.length c] w fun e w' => e = .returned (.bool true) ∧ Below w.heap.size w w' := by
  by_cases hl : 4096 < bs.length
  · have hd : decide (4096 < bs.length) = true := by simpa using hl
    go_enter Tryz.func3, Tryz.ntmps3
    go_wp2_with (go_at_call 5; refine (big_p _ _ _ _ hm).mono ?_; rintro e w' ⟨rfl, rfl⟩)
    go_ret
    exact ⟨rfl, Below.refl _ _⟩
  · have hd : decide (4096 < bs.length) = false := by simpa using hl
    have h0 : Code0 w A bs := ⟨hA, hB, hb, by omega⟩
    have L0 := Lib.hid (show Lib3 w from ⟨ht, hs, hr⟩)
    clear hA hB hb ht hs hr
    go_enter Tryz.func3, Tryz.ntmps3
    go_wp2_with (go_at_call 5; refine (big_p _ _ _ _ hm).mono ?_; rintro e w' ⟨rfl, rfl⟩)
    refine (drawEventText A c bs _ h0).mono ?_
    rintro e w1 ⟨x, rfl, hx14, b1⟩
    have b1' := b1.alloc b1.size (.cells #[.int .i64 x.d, .int .i64 x.k, .string ⟨x.c.toArray⟩, .int .i64 x.a, .bool x.p, .bool x.v, .bool x.r] 25)
    have k1 := heap_alloc_new w1 (.cells #[.int .i64 x.d, .int .i64 x.k, .string ⟨x.c.toArray⟩, .int .i64 x.a, .bool x.p, .bool x.v, .bool x.r] 25)
    have hxs : x.sz ≤ 1048600 := Nat.le_trans hx14 (by decide)
    have hxc := sz_e hxs
    have HTI := Lib.hid (fun w h => evtext_i x w hxs h)
    have HTS := Lib.hid (fun w => evtext_s x w hxs)
    have HTV := Lib.hid (@etR_inv x)
    have HVI := Lib.hid (fun w => evalid_i x w hxc)
    rw [etR_code x] at HVI
    clear hxc hx14 hxs
    generalize etR x = r at *
    obtain ⟨t, bad⟩ := r
    simp only at HVI
    have t1 := b1'
    clear b1 b1'
    obtain ⟨c0, c1, c2, c3, c4, c5, c6, _⟩ := cel7 k1
    go_wp2_with fail
    refine (HTI.out _ (L0.out.below t1).tab).mono ?_
    rintro e w2 ⟨rfl, b2⟩
    have k2 := keepR b2 k1
    have t2 := belowGo t1 b2
    clear c0 c1 c2 c3 c4 c5 c6
    obtain ⟨c0, c1, c2, c3, c4, c5, c6, _⟩ := cel7 k2
    clear b2 k1 t1 HTI
    go_wp2_with fail
    refine (HTS.out _).mono ?_
    rintro e w3 ⟨rfl, b3⟩
    have k3 := keepR b3 k2
    have t3 := belowGo t2 b3
    have h3 := h0.below t3
    clear b3 k2 t2 HTS c0 c1 c2 c3 c4 c5 c6
    go_wp2_with fail
    refine (drawReadEvent A c bs _ h3).mono ?_
    rintro e w4 ⟨s, rfl, hsl, b4⟩
    have k4 := keepR b4 k3
    have t4 := belowGo t3 b4
    have HRI := Lib.hid (fun w h => revt_i s (by omega) w h)
    have HRS := Lib.hid (fun w => revt_s s (by omega) w)
    have HRV := Lib.hid (@reR_inv s)
    generalize reR s = r at *
    obtain ⟨y, one⟩ := r
    clear b4 k3 t3 h3 h0
    go_wp2_with fail
    refine (HRI.out _ (L0.out.below t4)).mono ?_
    rintro e w5 ⟨rfl, b5⟩
    have b5' := b5.alloc b5.size (.cells #[.int .i64 y.d, .int .i64 y.k, .string ⟨y.c.toArray⟩, .int .i64 y.a, .bool y.p, .bool y.v, .bool y.r] 25)
    have k5 := keepR b5' k4
    have t5 := belowGo t4 b5'
    have y5 := heap_alloc_new w5 (.cells #[.int .i64 y.d, .int .i64 y.k, .string ⟨y.c.toArray⟩, .int .i64 y.a, .bool y.p, .bool y.v, .bool y.r] 25)
    clear b5 b5' k4 t4 HRI
    go_wp2_with fail
    refine (HRS.out _).mono ?_
    rintro e w6 ⟨rfl, b6⟩
    have b6' := b6.alloc b6.size (.cells #[.int .i64 y.d, .int .i64 y.k, .string ⟨y.c.toArray⟩, .int .i64 y.a, .bool y.p, .bool y.v, .bool y.r] 25)
    have k6 := keepR b6' k5
    have t6 := belowGo t5 b6'
    have y6 := keepR b6' y5
    have z6 := heap_alloc_new w6 (.cells #[.int .i64 y.d, .int .i64 y.k, .string ⟨y.c.toArray⟩, .int .i64 y.a, .bool y.p, .bool y.v, .bool y.r] 25)
    clear b6 b6' k5 y5 t5 HRS
    have n1 : (bad != bad) = false := by simp
    have n2 := neq_evt (w6.alloc (.cells #[.int .i64 y.d, .int .i64 y.k, .string ⟨y.c.toArray⟩, .int .i64 y.a, .bool y.p, .bool y.v, .bool y.r] 25)) y
    have n3 : (one != one) = false := by simp
    have n4 : (t != t) = false := by simp
    have n5 : (s != s) = false := by simp
    have n6 : ((bad == 0) != (bad == 0)) = false := by simp
    obtain ⟨c0, c1, c2, c3, c4, c5, c6, _⟩ := cel7 k6
    obtain ⟨d0, d1, d2, d3, d4, d5, d6, _⟩ := cel7 y6
    obtain ⟨e0, e1, e2, e3, e4, e5, e6, _⟩ := cel7 z6
    go_wp2_with fail
    refine (HVI.out _).mono ?_
    rintro e w7 ⟨rfl, b7⟩
    have k7 := keepR b7 k6
    have y7 := keepR b7 y6
    have t7 := belowGo t6 b7
    clear b7 k6 y6 t6 z6 HVI n2 c0 c1 c2 c3 c4 c5 c6 d0 d1 d2 d3 d4 d5 d6 e0 e1 e2 e3 e4 e5 e6
    obtain ⟨d0, d1, d2, d3, d4, d5, d6, _⟩ := cel7 y7
    by_cases h1 : one = 0
    · subst h1
      obtain ⟨hv, hvs⟩ := HRV.out rfl
      have HT2 := Lib.hid (fun w h => evtext_i y w hvs h)
      rw [show etR y = (s, 0) from hv] at HT2
      clear hv hvs HRV
      go_wp2_with fail
      refine (HT2.out _ (L0.out.below t7).tab).mono ?_
      rintro e w8 ⟨rfl, b8⟩
      have k8 := keepR b8 k7
      have t8 := belowGo t7 b8
      clear b8 k7 t7 y7 HT2 d0 d1 d2 d3 d4 d5 d6
      by_cases h2 : bad = 0
      · subst h2
        obtain ⟨hq, hql⟩ := HTV.out rfl
        have HR2 := Lib.hid (fun w h => revt_i t (Nat.le_trans hql (by omega)) w h)
        rw [show reR t = (x, 0) from hq] at HR2
        clear hq HTV
        go_wp2_with fail
        refine (HR2.out _ (L0.out.below t8)).mono ?_
        rintro e w9 ⟨rfl, b9⟩
        have b9' := b9.alloc b9.size (.cells #[.int .i64 x.d, .int .i64 x.k, .string ⟨x.c.toArray⟩, .int .i64 x.a, .bool x.p, .bool x.v, .bool x.r] 25)
        have k9 := keepR b9' k8
        have t9 := belowGo t8 b9'
        have v9 := heap_alloc_new w9 (.cells #[.int .i64 x.d, .int .i64 x.k, .string ⟨x.c.toArray⟩, .int .i64 x.a, .bool x.p, .bool x.v, .bool x.r] 25)
        have n9 := neq_evt (w9.alloc (.cells #[.int .i64 x.d, .int .i64 x.k, .string ⟨x.c.toArray⟩, .int .i64 x.a, .bool x.p, .bool x.v, .bool x.r] 25)) x
        clear HR2 b9 b9' k8 t8 
        obtain ⟨c0, c1, c2, c3, c4, c5, c6, _⟩ := cel7 k9
        obtain ⟨d0, d1, d2, d3, d4, d5, d6, _⟩ := cel7 v9
        go_wp2_with fail
        go_ret
        exact ⟨rfl, t9⟩
      · have h2 : (bad != 0) = true := bne_iff_ne.2 h2
        go_wp2_with fail
        go_ret
        exact ⟨rfl, t8⟩
    · have h1 : (one == 0) = false := beq_eq_false_iff_ne.2 h1
      by_cases h2 : bad = 0
      · subst h2
        obtain ⟨hq, hql⟩ := HTV.out rfl
        have HR2 := Lib.hid (fun w h => revt_i t (Nat.le_trans hql (by omega)) w h)
        rw [show reR t = (x, 0) from hq] at HR2
        clear hq HTV
        go_wp2_with fail
        refine (HR2.out _ (L0.out.below t7)).mono ?_
        rintro e w9 ⟨rfl, b9⟩
        have b9' := b9.alloc b9.size (.cells #[.int .i64 x.d, .int .i64 x.k, .string ⟨x.c.toArray⟩, .int .i64 x.a, .bool x.p, .bool x.v, .bool x.r] 25)
        have k9 := keepR b9' k7
        have t9 := belowGo t7 b9'
        have v9 := heap_alloc_new w9 (.cells #[.int .i64 x.d, .int .i64 x.k, .string ⟨x.c.toArray⟩, .int .i64 x.a, .bool x.p, .bool x.v, .bool x.r] 25)
        have n9 := neq_evt (w9.alloc (.cells #[.int .i64 x.d, .int .i64 x.k, .string ⟨x.c.toArray⟩, .int .i64 x.a, .bool x.p, .bool x.v, .bool x.r] 25)) x
        clear HR2 b9 b9' k7 t7 d0 d1 d2 d3 d4 d5 d6 y7
        obtain ⟨c0, c1, c2, c3, c4, c5, c6, _⟩ := cel7 k9
        obtain ⟨d0, d1, d2, d3, d4, d5, d6, _⟩ := cel7 v9
        go_wp2_with fail
        go_ret
        exact ⟨rfl, t9⟩
      · have h2 : (bad != 0) = true := bne_iff_ne.2 h2
        go_wp2_with fail
        go_ret
        exact ⟨rfl, t7⟩
end Go.Proofs.YtifioecofeojpaaGreatDoor
