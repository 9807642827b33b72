/- The law FnClauseTexts. (by gen_ctw.py) -/
import Derived.Test.YtmhlkbocejnpoaaDoorDrw9
import Derived.Test.YtmhlkbocejnpoaaDoorCri9
import Derived.Test.YtmhlkbocejnpoaaDoorCrs9
import Derived.Test.YtmhlkbocejnpoaaDoorErrs
import Derived.Laws.StructEq
namespace Go.Proofs.YtmhlkbocejnpoaaDoor
open Go.ChangeShapes Go.WideShapes Go.ChangeAt Go.RowKit
set_option linter.unusedVariables false

theorem big_p (A : Option Addr) (c : Nat) (bs : List Int) (w : World) (hm : bs.length ≤ maxLen) :
    Calls Tryd.prog 6 #[.slice A bs.length c] w fun e w' => e = .returned (.bool (decide (4096 < bs.length))) ∧ w = w' := by
  have hm2 : bs.length ≤ 9223372036854775807 := by unfold maxLen at hm; omega
  have E : Hid (decide (4096 < (bs.length : Int)) = decide (4096 < bs.length)) := Lib.hid (by rw [decide_eq_decide]; omega)
  go_enter Tryd.func6, Tryd.ntmps6
  go_wp2_with fail
  go_ret
  exact ⟨by rw [← E.out] <;> rfl, rfl⟩
theorem neq_cls (W : World) (p : Cls) : (binOp .neq 25 (.agg #[.string ⟨p.c.toArray⟩, .int .i64 p.k, .int .i64 p.p, .int .i64 p.v, .int .i64 p.r, .int .i64 p.e, .string ⟨p.t.toArray⟩]) (.agg #[.string ⟨p.c.toArray⟩, .int .i64 p.k, .int .i64 p.p, .int .i64 p.v, .int .i64 p.r, .int .i64 p.e, .string ⟨p.t.toArray⟩])).run Tryd.prog W = .ok (.bool false) W := by
  have h : (Op.equalIn (9999 + 1) 25 (.agg #[.string ⟨p.c.toArray⟩, .int .i64 p.k, .int .i64 p.p, .int .i64 p.v, .int .i64 p.r, .int .i64 p.e, .string ⟨p.t.toArray⟩]) (.agg #[.string ⟨p.c.toArray⟩, .int .i64 p.k, .int .i64 p.p, .int .i64 p.v, .int .i64 p.r, .int .i64 p.e, .string ⟨p.t.toArray⟩])).run Tryd.prog W = .ok true W := by
    rw [run_equalIn_agg W 9999 25 _ _ (by kernel_rfl) (by kernel_rfl)]
    obtain ⟨k, hk⟩ : ∃ k, 9999 = k + 1 := ⟨9998, rfl⟩
    rw [hk]
    simp only [Program.fieldsOf, Tryd.underlying25]
    have H := fun (x y : Int) => run_equalIn_int (P := Tryd.prog) W k 2 .i64 .i64 x y Tryd.underlying2
    have HS := fun (x y : ByteArray) => run_equalIn_string (P := Tryd.prog) W k 9 x y Tryd.underlying9
    have HBo := fun (x y : Bool) => run_equalIn_bool (P := Tryd.prog) W k 4 x y Tryd.underlying4
    clear hk
    simp [Op.eqFields, go_sem, part, H, HS, HBo]
  rw [run_neq_struct]
  exact (congrArg (fun r => Result.andThen r _) h).trans rfl
theorem ok_szC {p : Cls} (h : p.ok = true) : p.sz ≤ 1048600 := by
  obtain ⟨hc, _, _, _, _, _, hr⟩ := cok h
  have lc := (pcode_iff.1 hc).1.2
  have lt : p.t.length ≤ 6 := by
    rcases hr with ⟨_, h2⟩ | ⟨_, h2⟩
    · exact (pcode_iff.1 h2).1.2
    · rw [h2]; simp
  unfold Cls.sz; omega
theorem ctR_inv {p : Cls} (h : (ctR p).2 = 0) : rcR (ctR p).1 = (p, 0) ∧ (ctR p).1.length ≤ 100 := by
  rcases Bool.eq_false_or_eq_true p.ok with g | g
  · rw [ctR_ok g]; exact ⟨rcR_ok ⟨g, rfl⟩, Nat.le_trans (ctext_short g) (by decide)⟩
  · rw [ctR_no g] at h; cases h
theorem ctR_code (p : Cls) : p.ok = ((ctR p).2 == 0) := by
  rcases Bool.eq_false_or_eq_true p.ok with g | g
  · rw [ctR_ok g, g]; rfl
  · rw [ctR_no g, g]; rfl
theorem rcR_inv {s : List UInt8} (h : (rcR s).2 = 0) : ctR (rcR s).1 = (s, 0) ∧ (rcR s).1.sz ≤ 1048600 := by
  by_cases hv : ∃ p, FitC s p
  · obtain ⟨p, g1, g2⟩ := hv
    rw [rcR_ok ⟨g1, g2⟩]
    exact ⟨by rw [ctR_ok g1, g2], ok_szC g1⟩
  · rw [rcR_no hv] at h; cases h
set_option maxRecDepth 100000 in
set_option maxHeartbeats 8000000 in
theorem law_FnClauseTexts (A : Option Addr) (c : Nat) (bs : List Int) (w : World) (hA : Rw w A (bs.map (Value.int .u8))) (hm : bs.length ≤ maxLen) (hb : ∀ b ∈ bs, 0 ≤ b ∧ b ≤ 255) (hB : bs ≠ [] → Bd A w.heap.size)
    (ht : Tab w) (hs : ErrVar "strconv.ErrSyntax" w) (hr : ErrVar "strconv.ErrRange" w) :
    Calls Tryd.prog 3 #[.slice A bs.length c] w fun e w' => e = .returned (.bool true) ∧ Below w.heap.size w w' := by
  by_cases hl : 4096 < bs.length
  · have hd : decide (4096 < bs.length) = true := by simpa using hl
    go_enter Tryd.func3, Tryd.ntmps3
    go_wp2_with (go_at_call 6; refine (big_p _ _ _ _ hm).mono ?_; rintro e w' ⟨rfl, rfl⟩)
    go_ret
    exact ⟨rfl, Below.refl _ _⟩
  · have hd : decide (4096 < bs.length) = false := by simpa using hl
    have h0 : Code0 w A bs := ⟨hA, hB, hb, by omega⟩
    have L0 := Lib.hid (show Lib3 w from ⟨ht, hs, hr⟩)
    clear hA hB hb ht hs hr
    go_enter Tryd.func3, Tryd.ntmps3
    go_wp2_with (go_at_call 6; refine (big_p _ _ _ _ hm).mono ?_; rintro e w' ⟨rfl, rfl⟩)
    refine (drawClauseText A c bs _ h0).mono ?_
    rintro e w1 ⟨x, rfl, hx14, b1⟩
    have b1' := b1.alloc b1.size (.cells #[.string ⟨x.c.toArray⟩, .int .i64 x.k, .int .i64 x.p, .int .i64 x.v, .int .i64 x.r, .int .i64 x.e, .string ⟨x.t.toArray⟩] 25)
    have k1 := heap_alloc_new w1 (.cells #[.string ⟨x.c.toArray⟩, .int .i64 x.k, .int .i64 x.p, .int .i64 x.v, .int .i64 x.r, .int .i64 x.e, .string ⟨x.t.toArray⟩] 25)
    have hxs : x.sz ≤ 1048600 := by unfold Cls.sz; have := hx14.1; have := hx14.2; omega
    have hxc := sz_c hxs
    have HTI := Lib.hid (fun w h => ctext_i x w hxs h)
    have HTS := Lib.hid (fun w => ctext_s x w hxs)
    have HTV := Lib.hid (@ctR_inv x)
    have HVI := Lib.hid (fun w => cvalid_i x w hxc.1 hxc.2)
    rw [ctR_code x] at HVI
    clear hxc hx14 hxs
    generalize ctR x = r at *
    obtain ⟨t, bad⟩ := r
    simp only at HVI
    have t1 := b1'
    clear b1 b1'
    obtain ⟨c0, c1, c2, c3, c4, c5, c6, _⟩ := cel7 k1
    go_wp2_with fail
    refine (HTI.out _ (L0.out.below t1).tab).mono ?_
    rintro e w2 ⟨rfl, b2⟩
    have k2 := keepR b2 k1
    have t2 := belowGo t1 b2
    clear c0 c1 c2 c3 c4 c5 c6
    obtain ⟨c0, c1, c2, c3, c4, c5, c6, _⟩ := cel7 k2
    clear b2 k1 t1 HTI
    go_wp2_with fail
    refine (HTS.out _).mono ?_
    rintro e w3 ⟨rfl, b3⟩
    have k3 := keepR b3 k2
    have t3 := belowGo t2 b3
    have h3 := h0.below t3
    clear b3 k2 t2 HTS c0 c1 c2 c3 c4 c5 c6
    go_wp2_with fail
    refine (drawReadClause A c bs _ h3).mono ?_
    rintro e w4 ⟨s, rfl, hsl, b4⟩
    have k4 := keepR b4 k3
    have t4 := belowGo t3 b4
    have HRI := Lib.hid (fun w h => rcls_i s (by omega) w h)
    have HRS := Lib.hid (fun w => rcls_s s (by omega) w)
    have HRV := Lib.hid (@rcR_inv s)
    generalize rcR s = r at *
    obtain ⟨y, one⟩ := r
    clear b4 k3 t3 h3 h0
    go_wp2_with fail
    refine (HRI.out _ (L0.out.below t4)).mono ?_
    rintro e w5 ⟨rfl, b5⟩
    have b5' := b5.alloc b5.size (.cells #[.string ⟨y.c.toArray⟩, .int .i64 y.k, .int .i64 y.p, .int .i64 y.v, .int .i64 y.r, .int .i64 y.e, .string ⟨y.t.toArray⟩] 25)
    have k5 := keepR b5' k4
    have t5 := belowGo t4 b5'
    have y5 := heap_alloc_new w5 (.cells #[.string ⟨y.c.toArray⟩, .int .i64 y.k, .int .i64 y.p, .int .i64 y.v, .int .i64 y.r, .int .i64 y.e, .string ⟨y.t.toArray⟩] 25)
    clear b5 b5' k4 t4 HRI
    go_wp2_with fail
    refine (HRS.out _).mono ?_
    rintro e w6 ⟨rfl, b6⟩
    have b6' := b6.alloc b6.size (.cells #[.string ⟨y.c.toArray⟩, .int .i64 y.k, .int .i64 y.p, .int .i64 y.v, .int .i64 y.r, .int .i64 y.e, .string ⟨y.t.toArray⟩] 25)
    have k6 := keepR b6' k5
    have t6 := belowGo t5 b6'
    have y6 := keepR b6' y5
    have z6 := heap_alloc_new w6 (.cells #[.string ⟨y.c.toArray⟩, .int .i64 y.k, .int .i64 y.p, .int .i64 y.v, .int .i64 y.r, .int .i64 y.e, .string ⟨y.t.toArray⟩] 25)
    clear b6 b6' k5 y5 t5 HRS
    have n1 : (bad != bad) = false := by simp
    have n2 := neq_cls (w6.alloc (.cells #[.string ⟨y.c.toArray⟩, .int .i64 y.k, .int .i64 y.p, .int .i64 y.v, .int .i64 y.r, .int .i64 y.e, .string ⟨y.t.toArray⟩] 25)) y
    have n3 : (one != one) = false := by simp
    have n4 : (t != t) = false := by simp
    have n5 : (s != s) = false := by simp
    have n6 : ((bad == 0) != (bad == 0)) = false := by simp
    obtain ⟨c0, c1, c2, c3, c4, c5, c6, _⟩ := cel7 k6
    obtain ⟨d0, d1, d2, d3, d4, d5, d6, _⟩ := cel7 y6
    obtain ⟨e0, e1, e2, e3, e4, e5, e6, _⟩ := cel7 z6
    go_wp2_with fail
    refine (HVI.out _).mono ?_
    rintro e w7 ⟨rfl, b7⟩
    have k7 := keepR b7 k6
    have y7 := keepR b7 y6
    have t7 := belowGo t6 b7
    clear b7 k6 y6 t6 z6 HVI n2 c0 c1 c2 c3 c4 c5 c6 d0 d1 d2 d3 d4 d5 d6 e0 e1 e2 e3 e4 e5 e6
    obtain ⟨d0, d1, d2, d3, d4, d5, d6, _⟩ := cel7 y7
    by_cases h1 : one = 0
    · subst h1
      obtain ⟨hv, hvs⟩ := HRV.out rfl
      have HT2 := Lib.hid (fun w h => ctext_i y w hvs h)
      rw [show ctR y = (s, 0) from hv] at HT2
      clear hv hvs HRV
      go_wp2_with fail
      refine (HT2.out _ (L0.out.below t7).tab).mono ?_
      rintro e w8 ⟨rfl, b8⟩
      have k8 := keepR b8 k7
      have t8 := belowGo t7 b8
      clear b8 k7 t7 y7 HT2 d0 d1 d2 d3 d4 d5 d6
      by_cases h2 : bad = 0
      · subst h2
        obtain ⟨hq, hql⟩ := HTV.out rfl
        have HR2 := Lib.hid (fun w h => rcls_i t (Nat.le_trans hql (by omega)) w h)
        rw [show rcR t = (x, 0) from hq] at HR2
        clear hq HTV
        go_wp2_with fail
        refine (HR2.out _ (L0.out.below t8)).mono ?_
        rintro e w9 ⟨rfl, b9⟩
        have b9' := b9.alloc b9.size (.cells #[.string ⟨x.c.toArray⟩, .int .i64 x.k, .int .i64 x.p, .int .i64 x.v, .int .i64 x.r, .int .i64 x.e, .string ⟨x.t.toArray⟩] 25)
        have k9 := keepR b9' k8
        have t9 := belowGo t8 b9'
        have v9 := heap_alloc_new w9 (.cells #[.string ⟨x.c.toArray⟩, .int .i64 x.k, .int .i64 x.p, .int .i64 x.v, .int .i64 x.r, .int .i64 x.e, .string ⟨x.t.toArray⟩] 25)
        have n9 := neq_cls (w9.alloc (.cells #[.string ⟨x.c.toArray⟩, .int .i64 x.k, .int .i64 x.p, .int .i64 x.v, .int .i64 x.r, .int .i64 x.e, .string ⟨x.t.toArray⟩] 25)) x
        clear HR2 b9 b9' k8 t8 
        obtain ⟨c0, c1, c2, c3, c4, c5, c6, _⟩ := cel7 k9
        obtain ⟨d0, d1, d2, d3, d4, d5, d6, _⟩ := cel7 v9
        go_wp2_with fail
        go_ret
        exact ⟨rfl, t9⟩
      · have h2 : (bad != 0) = true := bne_iff_ne.2 h2
        go_wp2_with fail
        go_ret
        exact ⟨rfl, t8⟩
    · have h1 : (one == 0) = false := beq_eq_false_iff_ne.2 h1
      by_cases h2 : bad = 0
      · subst h2
        obtain ⟨hq, hql⟩ := HTV.out rfl
        have HR2 := Lib.hid (fun w h => rcls_i t (Nat.le_trans hql (by omega)) w h)
        rw [show rcR t = (x, 0) from hq] at HR2
        clear hq HTV
        go_wp2_with fail
        refine (HR2.out _ (L0.out.below t7)).mono ?_
        rintro e w9 ⟨rfl, b9⟩
        have b9' := b9.alloc b9.size (.cells #[.string ⟨x.c.toArray⟩, .int .i64 x.k, .int .i64 x.p, .int .i64 x.v, .int .i64 x.r, .int .i64 x.e, .string ⟨x.t.toArray⟩] 25)
        have k9 := keepR b9' k7
        have t9 := belowGo t7 b9'
        have v9 := heap_alloc_new w9 (.cells #[.string ⟨x.c.toArray⟩, .int .i64 x.k, .int .i64 x.p, .int .i64 x.v, .int .i64 x.r, .int .i64 x.e, .string ⟨x.t.toArray⟩] 25)
        have n9 := neq_cls (w9.alloc (.cells #[.string ⟨x.c.toArray⟩, .int .i64 x.k, .int .i64 x.p, .int .i64 x.v, .int .i64 x.r, .int .i64 x.e, .string ⟨x.t.toArray⟩] 25)) x
        clear HR2 b9 b9' k7 t7 d0 d1 d2 d3 d4 d5 d6 y7
        obtain ⟨c0, c1, c2, c3, c4, c5, c6, _⟩ := cel7 k9
        obtain ⟨d0, d1, d2, d3, d4, d5, d6, _⟩ := cel7 v9
        go_wp2_with fail
        go_ret
        exact ⟨rfl, t9⟩
      · have h2 : (bad != 0) = true := bne_iff_ne.2 h2
        go_wp2_with fail
        go_ret
        exact ⟨rfl, t7⟩
end Go.Proofs.YtmhlkbocejnpoaaDoor
