/- The law FnPartyTexts. (by gen_ptw.py) -/
import Derived.Test.YtjgagiigpijaiaaDoorDpt
import Derived.Test.YtjgagiigpijaiaaDoorErrs
import Derived.Laws.StructEq
namespace Go.Proofs.YtjgagiigpijaiaaDoor
open Go.ChangeShapes Go.WideShapes Go.ChangeAt Go.RowKit
set_option linter.unusedVariables false

theorem big_p (A : Option Addr) (c : Nat) (bs : List Int) (w : World) (hm : bs.length ≤ maxLen) :
    Calls Tryd.prog 34 #[.slice A bs.length c] w fun e w' => e = .returned (.bool (decide (4096 < bs.length))) ∧ w = w' := by
  have hm2 : bs.length ≤ 9223372036854775807 := by unfold maxLen at hm; omega
  have E : Hid (decide (4096 < (bs.length : Int)) = decide (4096 < bs.length)) := Lib.hid (by rw [decide_eq_decide]; omega)
  go_enter Tryd.func34, Tryd.ntmps34
  go_wp2_with fail
  go_ret
  exact ⟨by rw [← E.out] <;> rfl, rfl⟩
theorem ok_sz {p : Pty} (h : p.ok = true) : p.sz ≤ 1048576 := by
  obtain ⟨hc, _, ha⟩ := pok h
  have lc : p.c.length ≤ 6 := (pcode_iff.1 hc).1.2
  have la : p.a.length ≤ 6 := by
    rcases ha with h | ⟨h, _⟩
    · rw [h]; simp
    · exact (pcode_iff.1 h).1.2
  unfold Pty.sz; omega
/-- What is written is read, and what is read is written again. -/
theorem ptR_inv {p : Pty} (h : (ptR p).2 = 0) : rpR (ptR p).1 = (p, 0) ∧ (ptR p).1.length ≤ 100 := by
  rcases Bool.eq_false_or_eq_true p.ok with g | g
  · rw [ptR_ok g]; exact ⟨rpR_ok ⟨g, rfl⟩, ptext_short g⟩
  · rw [ptR_no g] at h; cases h
theorem rpR_inv {s : List UInt8} (h : (rpR s).2 = 0) : ptR (rpR s).1 = (s, 0) ∧ (rpR s).1.sz ≤ 1048576 := by
  by_cases hv : ∃ p, Fits s p
  · obtain ⟨p, g1, g2⟩ := hv
    rw [rpR_ok ⟨g1, g2⟩]
    exact ⟨by rw [ptR_ok g1, g2], ok_sz g1⟩
  · rw [rpR_no hv] at h; cases h
theorem neq_pty (W : World) (p : Pty) : (binOp .neq 35 (.agg #[.string ⟨p.c.toArray⟩, .int .i64 p.k, .string ⟨p.a.toArray⟩]) (.agg #[.string ⟨p.c.toArray⟩, .int .i64 p.k, .string ⟨p.a.toArray⟩])).run Tryd.prog W = .ok (.bool false) W := by
  have h : (Op.equalIn (9999 + 1) 35 (.agg #[.string ⟨p.c.toArray⟩, .int .i64 p.k, .string ⟨p.a.toArray⟩]) (.agg #[.string ⟨p.c.toArray⟩, .int .i64 p.k, .string ⟨p.a.toArray⟩])).run Tryd.prog W = .ok true W := by
    rw [run_equalIn_agg W 9999 35 _ _ (by kernel_rfl) (by kernel_rfl)]
    obtain ⟨k, hk⟩ : ∃ k, 9999 = k + 1 := ⟨9998, rfl⟩
    rw [hk]
    simp only [Program.fieldsOf, Tryd.underlying35]
    have H := fun (x y : Int) => run_equalIn_int (P := Tryd.prog) W k 2 .i64 .i64 x y Tryd.underlying2
    have HS := fun (x y : ByteArray) => run_equalIn_string (P := Tryd.prog) W k 9 x y Tryd.underlying9
    clear hk
    simp [Op.eqFields, go_sem, part, H, HS]
  rw [run_neq_struct]
  exact (congrArg (fun r => Result.andThen r _) h).trans rfl
theorem keepH {w w' : World} {k : Nat} {o : Obj} (hb : Below w.heap.size w w') (h : w.heap[k]? = some o) : w'.heap[k]? = some o := (hb.block _ (lt_ofs h)).trans h

set_option maxRecDepth 100000 in
set_option maxHeartbeats 4000000 in
theorem law_FnPartyTexts (A : Option Addr) (c : Nat) (bs : List Int) (w : World) (hA : Rw w A (bs.map (Value.int .u8))) (hm : bs.length ≤ maxLen) (hb : ∀ b ∈ bs, 0 ≤ b ∧ b ≤ 255) (hB : bs ≠ [] → Bd A w.heap.size)
    (ht : Tab w) (hs : ErrVar "strconv.ErrSyntax" w) (hr : ErrVar "strconv.ErrRange" w) :
    Calls Tryd.prog 9 #[.slice A bs.length c] w fun e w' => e = .returned (.bool true) ∧ Below w.heap.size w w' := by
  by_cases hl : 4096 < bs.length
  · have hd : decide (4096 < bs.length) = true := by simpa using hl
    go_enter Tryd.func9, Tryd.ntmps9
    go_wp2_with (go_at_call 34; refine (big_p _ _ _ _ hm).mono ?_; rintro e w' ⟨rfl, rfl⟩)
    go_ret
    exact ⟨rfl, Below.refl _ _⟩
  · have hd : decide (4096 < bs.length) = false := by simpa using hl
    have h0 : Code0 w A bs := ⟨hA, hB, hb, by omega⟩
    have L0 := Lib.hid (show Lib3 w from ⟨ht, hs, hr⟩)
    clear hA hB hb ht hs hr
    go_enter Tryd.func9, Tryd.ntmps9
    go_wp2_with (go_at_call 34; refine (big_p _ _ _ _ hm).mono ?_; rintro e w' ⟨rfl, rfl⟩)
    refine (drawPartyText A c bs _ h0).mono ?_
    rintro e w1 ⟨x, rfl, ⟨xc, xa, _, _⟩, b1⟩
    have b1' := b1.alloc b1.size (.cells #[.string ⟨x.c.toArray⟩, .int .i64 x.k, .string ⟨x.a.toArray⟩] 35)
    have k1 := heap_alloc_new w1 (.cells #[.string ⟨x.c.toArray⟩, .int .i64 x.k, .string ⟨x.a.toArray⟩] 35)
    have hxs : x.sz ≤ 1048576 := by unfold Pty.sz; omega
    have HTI := Lib.hid (fun w h => ptext_i x w hxs h)
    have HTS := Lib.hid (fun w => ptext_s x w hxs)
    have HTV := Lib.hid (@ptR_inv x)
    generalize ptR x = r at *
    obtain ⟨t, bad⟩ := r
    have t1 := b1'
    clear b1 b1'
    go_wp2_with fail
    refine (HTI.out _ (L0.out.below t1).tab).mono ?_
    rintro e w2 ⟨rfl, b2⟩
    have k2 := keepH b2 k1
    have t2 := belowGo t1 b2
    obtain ⟨c0, c1, c2, _⟩ := row3_at k2
    clear b2 k1 t1 HTI
    go_wp2_with fail
    refine (HTS.out _).mono ?_
    rintro e w3 ⟨rfl, b3⟩
    have k3 := keepH b3 k2
    have t3 := belowGo t2 b3
    have h3 := h0.below t3
    clear b3 k2 t2 HTS c0 c1 c2
    go_wp2_with fail
    refine (drawReadParty A c bs _ h3).mono ?_
    rintro e w4 ⟨s, rfl, hsl, b4⟩
    have k4 := keepH b4 k3
    have t4 := belowGo t3 b4
    have HRI := Lib.hid (fun w h => rparty_i s (by omega) w h)
    have HRS := Lib.hid (fun w => rparty_s s (by omega) w)
    have HRV := Lib.hid (@rpR_inv s)
    generalize rpR s = r at *
    obtain ⟨y, one⟩ := r
    clear b4 k3 t3 h3 h0
    go_wp2_with fail
    refine (HRI.out _ (L0.out.below t4)).mono ?_
    rintro e w5 ⟨rfl, b5⟩
    have b5' := b5.alloc b5.size (.cells #[.string ⟨y.c.toArray⟩, .int .i64 y.k, .string ⟨y.a.toArray⟩] 35)
    have k5 := keepH b5' k4
    have t5 := belowGo t4 b5'
    have y5 := heap_alloc_new w5 (.cells #[.string ⟨y.c.toArray⟩, .int .i64 y.k, .string ⟨y.a.toArray⟩] 35)
    clear b5 b5' k4 t4 HRI
    go_wp2_with fail
    refine (HRS.out _).mono ?_
    rintro e w6 ⟨rfl, b6⟩
    have b6' := b6.alloc b6.size (.cells #[.string ⟨y.c.toArray⟩, .int .i64 y.k, .string ⟨y.a.toArray⟩] 35)
    have k6 := keepH b6' k5
    have t6 := belowGo t5 b6'
    have y6 := keepH b6' y5
    have z6 := heap_alloc_new w6 (.cells #[.string ⟨y.c.toArray⟩, .int .i64 y.k, .string ⟨y.a.toArray⟩] 35)
    clear b6 b6' k5 y5 t5 HRS
    have n1 : (bad != bad) = false := by simp
    have n2 := neq_pty (w6.alloc (.cells #[.string ⟨y.c.toArray⟩, .int .i64 y.k, .string ⟨y.a.toArray⟩] 35)) y
    have n3 : (one != one) = false := by simp
    have n4 : (t != t) = false := by simp
    have n5 : (s != s) = false := by simp
    obtain ⟨c0, c1, c2, _⟩ := row3_at k6
    obtain ⟨c3, c4, c5, _⟩ := row3_at y6
    obtain ⟨c6, c7, c8, _⟩ := row3_at z6
    by_cases h1 : one = 0
    · subst h1
      obtain ⟨hv, hvs⟩ := HRV.out rfl
      have HT2 := Lib.hid (fun w h => ptext_i y w hvs h)
      rw [show ptR y = (s, 0) from hv] at HT2
      clear hv hvs HRV
      go_wp2_with fail
      refine (HT2.out _ (L0.out.below t6).tab).mono ?_
      rintro e w7 ⟨rfl, b7⟩
      have k7 := keepH b7 k6
      have t7 := belowGo t6 b7
      clear b7 k6 t6 y6 z6 HT2 n2 c0 c1 c2 c3 c4 c5 c6 c7 c8
      by_cases h2 : bad = 0
      · subst h2
        obtain ⟨hq, hql⟩ := HTV.out rfl
        have HR2 := Lib.hid (fun w h => rparty_i t (Nat.le_trans hql (by omega)) w h)
        rw [show rpR t = (x, 0) from hq] at HR2
        clear hq HTV
        go_wp2_with fail
        refine (HR2.out _ (L0.out.below t7)).mono ?_
        rintro e w9 ⟨rfl, b9⟩
        have b9' := b9.alloc b9.size (.cells #[.string ⟨x.c.toArray⟩, .int .i64 x.k, .string ⟨x.a.toArray⟩] 35)
        have k9 := keepH b9' k7
        have t9 := belowGo t7 b9'
        have v9 := heap_alloc_new w9 (.cells #[.string ⟨x.c.toArray⟩, .int .i64 x.k, .string ⟨x.a.toArray⟩] 35)
        have n9 := neq_pty (w9.alloc (.cells #[.string ⟨x.c.toArray⟩, .int .i64 x.k, .string ⟨x.a.toArray⟩] 35)) x
        clear HR2 b9 b9' k7 t7 
        obtain ⟨c0, c1, c2, _⟩ := row3_at k9
        obtain ⟨c3, c4, c5, _⟩ := row3_at v9
        go_wp2_with fail
        go_ret
        exact ⟨rfl, t9⟩
      · have h2 : (bad != 0) = true := bne_iff_ne.2 h2
        go_wp2_with fail
        go_ret
        exact ⟨rfl, t7⟩
    · have h1 : (one == 0) = false := beq_eq_false_iff_ne.2 h1
      by_cases h2 : bad = 0
      · subst h2
        obtain ⟨hq, hql⟩ := HTV.out rfl
        have HR2 := Lib.hid (fun w h => rparty_i t (Nat.le_trans hql (by omega)) w h)
        rw [show rpR t = (x, 0) from hq] at HR2
        clear hq HTV
        go_wp2_with fail
        refine (HR2.out _ (L0.out.below t6)).mono ?_
        rintro e w9 ⟨rfl, b9⟩
        have b9' := b9.alloc b9.size (.cells #[.string ⟨x.c.toArray⟩, .int .i64 x.k, .string ⟨x.a.toArray⟩] 35)
        have k9 := keepH b9' k6
        have t9 := belowGo t6 b9'
        have v9 := heap_alloc_new w9 (.cells #[.string ⟨x.c.toArray⟩, .int .i64 x.k, .string ⟨x.a.toArray⟩] 35)
        have n9 := neq_pty (w9.alloc (.cells #[.string ⟨x.c.toArray⟩, .int .i64 x.k, .string ⟨x.a.toArray⟩] 35)) x
        clear HR2 b9 b9' k6 t6 c0 c1 c2 c3 c4 c5 c6 c7 c8 n2 y6 z6
        obtain ⟨c0, c1, c2, _⟩ := row3_at k9
        obtain ⟨c3, c4, c5, _⟩ := row3_at v9
        go_wp2_with fail
        go_ret
        exact ⟨rfl, t9⟩
      · have h2 : (bad != 0) = true := bne_iff_ne.2 h2
        go_wp2_with fail
        go_ret
        exact ⟨rfl, t6⟩
end Go.Proofs.YtjgagiigpijaiaaDoor
