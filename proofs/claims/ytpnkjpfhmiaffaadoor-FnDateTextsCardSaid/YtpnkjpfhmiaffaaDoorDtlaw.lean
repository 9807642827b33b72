/- The law FnDateTexts. -/
import Derived.Test.YtpnkjpfhmiaffaaDoorDtdraw
import Derived.Test.YtpnkjpfhmiaffaaDoorRds
import Derived.Test.YtpnkjpfhmiaffaaDoorAddp
import Derived.Test.YtpnkjpfhmiaffaaDoorErrs
namespace Go.Proofs.YtpnkjpfhmiaffaaDoor
open Go.ChangeShapes Go.WideShapes Go.ChangeAt Go.RowKit
set_option linter.unusedVariables false

theorem big_d (A : Option Addr) (c : Nat) (bs : List Int) (w : World) (hm : bs.length ≤ maxLen) :
    Calls Tryd.prog 8 #[.slice A bs.length c] w fun e w' => e = .returned (.bool (decide (4096 < bs.length))) ∧ w = w' := by
  have hm2 : bs.length ≤ 9223372036854775807 := by unfold maxLen at hm; omega
  have E : Hid (decide (4096 < (bs.length : Int)) = decide (4096 < bs.length)) := Lib.hid (by rw [decide_eq_decide]; omega)
  go_enter Tryd.func8, Tryd.ntmps8
  go_wp2_with fail
  go_ret
  exact ⟨by rw [← E.out] <;> rfl, rfl⟩
theorem am_good {y m d k : Int} (h : (amR y m d k).2.2.2 = 0) : okD (amR y m d k).1 (amR y m d k).2.1 (amR y m d k).2.2.1 = true ∧ (amR y m d k).2.2.1 ≤ d ∧ ((amR y m d k).2.2.1 = d ∨ 28 ≤ (amR y m d k).2.2.1) := by
  rcases Bool.eq_false_or_eq_true (okD y m d) with g | g
  · rcases Bool.eq_false_or_eq_true (inr k 0 600) with g' | g'
    · by_cases g2 : amY y m k ≤ 2069
      · obtain ⟨y0, y1, m0, m1, d0, d1⟩ := okD_iff.1 g
        obtain ⟨k0, k1⟩ := inr_iff.1 g'
        obtain ⟨Y0, Y1, M0, M1⟩ := am_facts y0 y1 m0 m1 k0 k1
        have hl := dlen_in (amY y m k) (amM m k)
        rw [amR_ok g g' g2]
        refine ⟨okD_iff.2 ⟨Y0, g2, M0, M1, by show 1 ≤ min d _; omega, by show min d (dlen (amY y m k) (amM m k)) ≤ dlen (amY y m k) (amM m k); omega⟩, by show min d _ ≤ d; omega, ?_⟩
        show min d _ = d ∨ 28 ≤ min d _
        omega
      · rw [amR_big g g' g2] at h; cases h
    · rw [amR_k g g'] at h; cases h
  · rw [amR_no g] at h; cases h
theorem dt_read {y m d : Int} (h : (dtR y m d).2 = 0) : rdR (dtR y m d).1 = (y, m, d, 0) ∧ (dtR y m d).1.length ≤ 30 := by
  rcases Bool.eq_false_or_eq_true (okD y m d) with g | g
  · obtain ⟨Y, M, D, rfl, rfl, rfl, hy, hy2, hm, hd⟩ := nats_of g
    rw [dtR_ok g]
    exact ⟨rd_ok g rfl, by show (dtext Y M D).length ≤ 30; rw [dtext_len M D hy hy2]; omega⟩
  · rw [dtR_no g] at h; cases h
theorem rd_text {s : List UInt8} (h : (rdR s).2.2.2 = 0) : dtR (rdR s).1 (rdR s).2.1 (rdR s).2.2.1 = (s, 0) := by
  by_cases hx : ∃ Y M D : Nat, okD Y M D = true ∧ dtext Y M D = s
  · obtain ⟨Y, M, D, g1, g2⟩ := hx
    rw [rd_ok g1 g2]
    show dtR Y M D = (s, 0)
    rw [dtR_ok g1, g2]
  · rw [rd_no (fun Y M D g1 g2 => hx ⟨Y, M, D, g1, g2⟩)] at h
    cases h
theorem keepH {w w' : World} {k : Nat} {o : Obj} (hb : Below w.heap.size w w') (h : w.heap[k]? = some o) : w'.heap[k]? = some o := (hb.block _ (lt_of_some h)).trans h
theorem neq_date (W : World) (a b c : Int) : (binOp .neq 31 (.agg #[.int .i64 a, .int .i64 b, .int .i64 c]) (.agg #[.int .i64 a, .int .i64 b, .int .i64 c])).run Tryd.prog W = .ok (.bool false) W := by
  have h := eql_date W a b c a b c
  rw [run_eql_struct] at h
  rw [run_neq_struct]
  revert h
  generalize (Op.equalIn 10000 31 (.agg #[.int .i64 a, .int .i64 b, .int .i64 c]) (.agg #[.int .i64 a, .int .i64 b, .int .i64 c])).run Tryd.prog W = r
  intro h
  cases r with
  | ok v w' =>
    simp only [Result.andThen_ok, Result.ok.injEq, Value.bool.injEq] at h ⊢
    simp at h
    simp [h]
  | halt x w' => simp [Result.andThen] at h

set_option maxRecDepth 100000 in
set_option maxHeartbeats 4000000 in
theorem law_FnDateTexts (A : Option Addr) (c : Nat) (bs : List Int) (w : World) (hA : Rw w A (bs.map (Value.int .u8))) (hm : bs.length ≤ maxLen) (hb : ∀ b ∈ bs, 0 ≤ b ∧ b ≤ 255) (hB : bs ≠ [] → Bd A w.heap.size)
    (ht : Tab w) (hs : ErrVar "strconv.ErrSyntax" w) (hr : ErrVar "strconv.ErrRange" w) :
    Calls Tryd.prog 4 #[.slice A bs.length c] w fun e w' => e = .returned (.bool true) ∧ Below w.heap.size w w' := by
  by_cases hl : 4096 < bs.length
  · have hd : decide (4096 < bs.length) = true := by simpa using hl
    go_enter Tryd.func4, Tryd.ntmps4
    go_wp2_with (go_at_call 8; refine (big_d _ _ _ _ hm).mono ?_; rintro e w' ⟨rfl, rfl⟩)
    go_ret
    exact ⟨rfl, Below.refl _ _⟩
  · have hd : decide (4096 < bs.length) = false := by simpa using hl
    have h0 : Code0 w A bs := ⟨hA, hB, hb, by omega⟩
    have L0 := Lib.hid (show Lib3 w from ⟨ht, hs, hr⟩)
    clear hA hB hb ht hs hr
    go_enter Tryd.func4, Tryd.ntmps4
    go_wp2_with (go_at_call 8; refine (big_d _ _ _ _ hm).mono ?_; rintro e w' ⟨rfl, rfl⟩)
    refine (drawAddMonths A c bs _ h0).mono ?_
    rintro e w1 ⟨y, m, d, k, rfl, b1⟩
    have t1 := b1.alloc b1.size (.cells #[.int .i64 y, .int .i64 m, .int .i64 d] 31)
    have h1 := h0.below t1
    have k1 := heap_alloc_new w1 (.cells #[.int .i64 y, .int .i64 m, .int .i64 d] 31)
    have HI := Lib.hid (fun w => am_i y m d k w)
    have HS := Lib.hid (fun w => am_s y m d k w)
    have HG := Lib.hid (@am_good y m d k)
    generalize amR y m d k = r at *
    obtain ⟨Y, M, E, bad⟩ := r
    clear h0 b1
    go_wp2_with fail
    refine (HI.out _).mono ?_
    rintro e w2 ⟨rfl, b2⟩
    have b2' := b2.alloc b2.size (.cells #[.int .i64 Y, .int .i64 M, .int .i64 E] 31)
    have t2 := belowGo t1 b2'
    have h2 := h1.below b2'
    have k2 := keepH b2' k1
    have a2 := heap_alloc_new w2 (.cells #[.int .i64 Y, .int .i64 M, .int .i64 E] 31)
    obtain ⟨c0, c1, c2, _⟩ := cells6 k2
    clear t1 h1 k1 b2 b2' HI
    go_wp2_with fail
    refine (HS.out _).mono ?_
    rintro e w3 ⟨rfl, b3⟩
    have b3' := b3.alloc b3.size (.cells #[.int .i64 Y, .int .i64 M, .int .i64 E] 31)
    have t3 := belowGo t2 b3'
    have h3 := h2.below b3'
    have k3 := keepH b3' k2
    have a3 := keepH b3' a2
    have m3 := heap_alloc_new w3 (.cells #[.int .i64 Y, .int .i64 M, .int .i64 E] 31)
    clear t2 h2 k2 a2 b3 b3' HS c0 c1 c2
    go_wp2_with fail
    refine (drawDateText A c bs _ h3).mono ?_
    rintro e w4 ⟨X, P, Q, rfl, b4⟩
    have b4' := b4.alloc b4.size (.cells #[.int .i64 X, .int .i64 P, .int .i64 Q] 31)
    have t4 := belowGo t3 b4'
    have h4 := h3.below b4'
    have k4 := keepH b4' k3
    have a4 := keepH b4' a3
    have m4 := keepH b4' m3
    have x4 := heap_alloc_new w4 (.cells #[.int .i64 X, .int .i64 P, .int .i64 Q] 31)
    have L4 := Lib.hid (L0.out.below t4)
    have HTI := Lib.hid (fun w h => datetext_i X P Q w h)
    have HTS := Lib.hid (fun w => datetext_s X P Q w)
    have HTF := Lib.hid (@dt_read X P Q)
    generalize dtR X P Q = r at *
    obtain ⟨t, one⟩ := r
    clear t3 h3 k3 a3 m3 b4 b4'
    go_wp2_with fail
    refine (HTI.out _ L4.out.tab).mono ?_
    rintro e w5 ⟨rfl, b5⟩
    obtain ⟨x5, c0, c1, c2, _⟩ := keep6 b5 x4
    go_wp2_with fail
    refine (HTS.out _).mono ?_
    rintro e w6 ⟨rfl, b6⟩
    have b56 := belowGo b5 b6
    have t6 := belowGo t4 b56
    have h6 := h4.below b56
    have k6 := keepH b56 k4
    have a6 := keepH b56 a4
    have m6 := keepH b56 m4
    have x6 := keepH b6 x5
    clear t4 h4 k4 a4 m4 x4 x5 c0 c1 c2 b5 b6 b56 L4 HTI HTS
    go_wp2_with fail
    refine (drawReadDate A c bs _ h6).mono ?_
    rintro e w7 ⟨s, rfl, hsl, b7⟩
    have t7 := belowGo t6 b7
    have k7 := keepH b7 k6
    have a7 := keepH b7 a6
    have m7 := keepH b7 m6
    have x7 := keepH b7 x6
    have L7 := Lib.hid (L0.out.below t7)
    have HRI := Lib.hid (fun w h => rdate_i s (Nat.le_trans hsl (by omega)) w h)
    have HRS := Lib.hid (fun w => rdate_s s (Nat.le_trans hsl (by omega)) w)
    have HRF := Lib.hid (@rd_text s)
    generalize rdR s = r at *
    obtain ⟨R, S, T, three⟩ := r
    clear t6 h6 k6 a6 m6 x6 b7
    go_wp2_with fail
    refine (HRI.out _ L7.out).mono ?_
    rintro e w8 ⟨rfl, b8⟩
    have b8' := b8.alloc b8.size (.cells #[.int .i64 R, .int .i64 S, .int .i64 T] 31)
    have t8 := belowGo t7 b8'
    have k8 := keepH b8' k7
    have a8 := keepH b8' a7
    have m8 := keepH b8' m7
    have x8 := keepH b8' x7
    have r8 := heap_alloc_new w8 (.cells #[.int .i64 R, .int .i64 S, .int .i64 T] 31)
    clear t7 k7 a7 m7 x7 b8 b8' L7 HRI
    go_wp2_with fail
    refine (HRS.out _).mono ?_
    rintro e w9 ⟨rfl, b9⟩
    have b9' := b9.alloc b9.size (.cells #[.int .i64 R, .int .i64 S, .int .i64 T] 31)
    have t9 := belowGo t8 b9'
    have k9 := keepH b9' k8
    have a9 := keepH b9' a8
    have m9 := keepH b9' m8
    have x9 := keepH b9' x8
    have r9 := keepH b9' r8
    have e9 := heap_alloc_new w9 (.cells #[.int .i64 R, .int .i64 S, .int .i64 T] 31)
    clear t8 k8 a8 m8 x8 r8 b9 b9' HRS
    obtain ⟨c0, c1, c2, _⟩ := cells6 k9
    obtain ⟨c3, c4, c5, _⟩ := cells6 a9
    obtain ⟨c6, c7, c8, _⟩ := cells6 m9
    obtain ⟨c9, c10, c11, _⟩ := cells6 x9
    obtain ⟨c12, c13, c14, _⟩ := cells6 r9
    have n1 : (bad != bad) = false := by simp
    have n2 := neq_date (w9.alloc (.cells #[.int .i64 R, .int .i64 S, .int .i64 T] 31)) Y M E
    have n3 : (one != one) = false := by simp
    have n4 : (t != t) = false := by simp
    have n5 : (t == t) = true := by simp
    have n6 : (three != three) = false := by simp
    have n7 := neq_date (w9.alloc (.cells #[.int .i64 R, .int .i64 S, .int .i64 T] 31)) R S T
    have n8 : (s == s) = true := by simp
    by_cases hone : one = 0
    · subst hone
      have HR2 := Lib.hid (fun w h => rdate_i t (Nat.le_trans (HTF.out rfl).2 (by omega)) w h)
      rw [show rdR t = (X, P, Q, 0) from (HTF.out rfl).1] at HR2
      by_cases hth : three = 0
      · subst hth
        have HT2 := Lib.hid (fun w h => datetext_i R S T w h)
        rw [show dtR R S T = (s, 0) from HRF.out rfl] at HT2
        by_cases hbad : bad = 0
        · subst hbad
          obtain ⟨g1, g2, g3⟩ := HG.out rfl
          replace g1 : okD Y M E = true := g1
          replace g2 : E ≤ d := g2
          replace g3 : E = d ∨ 28 ≤ E := g3
          have HOK := Lib.hid (fun w => isDate_i Y M E w)
          rw [g1] at HOK
          have hq : (E == d) = true ∨ ((E == d) = false ∧ 28 ≤ E) := by by_cases h : E = d <;> simp [h] <;> omega
          clear g1 g3 HG
          go_wp2_with fail
          refine (HR2.out _ (L0.out.below t9)).mono ?_
          rintro e w10 ⟨rfl, b10⟩
          have b10' := b10.alloc b10.size (.cells #[.int .i64 X, .int .i64 P, .int .i64 Q] 31)
          have t10 := belowGo t9 b10'
          have k10 := keepH b10' k9
          have a10 := keepH b10' a9
          have x10 := keepH b10' x9
          have r10 := keepH b10' r9
          clear c0 c1 c2 c3 c4 c5 c6 c7 c8 c9 c10 c11 c12 c13 c14
          obtain ⟨c0, c1, c2, _⟩ := cells6 k10
          obtain ⟨c3, c4, c5, _⟩ := cells6 a10
          obtain ⟨c9, c10, c11, _⟩ := cells6 x10
          obtain ⟨c12, c13, c14, _⟩ := cells6 r10
          have n9 := neq_date (w10.alloc (.cells #[.int .i64 X, .int .i64 P, .int .i64 Q] 31)) X P Q
          go_wp2_with fail
          refine (HT2.out _ (L0.out.below t10).tab).mono ?_
          rintro e w11 ⟨rfl, b11⟩
          have t11 := belowGo t10 b11
          have k11 := keepH b11 k10
          have a11 := keepH b11 a10
          clear c0 c1 c2 c3 c4 c5 c9 c10 c11 c12 c13 c14
          obtain ⟨c0, c1, c2, _⟩ := cells6 k11
          obtain ⟨c3, c4, c5, _⟩ := cells6 a11
          go_wp2_with fail
          refine (HOK.out _).mono ?_
          rintro e w12 ⟨rfl, b12⟩
          have t12 := belowGo t11 b12
          have k12 := keepH b12 k11
          have a12 := keepH b12 a11
          clear c0 c1 c2 c3 c4 c5
          obtain ⟨c0, c1, c2, _⟩ := cells6 k12
          obtain ⟨c3, c4, c5, _⟩ := cells6 a12
          rcases hq with hq | ⟨hq, hq2⟩
          · go_wp2_with fail
            go_ret
            exact ⟨rfl, t12⟩
          · go_wp2_with fail
            go_ret
            exact ⟨rfl, t12⟩
        · have hbad : (bad != 0) = true := bne_iff_ne.2 hbad
          go_wp2_with fail
          refine (HR2.out _ (L0.out.below t9)).mono ?_
          rintro e w10 ⟨rfl, b10⟩
          have b10' := b10.alloc b10.size (.cells #[.int .i64 X, .int .i64 P, .int .i64 Q] 31)
          have t10 := belowGo t9 b10'
          have k10 := keepH b10' k9
          have a10 := keepH b10' a9
          have x10 := keepH b10' x9
          have r10 := keepH b10' r9
          clear c0 c1 c2 c3 c4 c5 c6 c7 c8 c9 c10 c11 c12 c13 c14
          obtain ⟨c0, c1, c2, _⟩ := cells6 k10
          obtain ⟨c3, c4, c5, _⟩ := cells6 a10
          obtain ⟨c9, c10, c11, _⟩ := cells6 x10
          obtain ⟨c12, c13, c14, _⟩ := cells6 r10
          have n9 := neq_date (w10.alloc (.cells #[.int .i64 X, .int .i64 P, .int .i64 Q] 31)) X P Q
          go_wp2_with fail
          refine (HT2.out _ (L0.out.below t10).tab).mono ?_
          rintro e w11 ⟨rfl, b11⟩
          have t11 := belowGo t10 b11
          have k11 := keepH b11 k10
          have a11 := keepH b11 a10
          clear c0 c1 c2 c3 c4 c5 c9 c10 c11 c12 c13 c14
          obtain ⟨c0, c1, c2, _⟩ := cells6 k11
          obtain ⟨c3, c4, c5, _⟩ := cells6 a11
          go_wp2_with fail
          go_ret
          exact ⟨rfl, t11⟩
      · have hth : (three == 0) = false := beq_eq_false_iff_ne.2 hth
        by_cases hbad : bad = 0
        · subst hbad
          obtain ⟨g1, g2, g3⟩ := HG.out rfl
          replace g1 : okD Y M E = true := g1
          replace g2 : E ≤ d := g2
          replace g3 : E = d ∨ 28 ≤ E := g3
          have HOK := Lib.hid (fun w => isDate_i Y M E w)
          rw [g1] at HOK
          have hq : (E == d) = true ∨ ((E == d) = false ∧ 28 ≤ E) := by by_cases h : E = d <;> simp [h] <;> omega
          clear g1 g3 HG
          go_wp2_with fail
          refine (HR2.out _ (L0.out.below t9)).mono ?_
          rintro e w10 ⟨rfl, b10⟩
          have b10' := b10.alloc b10.size (.cells #[.int .i64 X, .int .i64 P, .int .i64 Q] 31)
          have t10 := belowGo t9 b10'
          have k10 := keepH b10' k9
          have a10 := keepH b10' a9
          have x10 := keepH b10' x9
          have r10 := keepH b10' r9
          clear c0 c1 c2 c3 c4 c5 c6 c7 c8 c9 c10 c11 c12 c13 c14
          obtain ⟨c0, c1, c2, _⟩ := cells6 k10
          obtain ⟨c3, c4, c5, _⟩ := cells6 a10
          obtain ⟨c9, c10, c11, _⟩ := cells6 x10
          obtain ⟨c12, c13, c14, _⟩ := cells6 r10
          have n9 := neq_date (w10.alloc (.cells #[.int .i64 X, .int .i64 P, .int .i64 Q] 31)) X P Q
          go_wp2_with fail
          refine (HOK.out _).mono ?_
          rintro e w12 ⟨rfl, b12⟩
          have t12 := belowGo t10 b12
          have k12 := keepH b12 k10
          have a12 := keepH b12 a10
          clear c0 c1 c2 c3 c4 c5
          obtain ⟨c0, c1, c2, _⟩ := cells6 k12
          obtain ⟨c3, c4, c5, _⟩ := cells6 a12
          rcases hq with hq | ⟨hq, hq2⟩
          · go_wp2_with fail
            go_ret
            exact ⟨rfl, t12⟩
          · go_wp2_with fail
            go_ret
            exact ⟨rfl, t12⟩
        · have hbad : (bad != 0) = true := bne_iff_ne.2 hbad
          go_wp2_with fail
          refine (HR2.out _ (L0.out.below t9)).mono ?_
          rintro e w10 ⟨rfl, b10⟩
          have b10' := b10.alloc b10.size (.cells #[.int .i64 X, .int .i64 P, .int .i64 Q] 31)
          have t10 := belowGo t9 b10'
          have k10 := keepH b10' k9
          have a10 := keepH b10' a9
          have x10 := keepH b10' x9
          have r10 := keepH b10' r9
          clear c0 c1 c2 c3 c4 c5 c6 c7 c8 c9 c10 c11 c12 c13 c14
          obtain ⟨c0, c1, c2, _⟩ := cells6 k10
          obtain ⟨c3, c4, c5, _⟩ := cells6 a10
          obtain ⟨c9, c10, c11, _⟩ := cells6 x10
          obtain ⟨c12, c13, c14, _⟩ := cells6 r10
          have n9 := neq_date (w10.alloc (.cells #[.int .i64 X, .int .i64 P, .int .i64 Q] 31)) X P Q
          go_wp2_with fail
          go_ret
          exact ⟨rfl, t10⟩
    · have hone : (one == 0) = false := beq_eq_false_iff_ne.2 hone
      by_cases hth : three = 0
      · subst hth
        have HT2 := Lib.hid (fun w h => datetext_i R S T w h)
        rw [show dtR R S T = (s, 0) from HRF.out rfl] at HT2
        by_cases hbad : bad = 0
        · subst hbad
          obtain ⟨g1, g2, g3⟩ := HG.out rfl
          replace g1 : okD Y M E = true := g1
          replace g2 : E ≤ d := g2
          replace g3 : E = d ∨ 28 ≤ E := g3
          have HOK := Lib.hid (fun w => isDate_i Y M E w)
          rw [g1] at HOK
          have hq : (E == d) = true ∨ ((E == d) = false ∧ 28 ≤ E) := by by_cases h : E = d <;> simp [h] <;> omega
          clear g1 g3 HG
          go_wp2_with fail
          refine (HT2.out _ (L0.out.below t9).tab).mono ?_
          rintro e w11 ⟨rfl, b11⟩
          have t11 := belowGo t9 b11
          have k11 := keepH b11 k9
          have a11 := keepH b11 a9
          clear c0 c1 c2 c3 c4 c5 c9 c10 c11 c12 c13 c14 c6 c7 c8
          obtain ⟨c0, c1, c2, _⟩ := cells6 k11
          obtain ⟨c3, c4, c5, _⟩ := cells6 a11
          go_wp2_with fail
          refine (HOK.out _).mono ?_
          rintro e w12 ⟨rfl, b12⟩
          have t12 := belowGo t11 b12
          have k12 := keepH b12 k11
          have a12 := keepH b12 a11
          clear c0 c1 c2 c3 c4 c5
          obtain ⟨c0, c1, c2, _⟩ := cells6 k12
          obtain ⟨c3, c4, c5, _⟩ := cells6 a12
          rcases hq with hq | ⟨hq, hq2⟩
          · go_wp2_with fail
            go_ret
            exact ⟨rfl, t12⟩
          · go_wp2_with fail
            go_ret
            exact ⟨rfl, t12⟩
        · have hbad : (bad != 0) = true := bne_iff_ne.2 hbad
          go_wp2_with fail
          refine (HT2.out _ (L0.out.below t9).tab).mono ?_
          rintro e w11 ⟨rfl, b11⟩
          have t11 := belowGo t9 b11
          have k11 := keepH b11 k9
          have a11 := keepH b11 a9
          clear c0 c1 c2 c3 c4 c5 c9 c10 c11 c12 c13 c14 c6 c7 c8
          obtain ⟨c0, c1, c2, _⟩ := cells6 k11
          obtain ⟨c3, c4, c5, _⟩ := cells6 a11
          go_wp2_with fail
          go_ret
          exact ⟨rfl, t11⟩
      · have hth : (three == 0) = false := beq_eq_false_iff_ne.2 hth
        by_cases hbad : bad = 0
        · subst hbad
          obtain ⟨g1, g2, g3⟩ := HG.out rfl
          replace g1 : okD Y M E = true := g1
          replace g2 : E ≤ d := g2
          replace g3 : E = d ∨ 28 ≤ E := g3
          have HOK := Lib.hid (fun w => isDate_i Y M E w)
          rw [g1] at HOK
          have hq : (E == d) = true ∨ ((E == d) = false ∧ 28 ≤ E) := by by_cases h : E = d <;> simp [h] <;> omega
          clear g1 g3 HG
          go_wp2_with fail
          refine (HOK.out _).mono ?_
          rintro e w12 ⟨rfl, b12⟩
          have t12 := belowGo t9 b12
          have k12 := keepH b12 k9
          have a12 := keepH b12 a9
          clear c0 c1 c2 c3 c4 c5
          obtain ⟨c0, c1, c2, _⟩ := cells6 k12
          obtain ⟨c3, c4, c5, _⟩ := cells6 a12
          rcases hq with hq | ⟨hq, hq2⟩
          · go_wp2_with fail
            go_ret
            exact ⟨rfl, t12⟩
          · go_wp2_with fail
            go_ret
            exact ⟨rfl, t12⟩
        · have hbad : (bad != 0) = true := bne_iff_ne.2 hbad
          go_wp2_with fail
          go_ret
          exact ⟨rfl, t9⟩
end Go.Proofs.YtpnkjpfhmiaffaaDoor
