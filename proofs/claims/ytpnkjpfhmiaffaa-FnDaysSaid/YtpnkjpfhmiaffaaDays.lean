/- The law FnDays. -/
import Derived.Test.YtpnkjpfhmiaffaaDrawe
import Derived.Test.YtpnkjpfhmiaffaaNum
namespace Go.Proofs.Ytpnkjpfhmiaffaa
open Go.ChangeShapes Go.WideShapes Go.ChangeAt Go.RowKit
set_option linter.unusedVariables false

theorem nbd_facts {n k : Int} (h : (nbdR n k).2 = 0) : (0 ≤ n ∧ n ≤ 36524) ∧ (0 ≤ k ∧ k ≤ 1000) ∧ inr (nbdR n k).1 0 36524 = true ∧ ((nbdR n k).1 + 3) % 7 ≤ 4 ∧ n + k ≤ (nbdR n k).1 := by
  unfold nbdR at h ⊢
  split at h
  · rename_i h1
    rw [if_pos h1]
    obtain ⟨h1, h2⟩ := h1
    have h1 := inr_iff.1 h1
    have h2 := inr_iff.1 h2
    split at h
    · rename_i h3
      rw [if_pos h3]
      exact ⟨h1, h2, h3, busR_wd h2.1, (busR_in h1.1 h1.2 h2.1 h2.2).1⟩
    · cases h
  · cases h
theorem day_facts (y m d : Int) : (okD y m d = true ∧ dayR y m d = (numd y m d, 0)) ∨ (okD y m d = false ∧ dayR y m d = (0, 1)) := by
  rcases Bool.eq_false_or_eq_true (okD y m d) with h | h
  · exact .inl ⟨h, dayR_ok h⟩
  · exact .inr ⟨h, dayR_no h⟩
theorem keepH {w w' : World} {k : Nat} {o : Obj} (hb : Below w.heap.size w w') (h : w.heap[k]? = some o) : w'.heap[k]? = some o := (hb.block _ (lt_of_some h)).trans h
theorem neq_date (W : World) (a b c : Int) : (binOp .neq 25 (.agg #[.int .i64 a, .int .i64 b, .int .i64 c]) (.agg #[.int .i64 a, .int .i64 b, .int .i64 c])).run Try.prog W = .ok (.bool false) W := by
  have h := eql_date W a b c a b c
  rw [run_eql_struct] at h
  rw [run_neq_struct]
  revert h
  generalize (Op.equalIn 10000 25 (.agg #[.int .i64 a, .int .i64 b, .int .i64 c]) (.agg #[.int .i64 a, .int .i64 b, .int .i64 c])).run Try.prog W = r
  intro h
  cases r with
  | ok v w' =>
    simp only [Result.andThen_ok, Result.ok.injEq, Value.bool.injEq] at h ⊢
    simp at h
    simp [h]
  | halt x w' => simp [Result.andThen] at h
theorem eql_same (W : World) (a b c : Int) : (binOp .eql 25 (.agg #[.int .i64 a, .int .i64 b, .int .i64 c]) (.agg #[.int .i64 a, .int .i64 b, .int .i64 c])).run Try.prog W = .ok (.bool true) W := by
  rw [eql_date]; simp

set_option maxRecDepth 100000 in
set_option maxHeartbeats 4000000 in
theorem law_FnDays (A : Option Addr) (c : Nat) (bs : List Int) (w : World) (hA : Rw w A (bs.map (Value.int .u8))) (hm : bs.length ≤ maxLen) (hb : ∀ b ∈ bs, 0 ≤ b ∧ b ≤ 255) (hB : bs ≠ [] → Bd A w.heap.size) :
    Calls Try.prog 3 #[.slice A bs.length c] w fun e w' => e = .returned (.bool true) ∧ Below w.heap.size w w' := by
  by_cases hl : 4096 < bs.length
  · have hd : decide (4096 < bs.length) = true := by simpa using hl
    go_enter Try.func3, Try.ntmps3
    go_wp2_with (go_at_call 10; refine (big_s _ _ _ _ hm).mono ?_; rintro e w' ⟨rfl, rfl⟩)
    go_ret
    exact ⟨rfl, Below.refl _ _⟩
  · have hd : decide (4096 < bs.length) = false := by simpa using hl
    have h0 : Code0 w A bs := ⟨hA, hB, hb, by omega⟩
    clear hA hB hb
    go_enter Try.func3, Try.ntmps3
    go_wp2_with (go_at_call 10; refine (big_s _ _ _ _ hm).mono ?_; rintro e w' ⟨rfl, rfl⟩)
    refine (drawDayOf A c bs _ h0).mono ?_
    rintro e w1 ⟨y, m, d, rfl, b1⟩
    have t1 := b1.alloc b1.size (.cells #[.int .i64 y, .int .i64 m, .int .i64 d] 25)
    have h1 := h0.below t1
    have k1 := heap_alloc_new w1 (.cells #[.int .i64 y, .int .i64 m, .int .i64 d] 25)
    have HDI := Lib.hid (fun w => dayOf_i y m d w)
    have HDS := Lib.hid (fun w => dayOf_s y m d w)
    have HDD := Lib.hid (fun w => isDate_i y m d w)
    have HDF := Lib.hid (day_facts y m d)
    have HDU := Lib.hid (@okD_iff y m d)
    generalize okD y m d = ok at *
    generalize dayR y m d = r at *
    obtain ⟨N, bad⟩ := r
    clear h0 b1
    go_wp2_with fail
    refine (HDI.out _).mono ?_
    rintro e w2 ⟨rfl, b2⟩
    have t2 := belowGo t1 b2
    have h2 := h1.below b2
    obtain ⟨k2, c0, c1, c2, _⟩ := keep6 b2 k1
    clear t1 h1 k1 b2
    go_wp2_with fail
    refine (HDS.out _).mono ?_
    rintro e w3 ⟨rfl, b3⟩
    have t3 := belowGo t2 b3
    have h3 := h2.below b3
    have k3 := keepH b3 k2
    clear t2 h2 k2 b3 c0 c1 c2 HDI HDS
    go_wp2_with fail
    refine (drawDateOf A c bs _ h3).mono ?_
    rintro e w4 ⟨k, rfl, b4⟩
    have t4 := belowGo t3 b4
    have h4 := h3.below b4
    have k4 := keepH b4 k3
    clear t3 h3 k3 b4
    go_wp2_with fail
    refine (dateOf_i k _).mono ?_
    rintro e w5 ⟨X, Y, Z, one, rfl, b5, hN5⟩
    have t5 := belowGo t4 (b5.alloc b5.size (.cells #[.int .i64 X, .int .i64 Y, .int .i64 Z] 25))
    have h5 := h4.below (b5.alloc b5.size (.cells #[.int .i64 X, .int .i64 Y, .int .i64 Z] 25))
    have k5 := keepH (b5.alloc b5.size (.cells #[.int .i64 X, .int .i64 Y, .int .i64 Z] 25)) k4
    have x5 := heap_alloc_new w5 (.cells #[.int .i64 X, .int .i64 Y, .int .i64 Z] 25)
    clear t4 h4 k4 b5
    go_wp2_with fail
    refine (dateOf_s k _).mono ?_
    rintro e w6 ⟨X', Y', Z', one', rfl, b6, hN6⟩
    obtain ⟨rfl, rfl, rfl, rfl⟩ := hN5.same hN6
    have t6 := belowGo t5 (b6.alloc b6.size (.cells #[.int .i64 X', .int .i64 Y', .int .i64 Z'] 25))
    have h6 := h5.below (b6.alloc b6.size (.cells #[.int .i64 X', .int .i64 Y', .int .i64 Z'] 25))
    have k6 := keepH (b6.alloc b6.size (.cells #[.int .i64 X', .int .i64 Y', .int .i64 Z'] 25)) k5
    have x6 := keepH (b6.alloc b6.size (.cells #[.int .i64 X', .int .i64 Y', .int .i64 Z'] 25)) x5
    have z6 := heap_alloc_new w6 (.cells #[.int .i64 X', .int .i64 Y', .int .i64 Z'] 25)
    have HN := Lib.hid hN6
    clear t5 h5 k5 x5 b6 hN5 hN6
    go_wp2_with fail
    refine (drawNextBusinessDay A c bs _ h6).mono ?_
    rintro e w7 ⟨day, days, rfl, b7⟩
    have t7 := belowGo t6 b7
    have h7 := h6.below b7
    have k7 := keepH b7 k6
    have x7 := keepH b7 x6
    have z7 := keepH b7 z6
    have HBI := Lib.hid (fun w => nbd_i day days w)
    have HBS := Lib.hid (fun w => nbd_s day days w)
    have HBF := Lib.hid (@nbd_facts day days)
    generalize nbdR day days = r at *
    obtain ⟨B, three⟩ := r
    clear t6 h6 k6 x6 z6 b7
    go_wp2_with (first | (go_at_call 18; refine (HBI.out _).mono ?_; rintro e w' ⟨rfl, rfl⟩) | (go_at_call 19; refine (HBS.out _).mono ?_; rintro e w' ⟨rfl, rfl⟩))
    refine (drawWeekdayOf A c bs _ h7).mono ?_
    rintro e w8 ⟨v, rfl, b8⟩
    have t8 := belowGo t7 b8
    have k8 := keepH b8 k7
    have x8 := keepH b8 x7
    have z8 := keepH b8 z7
    have HWI := Lib.hid (fun w => wd_i v w)
    have HWS := Lib.hid (fun w => wdof_s v w)
    generalize wdR v = r at *
    obtain ⟨V, five⟩ := r
    clear t7 h7 k7 x7 z7 b8 HBI HBS
    obtain ⟨c0, c1, c2, _⟩ := cells6 k8
    obtain ⟨c3, c4, c5, _⟩ := cells6 x8
    obtain ⟨c6, c7, c8, _⟩ := cells6 z8
    have e1 : (bad != bad) = false := by simp
    have e2 : (N != N) = false := by simp
    have e3 : (one' != one') = false := by simp
    have e4 : (three != three) = false := by simp
    have e5 : (B != B) = false := by simp
    have e6 : (five != five) = false := by simp
    have e7 : (V != V) = false := by simp
    have e8 := neq_date w8 X' Y' Z'
    go_wp2_with (first | (go_at_call 21; refine (HWI.out _).mono ?_; rintro e w' ⟨rfl, rfl⟩) | (go_at_call 22; refine (HWS.out _).mono ?_; rintro e w' ⟨rfl, rfl⟩))
    clear HWI HWS e1 e2 e3 e4 e5 e6 e7 e8 c0 c1 c2 c3 c4 c5 c6 c7 c8
    rcases HDF.out with ⟨rfl, hr⟩ | ⟨rfl, hr⟩
    · cases hr
      have HM : DN (numd y m d) y m d 0 := .inl ⟨inr_iff.2 (numd_in (HDU.out.1 rfl)), rfl, HDU.out.1 rfl, rfl⟩
      rcases HN.out with ⟨hk, rfl, hok, hnu⟩ | ⟨hk, rfl, rfl, rfl, rfl⟩
      · have HX := Lib.hid (fun w => dayOf_i X' Y' Z' w)
        rw [dayR_ok (okD_iff.2 hok), hnu] at HX
        clear hok hnu
        by_cases h3 : three = 0
        · subst h3
          obtain ⟨⟨q0, q1⟩, ⟨q2, q3⟩, q4, q5, q6⟩ := HBF.out rfl
          have hw := wdR_ok q4
          obtain ⟨q7, q8⟩ := inr_iff.1 q4
          replace q5 : (B + 3) % 7 ≤ 4 := q5
          replace q6 : day + days ≤ B := q6
          refine (HDD.out _).mono ?_
          rintro e w9 ⟨rfl, b9⟩
          have t9 := belowGo t8 b9
          have k9 := keepH b9 k8
          have x9 := keepH b9 x8
          obtain ⟨c0, c1, c2, _⟩ := cells6 k9
          obtain ⟨c3, c4, c5, _⟩ := cells6 x9
          clear t8 k8 x8 z8 b9
          go_wp2_with fail
          refine (HX.out _).mono ?_
          rintro e w10 ⟨rfl, b10⟩
          have t10 := belowGo t9 b10
          have k10 := keepH b10 k9
          clear c0 c1 c2 c3 c4 c5 t9 k9 x9
          obtain ⟨c0, c1, c2, _⟩ := cells6 k10
          have e1 : (k != k) = false := by simp
          go_wp2_with fail
          refine (wd_q hw _).mono ?_
          rintro e w' ⟨rfl, rfl⟩
          go_wp2_with fail
          refine (dateOf_i _ _).mono ?_
          rintro e w11 ⟨y1, m1, d1, nine, rfl, b11, hN⟩
          obtain ⟨rfl, rfl, rfl, rfl⟩ := HM.same hN
          have b12 := b11.alloc b11.size (.cells #[.int .i64 y1, .int .i64 m1, .int .i64 d1] 25)
          have k12 := keepH b12 k10
          have t12 := belowGo t10 b12
          clear c0 c1 c2
          obtain ⟨c0, c1, c2, _⟩ := cells6 k12
          have e9 := eql_same (w11.alloc (.cells #[.int .i64 y1, .int .i64 m1, .int .i64 d1] 25)) y1 m1 d1
          go_wp2_with fail
          go_ret
          exact ⟨rfl, t12⟩
        · have h3 : (three == 0) = false := by simpa using h3
          refine (HDD.out _).mono ?_
          rintro e w9 ⟨rfl, b9⟩
          have t9 := belowGo t8 b9
          have k9 := keepH b9 k8
          have x9 := keepH b9 x8
          obtain ⟨c0, c1, c2, _⟩ := cells6 k9
          obtain ⟨c3, c4, c5, _⟩ := cells6 x9
          clear t8 k8 x8 z8 b9
          go_wp2_with fail
          refine (HX.out _).mono ?_
          rintro e w10 ⟨rfl, b10⟩
          have t10 := belowGo t9 b10
          have k10 := keepH b10 k9
          clear c0 c1 c2 c3 c4 c5 t9 k9 x9
          obtain ⟨c0, c1, c2, _⟩ := cells6 k10
          have e1 : (k != k) = false := by simp
          go_wp2_with fail
          refine (dateOf_i _ _).mono ?_
          rintro e w11 ⟨y1, m1, d1, nine, rfl, b11, hN⟩
          obtain ⟨rfl, rfl, rfl, rfl⟩ := HM.same hN
          have b12 := b11.alloc b11.size (.cells #[.int .i64 y1, .int .i64 m1, .int .i64 d1] 25)
          have k12 := keepH b12 k10
          have t12 := belowGo t10 b12
          clear c0 c1 c2
          obtain ⟨c0, c1, c2, _⟩ := cells6 k12
          have e9 := eql_same (w11.alloc (.cells #[.int .i64 y1, .int .i64 m1, .int .i64 d1] 25)) y1 m1 d1
          go_wp2_with fail
          go_ret
          exact ⟨rfl, t12⟩
      · skip
        by_cases h3 : three = 0
        · subst h3
          obtain ⟨⟨q0, q1⟩, ⟨q2, q3⟩, q4, q5, q6⟩ := HBF.out rfl
          have hw := wdR_ok q4
          obtain ⟨q7, q8⟩ := inr_iff.1 q4
          replace q5 : (B + 3) % 7 ≤ 4 := q5
          replace q6 : day + days ≤ B := q6
          refine (HDD.out _).mono ?_
          rintro e w9 ⟨rfl, b9⟩
          have t9 := belowGo t8 b9
          have k9 := keepH b9 k8
          have x9 := keepH b9 x8
          obtain ⟨c0, c1, c2, _⟩ := cells6 k9
          obtain ⟨c3, c4, c5, _⟩ := cells6 x9
          clear t8 k8 x8 z8 b9
          go_wp2_with fail
          refine (wd_q hw _).mono ?_
          rintro e w' ⟨rfl, rfl⟩
          go_wp2_with fail
          refine (dateOf_i _ _).mono ?_
          rintro e w11 ⟨y1, m1, d1, nine, rfl, b11, hN⟩
          obtain ⟨rfl, rfl, rfl, rfl⟩ := HM.same hN
          have b12 := b11.alloc b11.size (.cells #[.int .i64 y1, .int .i64 m1, .int .i64 d1] 25)
          have k12 := keepH b12 k9
          have t12 := belowGo t9 b12
          clear c0 c1 c2
          obtain ⟨c0, c1, c2, _⟩ := cells6 k12
          have e9 := eql_same (w11.alloc (.cells #[.int .i64 y1, .int .i64 m1, .int .i64 d1] 25)) y1 m1 d1
          go_wp2_with fail
          go_ret
          exact ⟨rfl, t12⟩
        · have h3 : (three == 0) = false := by simpa using h3
          refine (HDD.out _).mono ?_
          rintro e w9 ⟨rfl, b9⟩
          have t9 := belowGo t8 b9
          have k9 := keepH b9 k8
          have x9 := keepH b9 x8
          obtain ⟨c0, c1, c2, _⟩ := cells6 k9
          obtain ⟨c3, c4, c5, _⟩ := cells6 x9
          clear t8 k8 x8 z8 b9
          go_wp2_with fail
          refine (dateOf_i _ _).mono ?_
          rintro e w11 ⟨y1, m1, d1, nine, rfl, b11, hN⟩
          obtain ⟨rfl, rfl, rfl, rfl⟩ := HM.same hN
          have b12 := b11.alloc b11.size (.cells #[.int .i64 y1, .int .i64 m1, .int .i64 d1] 25)
          have k12 := keepH b12 k9
          have t12 := belowGo t9 b12
          clear c0 c1 c2
          obtain ⟨c0, c1, c2, _⟩ := cells6 k12
          have e9 := eql_same (w11.alloc (.cells #[.int .i64 y1, .int .i64 m1, .int .i64 d1] 25)) y1 m1 d1
          go_wp2_with fail
          go_ret
          exact ⟨rfl, t12⟩
    · cases hr
      rcases HN.out with ⟨hk, rfl, hok, hnu⟩ | ⟨hk, rfl, rfl, rfl, rfl⟩
      · have HX := Lib.hid (fun w => dayOf_i X' Y' Z' w)
        rw [dayR_ok (okD_iff.2 hok), hnu] at HX
        clear hok hnu
        by_cases h3 : three = 0
        · subst h3
          obtain ⟨⟨q0, q1⟩, ⟨q2, q3⟩, q4, q5, q6⟩ := HBF.out rfl
          have hw := wdR_ok q4
          obtain ⟨q7, q8⟩ := inr_iff.1 q4
          replace q5 : (B + 3) % 7 ≤ 4 := q5
          replace q6 : day + days ≤ B := q6
          refine (HDD.out _).mono ?_
          rintro e w9 ⟨rfl, b9⟩
          have t9 := belowGo t8 b9
          have k9 := keepH b9 k8
          have x9 := keepH b9 x8
          obtain ⟨c0, c1, c2, _⟩ := cells6 k9
          obtain ⟨c3, c4, c5, _⟩ := cells6 x9
          clear t8 k8 x8 z8 b9
          go_wp2_with fail
          refine (HX.out _).mono ?_
          rintro e w10 ⟨rfl, b10⟩
          have t10 := belowGo t9 b10
          have k10 := keepH b10 k9
          clear c0 c1 c2 c3 c4 c5 t9 k9 x9
          obtain ⟨c0, c1, c2, _⟩ := cells6 k10
          have e1 : (k != k) = false := by simp
          go_wp2_with fail
          refine (wd_q hw _).mono ?_
          rintro e w' ⟨rfl, rfl⟩
          go_wp2_with fail
          go_ret
          exact ⟨rfl, t10⟩
        · have h3 : (three == 0) = false := by simpa using h3
          refine (HDD.out _).mono ?_
          rintro e w9 ⟨rfl, b9⟩
          have t9 := belowGo t8 b9
          have k9 := keepH b9 k8
          have x9 := keepH b9 x8
          obtain ⟨c0, c1, c2, _⟩ := cells6 k9
          obtain ⟨c3, c4, c5, _⟩ := cells6 x9
          clear t8 k8 x8 z8 b9
          go_wp2_with fail
          refine (HX.out _).mono ?_
          rintro e w10 ⟨rfl, b10⟩
          have t10 := belowGo t9 b10
          have k10 := keepH b10 k9
          clear c0 c1 c2 c3 c4 c5 t9 k9 x9
          obtain ⟨c0, c1, c2, _⟩ := cells6 k10
          have e1 : (k != k) = false := by simp
          go_wp2_with fail
          go_ret
          exact ⟨rfl, t10⟩
      · skip
        by_cases h3 : three = 0
        · subst h3
          obtain ⟨⟨q0, q1⟩, ⟨q2, q3⟩, q4, q5, q6⟩ := HBF.out rfl
          have hw := wdR_ok q4
          obtain ⟨q7, q8⟩ := inr_iff.1 q4
          replace q5 : (B + 3) % 7 ≤ 4 := q5
          replace q6 : day + days ≤ B := q6
          refine (HDD.out _).mono ?_
          rintro e w9 ⟨rfl, b9⟩
          have t9 := belowGo t8 b9
          have k9 := keepH b9 k8
          have x9 := keepH b9 x8
          obtain ⟨c0, c1, c2, _⟩ := cells6 k9
          obtain ⟨c3, c4, c5, _⟩ := cells6 x9
          clear t8 k8 x8 z8 b9
          go_wp2_with fail
          refine (wd_q hw _).mono ?_
          rintro e w' ⟨rfl, rfl⟩
          go_wp2_with fail
          go_ret
          exact ⟨rfl, t9⟩
        · have h3 : (three == 0) = false := by simpa using h3
          refine (HDD.out _).mono ?_
          rintro e w9 ⟨rfl, b9⟩
          have t9 := belowGo t8 b9
          have k9 := keepH b9 k8
          have x9 := keepH b9 x8
          obtain ⟨c0, c1, c2, _⟩ := cells6 k9
          obtain ⟨c3, c4, c5, _⟩ := cells6 x9
          clear t8 k8 x8 z8 b9
          go_wp2_with fail
          go_ret
          exact ⟨rfl, t9⟩
end Go.Proofs.Ytpnkjpfhmiaffaa
