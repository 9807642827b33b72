/- The draws of FnEventTexts. (by gen_etw.py) -/
import Derived.Test.YtifioecofeojpaaGreatDoorDre
import Derived.Test.YtifioecofeojpaaGreatDoorMRip
import Derived.Test.YtifioecofeojpaaGreatDoorMEtx
import Derived.Test.YtifioecofeojpaaGreatDoorDrawt
namespace Go.Proofs.YtifioecofeojpaaGreatDoor
open Go.ChangeShapes Go.WideShapes Go.ChangeAt Go.RowKit
set_option linter.unusedVariables false

theorem etext_short {p : Evt} (h : p.ok = true) : (etext p).length ≤ 90 := by
  obtain ⟨_, ⟨hk0, hk6⟩, hc, ⟨ha0, ha1⟩⟩ := eok h
  have lc : p.c.length ≤ 6 := (pcode_iff.1 hc).1.2
  have lm := moneyI_len ha0 ha1
  have lf := flg_le p.p p.v p.r
  have lt := dayT_le p.d
  have ld : (Lib.decDigits p.k.toNat).length ≤ 19 := dec_len 18 p.k.toNat (by omega)
  unfold etext
  simp only [List.length_append, List.length_cons]; omega
def DrawnE (w : World) (e : Ending) (w' : World) : Prop := ∃ q : Evt, e = .returned (.agg #[.int .i64 q.d, .int .i64 q.k, .string ⟨q.c.toArray⟩, .int .i64 q.a, .bool q.p, .bool q.v, .bool q.r]) ∧ Deq q ∧ Below w.heap.size w w'
set_option maxHeartbeats 2000000 in
theorem drawEventText (A : Option Addr) (c : Nat) (bs : List Int) (w : World) (h : Code0 w A bs) : Calls Tryz.prog 6 #[.slice A bs.length c] w (DrawnE w) := by
  have o0 := heap_alloc_new w (.cells #[.int .i64 0, .int .i64 0, .string ⟨#[]⟩, .int .i64 0, .bool false, .bool false, .bool false] 25)
  have b0 := below_alloc w (.cells #[.int .i64 0, .int .i64 0, .string ⟨#[]⟩, .int .i64 0, .bool false, .bool false, .bool false] 25)
  have hc := h.below b0
  go_enter Tryz.func6, Tryz.ntmps6
  go_wp2_with fail
  refine (code_from A c bs _ hc).mono ?_
  rintro e w1 ⟨g, rfl, s1, b1⟩
  go_wp2_with fail
  refine (event_any g _ A c bs _ s1).mono ?_
  rintro e w2 ⟨q, rfl, hq, s2, g2⟩
  have b2 := src_below b1 g2 s1.1
  have o2 := keepR b2 o0
  have b3 := belowGo b0 b2
  obtain ⟨r0, r1, r2, r3, r4, r5, r6, t0, t1, t2, t3, t4, t5, t6⟩ := cel7 o2
  obtain ⟨W7, hW7, hR7, bW7⟩ := done7 o2 (.int .i64 q.d) (.int .i64 q.k) (.string ⟨q.c.toArray⟩) (.int .i64 q.a) (.bool q.p) (.bool q.v) (.bool q.r)
  have b7 := bW7 w.heap.size w (Nat.le_refl _) b3
  have hWb := Lib.hid hW7
  clear hW7 bW7 o2 b3 b2 b1 s1 s2 g2 o0 b0 hc h
  obtain ⟨g0, g1, g2, g3, g4, g5, g6, _⟩ := cel7 hR7
  go_wp2_with fail
  rw [hWb.out]
  exact bodyPost_ret (v := .agg #[.int .i64 q.d, .int .i64 q.k, .string ⟨q.c.toArray⟩, .int .i64 q.a, .bool q.p, .bool q.v, .bool q.r]) (by simp [results, Tryz.results6, go_sem, g0, g1, g2, g3, g4, g5, g6]) rfl ⟨q, rfl, hq, b7⟩
set_option maxRecDepth 100000 in
set_option maxHeartbeats 4000000 in
theorem drawReadEvent (A : Option Addr) (c : Nat) (bs : List Int) (w : World) (h : Code0 w A bs) : Calls Tryz.prog 9 #[.slice A bs.length c] w (DrawnS w) := by
  go_enter Tryz.func9, Tryz.ntmps9
  go_wp2_with fail
  refine (code_from A c bs _ h).mono ?_
  rintro e w1 ⟨g, rfl, s1, b1⟩
  have hg := s1.lt
  go_wp2_with fail
  refine (event_any g _ A c bs _ s1).mono ?_
  rintro e w2 ⟨q, rfl, hq, s2, g2⟩
  have hqc : q.c.length ≤ 9223372036854775807 := Nat.le_trans hq (by decide)
  have b2 := src_below b1 g2 s1.1
  have k2 := heap_alloc_new w2 (.cells #[.int .i64 q.d, .int .i64 q.k, .string ⟨q.c.toArray⟩, .int .i64 q.a, .bool q.p, .bool q.v, .bool q.r] 25)
  have a2 := below_alloc w2 (.cells #[.int .i64 q.d, .int .i64 q.k, .string ⟨q.c.toArray⟩, .int .i64 q.a, .bool q.p, .bool q.v, .bool q.r] 25)
  have s3 := s2.alloc (.cells #[.int .i64 q.d, .int .i64 q.k, .string ⟨q.c.toArray⟩, .int .i64 q.a, .bool q.p, .bool q.v, .bool q.r] 25)
  have b3 := belowGo b2 a2
  have HV := Lib.hid (fun w => evalid_s q w hqc)
  have HT := Lib.hid (fun (h : q.ok = true) w => ltext8_s q w h)
  have HL := Lib.hid (fun (h : q.ok = true) => etext_short h)
  generalize q.ok = b at *
  generalize etext q = t at *
  obtain ⟨c0, c1, c2, c3, c4, c5, c6, _⟩ := cel7 k2
  clear h b2 a2 s2 g2
  cases b with
  | true =>
    have HT1 := Lib.hid (HT.out (by simp))
    have hlt := HL.out (by simp)
    clear HT
    go_wp2_with fail
    refine (HV.out _).mono ?_
    rintro e w4 ⟨rfl, b4⟩
    have k4 := keepR b4 k2
    have s4 := s3.below b4
    have t4 := belowGo b3 b4
    clear c0 c1 c2 c3 c4 c5 c6 b4 s3 b3 k2 HV
    obtain ⟨c0, c1, c2, c3, c4, c5, c6, _⟩ := cel7 k4
    go_wp2_with fail
    refine (HT1.out _).mono ?_
    rintro e w5 ⟨rfl, b5⟩
    have s5 := s4.below b5
    have t5 := belowGo t4 b5
    clear c0 c1 c2 c3 c4 c5 c6 b5 s4 t4 k4 HT1
    go_wp2_with fail
    refine (next_any g _ _ A c bs _ s5 (by omega)).mono ?_
    rintro e w6 ⟨r6, rfl, a6, c6, s6, g6⟩
    have b7 := src_below t5 g6 s1.1
    by_cases h0 : r6 = 0
    · subst h0
      go_wp2_with fail
      refine (damage_any g t (by omega) _ A c bs _ s6).mono ?_
      rintro e w7 ⟨l, rfl, hl7, s7, g7⟩
      go_wp2_with fail
      go_ret
      exact ⟨l, rfl, by (try simp at hl7); omega, src_below b7 g7 s1.1⟩
    · have e0 : (r6 == 0) = false := beq_eq_false_iff_ne.2 h0
      go_wp2_with fail
      go_ret
      exact ⟨t, rfl, by omega, b7⟩
  | false =>
    go_wp2_with fail
    refine (HV.out _).mono ?_
    rintro e w4 ⟨rfl, b4⟩
    have s5 := s3.below b4
    have t5 := belowGo b3 b4
    clear c0 c1 c2 c3 c4 c5 c6 b4 s3 b3 k2 HV HT
    go_wp2_with fail
    refine (next_any g _ _ A c bs _ s5 (by omega)).mono ?_
    rintro e w6 ⟨r6, rfl, a6, c6, s6, g6⟩
    have b7 := src_below t5 g6 s1.1
    by_cases h0 : r6 = 0
    · subst h0
      go_wp2_with fail
      refine (damage_any g [50, 48, 50, 52, 45, 49, 48, 45, 48, 52, 47, 48, 47, 99, 111, 114, 110, 47, 53, 46, 48, 48, 47, 112, 118, 114] (by first | decide | simp) _ A c bs _ s6).mono ?_
      rintro e w7 ⟨l, rfl, hl7, s7, g7⟩
      go_wp2_with fail
      go_ret
      exact ⟨l, rfl, by (try simp at hl7); omega, src_below b7 g7 s1.1⟩
    · have e0 : (r6 == 0) = false := beq_eq_false_iff_ne.2 h0
      go_wp2_with fail
      go_ret
      exact ⟨[50, 48, 50, 52, 45, 49, 48, 45, 48, 52, 47, 48, 47, 99, 111, 114, 110, 47, 53, 46, 48, 48, 47, 112, 118, 114], rfl, by first | decide | simp, b7⟩
end Go.Proofs.YtifioecofeojpaaGreatDoor
