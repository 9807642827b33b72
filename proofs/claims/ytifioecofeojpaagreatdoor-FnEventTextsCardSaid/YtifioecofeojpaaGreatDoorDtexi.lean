/- impl.DateText. -/
import Derived.Test.YtifioecofeojpaaGreatDoorDtext
import Derived.Test.YtifioecofeojpaaGreatDoorMDated
namespace Go.Proofs.YtifioecofeojpaaGreatDoor
open Go.ChangeShapes Go.WideShapes Go.ChangeAt Go.RowKit
set_option linter.unusedVariables false

/-- What DateText answers. -/
def dtR (y m d : Int) : List UInt8 × Int := if okD y m d = true then (dtext y.toNat m.toNat d.toNat, 0) else ([], 1)
theorem dtR_ok {y m d : Nat} (h : okD y m d = true) : dtR y m d = (dtext y m d, 0) := by simp [dtR, h]
theorem dtR_no {y m d : Int} (h : okD y m d = false) : dtR y m d = ([], 1) := by simp [dtR, h]
theorem nats_of {y m d : Int} (h : okD y m d = true) : ∃ Y M D : Nat, y = Y ∧ m = M ∧ d = D ∧ 1970 ≤ Y ∧ Y ≤ 2069 ∧ M < 100 ∧ D < 100 := by
  obtain ⟨y0, y1, m0, m1, d0, d1⟩ := okD_iff.1 h
  have := dlen_in y m
  exact ⟨y.toNat, m.toNat, d.toNat, by omega, by omega, by omega, by omega, by omega, by omega, by omega⟩

set_option maxRecDepth 100000 in
set_option maxHeartbeats 4000000 in
theorem datetext_i (y m d : Int) (w : World) (ht : Tab w) : Calls Tryz.prog 73 #[.agg #[.int .i64 y, .int .i64 m, .int .i64 d]] w (Text2 w (dtR y m d)) := by
  have HD := Lib.hid (fun w => isDate_i y m d w)
  have p0 := heap_alloc_new w (.cells #[.int .i64 y, .int .i64 m, .int .i64 d] 60)
  have T0 := Lib.hid (below_alloc w (.cells #[.int .i64 y, .int .i64 m, .int .i64 d] 60))
  rcases Bool.eq_false_or_eq_true (okD y m d) with h | h
  · rw [h] at HD
    obtain ⟨Y, M, D, rfl, rfl, rfl, hy, hy2, hm, hd⟩ := nats_of h
    have E := Lib.hid (dtR_ok h)
    have H1 := Lib.hid (fun W (k : KeepD w w.heap.size Y M D W) => (fmt_i Y (by omega) W (ht.below k.bel)).mono fun e w' h => (⟨h.1, k.step h.2⟩ : e = .returned (.string ⟨(Lib.decDigits Y).toArray⟩) ∧ KeepD w w.heap.size Y M D w'))
    have H2 := Lib.hid (fun (r : Nat) W (hr : r < 100) (k : KeepD w w.heap.size Y M D W) => (two_i r hr W (ht.below k.bel)).mono fun e w' h => (⟨h.1, k.step h.2⟩ : e = .returned (.string ⟨(two r).toArray⟩) ∧ KeepD w w.heap.size Y M D w'))
    have hl : (Lib.decDigits Y).length ≤ 19 := dec_len 18 Y (by omega)
    have h2 := two_len M
    have h3 := two_len D
    have ES := Lib.hid (dtext_str Y M D)
    have g1 : ¬9223372036854775807 < (Lib.decDigits Y).length + 1 := by omega
    have g2 : ¬9223372036854775807 < (Lib.decDigits Y).length + 1 + 2 := by omega
    have g3 : ¬9223372036854775807 < (Lib.decDigits Y).length + 1 + 2 + 1 := by omega
    have g4 : ¬9223372036854775807 < (Lib.decDigits Y).length + 1 + 2 + 1 + 2 := by omega
    have g5 : ¬9223372036854775807 < (Lib.decDigits Y).length + 3 := by omega
    have g6 : ¬9223372036854775807 < (Lib.decDigits Y).length + 4 := by omega
    have g7 : ¬9223372036854775807 < (Lib.decDigits Y).length + 6 := by omega
    clear ht
    go_enter Tryz.func73, Tryz.ntmps73
    go_wp2_with fail
    refine (HD.out _).mono ?_
    rintro e w1 ⟨rfl, b1⟩
    obtain ⟨p1, c0, c1, c2, _⟩ := keep6 b1 p0
    have k0 : KeepD w w.heap.size Y M D w1 := ⟨p1, belowGo T0.out b1⟩
    have k1 := k0.drew
    go_wp2_with fail
    go_region_held3 (fun w' => w'.cell? ⟨w.heap.size, 0, none⟩ = some (.int .i64 Y) ∧ w'.cell? ⟨w.heap.size, 1, none⟩ = some (.int .i64 M) ∧ w'.cell? ⟨w.heap.size, 2, none⟩ = some (.int .i64 D) ∧ KeepD w w.heap.size Y M D w') (first | exact KeepD.all k1 | exact KeepD.all (by assumption))
      (first
        | (go_at_call 41; refine (H1.out _ ?_).mono ?_; (first | assumption | exact (by assumption : _ ∧ _ ∧ _ ∧ _).2.2.2); rintro e w1 ⟨rfl, k⟩)
        | (go_at_call 68; refine (H2.out _ _ ?_ ?_).mono ?_; omega; (first | assumption | exact (by assumption : _ ∧ _ ∧ _ ∧ _).2.2.2); rintro e w1 ⟨rfl, k⟩))
    all_goals
      go_wp2_with fail
      go_ret2
      exact ⟨by rw [E.out, ← ES.out] <;> rfl, KeepD.bel (by assumption)⟩
  · rw [h] at HD
    have E := Lib.hid (dtR_no h)
    go_enter Tryz.func73, Tryz.ntmps73
    go_wp2_with fail
    refine (HD.out _).mono ?_
    rintro e w1 ⟨rfl, b1⟩
    go_wp2_with fail
    go_ret2
    exact ⟨by rw [E.out] <;> rfl, belowGo T0.out b1⟩
end Go.Proofs.YtifioecofeojpaaGreatDoor
