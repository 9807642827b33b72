/- impl.DateText and spec.DateText write a date alike. -/
import Derived.Test.YtifioecofeojpaaGreatDoorMText
import Derived.Test.YtifioecofeojpaaGreatDoorMDate
import Derived.Deep.RegionWith
import Derived.Deep.RegionHeld3
namespace Go.Proofs.YtifioecofeojpaaGreatDoor
open Go.ChangeShapes Go.WideShapes Go.ChangeAt Go.RowKit
set_option linter.unusedVariables false

/-- The text of a date. -/
def dtext (y m d : Nat) : List UInt8 := Lib.decDigits y ++ 45 :: (two m ++ 45 :: two d)
theorem dtext_str (y m d : Nat) : (⟨(Lib.decDigits y).toArray⟩ ++ ⟨#[45]⟩ ++ ⟨(two m).toArray⟩ ++ ⟨#[45]⟩ ++ ⟨(two d).toArray⟩ : ByteArray) = ⟨(dtext y m d).toArray⟩ := by
  rw [str_app, str_app, str_app, str_app]; unfold dtext; simp
theorem two_len (r : Nat) : (two r).length = 2 := rfl
theorem two_s (r : Nat) (hr : r < 100) (w : World) : Calls Tryz.prog 75 #[.int .i64 r] w (Gives1 w (two r)) := by
  have HD := Lib.hid (fun w => dec_any 18 r w (by omega) (by omega))
  by_cases h : r < 10
  · have E := Lib.hid (two_lo h)
    have hl : (Lib.decDigits r).length = 1 := by rw [Lib.decDigits_one h]; rfl
    go_enter Tryz.func75, Tryz.ntmps75
    go_wp2_with fail
    refine (HD.out _).mono ?_
    rintro e w1 ⟨rfl, b1⟩
    go_wp2_with fail
    go_ret
    exact ⟨by rw [← E.out, show (48 :: Lib.decDigits r) = [48] ++ Lib.decDigits r from rfl, ← str_app] <;> rfl, b1⟩
  · have E := Lib.hid (two_hi h hr)
    have h' : ¬ (r : Int) < 10 := by omega
    go_enter Tryz.func75, Tryz.ntmps75
    go_wp2_with fail
    refine (HD.out _).mono ?_
    rintro e w1 ⟨rfl, b1⟩
    go_wp2_with fail
    go_ret
    exact ⟨by rw [← E.out] <;> rfl, b1⟩

/-- A date's block stands as it was laid; nothing below is written. -/
structure KeepD (w0 : World) (g : Nat) (y m d : Int) (W : World) : Prop where
  box : W.heap[g]? = some (.cells #[.int .i64 y, .int .i64 m, .int .i64 d] 60 (0, 0))
  bel : Below w0.heap.size w0 W
theorem KeepD.step {w0 W w' : World} {g : Nat} {y m d : Int} (k : KeepD w0 g y m d W) (b : Below W.heap.size W w') : KeepD w0 g y m d w' := ⟨(keep6 b k.box).1, belowGo k.bel b⟩
theorem KeepD.drew {w0 W : World} {g : Nat} {y m d : Int} (k : KeepD w0 g y m d W) : KeepD w0 g y m d W.drew := ⟨k.box, k.bel.drew⟩
theorem KeepD.all {w0 W : World} {g : Nat} {y m d : Int} (k : KeepD w0 g y m d W) :
    W.cell? ⟨g, 0, none⟩ = some (.int .i64 y) ∧ W.cell? ⟨g, 1, none⟩ = some (.int .i64 m) ∧ W.cell? ⟨g, 2, none⟩ = some (.int .i64 d) ∧ KeepD w0 g y m d W := by
  obtain ⟨c0, c1, c2, _⟩ := keep6 (Below.refl _ _) k.box |>.2
  exact ⟨c0, c1, c2, k⟩

set_option maxRecDepth 100000 in
set_option maxHeartbeats 4000000 in
theorem ltext_s (y m d : Nat) (hy : y < 10000) (hm : m < 100) (hd : d < 100) (w : World) :
    Calls Tryz.prog 50 #[.agg #[.int .i64 y, .int .i64 m, .int .i64 d]] w (Gives1 w (dtext y m d)) := by
  have H1 := Lib.hid (fun W (k : KeepD w w.heap.size y m d W) => (dec_any 18 y W (by omega) (by omega)).mono fun e w' h => (⟨h.1, k.step h.2⟩ : e = .returned (.string ⟨(Lib.decDigits y).toArray⟩) ∧ KeepD w w.heap.size y m d w'))
  have H2 := Lib.hid (fun (r : Nat) W (hr : r < 100) (k : KeepD w w.heap.size y m d W) => (two_s r hr W).mono fun e w' h => (⟨h.1, k.step h.2⟩ : e = .returned (.string ⟨(two r).toArray⟩) ∧ KeepD w w.heap.size y m d w'))
  have hl : (Lib.decDigits y).length ≤ 19 := dec_len 18 y (by omega)
  have h2 := two_len m
  have h3 := two_len d
  have ES := Lib.hid (dtext_str y m d)
  have g1 : ¬9223372036854775807 < (Lib.decDigits y).length + 1 := by omega
  have g2 : ¬9223372036854775807 < (Lib.decDigits y).length + 1 + 2 := by omega
  have g3 : ¬9223372036854775807 < (Lib.decDigits y).length + 1 + 2 + 1 := by omega
  have g4 : ¬9223372036854775807 < (Lib.decDigits y).length + 1 + 2 + 1 + 2 := by omega
  have g5 : ¬9223372036854775807 < (Lib.decDigits y).length + 3 := by omega
  have g6 : ¬9223372036854775807 < (Lib.decDigits y).length + 4 := by omega
  have g7 : ¬9223372036854775807 < (Lib.decDigits y).length + 6 := by omega
  have k0 : KeepD w w.heap.size y m d (w.alloc (.cells #[.int .i64 y, .int .i64 m, .int .i64 d] 60)) := ⟨heap_alloc_new _ _, below_alloc _ _⟩
  have k1 := k0.drew
  go_enter Tryz.func50, Tryz.ntmps50
  go_wp2_with fail
  go_region_held3 (fun w' => w'.cell? ⟨w.heap.size, 0, none⟩ = some (.int .i64 y) ∧ w'.cell? ⟨w.heap.size, 1, none⟩ = some (.int .i64 m) ∧ w'.cell? ⟨w.heap.size, 2, none⟩ = some (.int .i64 d) ∧ KeepD w w.heap.size y m d w') (first | exact KeepD.all k1 | exact KeepD.all (by assumption))
    (first
      | (go_at_call 52; refine (H1.out _ ?_).mono ?_; (first | assumption | exact (by assumption : _ ∧ _ ∧ _ ∧ _).2.2.2); rintro e w1 ⟨rfl, k⟩)
      | (go_at_call 75; refine (H2.out _ _ ?_ ?_).mono ?_; omega; (first | assumption | exact (by assumption : _ ∧ _ ∧ _ ∧ _).2.2.2); rintro e w1 ⟨rfl, k⟩))
  all_goals
    go_wp2_with fail
    go_ret
    exact ⟨by rw [← ES.out] <;> rfl, KeepD.bel (by assumption)⟩
end Go.Proofs.YtifioecofeojpaaGreatDoor
