/- The draws of chapter 4: the other functions' arguments. -/
import Derived.Test.YthiegfcgbfhmmaaDrs
namespace Go.Proofs.Ythiegfcgbfhmmaa
open Go.ChangeShapes Go.WideShapes Go.ChangeAt Go.RowKit
set_option linter.unusedVariables false

theorem Dst.low {w : World} {lo lo' d : Nat} {B : Option Addr} {ys : List St} (h : Dst w lo B d ys) (hl : lo' ≤ lo) : Dst w lo' B d ys := ⟨h.1, h.2.1, h.2.2.1, fun a e => Nat.le_trans hl (h.2.2.2 a e)⟩
def DrawnSI (w : World) (e : Ending) (w' : World) : Prop := ∃ a p d : Int, e = .returned (.tuple #[.int .i64 a, .int .i64 p, .int .i64 d]) ∧ Below w.heap.size w w'
set_option maxHeartbeats 1000000 in
theorem drawSI (A : Option Addr) (c : Nat) (bs : List Int) (w : World) (h : Code0 w A bs) : Calls Try.prog 14 #[.slice A bs.length c] w (DrawnSI w) := by
  go_enter Try.func14, Try.ntmps14
  go_wp2_with fail
  refine (code_from A c bs _ h).mono ?_
  rintro e w1 ⟨g, rfl, s1, b1⟩
  go_wp2_with fail
  refine (amount_any g _ A c bs _ s1).mono ?_
  rintro e w2 ⟨r2, rfl, a2, e2, s2, g2⟩
  go_wp2_with fail
  refine (points_any g _ A c bs _ s2).mono ?_
  rintro e w3 ⟨r3, rfl, a3, e3, s3, g3⟩
  go_wp2_with fail
  refine (next_any g _ _ A c bs _ s3 (by omega)).mono ?_
  rintro e w4 ⟨r4, rfl, a4, e4, s4, g4⟩
  go_wp2_with fail
  refine (next_any g _ _ A c bs _ s4 (by omega)).mono ?_
  rintro e w5 ⟨r5, rfl, a5, e5, s5, g5⟩
  go_wp2_with fail
  refine (pick_new g 7 [0, 365, r4, 36524, 36525, -1, r5] (-1) 36525 _ A c bs w5 s5 rfl (by omega) (by omega) (by intro x hx; simp only [List.mem_cons, List.not_mem_nil, or_false] at hx; omega)).mono ?_
  rintro e w6 ⟨r6, rfl, a6, e6, s6, g6⟩
  have G := (((g2.trans g3).trans g4).trans g5).trans g6
  go_wp2_with fail
  refine bodyPost_ret (v := .tuple #[.int .i64 r2, .int .i64 r3, .int .i64 r6]) (by simp [results, Try.results14, go_sem]) rfl ?_
  exact ⟨_, _, _, rfl, src_below b1 G s1.1⟩
def DrawnCO (w : World) (e : Ending) (w' : World) : Prop := ∃ a p : Int, e = .returned (.tuple #[.int .i64 a, .int .i64 p]) ∧ Below w.heap.size w w'
theorem drawCO (A : Option Addr) (c : Nat) (bs : List Int) (w : World) (h : Code0 w A bs) : Calls Try.prog 27 #[.slice A bs.length c] w (DrawnCO w) := by
  go_enter Try.func27, Try.ntmps27
  go_wp2_with fail
  refine (drawSI A c bs _ h).mono ?_
  rintro e w1 ⟨a, p, d, rfl, b1⟩
  go_wp2_with fail
  go_ret2
  exact ⟨_, _, rfl, b1⟩
def DrawnWO (w : World) (e : Ending) (w' : World) : Prop :=
  ∃ B d ys f t, e = .returned (.tuple #[.slice B (List.length ys) d, .int .i64 f, .int .i64 t]) ∧ Dst w' w.heap.size B d ys ∧ Below w.heap.size w w'
theorem drawWO (A : Option Addr) (c : Nat) (bs : List Int) (w : World) (h : Code0 w A bs) : Calls Try.prog 17 #[.slice A bs.length c] w (DrawnWO w) := by
  go_enter Try.func17, Try.ntmps17
  go_wp2_with fail
  refine (drawIB A c bs _ h).mono ?_
  rintro e w1 ⟨B, d, ys, a, f, t, rfl, d1, b1⟩
  go_wp2_with fail
  refine bodyPost_ret (v := .tuple #[.slice B ys.length d, .int .i64 f, .int .i64 t]) (by simp [results, Try.results17, go_sem]) rfl ?_
  exact ⟨B, d, ys, f, t, rfl, d1, b1⟩
theorem drawDW (A : Option Addr) (c : Nat) (bs : List Int) (w : World) (h : Code0 w A bs) : Calls Try.prog 24 #[.slice A bs.length c] w (DrawnIB w) := by
  go_enter Try.func24, Try.ntmps24
  go_wp2_with fail
  refine (code_from A c bs _ h).mono ?_
  rintro e w1 ⟨g, rfl, s1, b1⟩
  have hg := s1.lt
  go_wp2_with fail
  refine (drawIB A c bs _ (h.below b1)).mono ?_
  rintro e w2 ⟨B, d, ys, a, f, t, rfl, d2, b2⟩
  have s2 := s1.below b2
  have t2 := belowGo b1 b2
  go_wp2_with fail
  refine (next_any g _ _ A c bs _ s2 (by omega)).mono ?_
  rintro e w4 ⟨r4, rfl, a4, e4, s4, g4⟩
  go_wp2_with fail
  refine (next_any g _ _ A c bs _ s4 (by omega)).mono ?_
  rintro e w5 ⟨r5, rfl, a5, e5, s5, g5⟩
  go_wp2_with fail
  refine (pick_new g 4 [0, r4, r5, 1000000001] 0 1000000001 _ A c bs w5 s5 rfl (by omega) (by omega) (by intro x hx; simp only [List.mem_cons, List.not_mem_nil, or_false] at hx; omega)).mono ?_
  rintro e w6 ⟨r6, rfl, a6, e6, s6, g6⟩
  have G := (g4.trans g5).trans g6
  have d6 := d2.src G hg
  go_wp2_with fail
  refine bodyPost_ret (v := .tuple #[.slice B ys.length d, .int .i64 a, .int .i64 f, .int .i64 r6]) (by simp [results, Try.results24, go_sem]) rfl ?_
  exact ⟨B, d, ys, a, f, r6, rfl, d6.low b1.size, src_below t2 G s1.1⟩
def DrawnPO (w : World) (e : Ending) (w' : World) : Prop :=
  ∃ B d ys x, e = .returned (.tuple #[.slice B (List.length ys) d, .int .i64 x]) ∧ Dst w' w.heap.size B d ys ∧ Below w.heap.size w w'
theorem drawPO (A : Option Addr) (c : Nat) (bs : List Int) (w : World) (h : Code0 w A bs) : Calls Try.prog 30 #[.slice A bs.length c] w (DrawnPO w) := by
  go_enter Try.func30, Try.ntmps30
  go_wp2_with fail
  refine (code_from A c bs _ h).mono ?_
  rintro e w1 ⟨g, rfl, s1, b1⟩
  have hg := s1.lt
  go_wp2_with fail
  refine (draw_st g _ A c bs _ s1).mono ?_
  rintro e w2 ⟨B, d, ys, rfl, d2, s2, g2⟩
  go_wp2_with fail
  refine (sday_any g _ A c bs _ s2).mono ?_
  rintro e w3 ⟨r3, rfl, a3, e3, s3, g3⟩
  go_wp2_with fail
  go_ret2
  exact ⟨B, d, ys, r3, rfl, (d2.src g3 hg).low b1.size, src_below b1 (g2.trans g3) s1.1⟩
def DrawnTD (w : World) (e : Ending) (w' : World) : Prop :=
  ∃ B d ys a p f t, e = .returned (.tuple #[.slice B (List.length ys) d, .int .i64 a, .int .i64 p, .int .i64 f, .int .i64 t]) ∧ Dst w' w.heap.size B d ys ∧ Below w.heap.size w w'
theorem drawTD (A : Option Addr) (c : Nat) (bs : List Int) (w : World) (h : Code0 w A bs) : Calls Try.prog 33 #[.slice A bs.length c] w (DrawnTD w) := by
  go_enter Try.func33, Try.ntmps33
  go_wp2_with fail
  refine (code_from A c bs _ h).mono ?_
  rintro e w1 ⟨g, rfl, s1, b1⟩
  have hg := s1.lt
  go_wp2_with fail
  refine (drawIB A c bs _ (h.below b1)).mono ?_
  rintro e w2 ⟨B, d, ys, a, f, t, rfl, d2, b2⟩
  have s2 := s1.below b2
  have t2 := belowGo b1 b2
  go_wp2_with fail
  refine (points_any g _ A c bs _ s2).mono ?_
  rintro e w3 ⟨r3, rfl, a3, e3, s3, g3⟩
  have d6 := d2.src g3 hg
  go_wp2_with fail
  refine bodyPost_ret (v := .tuple #[.slice B ys.length d, .int .i64 a, .int .i64 r3, .int .i64 f, .int .i64 t]) (by simp [results, Try.results33, go_sem]) rfl ?_
  exact ⟨B, d, ys, a, r3, f, t, rfl, d6.low b1.size, src_below t2 g3 s1.1⟩
end Go.Proofs.Ythiegfcgbfhmmaa
