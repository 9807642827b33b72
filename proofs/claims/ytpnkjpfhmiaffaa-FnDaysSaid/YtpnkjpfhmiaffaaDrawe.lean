/- The draws of FnDays. -/
import Derived.Test.YtpnkjpfhmiaffaaDrawd
namespace Go.Proofs.Ytpnkjpfhmiaffaa
open Go.ChangeShapes Go.WideShapes Go.ChangeAt Go.RowKit
set_option linter.unusedVariables false

def DrawnD (w : World) (e : Ending) (w' : World) : Prop := ∃ y m d : Int, e = .returned (.agg #[.int .i64 y, .int .i64 m, .int .i64 d]) ∧ Below w.heap.size w w'
def DrawnI (w : World) (e : Ending) (w' : World) : Prop := ∃ n : Int, e = .returned (.int .i64 n) ∧ Below w.heap.size w w'
def DrawnII (w : World) (e : Ending) (w' : World) : Prop := ∃ n k : Int, e = .returned (.tuple #[.int .i64 n, .int .i64 k]) ∧ Below w.heap.size w w'

theorem day_any (g : Nat) (base : Nat) (A : Option Addr) (c : Nat) (bs : List Int) (w : World) (h : Src w base g A c bs) :
    Calls Try.prog 33 #[.pointer (some ⟨g, 0, none⟩)] w (Drew w base g A c bs (-1) 36525) := by
  go_enter Try.func33, Try.ntmps33
  go_wp2_with fail
  refine (next_any g _ base A c bs _ h (by omega)).mono ?_
  rintro e w1 ⟨r1, rfl, a1, b1, h1, g1⟩
  go_wp2_with fail
  refine (next_any g _ base A c bs _ h1 (by omega)).mono ?_
  rintro e w2 ⟨r2, rfl, a2, b2, h2, g2⟩
  go_wp2_with fail
  refine (next_any g _ base A c bs _ h2 (by omega)).mono ?_
  rintro e w3 ⟨r3, rfl, a3, b3, h3, g3⟩
  go_wp2_with fail
  refine (next_any g _ base A c bs _ h3 (by omega)).mono ?_
  rintro e w4 ⟨r4, rfl, a4, b4, h4, g4⟩
  go_wp2_with fail
  refine (pick_new g 8 [r1, 18000 + r2, 0, 36524, 36525, -1, 18000 + r3, 18000 + r4] (-1) 36525 base A c bs w4 h4 rfl (by omega) (by omega) ?_).mono ?_
  · intro x hx
    simp only [List.mem_cons, List.not_mem_nil, or_false] at hx
    omega
  rintro e w7 ⟨r7, rfl, a7, b7, h7, g7⟩
  go_wp2_with fail
  go_ret
  exact ⟨r7, rfl, a7, b7, h7, (((g1.trans g2).trans g3).trans g4).trans g7⟩

theorem drawDayOf (A : Option Addr) (c : Nat) (bs : List Int) (w : World) (h : Code0 w A bs) : Calls Try.prog 11 #[.slice A bs.length c] w (DrawnD w) := by
  have h0 := heap_alloc_new w (.cells #[.int .i64 0, .int .i64 0, .int .i64 0] 25)
  have b0 := below_alloc w (.cells #[.int .i64 0, .int .i64 0, .int .i64 0] 25)
  have hc := h.below b0
  go_enter Try.func11, Try.ntmps11
  go_wp2_with fail
  refine (code_from A c bs _ hc).mono ?_
  rintro e w1 ⟨g, rfl, s1, b1⟩
  go_wp2_with fail
  refine (date_any g _ A c bs _ s1).mono ?_
  rintro e w2 ⟨y, m, d, rfl, s2, g2⟩
  have b2 := src_below b1 g2 s1.1
  obtain ⟨p2, c0, c1, c2, f0, f1, f2⟩ := keep6 b2 h0
  have b3 := belowGo b0 b2
  go_wp2_with fail
  obtain ⟨W, hW, e0, e1, e2, bW⟩ := done3 p2 (.int .i64 y) (.int .i64 m) (.int .i64 d)
  rw [hW]
  have b5 := bW w.heap.size w (Nat.le_refl _) b3
  clear hW h0 p2 c0 c1 c2 f0 f1 f2 bW s1 s2 b1 b2 b3 hc h
  exact bodyPost_ret (v := .agg #[.int .i64 y, .int .i64 m, .int .i64 d]) (by simp [results, Try.results11, go_sem, e0, e1, e2]) rfl ⟨y, m, d, rfl, b5⟩
theorem drawDateOf (A : Option Addr) (c : Nat) (bs : List Int) (w : World) (h : Code0 w A bs) : Calls Try.prog 14 #[.slice A bs.length c] w (DrawnI w) := by
  go_enter Try.func14, Try.ntmps14
  go_wp2_with fail
  refine (code_from A c bs _ h).mono ?_
  rintro e w1 ⟨g, rfl, s1, b1⟩
  go_wp2_with fail
  refine (day_any g _ A c bs _ s1).mono ?_
  rintro e w2 ⟨r, rfl, r0, r1, s2, g2⟩
  go_wp2_with fail
  go_ret
  exact ⟨r, rfl, src_below b1 g2 s1.1⟩
theorem drawWeekdayOf (A : Option Addr) (c : Nat) (bs : List Int) (w : World) (h : Code0 w A bs) : Calls Try.prog 20 #[.slice A bs.length c] w (DrawnI w) := by
  go_enter Try.func20, Try.ntmps20
  go_wp2_with fail
  refine (code_from A c bs _ h).mono ?_
  rintro e w1 ⟨g, rfl, s1, b1⟩
  go_wp2_with fail
  refine (day_any g _ A c bs _ s1).mono ?_
  rintro e w2 ⟨r, rfl, r0, r1, s2, g2⟩
  go_wp2_with fail
  go_ret
  exact ⟨r, rfl, src_below b1 g2 s1.1⟩
theorem drawNextBusinessDay (A : Option Addr) (c : Nat) (bs : List Int) (w : World) (h : Code0 w A bs) : Calls Try.prog 17 #[.slice A bs.length c] w (DrawnII w) := by
  go_enter Try.func17, Try.ntmps17
  go_wp2_with fail
  refine (code_from A c bs _ h).mono ?_
  rintro e w1 ⟨g, rfl, s1, b1⟩
  go_wp2_with fail
  refine (day_any g _ A c bs _ s1).mono ?_
  rintro e w2 ⟨r, rfl, r0, r1, s2, g2⟩
  have b2 := src_below b1 g2 s1.1
  go_wp2_with fail
  refine (next_any g _ _ A c bs _ s2 (by omega)).mono ?_
  rintro e w3 ⟨r3, rfl, a3, c3, s3, g3⟩
  have b3 := src_below b2 g3 s1.1
  go_wp2_with fail
  refine (next_any g _ _ A c bs _ s3 (by omega)).mono ?_
  rintro e w4 ⟨r4, rfl, a4, c4, s4, g4⟩
  have b4 := src_below b3 g4 s1.1
  go_wp2_with fail
  refine (pick_new g 7 [0, 1, r3, 1000, 1001, -1, r4] (-1) 1001 _ A c bs w4 s4 rfl (by omega) (by omega) ?_).mono ?_
  · intro x hx
    simp only [List.mem_cons, List.not_mem_nil, or_false] at hx
    omega
  rintro e w5 ⟨r5, rfl, a5, c5, s5, g5⟩
  go_wp2_with fail
  go_ret2
  exact ⟨r, r5, rfl, src_below b4 g5 s1.1⟩

theorem big_s (A : Option Addr) (c : Nat) (bs : List Int) (w : World) (hm : bs.length ≤ maxLen) :
    Calls Try.prog 10 #[.slice A bs.length c] w fun e w' => e = .returned (.bool (decide (4096 < bs.length))) ∧ w = w' := by
  have hm2 : bs.length ≤ 9223372036854775807 := by unfold maxLen at hm; omega
  have E : Hid (decide (4096 < (bs.length : Int)) = decide (4096 < bs.length)) := Lib.hid (by rw [decide_eq_decide]; omega)
  go_enter Try.func10, Try.ntmps10
  go_wp2_with fail
  go_ret
  exact ⟨by rw [← E.out] <;> rfl, rfl⟩
end Go.Proofs.Ytpnkjpfhmiaffaa
