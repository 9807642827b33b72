/- The draws of FnDays. -/
import Derived.Test.YtifioecofeojpaaDrawd
import Derived.Test.YtifioecofeojpaaDof
namespace Go.Proofs.Ytifioecofeojpaa
open Go.ChangeShapes Go.WideShapes Go.ChangeAt Go.RowKit
set_option linter.unusedVariables false

def DrawnD (w : World) (e : Ending) (w' : World) : Prop := ∃ y m d : Int, e = .returned (.agg #[.int .i64 y, .int .i64 m, .int .i64 d]) ∧ Below w.heap.size w w'
def DrawnI (w : World) (e : Ending) (w' : World) : Prop := ∃ n : Int, e = .returned (.int .i64 n) ∧ Below w.heap.size w w'
def DrawnII (w : World) (e : Ending) (w' : World) : Prop := ∃ n k : Int, e = .returned (.tuple #[.int .i64 n, .int .i64 k]) ∧ Below w.heap.size w w'

theorem day_any (g : Nat) (base : Nat) (A : Option Addr) (c : Nat) (bs : List Int) (w : World) (h : Src w base g A c bs) :
    Calls Try.prog 82 #[.pointer (some ⟨g, 0, none⟩)] w (Drew w base g A c bs (-1) 36525) := by
  go_enter Try.func82, Try.ntmps82
  go_wp2_with fail
  refine (next_any g _ base A c bs _ h (by omega)).mono ?_
  rintro e w1 ⟨r1, rfl, a1, b1, h1, g1⟩
  go_wp2_with fail
  refine (next_any g _ base A c bs _ h1 (by omega)).mono ?_
  rintro e w2 ⟨r2, rfl, a2, b2, h2, g2⟩
  go_wp2_with fail
  refine (next_any g _ base A c bs _ h2 (by omega)).mono ?_
  rintro e w3 ⟨r3, rfl, a3, b3, h3, g3⟩
  go_wp2_with fail
  refine (next_any g _ base A c bs _ h3 (by omega)).mono ?_
  rintro e w4 ⟨r4, rfl, a4, b4, h4, g4⟩
  go_wp2_with fail
  refine (pick_new g 8 [r1, 18000 + r2, 0, 36524, 36525, -1, 18000 + r3, 18000 + r4] (-1) 36525 base A c bs w4 h4 rfl (by omega) (by omega) ?_).mono ?_
  · intro x hx
    simp only [List.mem_cons, List.not_mem_nil, or_false] at hx
    omega
  rintro e w7 ⟨r7, rfl, a7, b7, h7, g7⟩
  go_wp2_with fail
  go_ret
  exact ⟨r7, rfl, a7, b7, h7, (((g1.trans g2).trans g3).trans g4).trans g7⟩

theorem big_s (A : Option Addr) (c : Nat) (bs : List Int) (w : World) (hm : bs.length ≤ maxLen) :
    Calls Try.prog 11 #[.slice A bs.length c] w fun e w' => e = .returned (.bool (decide (4096 < bs.length))) ∧ w = w' := by
  have hm2 : bs.length ≤ 9223372036854775807 := by unfold maxLen at hm; omega
  have E : Hid (decide (4096 < (bs.length : Int)) = decide (4096 < bs.length)) := Lib.hid (by rw [decide_eq_decide]; omega)
  go_enter Try.func11, Try.ntmps11
  go_wp2_with fail
  go_ret
  exact ⟨by rw [← E.out] <;> rfl, rfl⟩
end Go.Proofs.Ytifioecofeojpaa
