/- The law of ReadEvent. (by gen_erl.py) -/
import Derived.Test.YtifioecofeojpaaGreatDoorEri
import Derived.Test.YtifioecofeojpaaGreatDoorErs
import Derived.Test.YtifioecofeojpaaGreatDoorMParse
namespace Go.Proofs.YtifioecofeojpaaGreatDoor
open Go.ChangeShapes Go.WideShapes Go.ChangeAt Go.RowKit
set_option linter.unusedVariables false

set_option maxHeartbeats 2000000 in
theorem law_FnExactReadEvent (a : ByteArray) (w : World) (hs : a.size ≤ maxLen) (h1 : Tab w) (h2 : ErrVar "strconv.ErrSyntax" w) (h3 : ErrVar "strconv.ErrRange" w) :
    Calls Tryz.prog 4 #[.string a] w fun e w' => e = .returned (.bool true) ∧ Below w.heap.size w w' := by
  unfold maxLen at hs
  obtain ⟨⟨l⟩⟩ := a
  have hz : (⟨⟨l⟩⟩ : ByteArray).size = l.length := rfl
  rw [hz] at hs
  have hL : Lib3 w := ⟨h1, h2, h3⟩
  clear h1 h2 h3
  by_cases h : 1048576 < l.length
  · go_enter Tryz.func4, Tryz.ntmps4
    go_wp2_with fail
    go_ret
    exact ⟨rfl, Below.refl _ _⟩
  · have HI := Lib.hid (fun w hw => revt_i l (by omega) w hw)
    have HS := Lib.hid (fun w => revt_s l (by omega) w)
    have HE := Lib.hid (fun w => eqEvent_same (reR l).1 w)
    generalize reR l = r at *
    have e2 : (r.2 != r.2) = false := by simp
    go_enter Tryz.func4, Tryz.ntmps4
    go_wp2_with fail
    refine (HS.out _).mono ?_
    rintro e w1 ⟨rfl, b1⟩
    have L1 := Lib.hid (hL.below b1)
    have hw1 := heap_alloc_new w1 (.cells #[.int .i64 r.1.d, .int .i64 r.1.k, .string ⟨r.1.c.toArray⟩, .int .i64 r.1.a, .bool r.1.p, .bool r.1.v, .bool r.1.r] 25)
    have a1 := below_alloc w1 (.cells #[.int .i64 r.1.d, .int .i64 r.1.k, .string ⟨r.1.c.toArray⟩, .int .i64 r.1.a, .bool r.1.p, .bool r.1.v, .bool r.1.r] 25)
    go_wp2_with fail
    refine (HI.out _ (L1.out.below a1)).mono ?_
    rintro e w2 ⟨rfl, b2⟩
    have b2' := b2.alloc b2.size (.cells #[.int .i64 r.1.d, .int .i64 r.1.k, .string ⟨r.1.c.toArray⟩, .int .i64 r.1.a, .bool r.1.p, .bool r.1.v, .bool r.1.r] 25)
    obtain ⟨c0, c1, c2, c3, c4, c5, c6, _⟩ := cel7 (keepR b2' hw1)
    have t3 := belowGo b1 (belowGo a1 b2')
    clear hw1 a1 b1 b2 b2' HS HI L1
    go_wp2_with fail
    refine (HE.out _).mono ?_
    rintro e w3 ⟨rfl, b3⟩
    go_wp2_with fail
    go_ret
    exact ⟨rfl, belowGo t3 b3⟩
end Go.Proofs.YtifioecofeojpaaGreatDoor
