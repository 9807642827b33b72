/- The law of ReadClause. (by gen_ctl.py) -/
import Derived.Test.YtmhlkbocejnpoaaDoorCri9
import Derived.Test.YtmhlkbocejnpoaaDoorCrs9
import Derived.Test.YtmhlkbocejnpoaaDoorErrs
namespace Go.Proofs.YtmhlkbocejnpoaaDoor
open Go.ChangeShapes Go.WideShapes Go.ChangeAt Go.RowKit
set_option linter.unusedVariables false

set_option maxHeartbeats 2000000 in
theorem law_FnExactReadClause (a : ByteArray) (w : World) (hs : a.size ≤ maxLen) (h1 : Tab w) (h2 : ErrVar "strconv.ErrSyntax" w) (h3 : ErrVar "strconv.ErrRange" w) :
    Calls Tryd.prog 5 #[.string a] w fun e w' => e = .returned (.bool true) ∧ Below w.heap.size w w' := by
  unfold maxLen at hs
  obtain ⟨⟨l⟩⟩ := a
  have hz : (⟨⟨l⟩⟩ : ByteArray).size = l.length := rfl
  rw [hz] at hs
  have hL : Lib3 w := ⟨h1, h2, h3⟩
  clear h1 h2 h3
  by_cases h : 1048576 < l.length
  · go_enter Tryd.func5, Tryd.ntmps5
    go_wp2_with fail
    go_ret
    exact ⟨rfl, Below.refl _ _⟩
  · have HI := Lib.hid (fun w hw => rcls_i l (by omega) w hw)
    have HS := Lib.hid (fun w => rcls_s l (by omega) w)
    have HE := Lib.hid (fun w => eqClause_same (rcR l).1 w)
    generalize rcR l = r at *
    have e2 : (r.2 != r.2) = false := by simp
    go_enter Tryd.func5, Tryd.ntmps5
    go_wp2_with fail
    refine (HS.out _).mono ?_
    rintro e w1 ⟨rfl, b1⟩
    have L1 := Lib.hid (hL.below b1)
    have hw1 := heap_alloc_new w1 (.cells #[.string ⟨r.1.c.toArray⟩, .int .i64 r.1.k, .int .i64 r.1.p, .int .i64 r.1.v, .int .i64 r.1.r, .int .i64 r.1.e, .string ⟨r.1.t.toArray⟩] 25)
    have a1 := below_alloc w1 (.cells #[.string ⟨r.1.c.toArray⟩, .int .i64 r.1.k, .int .i64 r.1.p, .int .i64 r.1.v, .int .i64 r.1.r, .int .i64 r.1.e, .string ⟨r.1.t.toArray⟩] 25)
    go_wp2_with fail
    refine (HI.out _ (L1.out.below a1)).mono ?_
    rintro e w2 ⟨rfl, b2⟩
    have b2' := b2.alloc b2.size (.cells #[.string ⟨r.1.c.toArray⟩, .int .i64 r.1.k, .int .i64 r.1.p, .int .i64 r.1.v, .int .i64 r.1.r, .int .i64 r.1.e, .string ⟨r.1.t.toArray⟩] 25)
    obtain ⟨c0, c1, c2, c3, c4, c5, c6, _⟩ := cel7 (keepR b2' hw1)
    have t3 := belowGo b1 (belowGo a1 b2')
    clear hw1 a1 b1 b2 b2' HS HI L1
    go_wp2_with fail
    refine (HE.out _).mono ?_
    rintro e w3 ⟨rfl, b3⟩
    go_wp2_with fail
    go_ret
    exact ⟨rfl, belowGo t3 b3⟩
end Go.Proofs.YtmhlkbocejnpoaaDoor
