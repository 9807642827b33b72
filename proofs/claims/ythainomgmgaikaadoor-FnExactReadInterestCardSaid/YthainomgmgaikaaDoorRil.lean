/- The law of ReadInterest. (by gen_ril.py) -/
import Derived.Test.YthainomgmgaikaaDoorRii
import Derived.Test.YthainomgmgaikaaDoorRis
import Derived.Test.YthainomgmgaikaaDoorErrs
namespace Go.Proofs.YthainomgmgaikaaDoor
open Go.ChangeShapes Go.WideShapes Go.ChangeAt Go.RowKit
set_option linter.unusedVariables false

set_option maxHeartbeats 2000000 in
theorem law_FnExactReadInterest (a : ByteArray) (w : World) (hs : a.size ≤ maxLen) (h1 : Tab w) (h2 : ErrVar "strconv.ErrSyntax" w) (h3 : ErrVar "strconv.ErrRange" w) :
    Calls Tryd.prog 5 #[.string a] w fun e w' => e = .returned (.bool true) ∧ Below w.heap.size w w' := by
  unfold maxLen at hs
  obtain ⟨⟨l⟩⟩ := a
  have hz : (⟨⟨l⟩⟩ : ByteArray).size = l.length := rfl
  rw [hz] at hs
  have hL : Lib3 w := ⟨h1, h2, h3⟩
  clear h1 h2 h3
  by_cases h : 1048576 < l.length
  · go_enter Tryd.func5, Tryd.ntmps5
    go_wp2_with fail
    go_ret
    exact ⟨rfl, Below.refl _ _⟩
  · have HI := Lib.hid (fun w hw => rint_i l (by omega) w hw)
    have HS := Lib.hid (fun w => rint_s l (by omega) w)
    have HE := Lib.hid (fun w => eqInterest_same (riR l).1 w)
    generalize riR l = r at *
    have e2 : (r.2 != r.2) = false := by simp
    go_enter Tryd.func5, Tryd.ntmps5
    go_wp2_with fail
    refine (HS.out _).mono ?_
    rintro e w1 ⟨rfl, b1⟩
    have L1 := Lib.hid (hL.below b1)
    have hw1 := heap_alloc_new w1 (.cells #[.string ⟨r.1.c.toArray⟩, .int .i64 r.1.k, .string ⟨r.1.o.toArray⟩, .int .i64 r.1.v, .int .i64 r.1.a] 25)
    have a1 := below_alloc w1 (.cells #[.string ⟨r.1.c.toArray⟩, .int .i64 r.1.k, .string ⟨r.1.o.toArray⟩, .int .i64 r.1.v, .int .i64 r.1.a] 25)
    go_wp2_with fail
    refine (HI.out _ (L1.out.below a1)).mono ?_
    rintro e w2 ⟨rfl, b2⟩
    have b2' := b2.alloc b2.size (.cells #[.string ⟨r.1.c.toArray⟩, .int .i64 r.1.k, .string ⟨r.1.o.toArray⟩, .int .i64 r.1.v, .int .i64 r.1.a] 25)
    obtain ⟨c0, c1, c2, c3, c4, _⟩ := cel5 (keep5 b2' hw1)
    have t3 := belowGo b1 (belowGo a1 b2')
    clear hw1 a1 b1 b2 b2' HS HI L1
    go_wp2_with fail
    refine (HE.out _).mono ?_
    rintro e w3 ⟨rfl, b3⟩
    go_wp2_with fail
    go_ret
    exact ⟨rfl, belowGo t3 b3⟩
end Go.Proofs.YthainomgmgaikaaDoor
