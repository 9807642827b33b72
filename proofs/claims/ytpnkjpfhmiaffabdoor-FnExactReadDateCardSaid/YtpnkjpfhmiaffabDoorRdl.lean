/- The law FnExactReadDate. -/
import Derived.Test.YtpnkjpfhmiaffabDoorRds
import Derived.Test.YtpnkjpfhmiaffabDoorDatq
import Derived.Test.YtpnkjpfhmiaffabDoorErrs
namespace Go.Proofs.YtpnkjpfhmiaffabDoor
open Go.ChangeShapes Go.WideShapes Go.ChangeAt Go.RowKit
set_option linter.unusedVariables false

theorem law_FnExactReadDate (s : ByteArray) (w : World) (hz : s.size ≤ maxLen) (ht : Tab w) (hs : ErrVar "strconv.ErrSyntax" w) (hr : ErrVar "strconv.ErrRange" w) :
    Calls Tryd.prog 3 #[.string s] w fun e w' => e = .returned (.bool true) ∧ Below w.heap.size w w' := by
  obtain ⟨l, rfl⟩ : ∃ l : List UInt8, s = ⟨l.toArray⟩ := ⟨s.data.toList, by simp⟩
  have hsz := str_len l
  have hL := Lib.hid (show Lib3 w from ⟨ht, hs, hr⟩)
  clear ht hs hr
  by_cases hb : l.length ≤ 1048576
  · have HS := Lib.hid (fun w => rdate_s l hb w)
    have HI := Lib.hid (fun w h => rdate_i l hb w h)
    generalize rdR l = r at HS HI
    obtain ⟨y, m, d, c⟩ := r
    go_enter Tryd.func3, Tryd.ntmps3
    go_wp2_with fail
    refine (HS.out _).mono ?_
    rintro e w1 ⟨rfl, b1⟩
    have h0 := heap_alloc_new w1 (.cells #[.int .i64 y, .int .i64 m, .int .i64 d] 23)
    have a1 := below_alloc w1 (.cells #[.int .i64 y, .int .i64 m, .int .i64 d] 23)
    have L1 := Lib.hid ((hL.out.below b1).below a1)
    go_wp2_with fail
    refine (HI.out _ L1.out).mono ?_
    rintro e w2 ⟨rfl, b2⟩
    have b2' := b2.alloc b2.size (.cells #[.int .i64 y, .int .i64 m, .int .i64 d] 23)
    obtain ⟨c0, c1, c2⟩ := keep3 b2' h0
    have b3 := belowGo b1 (belowGo a1 b2')
    clear h0 a1 b1 b2 b2' HS HI L1
    go_wp2_with fail
    refine (eqDate _ _ _ _ _ _ _).mono ?_
    rintro e w3 ⟨rfl, b4⟩
    have hy : (y == y) = true := by simp
    have hm : (m == m) = true := by simp
    have hd : (d == d) = true := by simp
    have hc : (c != c) = false := by simp
    go_wp2_with fail
    go_ret
    exact ⟨rfl, belowGo b3 b4⟩
  · go_enter Tryd.func3, Tryd.ntmps3
    go_wp2_with fail
    go_ret
    exact ⟨rfl, Below.refl _ _⟩
end Go.Proofs.YtpnkjpfhmiaffabDoor
