/- impl.ReadAmount and spec.ReadAmount read a string alike. -/
import Derived.Test.YtpnkjpfhmiaffaaDoorReadp
import Derived.Test.YtpnkjpfhmiaffaaDoorReadn
namespace Go.Proofs.YtpnkjpfhmiaffaaDoor
open Go.ChangeShapes Go.WideShapes Go.ChangeAt Go.RowKit
set_option linter.unusedVariables false

theorem readm_s (s : List UInt8) (hl : s.length ≤ 1048576) (w : World) : Calls Tryd.prog 38 #[.string ⟨s.toArray⟩] w (Money2 s w) := by
  by_cases h : ∃ r, s = 45 :: r
  · obtain ⟨r, h⟩ := h
    exact readm_neg s r hl h w
  · exact readm_pos s hl (fun r e => h ⟨r, e⟩) w

theorem read_s (s : List UInt8) (hl : s.length ≤ 1048576) (w : World) : Calls Tryd.prog 14 #[.string ⟨s.toArray⟩] w fun e w' => e = .returned (.tuple #[.int .i64 (readR s).1, .int .i64 (readR s).2]) ∧ Below w.heap.size w w' := by
  have H := Lib.hid (readm_s s hl w)
  go_enter Tryd.func14, Tryd.ntmps14
  go_wp2_with fail
  refine H.out.mono ?_
  rintro e w1 ⟨n, ok, rfl, b1, h⟩
  cases ok with
  | true =>
    have E : Hid (readR s = (n, 0)) := Lib.hid (by simpa using h)
    clear h
    go_wp2_with fail
    go_ret2
    exact ⟨by rw [E.out] <;> rfl, b1⟩
  | false =>
    have E : Hid (readR s = (0, 6)) := Lib.hid (by simpa using h)
    clear h
    go_wp2_with fail
    go_ret2
    exact ⟨by rw [E.out] <;> rfl, b1⟩

theorem law_FnExactReadAmount (s : ByteArray) (w : World) (hz : s.size ≤ maxLen) (ht : Tab w) (hs : ErrVar "strconv.ErrSyntax" w) (hr : ErrVar "strconv.ErrRange" w) :
    Calls Tryd.prog 6 #[.string s] w fun e w' => e = .returned (.bool true) ∧ Below w.heap.size w w' := by
  obtain ⟨l, rfl⟩ : ∃ l : List UInt8, s = ⟨l.toArray⟩ := ⟨s.data.toList, by simp⟩
  have hsz := str_len l
  have hL := Lib.hid (show Lib3 w from ⟨ht, hs, hr⟩)
  clear ht hs hr
  by_cases hb : l.length ≤ 1048576
  · have HS := Lib.hid (read_s l hb)
    have HI := Lib.hid (read_i l hb)
    generalize readR l = r at HS HI
    go_enter Tryd.func6, Tryd.ntmps6
    go_wp2_with fail
    refine (HS.out _).mono ?_
    rintro e w1 ⟨rfl, b1⟩
    go_wp2_with fail
    refine (HI.out _ (hL.out.below b1)).mono ?_
    rintro e w2 ⟨rfl, b2⟩
    go_wp2_with fail
    go_ret
    exact ⟨rfl, belowGo b1 b2⟩
  · go_enter Tryd.func6, Tryd.ntmps6
    go_wp2_with fail
    go_ret
    exact ⟨rfl, Below.refl _ _⟩
end Go.Proofs.YtpnkjpfhmiaffaaDoor
