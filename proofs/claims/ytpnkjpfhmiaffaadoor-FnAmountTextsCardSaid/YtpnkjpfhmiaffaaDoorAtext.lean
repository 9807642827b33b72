/- The law FnAmountTexts. -/
import Derived.Test.YtpnkjpfhmiaffaaDoorDrawt
import Derived.Test.YtpnkjpfhmiaffaaDoorReadv
namespace Go.Proofs.YtpnkjpfhmiaffaaDoor
open Go.ChangeShapes Go.WideShapes Go.ChangeAt Go.RowKit
set_option linter.unusedVariables false

theorem big_s (A : Option Addr) (c : Nat) (bs : List Int) (w : World) (hm : bs.length ≤ maxLen) :
    Calls Tryd.prog 8 #[.slice A bs.length c] w fun e w' => e = .returned (.bool (decide (4096 < bs.length))) ∧ w = w' := by
  have hm2 : bs.length ≤ 9223372036854775807 := by unfold maxLen at hm; omega
  have E : Hid (decide (4096 < (bs.length : Int)) = decide (4096 < bs.length)) := Lib.hid (by rw [decide_eq_decide]; omega)
  go_enter Tryd.func8, Tryd.ntmps8
  go_wp2_with fail
  go_ret
  exact ⟨by rw [← E.out] <;> rfl, rfl⟩
/-- What is read is written again, and what is written is read. -/
theorem readR_inv {s : List UInt8} (h : (readR s).2 = 0) : textR (readR s).1 = (s, 0) := by
  by_cases hv : ∃ v, isVal v = true ∧ money v = s
  · obtain ⟨v, g1, g2⟩ := hv
    rw [read_ok g1 g2, textR_ok g1, g2]
  · rw [read_no (fun v g e => hv ⟨v, g, e⟩)] at h
    cases h
theorem textR_inv {n : Int} (h : (textR n).2 = 0) : readR (textR n).1 = (n, 0) ∧ (textR n).1.length ≤ 30 := by
  rcases Bool.eq_false_or_eq_true (isVal n) with g | g
  · rw [textR_ok g]; exact ⟨read_ok g rfl, money_short g⟩
  · rw [textR_no g] at h; cases h

set_option maxRecDepth 100000 in
set_option maxHeartbeats 2000000 in
theorem law_FnAmountTexts (A : Option Addr) (c : Nat) (bs : List Int) (w : World) (hA : Rw w A (bs.map (Value.int .u8))) (hm : bs.length ≤ maxLen) (hb : ∀ b ∈ bs, 0 ≤ b ∧ b ≤ 255) (hB : bs ≠ [] → Bd A w.heap.size)
    (ht : Tab w) (hs : ErrVar "strconv.ErrSyntax" w) (hr : ErrVar "strconv.ErrRange" w) :
    Calls Tryd.prog 3 #[.slice A bs.length c] w fun e w' => e = .returned (.bool true) ∧ Below w.heap.size w w' := by
  by_cases hl : 4096 < bs.length
  · have hd : decide (4096 < bs.length) = true := by simpa using hl
    go_enter Tryd.func3, Tryd.ntmps3
    go_wp2_with (go_at_call 8; refine (big_s _ _ _ _ hm).mono ?_; rintro e w' ⟨rfl, rfl⟩)
    go_ret
    exact ⟨rfl, Below.refl _ _⟩
  · have hd : decide (4096 < bs.length) = false := by simpa using hl
    have h0 : Code0 w A bs := ⟨hA, hB, hb, by omega⟩
    have L0 := Lib.hid (show Lib3 w from ⟨ht, hs, hr⟩)
    clear hA hB hb ht hs hr
    go_enter Tryd.func3, Tryd.ntmps3
    go_wp2_with (go_at_call 8; refine (big_s _ _ _ _ hm).mono ?_; rintro e w' ⟨rfl, rfl⟩)
    refine (drawAmountText A c bs _ h0).mono ?_
    rintro e w1 ⟨x, rfl, b1⟩
    have h1 := h0.below b1
    have L1 := Lib.hid (L0.out.below b1)
    have HTI := Lib.hid (text_i x)
    have HTS := Lib.hid (text_s x)
    have HTV := Lib.hid (@textR_inv x)
    generalize textR x = r at *
    obtain ⟨t, bad⟩ := r
    clear h0 L0
    go_wp2_with fail
    refine (HTI.out _ L1.out.tab).mono ?_
    rintro e w2 ⟨rfl, b2⟩
    go_wp2_with fail
    refine (HTS.out _).mono ?_
    rintro e w3 ⟨rfl, b3⟩
    have t3 := belowGo (belowGo b1 b2) b3
    have h3 := (h1.below b2).below b3
    have L3 := Lib.hid ((L1.out.below b2).below b3)
    clear h1 L1 b1 b2 b3 HTI HTS
    go_wp2_with fail
    refine (drawReadAmount A c bs _ h3).mono ?_
    rintro e w4 ⟨s, rfl, hsl, b4⟩
    have t4 := belowGo t3 b4
    have L4 := Lib.hid (L3.out.below b4)
    have HRI := Lib.hid (fun w h => read_i s (by omega) w h)
    have HRS := Lib.hid (fun w => read_s s (by omega) w)
    have HRV := Lib.hid (@readR_inv s)
    generalize readR s = r at *
    obtain ⟨v, one⟩ := r
    clear h3 L3 t3 b4
    go_wp2_with fail
    refine (HRI.out _ L4.out).mono ?_
    rintro e w5 ⟨rfl, b5⟩
    go_wp2_with fail
    refine (HRS.out _).mono ?_
    rintro e w6 ⟨rfl, b6⟩
    have t6 := belowGo (belowGo t4 b5) b6
    have L6 := Lib.hid ((L4.out.below b5).below b6)
    clear t4 L4 b5 b6 HRI HRS
    have e1 : (bad != bad) = false := by simp
    have e2 : (t != t) = false := by simp
    have e3 : (one != one) = false := by simp
    have e4 : (v != v) = false := by simp
    have e5 : (s != s) = false := by simp
    have e6 : (x != x) = false := by simp
    by_cases h1 : one = 0
    · subst h1
      have HT2 := Lib.hid (fun w h => text_i v w h)
      rw [HRV.out rfl] at HT2
      go_wp2_with fail
      refine (HT2.out _ L6.out.tab).mono ?_
      rintro e w7 ⟨rfl, b7⟩
      have t7 := belowGo t6 b7
      have L7 := Lib.hid (L6.out.below b7)
      clear t6 L6 b7 HT2
      by_cases h2 : bad = 0
      · subst h2
        obtain ⟨hq, hql⟩ := HTV.out rfl
        have HR2 := Lib.hid (fun w h => read_i t (Nat.le_trans hql (by omega)) w h)
        rw [show readR t = (x, 0) from hq] at HR2
        go_wp2_with fail
        refine (HR2.out _ L7.out).mono ?_
        rintro e w8 ⟨rfl, b8⟩
        go_wp2_with fail
        go_ret
        exact ⟨rfl, belowGo t7 b8⟩
      · have h2 : (bad != 0) = true := bne_iff_ne.2 h2
        go_wp2_with fail
        go_ret
        exact ⟨rfl, t7⟩
    · have h1 : (one == 0) = false := beq_eq_false_iff_ne.2 h1
      by_cases h2 : bad = 0
      · subst h2
        obtain ⟨hq, hql⟩ := HTV.out rfl
        have HR2 := Lib.hid (fun w h => read_i t (Nat.le_trans hql (by omega)) w h)
        rw [show readR t = (x, 0) from hq] at HR2
        go_wp2_with fail
        refine (HR2.out _ L6.out).mono ?_
        rintro e w8 ⟨rfl, b8⟩
        go_wp2_with fail
        go_ret
        exact ⟨rfl, belowGo t6 b8⟩
      · have h2 : (bad != 0) = true := bne_iff_ne.2 h2
        go_wp2_with fail
        go_ret
        exact ⟨rfl, t6⟩
end Go.Proofs.YtpnkjpfhmiaffaaDoor
