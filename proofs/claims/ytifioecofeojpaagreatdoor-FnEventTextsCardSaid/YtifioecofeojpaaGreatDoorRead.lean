/- impl.ReadAmount reads a string as the value that has it as its text. -/
import Derived.Test.YtifioecofeojpaaGreatDoorMoney
import Derived.Test.YtifioecofeojpaaGreatDoorMParse
import Derived.Lib.ParseIntBTie
import Derived.Lib.AtoiTie
import Derived.Lib.AtoiErrMem
import Derived.Stop.LaidErr
namespace Go.Proofs.YtifioecofeojpaaGreatDoor
open Go.ChangeShapes Go.WideShapes Go.ChangeAt Go.RowKit
set_option linter.unusedVariables false

/-- A string without its third byte from the right. -/
def cut (s : List UInt8) : List UInt8 := s.take (s.length - 3) ++ s.drop (s.length - 2)
theorem cut_digits (p : List UInt8) (c a b : UInt8) : cut (p ++ c :: [a, b]) = p ++ [a, b] := by
  have e1 : (p ++ c :: [a, b]).length - 3 = p.length := by simp
  have e2 : (p ++ c :: [a, b]).length - 2 = p.length + 1 := by simp
  unfold cut
  rw [e1, e2]
  simp
theorem money_len {v : Int} (h : isVal v = true) : 4 ≤ (money v).length ∧ (money v).length ≤ 15 := by
  have hv : -1000000000000 ≤ v ∧ v ≤ 1000000000000 := by simpa [isVal] using h
  obtain ⟨b, r, e, _, _⟩ := dec_head (v.natAbs / 100)
  have h1 : 1 ≤ (Lib.decDigits (v.natAbs / 100)).length := by rw [e]; simp
  have h2 := dec_len 11 (v.natAbs / 100) (by omega)
  have h3 : (Lib.decDigits (v.natAbs / 100)).length ≤ 11 := by
    by_cases hx : v.natAbs / 100 < 10000000000
    · exact dec_len 10 _ hx
    · have : v.natAbs / 100 = 10000000000 := by omega
      rw [this]; decide +kernel
  unfold money digitsOf two
  split <;> simp <;> omega
theorem cut_money {v : Int} (h : isVal v = true) : Lib.parseIntB 64 (cut (money v)) = .ok v := by
  have hl := money_len h
  rw [Lib.parseIntB_64]
  by_cases hn : v < 0
  · have e : cut (money v) = 45 :: (Lib.decDigits (v.natAbs / 100) ++ two (v.natAbs % 100)) := by
      rw [money_neg hn]
      exact cut_digits (45 :: Lib.decDigits (v.natAbs / 100)) 46 _ _
    have hc : (cut (money v)).length ≤ 18 := by unfold cut; simp; omega
    rw [Lib.atoiAll_short _ hc, e, atoi_neg, nat_two]
    exact congrArg Lib.NumEnd.ok (show -((v.natAbs : Nat) : Int) = v by omega)
  · have e : cut (money v) = (Lib.decDigits (v.natAbs / 100) ++ two (v.natAbs % 100)) := by
      rw [money_pos hn]
      exact cut_digits (Lib.decDigits (v.natAbs / 100)) 46 _ _
    have hc : (cut (money v)).length ≤ 18 := by unfold cut; simp; omega
    rw [Lib.atoiAll_short _ hc, e]
    obtain ⟨b, r, e2, hb, _⟩ := dec_head (v.natAbs / 100)
    rw [e2, List.cons_append, atoi_plain hb, ← List.cons_append, ← e2, nat_two]
    exact congrArg Lib.NumEnd.ok (show ((v.natAbs : Nat) : Int) = v by omega)
theorem money_inj {v u : Int} (h : isVal v = true) (g : isVal u = true) (e : money v = money u) : v = u := by
  have h1 := cut_money h
  rw [e, cut_money g] at h1
  cases h1; rfl

open Classical in
/-- What ReadAmount answers. -/
noncomputable def readR (s : List UInt8) : Int × Int := if h : ∃ v, isVal v = true ∧ money v = s then (h.choose, 0) else (0, 6)
theorem read_ok {s : List UInt8} {v : Int} (h : isVal v = true) (e : money v = s) : readR s = (v, 0) := by
  have hx : ∃ v, isVal v = true ∧ money v = s := ⟨v, h, e⟩
  unfold readR
  rw [dif_pos hx]
  obtain ⟨g1, g2⟩ := hx.choose_spec
  rw [money_inj g1 h (g2.trans e.symm)]
theorem read_no {s : List UInt8} (h : ∀ v, isVal v = true → money v ≠ s) : readR s = (0, 6) := by
  unfold readR
  rw [dif_neg]
  rintro ⟨v, g1, g2⟩
  exact h v g1 g2

set_option maxHeartbeats 800000 in
theorem read_i (s : List UInt8) (hl : s.length ≤ 1048576) (w : World) (h : Lib3 w) : Calls Tryz.prog 24 #[.string ⟨s.toArray⟩] w fun e w' => e = .returned (.tuple #[.int .i64 (readR s).1, .int .i64 (readR s).2]) ∧ Below w.heap.size w w' := by
  have hs := str_len s
  by_cases h3 : s.length < 3
  · have E : Hid (readR s = (0, 6)) := Lib.hid (read_no fun v g e => by have := money_len g; rw [e] at this; omega)
    go_enter Tryz.func24, Tryz.ntmps24
    go_wp2_with fail
    go_ret2
    exact ⟨by rw [E.out] <;> rfl, Below.refl _ _⟩
  · have ec : ((⟨s.toArray⟩ : ByteArray).extract 0 (s.length - 3) ++ (⟨s.toArray⟩ : ByteArray).extract (s.length - 3 + 1) s.length) = ⟨(cut s).toArray⟩ := by
      rw [str_ext, str_ext, str_app]
      have e1 : s.length - 3 + 1 = s.length - 2 := by omega
      unfold cut
      rw [e1, List.take_of_length_le (l := s.drop (s.length - 2)) (by simp)]
      simp
    have hc : (cut s).length ≤ 1048576 := by unfold cut; simp; omega
    have f0 : 0 ≤ (s.length : Int) - 3 := by omega
    have f1 : IntKind.i64.wrap ((s.length : Int) - 3 + 1) = (s.length : Int) - 3 + 1 := IntWalk.i64_in _ (by omega)
    have f2 : 0 ≤ (s.length : Int) - 3 + 1 ∧ (s.length : Int) - 3 + 1 ≤ (s.length : Int) := by omega
    have f3 : 3 ≤ (s.length : Int) ∧ (s.length : Int) - 3 ≤ (s.length : Int) := by omega
    have f4 : ¬9223372036854775807 < s.length - 3 + (s.length - (s.length - 3 + 1)) := by omega
    by_cases hp : ∃ v, Lib.parseIntB 64 (cut s) = .ok v
    · obtain ⟨v, hv⟩ := hp
      have HP := Lib.hid (parse_ok (cut s) hc hv)
      rw [← ec] at HP
      have HT := Lib.hid (fun w h => text_i v w h)
      have HL := Lib.hid h
      clear h ec hc
      by_cases hg : isVal v = true ∧ money v = s
      · have E : Hid (readR s = (v, 0)) := Lib.hid (read_ok hg.1 hg.2)
        have ET : Hid (textR v = (s, 0)) := Lib.hid (by rw [textR_ok hg.1, hg.2])
        clear hg hv
        rw [ET.out] at HT
        go_enter Tryz.func24, Tryz.ntmps24
        go_wp2_with fail
        go_region_with (go_at_call 23; refine (HP.out _).mono ?_; rintro e w1 ⟨rfl, b1⟩)
        go_wp2_with (go_at_call 42; refine (HT.out _ (HL.out.below (below_drewd b1)).tab).mono ?_; rintro e w2 ⟨rfl, b2⟩)
        go_ret2
        exact ⟨by rw [E.out] <;> rfl, belowGo (below_drewd b1) b2⟩
      · have E : Hid (readR s = (0, 6)) := Lib.hid (read_no fun u g e => by
          have := cut_money g
          rw [e, hv] at this
          cases this
          exact hg ⟨g, e⟩)
        have EN : Hid ((textR v).1 ≠ s) := Lib.hid (by
          by_cases g : isVal v = true
          · rw [textR_ok g]; exact fun e => hg ⟨g, e⟩
          · rw [textR_no (by simpa using g)]; rintro rfl; simp at h3)
        have EB : ((textR v).1 == s) = false := beq_eq_false_iff_ne.2 EN.out
        clear hg hv
        generalize (textR v).2 = t2 at *
        generalize textR v = t at *
        go_enter Tryz.func24, Tryz.ntmps24
        go_wp2_with fail
        go_region_with (go_at_call 23; refine (HP.out _).mono ?_; rintro e w1 ⟨rfl, b1⟩)
        go_wp2_with (go_at_call 42; refine (HT.out _ (HL.out.below (below_drewd b1)).tab).mono ?_; rintro e w2 ⟨rfl, b2⟩)
        go_ret2
        exact ⟨by rw [E.out] <;> rfl, belowGo (below_drewd b1) b2⟩
    · have HP := Lib.hid (fun w h => parse_no (cut s) hc (fun v e => hp ⟨v, e⟩) w h)
      rw [← ec] at HP
      have E : Hid (readR s = (0, 6)) := Lib.hid (read_no fun u g e => by
          have := cut_money g
          rw [e] at this
          exact hp ⟨_, this⟩)
      have HL := Lib.hid h
      have HD : Hid (Lib3 w.drew) := Lib.hid ⟨h.tab, h.syn, h.ran⟩
      clear h ec hc hp
      go_enter Tryz.func24, Tryz.ntmps24
      go_wp2_with fail
      go_region_with (go_at_call 23; refine (HP.out _ HD.out).mono ?_; rintro e w1 ⟨x, t, p, rfl, b1⟩)
      go_wp2_with fail
      go_ret2
      exact ⟨by rw [E.out] <;> rfl, below_drewd b1⟩
end Go.Proofs.YtifioecofeojpaaGreatDoor
