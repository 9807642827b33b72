/- The parts of a text of a date. -/
import Derived.Test.YtifioecofeojpaaGreatDoorMParse
import Derived.Test.YtifioecofeojpaaGreatDoorDtexi
import Derived.Test.YtifioecofeojpaaGreatDoorSplit
namespace Go.Proofs.YtifioecofeojpaaGreatDoor
open Go.ChangeShapes Go.WideShapes Go.ChangeAt Go.RowKit
set_option linter.unusedVariables false

theorem dec_four {Y : Nat} (h0 : 1970 ≤ Y) (h1 : Y ≤ 2069) : (Lib.decDigits Y).length = 4 := by
  rw [dec_hi2 (by omega), dec_hi2 (n := Y / 10) (by omega), dec_hi2 (n := Y / 10 / 10) (by omega), Lib.decDigits_one (by omega)]; rfl
theorem dtext_len {Y : Nat} (M D : Nat) (h0 : 1970 ≤ Y) (h1 : Y ≤ 2069) : (dtext Y M D).length = 10 := by
  unfold dtext
  rw [List.length_append, List.length_cons, List.length_append, List.length_cons, dec_four h0 h1, two_len, two_len]
theorem dtext_parts {Y : Nat} (M D : Nat) (h0 : 1970 ≤ Y) (h1 : Y ≤ 2069) :
    (dtext Y M D).take 4 = Lib.decDigits Y ∧ ((dtext Y M D).drop 5).take 2 = two M ∧ (dtext Y M D).drop 8 = two D := by
  have h4 := dec_four h0 h1
  generalize hL : Lib.decDigits Y = L at *
  unfold dtext
  rw [hL]
  match L, h4 with
  | [a, b, c, d], _ => exact ⟨rfl, rfl, rfl⟩
theorem parse_dec {Y : Nat} (h : Y ≤ 1000000) : Lib.parseIntB 64 (Lib.decDigits Y) = .ok (Y : Int) := by
  have hl := dec_len 7 Y (by omega)
  obtain ⟨b, r, e, hb, _⟩ := dec_head Y
  rw [Lib.parseIntB_64, Lib.atoiAll_short _ (by omega), e, atoi_plain hb, ← e]
  have hn : Lib.decNat (Lib.decDigits Y) = some Y := by
    unfold Lib.decNat
    rw [e]
    simp only [List.isEmpty_cons, Bool.false_eq_true, if_false]
    rw [← e]
    have := from_dec Y []
    rw [List.append_nil] at this
    simpa [Lib.decFrom] using this
  rw [hn]; rfl
theorem parse_two {r : Nat} (h : r < 100) : Lib.parseIntB 64 (two r) = .ok (r : Int) := by
  have h1 : (UInt8.ofNat (48 + r / 10)).toNat = 48 + r / 10 := by simp [UInt8.toNat_ofNat']; omega
  rw [Lib.parseIntB_64, Lib.atoiAll_short _ (by rw [two_len]; omega)]
  unfold two
  rw [atoi_plain (by rw [h1]; omega)]
  have hn : Lib.decNat [UInt8.ofNat (48 + r / 10), UInt8.ofNat (48 + r % 10)] = some r := by
    unfold Lib.decNat
    simp only [List.isEmpty_cons, Lib.decFrom, dv (r / 10) (by omega), dv (r % 10) (by omega), Bool.false_eq_true, if_false]
    congr 1; omega
  rw [hn]; rfl

/-- What ReadDate answers. -/
noncomputable def rdR (s : List UInt8) : Int × Int × Int × Int :=
  open Classical in if h : ∃ Y M D : Nat, okD Y M D = true ∧ dtext Y M D = s then ((h.choose : Nat), (h.choose_spec.choose : Nat), (h.choose_spec.choose_spec.choose : Nat), 0) else (0, 0, 0, 6)
theorem ok_nats {Y M D : Nat} (h : okD Y M D = true) : (1970 ≤ Y ∧ Y ≤ 2069) ∧ M < 100 ∧ D < 100 := by
  obtain ⟨y0, y1, m0, m1, d0, d1⟩ := okD_iff.1 h
  have := dlen_in Y M
  omega
theorem dtext_inj {Y M D Y' M' D' : Nat} (h : okD Y M D = true) (h' : okD Y' M' D' = true) (e : dtext Y M D = dtext Y' M' D') : Y = Y' ∧ M = M' ∧ D = D' := by
  obtain ⟨⟨a, b⟩, c, d⟩ := ok_nats h
  obtain ⟨⟨a', b'⟩, c', d'⟩ := ok_nats h'
  obtain ⟨p1, p2, p3⟩ := dtext_parts M D a b
  obtain ⟨q1, q2, q3⟩ := dtext_parts M' D' a' b'
  rw [e] at p1 p2 p3
  have e1 := p1.symm.trans q1
  have e2 := p2.symm.trans q2
  have e3 := p3.symm.trans q3
  have f1 := parse_dec (Y := Y) (by omega)
  have f2 := parse_two c
  have f3 := parse_two d
  rw [e1, parse_dec (by omega)] at f1
  rw [e2, parse_two c'] at f2
  rw [e3, parse_two d'] at f3
  injection f1 with f1
  injection f2 with f2
  injection f3 with f3
  omega
theorem rd_ok {Y M D : Nat} {s : List UInt8} (h : okD Y M D = true) (e : dtext Y M D = s) : rdR s = ((Y : Int), (M : Int), (D : Int), 0) := by
  have hx : ∃ Y M D : Nat, okD Y M D = true ∧ dtext Y M D = s := ⟨Y, M, D, h, e⟩
  unfold rdR
  rw [dif_pos hx]
  obtain ⟨g1, g2⟩ := hx.choose_spec.choose_spec.choose_spec
  obtain ⟨e1, e2, e3⟩ := dtext_inj g1 h (g2.trans e.symm)
  exact Prod.ext (congrArg (fun n : Nat => (n : Int)) e1) (Prod.ext (congrArg (fun n : Nat => (n : Int)) e2) (Prod.ext (congrArg (fun n : Nat => (n : Int)) e3) rfl))
theorem rd_no {s : List UInt8} (h : ∀ Y M D : Nat, okD Y M D = true → dtext Y M D ≠ s) : rdR s = (0, 0, 0, 6) := by
  unfold rdR
  rw [dif_neg]
  rintro ⟨Y, M, D, g1, g2⟩
  exact h Y M D g1 g2
end Go.Proofs.YtifioecofeojpaaGreatDoor
