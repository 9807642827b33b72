/- spec.l01Value reads a number. -/
import Derived.Test.YtmhlkbocejnpoaaDoorParse
import Derived.Lib.AtoiErr
namespace Go.Proofs.YtmhlkbocejnpoaaDoor
open Go.ChangeShapes Go.WideShapes Go.ChangeAt Go.RowKit
set_option linter.unusedVariables false

/-- What l01Value answers. -/
def valR (s : List UInt8) : Int × Bool := if 1 ≤ s.length ∧ s.length ≤ 13 then match Lib.decFrom 0 s with
  | some n => ((n : Int), Lib.decDigits n == s)
  | none => (0, false) else (0, false)
theorem valR_some {s : List UInt8} {n : Nat} (h : 1 ≤ s.length ∧ s.length ≤ 13) (e : Lib.decFrom 0 s = some n) : valR s = ((n : Int), Lib.decDigits n == s) := by
  unfold valR; rw [if_pos h, e]
theorem valR_none {s : List UInt8} (h : 1 ≤ s.length ∧ s.length ≤ 13) (e : Lib.decFrom 0 s = none) : valR s = (0, false) := by
  unfold valR; rw [if_pos h, e]
theorem valR_len {s : List UInt8} (h : ¬ (1 ≤ s.length ∧ s.length ≤ 13)) : valR s = (0, false) := by
  unfold valR; rw [if_neg h]

theorem from_app (a b : List UInt8) : ∀ acc, Lib.decFrom acc (a ++ b) = (Lib.decFrom acc a).bind fun n => Lib.decFrom n b := by
  induction a with
  | nil => intro acc; rfl
  | cons c r ih =>
    intro acc
    simp only [List.cons_append, Lib.decFrom]
    cases Lib.digitVal c with
    | none => rfl
    | some d => exact ih _
theorem from_bad {s : List UInt8} {k : Nat} {b : UInt8} (h : s[k]? = some b) (hd : Lib.digitVal b = none) : Lib.decFrom 0 s = none := by
  cases he : Lib.decFrom 0 s with
  | none => rfl
  | some n =>
    obtain ⟨d, e⟩ := Lib.digit_of_decFrom s 0 n he k b h
    rw [hd] at e; cases e

theorem at_str (s : List UInt8) (k : Nat) (b : UInt8) (hb : s[k]? = some b) : ∀ h, ((⟨s.toArray⟩ : ByteArray)[k]'h).toNat = b.toNat := by
  intro h
  obtain ⟨h2, e⟩ := List.getElem?_eq_some_iff.1 hb
  rw [← e]; rfl
set_option maxHeartbeats 800000 in
theorem val_s (s : List UInt8) (hl : s.length ≤ 1048576) (w : World) : Calls Tryd.prog 33 #[.string ⟨s.toArray⟩] w fun e w' => e = .returned (.tuple #[.int .i64 (valR s).1, .bool (valR s).2]) ∧ Below w.heap.size w w' := by
  have hs := str_len s
  by_cases h13 : 1 ≤ s.length ∧ s.length ≤ 13
  · obtain ⟨g1, g2⟩ := h13
    go_enter Tryd.func33, Tryd.ntmps33
    go_wp2_with fail
    go_loop [4, 5] (fun a i => ∃ (k n : Nat), k ≤ s.length ∧ i = .int .i64 k ∧ a = .int .i64 n ∧ Hid (Lib.decFrom 0 (s.take k) = some n) ∧ n < 10000000000000) (fun _ i => s.length - (intOf i).toNat)
    case atStart => exact ⟨0, 0, Nat.zero_le _, rfl, rfl, Lib.hid rfl, by omega⟩
    case round =>
      obtain ⟨k, n, hk, rfl, rfl, ht, hn⟩ := hrel
      by_cases hlt : k < s.length
      · obtain ⟨b, hb⟩ : ∃ b, s[k]? = some b := ⟨s[k], by simp [hlt]⟩
        have hbk := at_str s k b hb
        by_cases hd : ∃ d, Lib.digitVal b = some d
        · obtain ⟨d, hd⟩ := hd
          obtain ⟨d1, d2, d3⟩ := Lib.digitVal_eq hd
          have HT : Lib.decFrom 0 (s.take (k + 1)) = some (n * 10 + d) := Lib.decFrom_take s k 0 n b d ht.out hb hd
          have hn2 : n * 10 + d < 10000000000000 := by
            have h1 := Lib.decFrom_lt _ _ _ HT
            have h2 : (s.take (k + 1)).length ≤ 13 := by simp; omega
            have h3 : 10 ^ (s.take (k + 1)).length ≤ 10 ^ 13 := Nat.pow_le_pow_right (by decide) h2
            omega
          have HT := Lib.hid HT
          clear hb hd ht
          go_wp2_with fail
          go_round
          case rel => exact ⟨k + 1, n * 10 + d, by omega, by go_num, by subst d3; go_num, HT, hn2⟩
          case measure => simp [intOf]; omega
        · have hn0 : Lib.digitVal b = none := by
            cases h : Lib.digitVal b with
            | none => rfl
            | some d => exact absurd ⟨d, h⟩ hd
          have E := Lib.hid (valR_none ⟨g1, g2⟩ (from_bad hb hn0))
          clear hb hd ht
          rcases Lib.digitVal_none hn0 with g | g
          · clear hn0
            go_wp2_with fail
            go_ret2
            exact ⟨by rw [E.out] <;> rfl, Below.refl _ _⟩
          · have g3 : ¬ b.toNat < 48 := by omega
            clear hn0
            go_wp2_with fail
            go_ret2
            exact ⟨by rw [E.out] <;> rfl, Below.refl _ _⟩
      · have e0 : Lib.decFrom 0 s = some n := by have := ht.out; rwa [take_all hk hlt] at this
        have E := Lib.hid (valR_some ⟨g1, g2⟩ e0)
        have HD := Lib.hid (dec_any 18 n w (by omega) (by omega))
        clear ht e0
        go_wp2_with fail
        refine HD.out.mono ?_
        rintro e w1 ⟨rfl, b1⟩
        go_wp2_with fail
        go_ret2
        exact ⟨by rw [E.out] <;> rfl, b1⟩
  · have E := Lib.hid (valR_len h13)
    rcases (by omega : s.length < 1 ∨ (¬ s.length < 1 ∧ 13 < s.length)) with g | ⟨g, g2⟩
    · clear h13
      go_enter Tryd.func33, Tryd.ntmps33
      go_wp2_with fail
      go_ret2
      exact ⟨by rw [E.out] <;> rfl, Below.refl _ _⟩
    · have d : decide ((13 : Int) < (s.length : Int)) = true := by simp; omega
      clear h13
      go_enter Tryd.func33, Tryd.ntmps33
      go_wp2_with fail
      go_ret2
      exact ⟨by rw [E.out] <;> rfl, Below.refl _ _⟩
end Go.Proofs.YtmhlkbocejnpoaaDoor
