/- Codes of currencies: impl.IsCode and spec.IsCode. -/
import Derived.Test.YtjcklmhgjdmjoabMRate
import Derived.WalkLawsBesides
import Derived.WalkSpells
namespace Go.Proofs.Ytjcklmhgjdmjoab
open Go.ChangeShapes Go.WideShapes Go.ChangeAt Go.RowKit
set_option linter.unusedVariables false

theorem byte_at (s : List UInt8) (k : Nat) (b : UInt8) (hb : s[k]? = some b) : ∀ h, ((⟨s.toArray⟩ : ByteArray)[k]'h).toNat = b.toNat := by
  intro h
  obtain ⟨h2, e⟩ := List.getElem?_eq_some_iff.1 hb
  rw [← e]; rfl
theorem all_no {s : List UInt8} {k : Nat} {b : UInt8} (hb : s[k]? = some b) (h : upb b = false) : s.all upb = false := by
  rw [List.all_eq_false]; exact ⟨b, List.mem_of_getElem? hb, by simp [h]⟩
theorem all_take {s : List UInt8} {k : Nat} (hk : k ≤ s.length) (hl : ¬ k < s.length) (h : (s.take k).all upb = true) : s.all upb = true := by rwa [take_all hk hl] at h
theorem upb_no {c : UInt8} : upb c = false ↔ (c.toNat : Int) < 65 ∨ 90 < (c.toNat : Int) := by
  unfold upb; rw [decide_eq_false_iff_not]; omega

set_option maxHeartbeats 1000000 in
theorem hasOnly_i (s : List UInt8) (w : World) (hl : s.length ≤ 9223372036854775807) : Calls Try.prog 52 #[.string ⟨s.toArray⟩, .int .u8 65, .int .u8 90] w fun e w' => e = .returned (.bool (s.all upb)) ∧ w = w' := by
  have hz : (⟨s.toArray⟩ : ByteArray).size = s.length := rfl
  go_enter Try.func52, Try.ntmps52
  go_wp2_with fail
  go_loop [10, 7] (fun i j => ∃ k : Nat, k ≤ s.length ∧ i = .int .i64 k ∧ Hid ((s.take k).all upb = true)) (fun i _ => s.length - (intOf i).toNat)
  case atStart => exact ⟨0, Nat.zero_le _, rfl, Lib.hid rfl⟩
  case round =>
    obtain ⟨k, hk, rfl, ht⟩ := hrel
    by_cases hlt : k < s.length
    · obtain ⟨b, hbk⟩ : ∃ b, s[k]? = some b := ⟨s[k], by simp [hlt]⟩
      have hbn := byte_at s k b hbk
      have hb255 : (b.toNat : Int) ≤ 255 := by have := b.toNat_lt; omega
      rcases (by omega : ((b.toNat : Int) < 65) ∨ (¬ (b.toNat : Int) < 65 ∧ 90 < (b.toNat : Int)) ∨ (¬ (b.toNat : Int) < 65 ∧ ¬ 90 < (b.toNat : Int))) with h | ⟨h, h'⟩ | ⟨h, h'⟩
      · have E := Lib.hid (all_no hbk (upb_no.2 (.inl h)))
        have d : decide (b.toNat < 65) = true := by simp; omega
        clear hbk ht
        go_wp2_with fail
        go_ret
        exact ⟨by rw [E.out] <;> rfl, rfl⟩
      · have E := Lib.hid (all_no hbk (upb_no.2 (.inr h')))
        have d : decide (b.toNat < 65) = false := by simp; omega
        have d' : decide (90 < b.toNat) = true := by simp; omega
        clear hbk ht
        go_wp2_with fail
        go_ret
        exact ⟨by rw [E.out] <;> rfl, rfl⟩
      · have HT : Hid ((s.take (k + 1)).all upb = true) := Lib.hid (by rw [snoc_of hbk, List.all_append, ht.out]; simp [upb]; omega)
        have d : decide (b.toNat < 65) = false := by simp; omega
        have d' : decide (90 < b.toNat) = false := by simp; omega
        clear hbk ht
        go_wp2_with fail
        go_round
        case rel => exact ⟨k + 1, by omega, by go_num, HT⟩
        case measure => simp [intOf]; omega
    · have E := Lib.hid (all_take hk hlt ht.out)
      clear ht
      go_wp2_with fail
      go_ret
      exact ⟨by rw [E.out] <;> rfl, rfl⟩
theorem code_no3 {s : List UInt8} (h : s.length ≠ 3) : codeB s = false := by
  unfold codeB; rw [Bool.and_eq_false_iff]; left; rw [decide_eq_false_iff_not]; omega
theorem code_3 {s : List UInt8} (h : s.length = 3) : codeB s = s.all upb := by
  unfold codeB; rw [show decide ((s.length : Int) = 3) = true by rw [decide_eq_true_eq]; omega, Bool.true_and]
theorem code_no {s : List UInt8} (h : s.all upb = false) : codeB s = false := by unfold codeB; rw [h, Bool.and_false]
theorem code_len {s : List UInt8} (h : s.all upb = true) : codeB s = ((s.length : Int) == 3) := by
  unfold codeB; rw [h, Bool.and_true]; rfl
end Go.Proofs.Ytjcklmhgjdmjoab
