/- spec.l02Digits reads two digits. -/
import Derived.Test.YtklhcofonkmiiaaGreatDoorDay
import Derived.Test.YtklhcofonkmiiaaGreatDoorSplit
namespace Go.Proofs.YtklhcofonkmiiaaGreatDoor
open Go.ChangeShapes Go.WideShapes Go.ChangeAt Go.RowKit
set_option linter.unusedVariables false

def digR : List UInt8 → Int
  | [a, b] => if inr ((a.toNat : Int) - 48) 0 9 = true ∧ inr ((b.toNat : Int) - 48) 0 9 = true then 10 * ((a.toNat : Int) - 48) + ((b.toNat : Int) - 48) else -1
  | _ => -1
theorem digR_ok {a b : UInt8} (h : inr ((a.toNat : Int) - 48) 0 9 = true) (g : inr ((b.toNat : Int) - 48) 0 9 = true) : digR [a, b] = 10 * ((a.toNat : Int) - 48) + ((b.toNat : Int) - 48) := by
  simp [digR, h, g]
theorem digR_a {a b : UInt8} (h : inr ((a.toNat : Int) - 48) 0 9 = false) : digR [a, b] = -1 := by simp [digR, h]
theorem digR_b {a b : UInt8} (h : inr ((b.toNat : Int) - 48) 0 9 = false) : digR [a, b] = -1 := by simp [digR, h]
theorem digR_len {l : List UInt8} (h : l.length ≠ 2) : digR l = -1 := by
  match l, h with
  | [], _ => rfl
  | [_], _ => rfl
  | [_, _], h => exact absurd rfl h
  | _ :: _ :: _ :: _, _ => rfl
theorem digR_two {r : Nat} (h : r < 100) : digR (two r) = r := by
  have h1 : (UInt8.ofNat (48 + r / 10)).toNat = 48 + r / 10 := by simp [UInt8.toNat_ofNat']; omega
  have h2 : (UInt8.ofNat (48 + r % 10)).toNat = 48 + r % 10 := by simp [UInt8.toNat_ofNat']; omega
  unfold two
  rw [digR_ok (by rw [h1, inr_iff]; omega) (by rw [h2, inr_iff]; omega), h1, h2]; omega

theorem wr {n : Int} (h : -1000 ≤ n ∧ n ≤ 1000) : Go.RowKit.wrap64 n = n := by unfold Go.RowKit.wrap64; omega
set_option maxHeartbeats 1000000 in
theorem dig_s (l : List UInt8) (hl : l.length ≤ 1048576) (w : World) : Calls Tryz.prog 51 #[.string ⟨l.toArray⟩] w fun e w' => e = .returned (.int .i64 (digR l)) ∧ ∃ n, w' = w.drewN n := by
  have hs : (⟨l.toArray⟩ : ByteArray).size = l.length := rfl
  by_cases h2 : l.length = 2
  · obtain ⟨a, b, hab⟩ : ∃ a b, l = [a, b] := by
      match l, h2 with
      | [a, b], _ => exact ⟨a, b, rfl⟩
    have ha : a.toNat ≤ 255 := by have := a.toNat_lt; omega
    have hb : b.toNat ≤ 255 := by have := b.toNat_lt; omega
    have z0 := at_byte l 0 a (by rw [hab]; rfl)
    have z1 := at_byte l 1 b (by rw [hab]; rfl)
    have q1 : IntKind.i64.wrap ((a.toNat : Int) - 48) = (a.toNat : Int) - 48 := IntWalk.i64_in _ (by omega)
    have q2 : IntKind.i64.wrap ((b.toNat : Int) - 48) = (b.toNat : Int) - 48 := IntWalk.i64_in _ (by omega)
    have q3 : IntKind.i64.wrap (a.toNat : Int) = (a.toNat : Int) := IntWalk.i64_in _ (by omega)
    have q4 : IntKind.i64.wrap (b.toNat : Int) = (b.toNat : Int) := IntWalk.i64_in _ (by omega)
    have w1 : Go.RowKit.wrap64 (a.toNat : Int) = (a.toNat : Int) := wr (by omega)
    have w2 : Go.RowKit.wrap64 (b.toNat : Int) = (b.toNat : Int) := wr (by omega)
    have w3 : Go.RowKit.wrap64 ((a.toNat : Int) - 48) = (a.toNat : Int) - 48 := wr (by omega)
    have w4 : Go.RowKit.wrap64 ((b.toNat : Int) - 48) = (b.toNat : Int) - 48 := wr (by omega)
    have e2 : ((l.length : Int) != 2) = false := by simp [h2]
    clear hl
    rcases Bool.eq_false_or_eq_true (inr ((a.toNat : Int) - 48) 0 9) with h | h
    · rcases Bool.eq_false_or_eq_true (inr ((b.toNat : Int) - 48) 0 9) with g | g
      · have h9 := inr_iff.1 h
        have g9 := inr_iff.1 g
        have E : Hid (digR l = 10 * ((a.toNat : Int) - 48) + ((b.toNat : Int) - 48)) := Lib.hid (by rw [hab]; exact digR_ok h g)
        clear hab
        go_enter Tryz.func51, Tryz.ntmps51
        go_wp2_with fail
        go_quiet (fail)
        go_wp2_with fail
        first | rw [w1, w3] | rw [w2, w4] | skip
        refine (inn_q h _).mono ?_
        rintro e w' ⟨rfl, rfl⟩
        go_wp2_with fail
        first | rw [w1, w3] | rw [w2, w4] | skip
        refine (inn_q g _).mono ?_
        rintro e w' ⟨rfl, rfl⟩
        go_wp2_with fail
        go_ret
        exact ⟨by rw [E.out] <;> rfl, _, rfl⟩
      · skip
        have E : Hid (digR l = -1) := Lib.hid (by rw [hab]; exact digR_b g)
        clear hab
        go_enter Tryz.func51, Tryz.ntmps51
        go_wp2_with fail
        go_quiet (fail)
        go_wp2_with fail
        first | rw [w1, w3] | rw [w2, w4] | skip
        refine (inn_q h _).mono ?_
        rintro e w' ⟨rfl, rfl⟩
        go_wp2_with fail
        first | rw [w1, w3] | rw [w2, w4] | skip
        refine (inn_q g _).mono ?_
        rintro e w' ⟨rfl, rfl⟩
        go_wp2_with fail
        go_ret
        exact ⟨by rw [E.out] <;> rfl, _, rfl⟩
    · skip
      have E : Hid (digR l = -1) := Lib.hid (by rw [hab]; exact digR_a h)
      clear hab
      go_enter Tryz.func51, Tryz.ntmps51
      go_wp2_with fail
      go_quiet (fail)
      go_wp2_with fail
      first | rw [w1, w3] | rw [w2, w4] | skip
      refine (inn_q h _).mono ?_
      rintro e w' ⟨rfl, rfl⟩
      go_wp2_with fail
      go_ret
      exact ⟨by rw [E.out] <;> rfl, _, rfl⟩
  · have E := Lib.hid (digR_len h2)
    have e2 : ((l.length : Int) != 2) = true := by simp; omega
    clear h2
    go_enter Tryz.func51, Tryz.ntmps51
    go_wp2_with fail
    go_ret
    exact ⟨by rw [E.out] <;> rfl, 0, rfl⟩
end Go.Proofs.YtklhcofonkmiiaaGreatDoor
