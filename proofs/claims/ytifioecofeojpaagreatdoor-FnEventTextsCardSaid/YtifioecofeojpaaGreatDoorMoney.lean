/- impl.AmountText and spec.AmountText write an amount alike. -/
import Derived.Test.YtifioecofeojpaaGreatDoorMText
import Derived.Lib.ItoaMem
import Derived.Lib.AppendIntMem
import Derived.Lib.LaidTab
import Derived.LaidLaws
namespace Go.Proofs.YtifioecofeojpaaGreatDoor
open Go.ChangeShapes Go.WideShapes Go.ChangeAt Go.RowKit
set_option linter.unusedVariables false

def digitsOf (u : Nat) : List UInt8 := Lib.decDigits (u / 100) ++ 46 :: two (u % 100)
def money (n : Int) : List UInt8 := if n < 0 then 45 :: digitsOf n.natAbs else digitsOf n.natAbs
theorem money_neg {n : Int} (h : n < 0) : money n = 45 :: digitsOf n.natAbs := by simp [money, h]
theorem money_pos {n : Int} (h : ¬ n < 0) : money n = digitsOf n.natAbs := by simp [money, h]
def isVal (n : Int) : Bool := decide (-1000000000000 ≤ n ∧ n ≤ 1000000000000)

/-- What AmountText answers. -/
def textR (n : Int) : List UInt8 × Int := if isVal n = true then (money n, 0) else ([], 2)
theorem textR_ok {n : Int} (h : isVal n = true) : textR n = (money n, 0) := by simp [textR, h]
theorem textR_no {n : Int} (h : isVal n = false) : textR n = ([], 2) := by simp [textR, h]

theorem str_lo (s : List UInt8) {u : Nat} (h : u % 100 < 10) :
    (⟨s.toArray⟩ ++ ⟨(Lib.decDigits (u / 100)).toArray⟩ ++ ⟨#[46]⟩ ++ (⟨#[48]⟩ ++ ⟨(Lib.decDigits (u % 100)).toArray⟩) : ByteArray) = ⟨(s ++ digitsOf u).toArray⟩ := by
  have e : digitsOf u = Lib.decDigits (u / 100) ++ 46 :: 48 :: Lib.decDigits (u % 100) := by unfold digitsOf; rw [← two_lo h]
  rw [e, str_app, str_app, str_app, str_app]; simp
theorem str_hi (s : List UInt8) {u : Nat} (h : ¬ u % 100 < 10) :
    (⟨s.toArray⟩ ++ ⟨(Lib.decDigits (u / 100)).toArray⟩ ++ ⟨#[46]⟩ ++ ⟨(Lib.decDigits (u % 100)).toArray⟩ : ByteArray) = ⟨(s ++ digitsOf u).toArray⟩ := by
  have e : digitsOf u = Lib.decDigits (u / 100) ++ 46 :: Lib.decDigits (u % 100) := by unfold digitsOf; rw [two_hi h (by omega)]
  rw [e, str_app, str_app, str_app]; simp

set_option maxHeartbeats 800000 in
theorem digits_s (u : Nat) (s : List UInt8) (n : Int) (hu : u ≤ 1000000000000) (w : World) (hs : (s = [] ∧ n = (u : Int)) ∨ (s = [45] ∧ n = -(u : Int) ∧ 0 < u)) :
    Calls Tryz.prog 53 #[.int .i64 n] w (Gives1 w (s ++ digitsOf u)) := by
  have H1 := Lib.hid (fun w => dec_any 18 (u % 100) w (by omega) (by omega))
  have H2 := Lib.hid (fun w => dec_any 18 (u / 100) w (by omega) (by omega))
  have e1 : ((u % 100 : Nat) : Int) = (u : Int) % 100 := by omega
  have e2 : ((u / 100 : Nat) : Int) = (u : Int) / 100 := by omega
  rw [e1] at H1
  rw [e2] at H2
  have hl := dec_len 18 (u / 100) (by omega)
  clear e1 e2
  rcases hs with ⟨rfl, rfl⟩ | ⟨rfl, rfl, h0⟩
  · have hn : ¬ (u : Int) < 0 := by omega
    by_cases h10 : u % 100 < 10
    · have E : Hid (_ = (⟨(digitsOf u).toArray⟩ : ByteArray)) := Lib.hid (str_lo [] h10)
      have hl2 : (Lib.decDigits (u % 100)).length = 1 := by rw [Lib.decDigits_one h10]; rfl
      go_enter Tryz.func53, Tryz.ntmps53
      go_wp2_with fail
      refine (H1.out _).mono ?_
      rintro e w1 ⟨rfl, b1⟩
      go_wp2_with fail
      refine (H2.out _).mono ?_
      rintro e w2 ⟨rfl, b2⟩
      go_wp2_with fail
      go_ret
      exact ⟨by rw [← E.out] <;> rfl, belowGo b1 b2⟩
    · have E : Hid (_ = (⟨(digitsOf u).toArray⟩ : ByteArray)) := Lib.hid (str_hi [] h10)
      have hl2 : (Lib.decDigits (u % 100)).length = 2 := by rw [two_hi h10 (by omega)]; rfl
      go_enter Tryz.func53, Tryz.ntmps53
      go_wp2_with fail
      refine (H1.out _).mono ?_
      rintro e w1 ⟨rfl, b1⟩
      go_wp2_with fail
      refine (H2.out _).mono ?_
      rintro e w2 ⟨rfl, b2⟩
      go_wp2_with fail
      go_ret
      exact ⟨by rw [← E.out] <;> rfl, belowGo b1 b2⟩
  · have hn : -(u : Int) < 0 := by omega
    by_cases h10 : u % 100 < 10
    · have E : Hid (_ = (⟨(45 :: digitsOf u).toArray⟩ : ByteArray)) := Lib.hid (str_lo [45] h10)
      have hl2 : (Lib.decDigits (u % 100)).length = 1 := by rw [Lib.decDigits_one h10]; rfl
      go_enter Tryz.func53, Tryz.ntmps53
      go_wp2_with fail
      refine (H1.out _).mono ?_
      rintro e w1 ⟨rfl, b1⟩
      go_wp2_with fail
      refine (H2.out _).mono ?_
      rintro e w2 ⟨rfl, b2⟩
      go_wp2_with fail
      go_ret
      exact ⟨by rw [← E.out] <;> rfl, belowGo b1 b2⟩
    · have E : Hid (_ = (⟨(45 :: digitsOf u).toArray⟩ : ByteArray)) := Lib.hid (str_hi [45] h10)
      have hl2 : (Lib.decDigits (u % 100)).length = 2 := by rw [two_hi h10 (by omega)]; rfl
      go_enter Tryz.func53, Tryz.ntmps53
      go_wp2_with fail
      refine (H1.out _).mono ?_
      rintro e w1 ⟨rfl, b1⟩
      go_wp2_with fail
      refine (H2.out _).mono ?_
      rintro e w2 ⟨rfl, b2⟩
      go_wp2_with fail
      go_ret
      exact ⟨by rw [← E.out] <;> rfl, belowGo b1 b2⟩

theorem money_s (n : Int) (h : isVal n = true) (w : World) : Calls Tryz.prog 53 #[.int .i64 n] w (Gives1 w (money n)) := by
  have hv : -1000000000000 ≤ n ∧ n ≤ 1000000000000 := by simpa [isVal] using h
  by_cases hn : n < 0
  · rw [money_neg hn]
    exact digits_s n.natAbs [45] n (by omega) w (.inr ⟨rfl, by omega, by omega⟩)
  · rw [money_pos hn]
    exact digits_s n.natAbs [] n (by omega) w (.inl ⟨rfl, by omega⟩)

theorem isVal_s (n : Int) (w : World) : Calls Tryz.prog 62 #[.int .i64 n] w fun e w' => e = .returned (.bool (isVal n)) ∧ w = w' := by
  rcases (by omega : (-1000000000000 ≤ n ∧ n ≤ 1000000000000) ∨ n < -1000000000000 ∨ (-1000000000000 ≤ n ∧ 1000000000000 < n)) with ⟨a, b⟩ | a | ⟨a, b⟩
  · have E : Hid (isVal n = true) := Lib.hid (decide_eq_true ⟨a, b⟩)
    go_enter Tryz.func62, Tryz.ntmps62
    go_wp2
    go_ret
    exact ⟨by rw [E.out] <;> rfl, rfl⟩
  · have E : Hid (isVal n = false) := Lib.hid (decide_eq_false (by omega))
    go_enter Tryz.func62, Tryz.ntmps62
    go_wp2
    go_ret
    exact ⟨by rw [E.out] <;> rfl, rfl⟩
  · have E : Hid (isVal n = false) := Lib.hid (decide_eq_false (by omega))
    have d : decide (n ≤ 1000000000000) = false := by simp; omega
    go_enter Tryz.func62, Tryz.ntmps62
    go_wp2
    go_ret
    exact ⟨by rw [E.out] <;> rfl, rfl⟩

theorem str_two (s : List UInt8) (u : Nat) :
    (⟨s.toArray⟩ ++ ⟨(Lib.decDigits (u / 100)).toArray⟩ ++ ⟨#[46]⟩ ++ (⟨(two (u % 100)).toArray⟩ : ByteArray) : ByteArray) = ⟨(s ++ digitsOf u).toArray⟩ := by
  rw [str_app, str_app, str_app]
  unfold digitsOf; simp

set_option maxHeartbeats 800000 in
theorem text_i (n : Int) (w : World) (ht : Tab w) : Calls Tryz.prog 42 #[.int .i64 n] w (Text2 w (textR n)) := by
  rcases Bool.eq_false_or_eq_true (isVal n) with h | h
  · have hv : -1000000000000 ≤ n ∧ n ≤ 1000000000000 := by simpa [isVal] using h
    obtain ⟨u, hu⟩ : ∃ u : Nat, u = n.natAbs := ⟨_, rfl⟩
    have E := Lib.hid (textR_ok h)
    have hu1 : u ≤ 1000000000000 := by omega
    have H1 : Hid (∀ w, Tab w → Calls Tryz.prog 68 #[.int .i64 ((u : Int) % 100)] w (Gives1 w (two (u % 100)))) := Lib.hid (fun w ht => by
      have := two_i (u % 100) (by omega) w ht
      simpa using this)
    have H2 : Hid (∀ w, Tab w → Calls Tryz.prog 41 #[.int .i64 ((u : Int) / 100), .int .i64 10] w (Gives1 w (Lib.decDigits (u / 100)))) := Lib.hid (fun w ht => by
      have := fmt_i (u / 100) (by omega) w ht
      simpa using this)
    have HT := Lib.hid ht
    have hl1 : (Lib.decDigits (u / 100)).length ≤ 19 := dec_len 18 (u / 100) (by omega)
    have hl2 : (two (u % 100)).length = 2 := rfl
    clear ht
    by_cases hn : n < 0
    · obtain rfl : n = -(u : Int) := by omega
      have EM : Hid ((textR (-(u : Int))).1 = 45 :: digitsOf u) := Lib.hid (by rw [E.out, money_neg hn, Int.natAbs_neg, Int.natAbs_natCast])
      have EC : Hid ((textR (-(u : Int))).2 = 0) := Lib.hid (by rw [E.out])
      have ES : Hid (_ = (⟨(45 :: digitsOf u).toArray⟩ : ByteArray)) := Lib.hid (str_two [45] u)
      have g1 : decide ((1000000000000 : Int) < (u : Int)) = false := decide_eq_false (by omega)
      have g2 : decide ((1000000000000 : Int) < -(u : Int)) = false := decide_eq_false (by omega)
      clear hu hv h E
      go_enter Tryz.func42, Tryz.ntmps42
      go_wp2_with fail
      refine (H2.out _ HT.out).mono ?_
      rintro e w1 ⟨rfl, b1⟩
      go_wp2_with fail
      refine (H1.out _ (HT.out.below b1)).mono ?_
      rintro e w2 ⟨rfl, b2⟩
      go_wp2_with fail
      go_ret2
      exact ⟨by rw [EM.out, EC.out, ← ES.out] <;> rfl, belowGo b1 b2⟩
    · obtain rfl : n = (u : Int) := by omega
      have EM : Hid ((textR ((u : Int))).1 = digitsOf u) := Lib.hid (by rw [E.out, money_pos hn, Int.natAbs_natCast])
      have EC : Hid ((textR ((u : Int))).2 = 0) := Lib.hid (by rw [E.out])
      have ES : Hid (_ = (⟨(digitsOf u).toArray⟩ : ByteArray)) := Lib.hid (str_two [] u)
      have g1 : decide ((1000000000000 : Int) < (u : Int)) = false := decide_eq_false (by omega)
      have g2 : decide ((1000000000000 : Int) < -(u : Int)) = false := decide_eq_false (by omega)
      clear hu hv h E
      go_enter Tryz.func42, Tryz.ntmps42
      go_wp2_with fail
      refine (H2.out _ HT.out).mono ?_
      rintro e w1 ⟨rfl, b1⟩
      go_wp2_with fail
      refine (H1.out _ (HT.out.below b1)).mono ?_
      rintro e w2 ⟨rfl, b2⟩
      go_wp2_with fail
      go_ret2
      exact ⟨by rw [EM.out, EC.out, ← ES.out] <;> rfl, belowGo b1 b2⟩
  · have E := Lib.hid (textR_no h)
    have hv : n < -1000000000000 ∨ (¬ n < -1000000000000 ∧ 1000000000000 < n) := by
      have : ¬ (-1000000000000 ≤ n ∧ n ≤ 1000000000000) := by simpa [isVal] using h
      omega
    clear h
    rcases hv with hv | ⟨hv, hv2⟩
    · go_enter Tryz.func42, Tryz.ntmps42
      go_wp2_with fail
      go_ret2
      exact ⟨by rw [E.out] <;> rfl, Below.refl _ _⟩
    · have g : decide ((1000000000000 : Int) < n) = true := decide_eq_true hv2
      go_enter Tryz.func42, Tryz.ntmps42
      go_wp2_with fail
      go_ret2
      exact ⟨by rw [E.out] <;> rfl, Below.refl _ _⟩

end Go.Proofs.YtifioecofeojpaaGreatDoor
