/- spec.ReadAmount reads a string as the value that has it as its text: the sign and the fraction. -/
import Derived.Test.YtifioecofeojpaaGreatDoorReads
namespace Go.Proofs.YtifioecofeojpaaGreatDoor
open Go.ChangeShapes Go.WideShapes Go.ChangeAt Go.RowKit
set_option linter.unusedVariables false

theorem dec_from (u : Nat) : Lib.decFrom 0 (Lib.decDigits u) = some u := by
  have := from_dec u []
  simpa [Lib.decFrom] using this
theorem dec_val {u : Nat} (h : u ≤ 10000000000) : valR (Lib.decDigits u) = ((u : Int), true) := by
  obtain ⟨b, r, e, _, _⟩ := dec_head u
  have h1 : 1 ≤ (Lib.decDigits u).length := by rw [e]; simp
  have h2 := dec_len 11 u (by omega)
  rw [valR_some ⟨h1, by omega⟩ (dec_from u)]
  simp

/-- Signed: s is t behind its sign. -/
def Signed (s t : List UInt8) (neg : Bool) : Prop := (neg = true ∧ s = 45 :: t) ∨ (neg = false ∧ s = t ∧ ∀ r, t ≠ 45 :: r)
theorem digits_of {s t : List UInt8} {neg : Bool} (hs : Signed s t neg) {m : Int} (e : money m = s) : t = digitsOf m.natAbs ∧ (neg = true ↔ m < 0) := by
  have hd : ∀ r, digitsOf m.natAbs ≠ 45 :: r := by
    intro r h
    obtain ⟨b, q, e2, h1, _⟩ := dec_head (m.natAbs / 100)
    unfold digitsOf at h
    rw [e2] at h
    injection h with h _
    subst h
    exact absurd h1 (by decide)
  by_cases hn : m < 0
  · rw [money_neg hn] at e
    rcases hs with ⟨rfl, rfl⟩ | ⟨rfl, rfl, hx⟩
    · injection e with _ e
      exact ⟨e.symm, by simp [hn]⟩
    · exact absurd e.symm (hx _)
  · rw [money_pos hn] at e
    rcases hs with ⟨rfl, rfl⟩ | ⟨rfl, rfl, hx⟩
    · exact absurd e (hd _)
    · exact ⟨e.symm, by simp [hn]⟩
theorem shape {s t p : List UInt8} {c a b : UInt8} {neg : Bool} (hs : Signed s t neg) (ht : t = p ++ [c, a, b]) {m : Int} (hv : isVal m = true) (e : money m = s) :
    c.toNat = 46 ∧ valR p = (((m.natAbs / 100 : Nat) : Int), true) ∧ (a.toNat : Int) - 48 = ((m.natAbs % 100 / 10 : Nat) : Int) ∧ (b.toNat : Int) - 48 = ((m.natAbs % 10 : Nat) : Int) ∧ m.natAbs ≤ 1000000000000 ∧ (neg = true ↔ m < 0) := by
  have hv2 : -1000000000000 ≤ m ∧ m ≤ 1000000000000 := by simpa [isVal] using hv
  obtain ⟨e1, e2⟩ := digits_of hs e
  have e3 : p ++ [c, a, b] = Lib.decDigits (m.natAbs / 100) ++ [46, UInt8.ofNat (48 + m.natAbs % 100 / 10), UInt8.ofNat (48 + m.natAbs % 100 % 10)] := by
    rw [← ht, e1]; unfold digitsOf two; rfl
  obtain ⟨rfl, e4⟩ := List.append_inj' e3 rfl
  injection e4 with e4 e5
  injection e5 with e5 e6
  injection e6 with e6 _
  subst e4 e5 e6
  refine ⟨by decide, dec_val (by omega), ?_, ?_, by omega, e2⟩ <;> simp [UInt8.toNat_ofNat'] <;> omega
theorem money_of {s t p : List UInt8} {c a b : UInt8} {neg : Bool} (hs : Signed s t neg) (ht : t = p ++ [c, a, b]) {m u x y : Int} {ok : Bool} (hv : isVal m = true) (e : money m = s) (hu : valR p = (u, ok)) (hx : (a.toNat : Int) - 48 = x) (hy : (b.toNat : Int) - 48 = y) :
    c.toNat = 46 ∧ ok = true ∧ 0 ≤ x ∧ x ≤ 9 ∧ 0 ≤ y ∧ y ≤ 9 ∧ u ≤ 10000000000 ∧ m = (if neg then -1 else 1) * (100 * u + 10 * x + y) := by
  obtain ⟨h1, h2, h3, h4, h5, h6⟩ := shape hs ht hv e
  rw [hu] at h2
  injection h2 with h2 h7
  refine ⟨h1, h7, by omega, by omega, by omega, by omega, by omega, ?_⟩
  cases neg
  · have : ¬ m < 0 := by simpa using h6
    simp; omega
  · have : m < 0 := by simpa using h6
    simp; omega
theorem short_no {s t : List UInt8} {neg : Bool} (hs : Signed s t neg) (hl : t.length < 4) : readR s = (0, 6) := read_no fun m hv e => by
  obtain ⟨e1, e2⟩ := digits_of hs e
  obtain ⟨b, q, e3, _, _⟩ := dec_head (m.natAbs / 100)
  rw [e1] at hl
  unfold digitsOf two at hl
  rw [e3] at hl
  simp at hl
  omega
theorem cut3 {t : List UInt8} (h : 4 ≤ t.length) : ∃ c a b, t[t.length - 3]? = some c ∧ t[t.length - 2]? = some a ∧ t[t.length - 1]? = some b ∧ t = t.take (t.length - 3) ++ [c, a, b] := by
  refine ⟨t[t.length - 3], t[t.length - 2], t[t.length - 1], by simp, by simp, by simp, ?_⟩
  have e1 : t.drop (t.length - 3) = t[t.length - 3] :: t.drop (t.length - 3 + 1) := List.drop_eq_getElem_cons (by omega)
  have e2 : t.drop (t.length - 2) = t[t.length - 2] :: t.drop (t.length - 2 + 1) := List.drop_eq_getElem_cons (by omega)
  have e3 : t.drop (t.length - 1) = t[t.length - 1] :: t.drop (t.length - 1 + 1) := List.drop_eq_getElem_cons (by omega)
  rw [show t.length - 3 + 1 = t.length - 2 from by omega] at e1
  rw [show t.length - 2 + 1 = t.length - 1 from by omega] at e2
  rw [show t.length - 1 + 1 = t.length from by omega, List.drop_length] at e3
  rw [e3] at e2
  rw [e2] at e1
  rw [← e1, List.take_append_drop]

theorem val_nonneg (s : List UInt8) : 0 ≤ (valR s).1 := by
  unfold valR
  split
  · split
    · exact Int.natCast_nonneg _
    · exact Int.le_refl _
  · exact Int.le_refl _
def inB (a b x : Int) : Bool := decide (a ≤ x ∧ x ≤ b)
theorem in_s (x a b : Int) (w : World) : Calls Tryz.prog 47 #[.int .i64 x, .int .i64 a, .int .i64 b] w fun e w' => e = .returned (.bool (inB a b x)) ∧ w = w' := by
  by_cases h1 : a ≤ x
  · have E : Hid (inB a b x = decide (x ≤ b)) := Lib.hid (by simp [inB, h1])
    go_enter Tryz.func47, Tryz.ntmps47
    go_wp2
    go_ret
    exact ⟨by rw [E.out] <;> rfl, rfl⟩
  · have E : Hid (inB a b x = false) := Lib.hid (by simp [inB, h1])
    go_enter Tryz.func47, Tryz.ntmps47
    go_wp2
    go_ret
    exact ⟨by rw [E.out] <;> rfl, rfl⟩
/-- What l01ReadMoney answers. -/
def Money2 (s : List UInt8) (w : World) (e : Ending) (w' : World) : Prop := ∃ n ok, e = .returned (.tuple #[.int .i64 n, .bool ok]) ∧ Below w.heap.size w w' ∧ ((ok = true ∧ readR s = (n, 0)) ∨ (ok = false ∧ readR s = (0, 6)))

theorem below_drewr {n : Nat} {w w1 : World} (h : Below n w w1) : Below n w w1.drew := ⟨h.os, h.tape, h.output, h.size, h.block⟩
end Go.Proofs.YtifioecofeojpaaGreatDoor
