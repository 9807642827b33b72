/- Weekdays and business days. -/
import Derived.Test.YtifioecofeojpaaDayp
import Derived.RegionTactic
import Derived.Deep.RegionWith
namespace Go.Proofs.Ytifioecofeojpaa
open Go.ChangeShapes Go.WideShapes Go.ChangeAt Go.RowKit
set_option linter.unusedVariables false

def wdR (n : Int) : Int × Int := if inr n 0 36524 = true then ((n + 3) % 7, 0) else (0, 2)
theorem wdR_ok {n : Int} (h : inr n 0 36524 = true) : wdR n = ((n + 3) % 7, 0) := by simp [wdR, h]
theorem wdR_no {n : Int} (h : inr n 0 36524 = false) : wdR n = (0, 2) := by simp [wdR, h]
/-! ### the next business days -/
def busA (n : Int) : Int := if 5 ≤ (n + 3) % 7 then 0 else (n + 3) % 7
def busM (n : Int) : Int := if 5 ≤ (n + 3) % 7 then n - (n + 3) % 7 + 7 else n - (n + 3) % 7
theorem bus_facts (n : Int) : (busM n + 3) % 7 = 0 ∧ 0 ≤ busA n ∧ busA n ≤ 4 ∧ n ≤ busM n + busA n ∧ busM n + busA n ≤ n + 2 ∧ (n < busM n + busA n → busA n = 0) := by
  unfold busM busA; split <;> omega
theorem bday_0 {m a : Int} (h0 : 0 ≤ a) (h : a ≤ 4) : bday m a = m + a := by unfold bday; omega
def busR (n k : Int) : Int := bday (busM n) (busA n + k)
theorem busR_in {n k : Int} (h0 : 0 ≤ n) (h1 : n ≤ 36524) (k0 : 0 ≤ k) (k1 : k ≤ 1000) : n + k ≤ busR n k ∧ busR n k ≤ 100000 := by
  obtain ⟨_, a, b, c, d, _⟩ := bus_facts n
  unfold busR bday; omega
theorem busR_wd {n k : Int} (k0 : 0 ≤ k) : (busR n k + 3) % 7 ≤ 4 := by
  obtain ⟨e, a, b, c, d, _⟩ := bus_facts n
  unfold busR; rw [bday_wd e (by omega)]; omega
theorem busR_0 (n : Int) : n ≤ busR n 0 ∧ busR n 0 ≤ n + 2 ∧ (n < busR n 0 → (busR n 0 + 3) % 7 = 0) := by
  obtain ⟨e, a, b, c, d, f⟩ := bus_facts n
  have h : busR n 0 = busM n + busA n := by unfold busR; rw [Int.add_zero, bday_0 a b]
  rw [h]; omega
theorem busR_step {n k : Int} (k0 : 0 ≤ k) : busR n k + 1 ≤ busR n (k + 1) ∧ busR n (k + 1) ≤ busR n k + 1 + 2 ∧ (busR n k + 1 < busR n (k + 1) → (busR n (k + 1) + 3) % 7 = 0) := by
  obtain ⟨e, a, b, c, d, f⟩ := bus_facts n
  have h1 := bday_wd (mon := busM n) (a := busA n + (k + 1)) e (by omega)
  unfold busR
  unfold bday at *
  omega

/-- What NextBusinessDay answers. -/
def nbdR (n k : Int) : Int × Int := if inr n 0 36524 = true ∧ inr k 0 1000 = true then if inr (busR n k) 0 36524 = true then (busR n k, 0) else (0, 3) else (0, 2)
theorem nbdR_n {n k : Int} (h : inr n 0 36524 = false) : nbdR n k = (0, 2) := by simp [nbdR, h]
theorem nbdR_k {n k : Int} (h : inr k 0 1000 = false) : nbdR n k = (0, 2) := by simp [nbdR, h]
theorem nbdR_ok {n k : Int} (h : inr n 0 36524 = true) (h' : inr k 0 1000 = true) (g : inr (busR n k) 0 36524 = true) : nbdR n k = (busR n k, 0) := by simp [nbdR, h, h', g]
theorem nbdR_big {n k : Int} (h : inr n 0 36524 = true) (h' : inr k 0 1000 = true) (g : inr (busR n k) 0 36524 = false) : nbdR n k = (0, 3) := by simp [nbdR, h, h', g]
theorem busR_lo {n k : Int} (h : 5 ≤ (n + 3) % 7) : n - (n + 3) % 7 + 7 + k / 5 * 7 + k % 5 = busR n k := by
  unfold busR busM busA bday; rw [if_pos h, if_pos h]; simp
theorem busR_hi {n k : Int} (h : ¬ 5 ≤ (n + 3) % 7) : n - (n + 3) % 7 + ((n + 3) % 7 + k) / 5 * 7 + ((n + 3) % 7 + k) % 5 = busR n k := by
  unfold busR busM busA bday; rw [if_neg h, if_neg h]

end Go.Proofs.Ytifioecofeojpaa
