/- laws.toEdition, szEdition, eqEdition, markEdition, heldEdition and their slices. -/
import Derived.Test.YtjcklmhgjdmjoaaEdn
namespace Go.Proofs.Ytjcklmhgjdmjoaa
open Go.ChangeShapes Go.WideShapes Go.ChangeAt Go.RowKit
set_option linter.unusedVariables false

/-! ### sizes -/
theorem Cls.szl_or : ∀ (rs : List Cls) (n : Int), Cls.szl rs n < 0 → n < -1 ∨ Cls.szl rs n = -1
  | [], n, h => by simp only [Cls.szl] at h ⊢; omega
  | r :: rs, n, h => by
    unfold Cls.szl at h ⊢
    by_cases hn : n < 0
    · rw [if_pos hn] at h ⊢; omega
    · rw [if_neg hn] at h ⊢
      by_cases h1 : n - (r.sz : Int) < 0
      · rw [if_pos h1, Cls.szl_neg]; omega
      · rw [if_neg h1] at h ⊢
        rcases Cls.szl_or rs _ h with h2 | h2 <;> omega
theorem Cls.szT_or (rs : List Cls) (n : Int) (h : Cls.szT rs n < 0) : Cls.szT rs n = -1 := by
  unfold Cls.szT at h ⊢
  by_cases h1 : n - rs.length < 0
  · rw [if_pos h1]
  · rw [if_neg h1] at h ⊢
    rcases Cls.szl_or rs _ h with h2 | h2
    · omega
    · exact h2
def Edn.szl : List Edn → Int → Int
  | [], n => n
  | e :: es, n => if n < 0 then n else Edn.szl es (Cls.szT e.cs n)
def Edn.szT (es : List Edn) (n : Int) : Int := if n - es.length < 0 then -1 else Edn.szl es (n - es.length)
theorem Edn.szl_neg (es : List Edn) : Edn.szl es (-1) = -1 := by cases es <;> rfl
theorem Edn.szl_cons {e : Edn} {es : List Edn} {m : Int} (hm : 0 ≤ m) : Edn.szl (e :: es) m = Edn.szl es (Cls.szT e.cs m) := by rw [Edn.szl, if_neg (by omega)]
/-- How many clauses in all. -/
def Edn.tot : List Edn → Nat
  | [] => 0
  | e :: es => e.cs.length + Edn.tot es
theorem Cls.szl_le (rs : List Cls) (n : Int) (h : 0 ≤ Cls.szl rs n) : Cls.szl rs n ≤ n := (Cls.szl_bd rs n h).1
theorem Cls.szT_le {rs : List Cls} {n : Int} (h : 0 ≤ Cls.szT rs n) : Cls.szT rs n + rs.length ≤ n := by
  unfold Cls.szT at h ⊢
  by_cases h1 : n - rs.length < 0
  · rw [if_pos h1] at h; omega
  · rw [if_neg h1] at h ⊢
    have := Cls.szl_le rs _ h
    omega
theorem Edn.szl_bd : ∀ (es : List Edn) (n : Int), 0 ≤ Edn.szl es n → Edn.szl es n + Edn.tot es ≤ n ∧ ∀ e ∈ es, ∀ r ∈ e.cs, (r.sz : Int) ≤ n
  | [], n, h => ⟨by simp [Edn.szl, Edn.tot], fun r hr => by cases hr⟩
  | e :: es, n, h => by
    unfold Edn.szl at h ⊢
    by_cases hn : n < 0
    · rw [if_pos hn] at h; omega
    · rw [if_neg hn] at h ⊢
      have h0 : 0 ≤ Cls.szT e.cs n := by
        by_cases hq : 0 ≤ Cls.szT e.cs n
        · exact hq
        · rw [Cls.szT_or e.cs n (by omega), Edn.szl_neg] at h; omega
      obtain ⟨h2, h3⟩ := Edn.szl_bd es _ h
      have h4 := Cls.szT_le h0
      have h5 := Cls.szT_bd h0
      refine ⟨by simp only [Edn.tot]; omega, fun q hq r hr => ?_⟩
      rcases List.mem_cons.1 hq with rfl | hq
      · exact h5.2.2 r hr
      · have := h3 q hq r hr; omega
theorem Edn.szT_bd {es : List Edn} {n : Int} (h : 0 ≤ Edn.szT es n) : Edn.szT es n + Edn.tot es + es.length ≤ n ∧ ∀ e ∈ es, ∀ r ∈ e.cs, (r.sz : Int) ≤ n := by
  unfold Edn.szT at h ⊢
  by_cases h1 : n - es.length < 0
  · rw [if_pos h1] at h; omega
  · rw [if_neg h1] at h ⊢
    obtain ⟨h2, h3⟩ := Edn.szl_bd es _ h
    exact ⟨by omega, fun e he r hr => by have := h3 e he r hr; omega⟩
/-! ### equal ones -/
end Go.Proofs.Ytjcklmhgjdmjoaa
