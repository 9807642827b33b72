/- laws.toInterest, szInterest, eqInterest, markInterestS, heldInterestS and their slices (by gen_struct.py). -/
import Derived.Test.YtjcklmhgjdmjoaaIst
import Derived.Test.YtjcklmhgjdmjoaaMHeld
import Derived.Deep.QuietTactic
import Derived.Deep.RegionHeld3
namespace Go.Proofs.Ytjcklmhgjdmjoaa
open Go.ChangeShapes Go.WideShapes Go.ChangeAt Go.RowKit
set_option linter.unusedVariables false

def Ist.szl : List Ist → Int → Int
  | [], n => n
  | r :: rs, n => if n < 0 then n else Ist.szl rs (if n - (r.sz : Int) < 0 then -1 else n - (r.sz : Int))
def Ist.szT (rs : List Ist) (n : Int) : Int := if n - rs.length < 0 then -1 else Ist.szl rs (n - rs.length)
theorem Ist.szl_neg (rs : List Ist) : Ist.szl rs (-1) = -1 := by cases rs <;> rfl
theorem Ist.szl_bd : ∀ (rs : List Ist) (n : Int), 0 ≤ Ist.szl rs n → Ist.szl rs n ≤ n ∧ ∀ r ∈ rs, (r.sz : Int) ≤ n
  | [], n, h => ⟨Int.le_refl _, fun r hr => by cases hr⟩
  | r :: rs, n, h => by
    unfold Ist.szl at h ⊢
    by_cases hn : n < 0
    · rw [if_pos hn] at h; omega
    · rw [if_neg hn] at h ⊢
      by_cases h1 : n - (r.sz : Int) < 0
      · rw [if_pos h1, Ist.szl_neg] at h; omega
      · rw [if_neg h1] at h ⊢
        obtain ⟨h2, h3⟩ := Ist.szl_bd rs _ h
        refine ⟨by omega, fun q hq => ?_⟩
        rcases List.mem_cons.1 hq with rfl | hq
        · omega
        · have := h3 q hq; omega
theorem Ist.szT_bd {rs : List Ist} {n : Int} (h : 0 ≤ Ist.szT rs n) : Ist.szT rs n ≤ n ∧ (rs.length : Int) ≤ n ∧ ∀ r ∈ rs, (r.sz : Int) ≤ n := by
  unfold Ist.szT at h ⊢
  by_cases h1 : n - rs.length < 0
  · rw [if_pos h1] at h; omega
  · rw [if_neg h1] at h ⊢
    obtain ⟨h2, h3⟩ := Ist.szl_bd rs _ h
    exact ⟨by omega, by omega, fun r hr => by have := h3 r hr; omega⟩
theorem Ist.szT_ok {rs : List Ist} (h : ¬ Ist.szT rs 1048576 < 0) : rs.length ≤ 1048576 ∧ (∀ r ∈ rs, r.sz ≤ 1048576) ∧ Ist.szT rs 1048576 ≤ 1048576 := by
  obtain ⟨h0, h1, h2⟩ := Ist.szT_bd (by omega : 0 ≤ Ist.szT rs 1048576)
  exact ⟨by omega, fun r hr => by have := h2 r hr; omega, h0⟩
theorem Ist.szl_cons {r : Ist} {rs : List Ist} {m : Int} (hm : 0 ≤ m) : Ist.szl (r :: rs) m = Ist.szl rs (if m - (r.sz : Int) < 0 then -1 else m - (r.sz : Int)) := by rw [Ist.szl, if_neg (by omega)]
/-! ### a row of the call's own -/
section
variable {w w' : World} {base : Nat} {A : Option Addr} {n c : Nat} {rs : List Ist}
end
theorem set_ist {ys : List Value} {k : Nat} (hk : k * 5 + 4 < ys.length) {v0 v1 v2 v3 v4 : Value} {P : List Value} (h : ys.take (k * 5) = P) :
    (((((ys.set (k * 5) (v0)).set (k * 5 + 1) (v1)).set (k * 5 + 2) (v2)).set (k * 5 + 3) (v3)).set (k * 5 + 4) (v4)).take ((k + 1) * 5) = P ++ [v0, v1, v2, v3, v4] := by
  apply List.ext_getElem?
  intro j
  subst h
  rw [List.getElem?_take, List.getElem?_append, List.length_take, Nat.min_eq_left (by omega)]
  by_cases h1 : j < k * 5
  · rw [if_pos (by omega), if_pos h1, List.getElem?_take, if_pos h1]
    rw [List.getElem?_set_ne (by omega), List.getElem?_set_ne (by omega), List.getElem?_set_ne (by omega), List.getElem?_set_ne (by omega), List.getElem?_set_ne (by omega)]
  · rw [if_neg h1]
    by_cases h2 : j < (k + 1) * 5
    · rw [if_pos h2]
      have : j = k * 5 ∨ j = k * 5 + 1 ∨ j = k * 5 + 2 ∨ j = k * 5 + 3 ∨ j = k * 5 + 4 := by omega
      rcases this with rfl | rfl | rfl | rfl | rfl
      · rw [List.getElem?_set_ne (by omega), List.getElem?_set_ne (by omega), List.getElem?_set_ne (by omega), List.getElem?_set_ne (by omega), List.getElem?_set_self (by (try simp only [List.length_set]); omega), Nat.sub_self]; rfl
      · rw [List.getElem?_set_ne (by omega), List.getElem?_set_ne (by omega), List.getElem?_set_ne (by omega), List.getElem?_set_self (by (try simp only [List.length_set]); omega), show k * 5 + 1 - k * 5 = 1 by omega]; rfl
      · rw [List.getElem?_set_ne (by omega), List.getElem?_set_ne (by omega), List.getElem?_set_self (by (try simp only [List.length_set]); omega), show k * 5 + 2 - k * 5 = 2 by omega]; rfl
      · rw [List.getElem?_set_ne (by omega), List.getElem?_set_self (by (try simp only [List.length_set]); omega), show k * 5 + 3 - k * 5 = 3 by omega]; rfl
      · rw [List.getElem?_set_self (by (try simp only [List.length_set]); omega), show k * 5 + 4 - k * 5 = 4 by omega]; rfl
    · rw [if_neg h2, List.getElem?_eq_none (by simp; omega)]
theorem stored_ist {w : World} {base g n c : Nat} {e : TypeId} {xs : List Value} (h : w.ownsRow base e 5 (.slice (some ⟨g, 0, none⟩) n c) n xs) (j : Nat) (v0 v1 v2 v3 v4 : Value) :
    (((((w.setCell ⟨g, j, none⟩ (v0)).setCell ⟨g, j + 1, none⟩ (v1)).setCell ⟨g, j + 2, none⟩ (v2)).setCell ⟨g, j + 3, none⟩ (v3)).setCell ⟨g, j + 4, none⟩ (v4)).ownsRow base e 5 (.slice (some ⟨g, 0, none⟩) n c) n (((((xs.set (j) (v0)).set (j + 1) (v1)).set (j + 2) (v2)).set (j + 3) (v3)).set (j + 4) (v4)) ∧
    w.grownBy (((((w.setCell ⟨g, j, none⟩ (v0)).setCell ⟨g, j + 1, none⟩ (v1)).setCell ⟨g, j + 2, none⟩ (v2)).setCell ⟨g, j + 3, none⟩ (v3)).setCell ⟨g, j + 4, none⟩ (v4)) (some g) := by
  have h1 := h.stored (j) v0
  have h2 := h1.1.stored (j + 1) v1
  have h3 := h2.1.stored (j + 2) v2
  have h4 := h3.1.stored (j + 3) v3
  have h5 := h4.1.stored (j + 4) v4
  exact ⟨h5.1, ((((h1.2.trans h2.2).trans h3.2).trans h4.2).trans h5.2)⟩
def Ist.mark (k : Nat) : Ist := ⟨mkT (k), (k : Int) + 1, mkT (k + 2), (k : Int) + 3, (k : Int) + 4⟩
def Ist.marks (k : Nat) (n : Nat) : List Ist := (List.range n).map fun j => Ist.mark (k + 5 * j)
theorem Ist.marks_len (k : Nat) (n : Nat) : (Ist.marks k n).length = n := by simp [Ist.marks]
theorem Ist.marks_at {k : Nat} {n j : Nat} (h : j < n) : (Ist.marks k n)[j]? = some (Ist.mark (k + 5 * j)) := by simp [Ist.marks, h]
theorem Ist.marks_succ (k : Nat) (n : Nat) : Ist.marks k (n + 1) = Ist.marks k n ++ [Ist.mark (k + 5 * n)] := by simp [Ist.marks, List.range_succ]
end Go.Proofs.Ytjcklmhgjdmjoaa
