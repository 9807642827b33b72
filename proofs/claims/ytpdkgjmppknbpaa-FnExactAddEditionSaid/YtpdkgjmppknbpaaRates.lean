/- laws.toRate, szRateS, toRateS, eqRate, eqRateS: rates are copied, counted and compared. -/
import Derived.Test.YtpdkgjmppknbpaaFx
import Derived.Test.YtpdkgjmppknbpaaPush
import Derived.Deep.QuietTactic
import Derived.Deep.RegionHeld3
namespace Go.Proofs.Ytpdkgjmppknbpaa
open Go.ChangeShapes Go.WideShapes Go.ChangeAt Go.RowKit
set_option linter.unusedVariables false

/-! ### rows of rates -/
theorem Rr.below {w w' : World} {A : Option Addr} {rs : List Rt} (h : Rr w A rs) (hb : Below w.heap.size w w') : Rr w' A rs := Rw.below h hb
def szT (rs : List Rt) (n : Int) : Int := if n - rs.length < 0 then -1 else szl rs (n - rs.length)
theorem szl_neg (rs : List Rt) : szl rs (-1) = -1 := by cases rs <;> rfl
theorem szl_bd : ∀ (rs : List Rt) (n : Int), 0 ≤ szl rs n → szl rs n ≤ n ∧ ∀ r ∈ rs, (r.c.length : Int) ≤ n
  | [], n, h => ⟨Int.le_refl _, fun r hr => by cases hr⟩
  | r :: rs, n, h => by
    unfold szl at h ⊢
    by_cases hn : n < 0
    · rw [if_pos hn] at h; omega
    · rw [if_neg hn] at h ⊢
      by_cases h1 : n - r.c.length < 0
      · rw [if_pos h1, szl_neg] at h; omega
      · rw [if_neg h1] at h ⊢
        obtain ⟨h2, h3⟩ := szl_bd rs _ h
        refine ⟨by omega, fun q hq => ?_⟩
        rcases List.mem_cons.1 hq with rfl | hq
        · omega
        · have := h3 q hq; omega
theorem szT_bd {rs : List Rt} {n : Int} (h : 0 ≤ szT rs n) : szT rs n ≤ n ∧ (rs.length : Int) ≤ n ∧ ∀ r ∈ rs, (r.c.length : Int) ≤ n := by
  unfold szT at h ⊢
  by_cases h1 : n - rs.length < 0
  · rw [if_pos h1] at h; omega
  · rw [if_neg h1] at h ⊢
    obtain ⟨h2, h3⟩ := szl_bd rs _ h
    exact ⟨by omega, by omega, fun r hr => by have := h3 r hr; omega⟩
theorem szl_cons {r : Rt} {rs : List Rt} {m : Int} (hm : 0 ≤ m) : szl (r :: rs) m = szl rs (if m - r.c.length < 0 then -1 else m - r.c.length) := by rw [szl, if_neg (by omega)]
/-- Rates that came in: each text is no longer than a text can be. -/
def Rok (rs : List Rt) : Prop := ∀ r ∈ rs, r.c.length ≤ maxLen
/-! ### a row of rates of the call's own -/
theorem Rw.ownS {w : World} {base n size : Nat} {e : TypeId} {A : Option Addr} {c : Nat} {vs : List Value} (h : w.ownsRow base e size (.slice A n c) n vs) : Rw w A vs := fun hp => by
  rcases h.2 with ⟨hv, hx⟩ | ⟨g, cap, cur, hv, _, hh, _⟩
  · have h1 := h.1; rw [hx, Nat.zero_mul] at h1; omega
  · have hlt := (h.lt g (by rw [hv]; rfl)).2
    injection hv with hA _ _
    subst hA
    refine ⟨g, 0, rfl, hlt, fun j v hj => ?_⟩
    have := h.cells (g := g) rfl j v hj
    rwa [show ((⟨g, 0, none⟩ : Addr).add j) = ⟨g, 0 + j, none⟩ from by unfold Addr.add; split <;> simp_all] at this
section
variable {w w' : World} {base : Nat} {A : Option Addr} {n c : Nat} {rs : List Rt}
theorem own_below {e : TypeId} {size : Nat} {v : Value} {xs : List Value} (h : w.ownsRow base e size v n xs) (hb : Below w.heap.size w w') : w'.ownsRow base e size v n xs := by
  refine ⟨h.1, ?_⟩
  rcases h.2 with h1 | ⟨g, cap, cur, h1, h2, h3, h4⟩
  · exact .inl h1
  · exact .inr ⟨g, cap, cur, h1, h2, (hb.block g (by
      rcases Nat.lt_or_ge g w.heap.size with hlt | hge
      · exact hlt
      · rw [Array.getElem?_eq_none hge] at h3; cases h3)).trans h3, h4⟩
end
theorem set4 {ys : List Value} {k : Nat} (hk : k * 4 + 3 < ys.length) {a b c d : Value} {P : List Value} (h : ys.take (k * 4) = P) :
    ((((ys.set (k * 4) a).set (k * 4 + 1) b).set (k * 4 + 2) c).set (k * 4 + 3) d).take ((k + 1) * 4) = P ++ [a, b, c, d] := by
  apply List.ext_getElem?
  intro j
  subst h
  rw [List.getElem?_take, List.getElem?_append, List.length_take, Nat.min_eq_left (by omega)]
  by_cases h1 : j < k * 4
  · rw [if_pos (by omega), if_pos h1, List.getElem?_take, if_pos h1]
    rw [List.getElem?_set_ne (by omega), List.getElem?_set_ne (by omega), List.getElem?_set_ne (by omega), List.getElem?_set_ne (by omega)]
  · rw [if_neg h1]
    by_cases h2 : j < (k + 1) * 4
    · rw [if_pos h2]
      have : j = k * 4 ∨ j = k * 4 + 1 ∨ j = k * 4 + 2 ∨ j = k * 4 + 3 := by omega
      rcases this with rfl | rfl | rfl | rfl
      · rw [List.getElem?_set_ne (by omega), List.getElem?_set_ne (by omega), List.getElem?_set_ne (by omega), List.getElem?_set_self (by omega), Nat.sub_self]; rfl
      · rw [List.getElem?_set_ne (by omega), List.getElem?_set_ne (by omega), List.getElem?_set_self (by simp; omega), show k * 4 + 1 - k * 4 = 1 by omega]; rfl
      · rw [List.getElem?_set_ne (by omega), List.getElem?_set_self (by simp; omega), show k * 4 + 2 - k * 4 = 2 by omega]; rfl
      · rw [List.getElem?_set_self (by simp; omega), show k * 4 + 3 - k * 4 = 3 by omega]; rfl
    · rw [if_neg h2, List.getElem?_eq_none (by simp; omega)]
theorem stored4 {w : World} {base g n c : Nat} {e : TypeId} {xs : List Value} (h : w.ownsRow base e 4 (.slice (some ⟨g, 0, none⟩) n c) n xs) (j : Nat) (a b d f : Value) :
    ((((w.setCell ⟨g, j, none⟩ a).setCell ⟨g, j + 1, none⟩ b).setCell ⟨g, j + 2, none⟩ d).setCell ⟨g, j + 3, none⟩ f).ownsRow base e 4 (.slice (some ⟨g, 0, none⟩) n c) n ((((xs.set j a).set (j + 1) b).set (j + 2) d).set (j + 3) f) ∧
    w.grownBy ((((w.setCell ⟨g, j, none⟩ a).setCell ⟨g, j + 1, none⟩ b).setCell ⟨g, j + 2, none⟩ d).setCell ⟨g, j + 3, none⟩ f) (some g) := by
  have h1 := h.stored j a
  have h2 := h1.1.stored (j + 1) b
  have h3 := h2.1.stored (j + 2) d
  have h4 := h3.1.stored (j + 3) f
  exact ⟨h4.1, ((h1.2.trans h2.2).trans h3.2).trans h4.2⟩

theorem own_at {w : World} {base g n c size : Nat} {e : TypeId} {xs : List Value} (h : w.ownsRow base e size (.slice (some ⟨g, 0, none⟩) n c) n xs) (j : Nat) (hj : j < xs.length) : ∃ v, w.cell? ⟨g, j, none⟩ = some v :=
  ⟨xs[j], by rw [h.cellAt j (by rw [← h.1]; exact hj)]; simp [hj]⟩
end Go.Proofs.Ytpdkgjmppknbpaa
