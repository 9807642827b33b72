import Derived.Test.YtjcklmhgjdmjoaaGreatFne
namespace Go.Proofs.YtjcklmhgjdmjoaaGreat
open Go.ChangeShapes Go.WideShapes Go.ChangeAt Go.RowKit
theorem br_of {w : World} {A : Option Addr} {len cap : Nat} {zs : List Int}
    (h : (A = none ∧ len = 0 ∧ cap = 0 ∧ zs = []) ∨
      ∃ x, A = some x ∧ len ≤ cap ∧ cap ≤ maxLen ∧ zs.length = cap ∧ (∀ i, i < zs.length → w.cell? (x.add i) = some (.int .u8 (zs.getD i 0))) ∧ ∀ n ∈ zs, (Lit.int .u8 n).wf = true) :
    ∃ xs : List Int, xs.length = len ∧ Rw w A (xs.map (Value.int .u8)) ∧ xs.length ≤ maxLen ∧ (∀ x ∈ xs, 0 ≤ x ∧ x ≤ 255) ∧ (xs ≠ [] → Bd A w.heap.size) := by
  rcases h with ⟨rfl, rfl, rfl, rfl⟩ | ⟨x, rfl, hl, hm, hz, hcell, hwz⟩
  · exact ⟨[], rfl, fun h => by simp at h, by simp, by simp, fun h => absurd rfl h⟩
  · have hlen : (zs.take len).length = len := by rw [List.length_take]; omega
    have hR : Rw w (some x) ((zs.take len).map (Value.int .u8)) := fun hp => by
      have hp' : 0 < len := by rw [List.length_map, hlen] at hp; exact hp
      obtain ⟨b, off, spot⟩ := x
      have hspot : spot = none := by simpa [Addr.add] using World.cell?_spot (hcell 0 (by omega))
      subst hspot
      have hc : ∀ j, j < zs.length → w.cell? ⟨b, off + j, none⟩ = some (.int .u8 (zs.getD j 0)) := fun j hj => by
        rw [← Go.WideShapes.add_plain]; exact hcell j hj
      refine ⟨b, off, rfl, World.block_lt_of_cell? w _ (hc 0 (by omega)), fun j v hj => ?_⟩
      have hjl : j < len := by
        have h1 : j < ((zs.take len).map (Value.int .u8)).length := by
          rcases Nat.lt_or_ge j ((zs.take len).map (Value.int .u8)).length with h | h
          · exact h
          · rw [List.getElem?_eq_none h] at hj; cases hj
        rw [List.length_map, hlen] at h1; exact h1
      rw [hc j (by omega), ← hj, List.getElem?_map, List.getElem?_take, if_pos hjl]
      simp [List.getD_eq_getElem?_getD, (by omega : j < zs.length)]
    refine ⟨zs.take len, hlen, hR, by omega, fun y hy => bounds_u8 (hwz y (List.mem_of_mem_take hy)), ?_⟩
    by_cases h0 : len = 0
    · intro hn; exact absurd (by rw [h0]; simp) hn
    · intro _
      obtain ⟨b, off, e, hb, _⟩ := hR (by rw [List.length_map, hlen]; omega)
      intro a ha; cases ha; cases e; exact hb
end Go.Proofs.YtjcklmhgjdmjoaaGreat
