/- impl.shapes: all shapes of events; places of what fits. (by gen_shp.py) -/
import Derived.Test.YtjcklmhgjdmjoabCld
import Derived.Test.YtjcklmhgjdmjoabClq
import Derived.Test.YtjcklmhgjdmjoabMEvt
import Derived.Test.YtjcklmhgjdmjoabMRate
namespace Go.Proofs.Ytjcklmhgjdmjoab
open Go.ChangeShapes Go.WideShapes Go.ChangeAt Go.RowKit
set_option linter.unusedVariables false

/-! ### all shapes of events -/
def shapeAt (i : Nat) : Evt := ⟨0, ((i / 8 : Nat) : Int), [], 0, i / 4 % 2 == 1, i / 2 % 2 == 1, i % 2 == 1⟩
def shp (n : Nat) : List Evt := (List.range n).map shapeAt
theorem shp_len (n : Nat) : (shp n).length = n := by simp [shp]
theorem shp_succ (n : Nat) : shp (n + 1) = shp n ++ [shapeAt n] := by simp [shp, List.range_succ]
theorem shape_eq (k a b c : Nat) (ha : a < 2) (hb : b < 2) (hc : c < 2) : shapeAt (k * 8 + a * 4 + b * 2 + c) = ⟨0, (k : Int), [], 0, a == 1, b == 1, c == 1⟩ := by
  unfold shapeAt
  rw [show (k * 8 + a * 4 + b * 2 + c) / 8 = k by omega, show (k * 8 + a * 4 + b * 2 + c) / 4 % 2 = a by omega, show (k * 8 + a * 4 + b * 2 + c) / 2 % 2 = b by omega, show (k * 8 + a * 4 + b * 2 + c) % 2 = c by omega]
theorem idxI_any {T : Type} (f : T → Bool) (ps : List T) : decide (0 ≤ idxI f ps) = ps.any f := by
  unfold idxI
  cases h : ps.findIdx? f with
  | none =>
    rw [List.findIdx?_eq_none_iff] at h
    have : ps.any f = false := by rw [List.any_eq_false]; intro x hx; rw [h x hx]; exact Bool.false_ne_true
    rw [this]; decide
  | some k =>
    obtain ⟨hl, hk, _⟩ := List.findIdx?_eq_some_iff_getElem.1 h
    have : ps.any f = true := by rw [List.any_eq_true]; exact ⟨_, List.getElem_mem hl, hk⟩
    rw [this]; simp
theorem idxI_neg {T : Type} (f : T → Bool) (ps : List T) : idxI f ps = -1 ∨ ∃ k : Nat, idxI f ps = (k : Int) ∧ k < ps.length := by
  unfold idxI
  cases h : ps.findIdx? f with
  | none => exact .inl rfl
  | some k => exact .inr ⟨k, rfl, (List.findIdx?_eq_some_iff_getElem.1 h).1⟩
theorem shape_bits : ∀ i, i < 56 → shapeAt i = evtC (i / 8) (i / 4 % 2 + 2 * (i / 2 % 2) + 4 * (i % 2)) := by decide
theorem bits_shape : ∀ k, k < 7 → ∀ j, j < 8 → evtC k j = shapeAt (k * 8 + j % 2 * 4 + j / 2 % 2 * 2 + j / 4) := by decide
theorem any_shp (ps : List Cls) (n : Int) : (shp 56).any (fun e => (chainL ps e).contains n) = anyHit ps n 7 := by
  rw [Bool.eq_iff_iff]
  unfold shp
  rw [List.any_map, List.any_eq_true]
  constructor
  · rintro ⟨i, hi, h⟩
    rw [List.mem_range] at hi
    refine any_hit (k := i / 8) (j := i / 4 % 2 + 2 * (i / 2 % 2) + 4 * (i % 2)) (by omega) (by omega) ?_
    unfold hitC
    rw [← shape_bits i hi]; exact h
  · intro h
    unfold anyHit rowHit at h
    rw [List.any_eq_true] at h
    obtain ⟨k, hk, h⟩ := h
    rw [List.any_eq_true] at h
    obtain ⟨j, hj, h⟩ := h
    rw [List.mem_range] at hk hj
    refine ⟨k * 8 + j % 2 * 4 + j / 2 % 2 * 2 + j / 4, List.mem_range.2 (by omega), ?_⟩
    unfold hitC at h
    rw [bits_shape k hk j hj] at h; exact h
end Go.Proofs.Ytjcklmhgjdmjoab
