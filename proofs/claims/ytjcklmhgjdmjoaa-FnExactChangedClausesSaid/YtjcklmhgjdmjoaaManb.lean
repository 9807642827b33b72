/- (impl.Interest).compareCode, slices.BinarySearchFunc over interests, impl.searchInterest. (by gen_man.py, with XRegb) -/
import Derived.Test.YtjcklmhgjdmjoaaMan
namespace Go.Proofs.Ytjcklmhgjdmjoaa
open Go.ChangeShapes Go.WideShapes Go.ChangeAt Go.RowKit
set_option linter.unusedVariables false

/-- The place of a code: behind all codes that are less. -/
def plcM (ps : List Ist) (s : List UInt8) : Nat := ps.findIdx (fun q => !(Op.bytesLess q.c s))
theorem plc_leM (ps : List Ist) (s : List UInt8) : plcM ps s ≤ ps.length := List.findIdx_le_length
theorem plc_eqM {ps : List Ist} {s : List UInt8} {p : Nat} (hp : p ≤ ps.length) (h1 : ∀ (i : Nat) (q : Ist), i < p → ps[i]? = some q → Op.bytesLess q.c s = true) (h2 : ∀ (i : Nat) (q : Ist), p ≤ i → ps[i]? = some q → Op.bytesLess q.c s = false) : plcM ps s = p := by
  unfold plcM
  rcases Nat.lt_or_ge p ps.length with hlt | hge
  · rw [List.findIdx_eq hlt]
    refine ⟨by rw [h2 p _ (Nat.le_refl _) (List.getElem?_eq_getElem hlt)]; rfl, fun j hj => ?_⟩
    rw [h1 j _ hj (List.getElem?_eq_getElem (by omega))]; rfl
  · obtain rfl : p = ps.length := by omega
    rw [List.findIdx_eq_length]
    intro x hx
    obtain ⟨j, hj⟩ := List.getElem?_of_mem hx
    rw [h1 j x (List.getElem?_eq_some_iff.1 hj).1 hj]; rfl
theorem plc_lessM {ps : List Ist} {s : List UInt8} {i : Nat} {q : Ist} (hi : i < plcM ps s) (hq : ps[i]? = some q) : Op.bytesLess q.c s = true := by
  obtain ⟨h, e⟩ := List.getElem?_eq_some_iff.1 hq
  have := List.not_of_lt_findIdx hi
  rw [e] at this
  simpa using this
theorem plc_notM {ps : List Ist} (h : ordToM ps ps.length = true) {s : List UInt8} {i : Nat} {q : Ist} (hi : plcM ps s ≤ i) (hq : ps[i]? = some q) : Op.bytesLess q.c s = false := by
  obtain ⟨hl, e⟩ := List.getElem?_eq_some_iff.1 hq
  have hp : plcM ps s < ps.length := by omega
  have h1 := List.findIdx_getElem (p := fun q : Ist => !(Op.bytesLess q.c s)) (w := hp)
  have h2 : Op.bytesLess (ps[plcM ps s]'hp).c s = false := by
    have h5 := h1
    rw [Bool.not_eq_true'] at h5
    exact h5
  rcases Nat.lt_or_ge (plcM ps s) i with h3 | h3
  · have hb := ord_beforeM h h3 (List.getElem?_eq_getElem hp) hq
    cases hx : Op.bytesLess q.c s with
    | false => rfl
    | true => have := less_trans hb hx; rw [h2] at this; cases this
  · have : i = plcM ps s := by omega
    subst this
    rw [e] at h2; exact h2
theorem fnd_plcM {ps : List Ist} (h : ordToM ps ps.length = true) {s : List UInt8} {k : Nat} (hk : fndM ps s = some k) : plcM ps s = k := by
  obtain ⟨p, hp, hc⟩ := fnd_atM hk
  have hl := fnd_ltM hk
  refine plc_eqM (by omega) (fun i q hi hq => ?_) (fun i q hi hq => ?_)
  · have := ord_beforeM h hi hq hp
    unfold befPM at this; rwa [hc] at this
  · rcases Nat.lt_or_ge k i with h3 | h3
    · have := ord_beforeM h h3 hp hq
      unfold befPM at this; rw [hc] at this; exact less_asym this
    · obtain rfl : i = k := by omega
      rw [hp] at hq; rw [← Option.some.inj hq, hc]; exact less_irr _
/-- Whether the code is there. -/
def hasPM (ps : List Ist) (s : List UInt8) : Bool := (fndM ps s).isSome
theorem hasP_atM {ps : List Ist} (h : ordToM ps ps.length = true) {s : List UInt8} {p : Ist} (hp : ps[plcM ps s]? = some p) : hasPM ps s = (p.c == s) := by
  unfold hasPM
  rcases Bool.eq_false_or_eq_true (p.c == s) with e | e
  · rw [fnd_keyM h hp (by simpa using e), e]; rfl
  · rw [e]
    cases hf : fndM ps s with
    | none => rfl
    | some k =>
      have hk := fnd_plcM h hf
      obtain ⟨q, hq, hc⟩ := fnd_atM hf
      rw [hk, hq] at hp
      rw [← Option.some.inj hp, hc] at e
      simp at e
theorem hasP_endM {ps : List Ist} (h : ordToM ps ps.length = true) {s : List UInt8} (hp : plcM ps s = ps.length) : hasPM ps s = false := by
  unfold hasPM
  cases hf : fndM ps s with
  | none => rfl
  | some k => have hk := fnd_plcM h hf; have := fnd_ltM hf; omega
theorem ordS_negM (x y : List UInt8) : decide (ordS x y < 0) = Op.bytesLess x y := by
  unfold ordS
  rcases Bool.eq_false_or_eq_true (Op.bytesLess x y) with h | h
  · simp [h]
  · by_cases h2 : x = y <;> simp [h, h2, less_irr]
theorem ordS_zeroM (x y : List UInt8) : (ordS x y == 0) = (x == y) := by
  unfold ordS
  rcases Bool.eq_false_or_eq_true (Op.bytesLess x y) with h | h
  · have : x ≠ y := by rintro rfl; rw [less_irr] at h; cases h
    simp [h, this]
  · by_cases h2 : x = y <;> simp [h, h2, less_irr]
end Go.Proofs.Ytjcklmhgjdmjoaa
