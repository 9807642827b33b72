/- The search for the first event that is decided differently, as a walk over all shapes. -/
import Derived.Test.YtjcklmhgjdmjoaaShp
import Derived.Test.YtjcklmhgjdmjoaaSdf
namespace Go.Proofs.Ytjcklmhgjdmjoaa
open Go.ChangeShapes Go.WideShapes Go.ChangeAt Go.RowKit
set_option linter.unusedVariables false

def srchD (a b : List Cls) : List Evt → Evt × Int
  | [] => (evtZ, 4)
  | e :: l => if (resC a e != resC b e) = true then (e, 0) else srchD a b l
theorem srchD_yes {a b : List Cls} {e : Evt} {l : List Evt} (h : (resC a e != resC b e) = true) : srchD a b (e :: l) = (e, 0) := by unfold srchD; rw [if_pos h]
theorem srchD_no {a b : List Cls} {e : Evt} {l : List Evt} (h : (resC a e != resC b e) = false) : srchD a b (e :: l) = srchD a b l := by rw [srchD, if_neg (by rw [h]; decide)]
theorem srchD_map (a b : List Cls) (f : Nat → Evt) : ∀ l : List Nat, srchD a b (l.map f) = match l.find? (fun i => resC a (f i) != resC b (f i)) with | some i => (f i, 0) | none => (evtZ, 4)
  | [] => rfl
  | i :: l => by
    rw [List.map_cons, List.find?_cons]
    cases h : (resC a (f i) != resC b (f i)) with
    | true => exact srchD_yes h
    | false => rw [srchD_no h]; exact srchD_map a b f l
theorem shape_evt (i : Nat) : shapeAt i = evtD (i / 8) (i % 8) := by
  have h1 : (((i % 8 : Nat) : Int) / 4 == 1) = (i / 4 % 2 == 1) := by
    have : ((i % 8 : Nat) : Int) / 4 = ((i / 4 % 2 : Nat) : Int) := by omega
    rw [this, Bool.eq_iff_iff]; simp only [beq_iff_eq]; omega
  have h2 : (((i % 8 : Nat) : Int) / 2 % 2 == 1) = (i / 2 % 2 == 1) := by
    have : ((i % 8 : Nat) : Int) / 2 % 2 = ((i / 2 % 2 : Nat) : Int) := by omega
    rw [this, Bool.eq_iff_iff]; simp only [beq_iff_eq]; omega
  have h3 : (((i % 8 : Nat) : Int) % 2 == 1) = (i % 2 == 1) := by
    have : ((i % 8 : Nat) : Int) % 2 = ((i % 2 : Nat) : Int) := by omega
    rw [this, Bool.eq_iff_iff]; simp only [beq_iff_eq]; omega
  unfold shapeAt evtD
  rw [h1, h2, h3]
theorem srchD_all (a b : List Cls) : srchD a b (shp 56) = if (difE a b).2 = true then ((difE a b).1, 0) else (evtZ, 4) := by
  have h : (fun i => resC a (shapeAt i) != resC b (shapeAt i)) = neqD a b := by
    funext i; rw [shape_evt i]; rfl
  unfold shp
  rw [srchD_map, h]
  unfold difE difI
  cases (List.range 56).find? (neqD a b) with
  | none => rfl
  | some i => simp [shape_evt]
theorem fdR_srch {ps qs : List Cls} (h : rbB ps = true) (h1 : rbB qs = true) : fdR ps qs = srchD ps qs (shp 56) := by
  rw [srchD_all]
  rcases Bool.eq_false_or_eq_true (difE ps qs).2 with h2 | h2
  · rw [fdR_ok h h1 h2, if_pos h2]
  · rw [fdR_none h h1 h2, if_neg (by rw [h2]; decide)]
theorem sdR_fd {ps qs : List Cls} (h : rbB ps = true) (h1 : rbB qs = true) : (fdR ps qs).2 ≠ 1 ∧ sdR ps qs = ((fdR ps qs).2 == 4, 0) := by
  rcases Bool.eq_false_or_eq_true (difE ps qs).2 with h2 | h2
  · rw [fdR_ok h h1 h2, sdR_ok h h1, h2]; exact ⟨by simp, rfl⟩
  · rw [fdR_none h h1 h2, sdR_ok h h1, h2]; exact ⟨by simp, rfl⟩
end Go.Proofs.Ytjcklmhgjdmjoaa
