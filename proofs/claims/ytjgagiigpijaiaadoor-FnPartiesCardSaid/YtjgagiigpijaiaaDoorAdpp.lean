/- AddParty in plain lists. -/
import Derived.Test.YtjgagiigpijaiaaDoorEtl
import Derived.Test.YtjgagiigpijaiaaDoorCli
import Derived.Test.YtjgagiigpijaiaaDoorRin
import Derived.Maps.AppendAt
namespace Go.Proofs.YtjgagiigpijaiaaDoor
open Go.ChangeShapes Go.WideShapes Go.ChangeAt Go.RowKit
set_option linter.unusedVariables false

/-- The register with a further party at its place. -/
def addP (ps : List Pty) (x : Pty) : List Pty := ps.take (plc ps x.c) ++ [x] ++ ps.drop (plc ps x.c)
def addPR (ps : List Pty) (x : Pty) : List Pty × Int := if regB ps = true ∧ x.ok = true then (if regB (addP ps x) = true then (addP ps x, 0) else ([], 5)) else ([], 1)
theorem addPR_no {ps : List Pty} {x : Pty} (h : regB ps = false ∨ x.ok = false) : addPR ps x = ([], 1) := by
  unfold addPR; rw [if_neg]; rintro ⟨h1, h2⟩; rcases h with h | h <;> simp_all
theorem addPR_5 {ps : List Pty} {x : Pty} (h : regB ps = true) (h1 : x.ok = true) (h2 : regB (addP ps x) = false) : addPR ps x = ([], 5) := by unfold addPR; rw [if_pos ⟨h, h1⟩, if_neg (by rw [h2]; exact Bool.false_ne_true)]
theorem addPR_0 {ps : List Pty} {x : Pty} (h : regB ps = true) (h1 : x.ok = true) (h2 : regB (addP ps x) = true) : addPR ps x = (addP ps x, 0) := by unfold addPR; rw [if_pos ⟨h, h1⟩, if_pos h2]
theorem addP_len (ps : List Pty) (x : Pty) : (addP ps x).length = ps.length + 1 := by
  unfold addP; rw [List.length_append, List.length_append, List.length_take, List.length_drop, List.length_singleton]; have := plc_le ps x.c; omega
theorem addP_mem {ps : List Pty} {x q : Pty} (h : q ∈ addP ps x) : q = x ∨ q ∈ ps := by
  unfold addP at h
  rcases List.mem_append.1 h with h | h
  · rcases List.mem_append.1 h with h | h
    · exact .inr (List.mem_of_mem_take h)
    · exact .inl (by simpa using h)
  · exact .inr (List.mem_of_mem_drop h)
theorem addPR_len {ps : List Pty} {x : Pty} : (addPR ps x).1.length ≤ ps.length + 1 := by
  unfold addPR
  split
  · split
    · exact Nat.le_of_eq (addP_len ps x)
    · exact Nat.zero_le _
  · exact Nat.zero_le _
theorem PtyO.nil (w : World) (base : Nat) : PtyO w base none 0 0 [] := World.ownsRow_nil _ _ _ _

end Go.Proofs.YtjgagiigpijaiaaDoor
