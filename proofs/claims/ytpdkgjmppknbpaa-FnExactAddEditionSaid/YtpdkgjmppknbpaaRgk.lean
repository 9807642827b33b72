/- Small words for drawn regions by a condition on which operations have come up; rows of strings that a call owns. -/
import Derived.Test.YtpdkgjmppknbpaaRin
import Derived.Test.YtpdkgjmppknbpaaStrs
import Derived.Test.YtpdkgjmppknbpaaPush
import Derived.Maps.AppendAt
namespace Go.Proofs.Ytpdkgjmppknbpaa
open Go.ChangeShapes Go.WideShapes Go.ChangeAt Go.RowKit
set_option linter.unusedVariables false

def updG (us : Nat → Value) (j : Nat) (v : Value) : Nat → Value := fun n => if n = j then v else us n
theorem upd_sameG (us : Nat → Value) (j : Nat) (v : Value) : updG us j v j = v := by unfold updG; rw [if_pos rfl]
theorem upd_otherG {us : Nat → Value} {j n : Nat} {v : Value} (h : n ≠ j) : updG us j v n = us n := by unfold updG; rw [if_neg h]
theorem getD_setG {d : Array Bool} {i : Nat} (h : d.getD i true = false) : (d.setIfInBounds i true).getD i false = true := by
  have hi : i < d.size := by
    rcases Nat.lt_or_ge i d.size with h1 | h1
    · exact h1
    · simp [Array.getElem?_eq_none h1] at h
  simp [hi]
theorem getD_tfG {d : Array Bool} {i : Nat} (h : d.getD i true = false) : d.getD i false = false := by
  have hi : i < d.size := by
    rcases Nat.lt_or_ge i d.size with h1 | h1
    · exact h1
    · simp [Array.getElem?_eq_none h1] at h
  simp [hi] at h ⊢; exact h
/-- A row of strings that the call owns. -/
def RowG (lo : Nat) (v : Value) (L : List (List UInt8)) (W : World) : Prop := ∃ O q, v = .slice O L.length q ∧ Ost W lo O L.length q L
theorem RowG.below {lo : Nat} {v : Value} {L : List (List UInt8)} {W W' : World} (h : RowG lo v L W) (hb : Below W.heap.size W W') : RowG lo v L W' := by
  obtain ⟨O, q, e, ho⟩ := h; exact ⟨O, q, e, own_below ho hb⟩
theorem wpOp_append_str {ops : Array Oper} {Q : Exit → Act → World → Prop} {i : Nat} {o : Oper} {K : Act → World → Prop} {a : Act} {W : World} (hoi : ops[i]? = some o) (hgd : o.guard = none) (s y : Operand)
    (ho : o.op = .call { callee := .builtin .append, args := #[s, y], argTypes := #[54, 54] }) (lo : Nat) (v : Value) (L : List (List UInt8)) (hs : a.eval s = v) (hrow : RowG lo v L W)
    (x : List UInt8) (B : Nat) (hy : a.eval y = .slice (some ⟨B, 0, none⟩) 1 1) (hB : W.heap[B]? = some (.cells #[.string ⟨x.toArray⟩] 9 (0, 0))) (h63 : L.length ≤ 1000) (hbase : lo ≤ W.heap.size)
    (h : ∀ v' W', RowG lo v' (L ++ [x]) W' → Below lo W W' → K (a.put o.dst v') W') : wpOp Try.prog ops Q i K a W := by
  obtain ⟨i0, hi, hz0, hz1, hz2⟩ := info_parts strInfo
  obtain ⟨O, q, rfl, hown⟩ := hrow
  refine wpOp_step hoi fun K' hK => ?_
  rw [if_pos (by simp only [Region.wanted, hgd])]
  obtain ⟨v', W', hr, h2, h3, h4, h5⟩ := run_append_own_at (P := Try.prog) W lo 54 o.type 9 i0 _ 1 16 Try.underlying54 hi hz0 hz1 hz2 rfl (by decide) _ L.length _ hown ⟨B, 0, none⟩ 1 1 [.string ⟨x.toArray⟩] rfl
    (fun j u hu => by
      rw [show ((⟨B, 0, none⟩ : Addr).add j) = ⟨B, j, none⟩ from by unfold Addr.add; split <;> simp_all, cell_of_row _ _ _ _ _ _ hB, ← hu]; simp)
    (fun u hu => by simp only [List.mem_singleton] at hu; subst hu; simp [Value.oneCell']) (by unfold maxLen; omega) (by omega) hbase
  obtain ⟨O', q', rfl⟩ := own_form h2
  unfold Oper.wp execOp
  simp only [ho, resolve, invoke, builtin, Sem.run_bind, Sem.run_pure, Result.andThen_ok, List.map_toArray, List.map_cons, List.map_nil, hs, hy, hr]
  refine hK _ _ (h _ W' ⟨O', q', by rw [List.length_append]; rfl, ?_⟩ ((Below.refl lo W).grown h3 hbase (fun k hk => (World.ownsRow.lt hown k hk).1)))
  unfold Ost
  rw [List.length_append, List.map_append]
  simpa [encStr] using h2
end Go.Proofs.Ytpdkgjmppknbpaa
