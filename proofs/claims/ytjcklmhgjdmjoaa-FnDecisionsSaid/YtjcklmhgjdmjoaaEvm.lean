/- Logs in plain lists: the place of a day, further events, indices, totals by kind. -/
import Derived.Test.YtjcklmhgjdmjoaaEvl
namespace Go.Proofs.Ytjcklmhgjdmjoaa
open Go.ChangeShapes Go.WideShapes Go.ChangeAt Go.RowKit
set_option linter.unusedVariables false

/-! ### the place of a day -/
def plcE (rs : List Evt) (d : Int) : Nat := rs.findIdx (fun q => decide (d < q.d))
theorem plc_leE (rs : List Evt) (d : Int) : plcE rs d ≤ rs.length := List.findIdx_le_length
theorem plc_eqE {rs : List Evt} {d : Int} {p : Nat} (hp : p ≤ rs.length) (h1 : ∀ (i : Nat) (q : Evt), i < p → rs[i]? = some q → q.d ≤ d) (h2 : ∀ (q : Evt), rs[p]? = some q → d < q.d) : plcE rs d = p := by
  unfold plcE
  rcases Nat.lt_or_ge p rs.length with hlt | hge
  · rw [List.findIdx_eq hlt]
    refine ⟨decide_eq_true (h2 _ (List.getElem?_eq_getElem hlt)), fun j hj => ?_⟩
    have := h1 j _ hj (List.getElem?_eq_getElem (by omega))
    rw [decide_eq_false_iff_not]; omega
  · obtain rfl : p = rs.length := by omega
    rw [List.findIdx_eq_length]
    intro x hx
    obtain ⟨j, hj⟩ := List.getElem?_of_mem hx
    have := h1 j x (List.getElem?_eq_some_iff.1 hj).1 hj
    rw [decide_eq_false_iff_not]; omega
theorem plc_lessE {rs : List Evt} {d : Int} {i : Nat} {q : Evt} (hi : i < plcE rs d) (hq : rs[i]? = some q) : q.d ≤ d := by
  obtain ⟨h, e⟩ := List.getElem?_eq_some_iff.1 hq
  have := List.not_of_lt_findIdx hi
  rw [e] at this
  simp only [decide_eq_false_iff_not] at this
  omega
theorem plc_atE {rs : List Evt} {d : Int} {q : Evt} (hq : rs[plcE rs d]? = some q) : d < q.d := by
  obtain ⟨hp, e⟩ := List.getElem?_eq_some_iff.1 hq
  have h1 := List.findIdx_getElem (p := fun q : Evt => decide (d < q.d)) (w := hp)
  have h2 : d < (rs[plcE rs d]'hp).d := of_decide_eq_true h1
  rw [e] at h2; exact h2
theorem plc_notE {rs : List Evt} (h : logB rs = true) {d : Int} {i : Nat} {q : Evt} (hi : plcE rs d ≤ i) (hq : rs[i]? = some q) : d < q.d := by
  have hl := (List.getElem?_eq_some_iff.1 hq).1
  have hp := List.getElem?_eq_getElem (l := rs) (i := plcE rs d) (by omega)
  have a := plc_atE hp
  have b := log_before h hi hp hq
  omega
/-! ### a further event -/
def addE (rs : List Evt) (e : Evt) : List Evt := rs.take (plcE rs e.d) ++ e :: rs.drop (plcE rs e.d)
theorem addE_len (rs : List Evt) (e : Evt) : (addE rs e).length = rs.length + 1 := by
  unfold addE; have := plc_leE rs e.d; simp [List.length_take, List.length_drop]; omega
def addR (rs : List Evt) (e : Evt) : List Evt × Int := if logB rs = true ∧ e.ok = true then if rs.length = 15 then ([], 3) else (addE rs e, 0) else ([], 1)
theorem addR_no {rs : List Evt} {e : Evt} (h : logB rs = false ∨ e.ok = false) : addR rs e = ([], 1) := by
  unfold addR; rw [if_neg]; rintro ⟨a, b⟩; rcases h with h | h <;> simp_all
theorem addR_lim {rs : List Evt} {e : Evt} (h : logB rs = true) (h1 : e.ok = true) (h2 : rs.length = 15) : addR rs e = ([], 3) := by unfold addR; rw [if_pos ⟨h, h1⟩, if_pos h2]
theorem addR_ok {rs : List Evt} {e : Evt} (h : logB rs = true) (h1 : e.ok = true) (h2 : rs.length ≠ 15) : addR rs e = (addE rs e, 0) := by unfold addR; rw [if_pos ⟨h, h1⟩, if_neg h2]
theorem addR_len (rs : List Evt) (e : Evt) : (addR rs e).1.length ≤ rs.length + 1 := by
  unfold addR; split
  · split
    · exact Nat.zero_le _
    · rw [addE_len]; exact Nat.le_refl _
  · exact Nat.zero_le _
/-! ### indices -/
def idx (f : Evt → Bool) : List Evt → Nat → List Int
  | [], _ => []
  | r :: rs, i => (if f r = true then [(i : Int)] else []) ++ idx f rs (i + 1)
theorem idx_snoc (f : Evt → Bool) (r : Evt) : ∀ (rs : List Evt) (i : Nat), idx f (rs ++ [r]) i = idx f rs i ++ (if f r = true then [((i + rs.length : Nat) : Int)] else [])
  | [], i => by simp [idx]
  | q :: rs, i => by
    rw [List.cons_append, idx, idx_snoc f r rs (i + 1), idx, List.append_assoc, List.length_cons, show i + 1 + rs.length = i + (rs.length + 1) by omega]
theorem idx_len (f : Evt → Bool) : ∀ (rs : List Evt) (i : Nat), (idx f rs i).length ≤ rs.length
  | [], i => Nat.le_refl _
  | q :: rs, i => by
    have := idx_len f rs (i + 1)
    rw [idx, List.length_append, List.length_cons]; split <;> simp <;> omega
def ixs (f : Evt → Bool) (rs : List Evt) : List Int := idx f rs 0
theorem ixs_len (f : Evt → Bool) (rs : List Evt) : (ixs f rs).length ≤ rs.length := idx_len f rs 0
theorem ixs_next (f : Evt → Bool) {rs : List Evt} {k : Nat} {r : Evt} (h : rs[k]? = some r) : ixs f (rs.take (k + 1)) = ixs f (rs.take k) ++ (if f r = true then [(k : Int)] else []) := by
  have hk := (List.getElem?_eq_some_iff.1 h).1
  unfold ixs
  rw [snoc_of h, idx_snoc, List.length_take, Nat.min_eq_left (by omega), Nat.zero_add]
def betR (rs : List Evt) (f t : Int) : List Int × Int :=
  if logB rs = true then if inr f 0 36524 = true ∧ inr t 0 36524 = true then (ixs (fun r => inr r.d f t) rs, 0) else ([], 2) else ([], 1)
theorem betR_no {rs : List Evt} {f t : Int} (h : logB rs = false) : betR rs f t = ([], 1) := by unfold betR; rw [if_neg (by rw [h]; decide)]
theorem betR_day {rs : List Evt} {f t : Int} (h : logB rs = true) (h1 : inr f 0 36524 = false ∨ inr t 0 36524 = false) : betR rs f t = ([], 2) := by
  unfold betR; rw [if_pos h, if_neg]; rintro ⟨a, b⟩; rcases h1 with h | h <;> simp_all
theorem betR_ok {rs : List Evt} {f t : Int} (h : logB rs = true) (h1 : inr f 0 36524 = true) (h2 : inr t 0 36524 = true) : betR rs f t = (ixs (fun r => inr r.d f t) rs, 0) := by unfold betR; rw [if_pos h, if_pos ⟨h1, h2⟩]
theorem betR_len (rs : List Evt) (f t : Int) : (betR rs f t).1.length ≤ rs.length := by
  unfold betR; split
  · split
    · exact ixs_len _ _
    · exact Nat.zero_le _
  · exact Nat.zero_le _
def eofR (rs : List Evt) (s : List UInt8) : List Int × Int := if logB rs = true then (ixs (fun r => r.c == s) rs, 0) else ([], 1)
theorem eofR_no {rs : List Evt} {s : List UInt8} (h : logB rs = false) : eofR rs s = ([], 1) := by unfold eofR; rw [if_neg (by rw [h]; decide)]
theorem eofR_ok {rs : List Evt} {s : List UInt8} (h : logB rs = true) : eofR rs s = (ixs (fun r => r.c == s) rs, 0) := by unfold eofR; rw [if_pos h]
theorem eofR_len (rs : List Evt) (s : List UInt8) : (eofR rs s).1.length ≤ rs.length := by
  unfold eofR; split
  · exact ixs_len _ _
  · exact Nat.zero_le _
/-! ### totals by kind -/
def totE (j : Int) (rs : List Evt) : Int := isum ((rs.filter (fun r => r.k == j)).map Evt.a)
theorem totE_snoc (j : Int) (rs : List Evt) (r : Evt) : totE j (rs ++ [r]) = totE j rs + (if r.k = j then r.a else 0) := by
  unfold totE; rw [List.filter_append, List.map_append, isum_app]
  by_cases h : r.k = j <;> simp [List.filter_cons, h, isum]
theorem totE_bd (j : Int) : ∀ {rs : List Evt}, (∀ r ∈ rs, r.ok = true) → 0 ≤ totE j rs ∧ totE j rs ≤ rs.length * 1000000000
  | [], _ => by simp [totE, isum]
  | r :: rs, h => by
    have ih := totE_bd (rs := rs) j fun q hq => h q (List.mem_cons_of_mem _ hq)
    have ho := (eok (h r (List.mem_cons_self ..))).2.2.2
    have e : totE j (r :: rs) = (if r.k = j then r.a else 0) + totE j rs := by
      unfold totE; by_cases hk : r.k = j <;> simp [List.filter_cons, hk, isum]
    rw [e, List.length_cons]; split <;> omega
def totL (rs : List Evt) : List Int := [totE 0 rs, totE 1 rs, totE 2 rs, totE 3 rs, totE 4 rs, totE 5 rs, totE 6 rs]
def tbkR (rs : List Evt) : List Int × Int := if logB rs = true then (totL rs, 0) else ([], 1)
theorem tbkR_no {rs : List Evt} (h : logB rs = false) : tbkR rs = ([], 1) := by unfold tbkR; rw [if_neg (by rw [h]; decide)]
theorem tbkR_ok {rs : List Evt} (h : logB rs = true) : tbkR rs = (totL rs, 0) := by unfold tbkR; rw [if_pos h]
theorem tbkR_len (rs : List Evt) : (tbkR rs).1.length ≤ 7 := by
  unfold tbkR; split
  · exact Nat.le_refl _
  · exact Nat.zero_le _
end Go.Proofs.Ytjcklmhgjdmjoaa
