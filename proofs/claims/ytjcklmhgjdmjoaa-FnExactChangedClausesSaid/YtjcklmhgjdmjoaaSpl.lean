/- Splitting a parcel in plain lists. -/
import Derived.Test.YtjcklmhgjdmjoaaManb
import Derived.Test.YtjcklmhgjdmjoaaOwn
namespace Go.Proofs.Ytjcklmhgjdmjoaa
open Go.ChangeShapes Go.WideShapes Go.ChangeAt Go.RowKit
set_option linter.unusedVariables false

def codesI (ps : List Ist) : List (List UInt8) := ps.map Ist.c
theorem ord_iffM {ps : List Ist} : ordToM ps ps.length = true ↔ (∀ p ∈ ps, p.ok = true) ∧ StrictL (codesI ps) := by
  constructor
  · intro h
    refine ⟨fun p hp => ?_, ?_⟩
    · obtain ⟨j, hj⟩ := List.getElem?_of_mem hp
      exact ord_okM h hj
    · unfold StrictL codesI
      rw [List.pairwise_iff_getElem]
      intro i j hi hj hij
      rw [List.getElem_map, List.getElem_map]
      rw [List.length_map] at hi hj
      exact ord_beforeM h hij (List.getElem?_eq_getElem hi) (List.getElem?_eq_getElem hj)
  · rintro ⟨h1, h2⟩
    unfold ordToM
    rw [List.all_eq_true]
    intro k hk
    have hk : k < ps.length := by simpa using hk
    have hp := List.getElem?_eq_getElem hk
    have hok := h1 _ (List.getElem_mem hk)
    cases k with
    | zero => rw [ordAt_0M hp]; exact hok
    | succ k =>
      have hq : ps[k]? = some (ps[k]'(by omega)) := List.getElem?_eq_getElem (by omega)
      rw [ordAt_sM hp hq, hok, Bool.true_and]
      refine strict_at h2 (i := k) (j := k + 1) (by omega) ?_ ?_
      · unfold codesI; rw [List.getElem?_map, hq]; rfl
      · unfold codesI; rw [List.getElem?_map, hp]; rfl
/-- One more at a place. -/
def insM (qs : List Ist) (y : Ist) : List Ist := qs.take (plcM qs y.c) ++ [y] ++ qs.drop (plcM qs y.c)
theorem insM_len (qs : List Ist) (y : Ist) : (insM qs y).length = qs.length + 1 := by
  have := plc_leM qs y.c
  unfold insM; simp only [List.length_append, List.length_take, List.length_drop, List.length_cons, List.length_nil]; omega
/-- The place that the model takes: ahead of the first code behind it. -/
def plcB (qs : List Ist) (s : List UInt8) : Nat := qs.findIdx (fun q => Op.bytesLess s q.c)
theorem plcB_le (qs : List Ist) (s : List UInt8) : plcB qs s ≤ qs.length := List.findIdx_le_length
def insB (qs : List Ist) (y : Ist) : List Ist := qs.take (plcB qs y.c) ++ [y] ++ qs.drop (plcB qs y.c)
theorem insB_len (qs : List Ist) (y : Ist) : (insB qs y).length = qs.length + 1 := by
  have := plcB_le qs y.c
  unfold insB; simp only [List.length_append, List.length_take, List.length_drop, List.length_cons, List.length_nil]; omega
theorem plcB_before {qs : List Ist} {s : List UInt8} {i : Nat} {q : Ist} (hi : i < plcB qs s) (hq : qs[i]? = some q) : Op.bytesLess s q.c = false := by
  obtain ⟨h, e⟩ := List.getElem?_eq_some_iff.1 hq
  have := List.not_of_lt_findIdx hi
  rw [e] at this
  simpa using this
theorem plcB_at {qs : List Ist} {s : List UInt8} {q : Ist} (hq : qs[plcB qs s]? = some q) : Op.bytesLess s q.c = true := by
  obtain ⟨hl, e⟩ := List.getElem?_eq_some_iff.1 hq
  have h1 := List.findIdx_getElem (p := fun q : Ist => Op.bytesLess s q.c) (w := hl)
  have h2 : Op.bytesLess s (qs[plcB qs s]'hl).c = true := h1
  rwa [e] at h2
theorem plc_same {qs : List Ist} {s : List UInt8} (h : ∀ q ∈ qs, q.c ≠ s) : plcB qs s = plcM qs s := by
  unfold plcB plcM
  induction qs with
  | nil => rfl
  | cons q qs ih =>
    have hq := h q (List.mem_cons_self ..)
    have e : Op.bytesLess s q.c = !(Op.bytesLess q.c s) := by
      cases hb : Op.bytesLess q.c s with
      | true => rw [less_asym hb]; rfl
      | false =>
        cases hc : Op.bytesLess s q.c with
        | true => rfl
        | false => exact absurd (less_tot hb hc) hq
    rw [List.findIdx_cons, List.findIdx_cons, e, ih fun p hp => h p (List.mem_cons_of_mem _ hp)]
/-- What the model has laid behind i of the list. -/
def outB (qs : List Ist) (y : Ist) (i : Nat) : List Ist := if plcB qs y.c < i then qs.take (plcB qs y.c) ++ [y] ++ (qs.take i).drop (plcB qs y.c) else qs.take i
theorem outB_len (qs : List Ist) (y : Ist) (i : Nat) (hi : i ≤ qs.length) : (outB qs y i).length ≤ i + 1 := by
  have := plcB_le qs y.c
  unfold outB; split
  · simp only [List.length_append, List.length_take, List.length_drop, List.length_cons, List.length_nil]; omega
  · simp only [List.length_take]; omega
theorem outB_0 (qs : List Ist) (y : Ist) : outB qs y 0 = [] := by unfold outB; rw [if_neg (by omega)]; rfl
theorem outB_lt {qs : List Ist} {y q : Ist} {i : Nat} (hq : qs[i]? = some q) (h : i < plcB qs y.c) : outB qs y (i + 1) = outB qs y i ++ [q] := by
  unfold outB; rw [if_neg (by omega), if_neg (by omega), snoc_of hq]
theorem outB_eq {qs : List Ist} {y q : Ist} {i : Nat} (hq : qs[i]? = some q) (h : i = plcB qs y.c) : outB qs y (i + 1) = outB qs y i ++ [y] ++ [q] := by
  have hl := (List.getElem?_eq_some_iff.1 hq).1
  unfold outB
  rw [if_pos (by omega), if_neg (by omega), ← h, snoc_of hq, List.drop_append_of_le_length (by rw [List.length_take]; omega), List.drop_eq_nil_of_le (by rw [List.length_take]; omega), List.nil_append]
theorem outB_gt {qs : List Ist} {y q : Ist} {i : Nat} (hq : qs[i]? = some q) (h : plcB qs y.c < i) : outB qs y (i + 1) = outB qs y i ++ [q] := by
  have hl := (List.getElem?_eq_some_iff.1 hq).1
  unfold outB
  rw [if_pos (by omega), if_pos (by omega), snoc_of hq, List.drop_append_of_le_length (by rw [List.length_take]; omega)]
  simp
theorem outB_end {qs : List Ist} {y : Ist} (h : plcB qs y.c < qs.length) : outB qs y qs.length = insB qs y := by
  unfold outB insB; rw [if_pos h, List.take_length]
theorem outB_end0 {qs : List Ist} {y : Ist} (h : ¬ plcB qs y.c < qs.length) : outB qs y qs.length ++ [y] = insB qs y := by
  have := plcB_le qs y.c
  have e : plcB qs y.c = qs.length := by omega
  unfold outB insB; rw [if_neg h, e, List.drop_length, List.append_nil]
/-- Which of the two loops' ways: at i the model lays the new one first. -/
theorem outB_way {qs : List Ist} {s : List UInt8} {q : Ist} {i : Nat} (hq : qs[i]? = some q) (h : i ≤ plcB qs s) : Op.bytesLess s q.c = decide (i = plcB qs s) := by
  rcases Nat.lt_or_ge i (plcB qs s) with h1 | h1
  · rw [plcB_before h1 hq, decide_eq_false (by omega)]
  · obtain rfl : i = plcB qs s := by omega
    rw [plcB_at hq, decide_eq_true rfl]
/-! ### the values change -/
theorem set_at {ps : List Ist} {k j : Nat} {x y q : Ist} (hx : ps[k]? = some x) (hq : (ps.set k y)[j]? = some q) : (j = k ∧ q = y) ∨ (j ≠ k ∧ ps[j]? = some q) := by
  rw [List.getElem?_set] at hq
  split at hq
  · rename_i e
    split at hq
    · exact .inl ⟨e.symm, (Option.some.inj hq).symm⟩
    · cases hq
  · rename_i e; exact .inr ⟨fun e2 => e e2.symm, hq⟩
theorem codes_set {ps : List Ist} {k : Nat} {x y : Ist} (hx : ps[k]? = some x) (hc : y.c = x.c) : codesI (ps.set k y) = codesI ps := by
  obtain ⟨hk, e⟩ := List.getElem?_eq_some_iff.1 hx
  unfold codesI
  apply List.ext_getElem?
  intro j
  rw [List.getElem?_map, List.getElem?_map, List.getElem?_set]
  split
  · rename_i e2; subst e2
    rw [hx]; simp [hc]
  · rfl
theorem ord_set {ps : List Ist} {k : Nat} {x y : Ist} (h : ordToM ps ps.length = true) (hx : ps[k]? = some x) (hc : y.c = x.c) (ho : y.ok = true) : ordToM (ps.set k y) (ps.set k y).length = true := by
  obtain ⟨h1, h2⟩ := ord_iffM.1 h
  rw [ord_iffM]
  refine ⟨fun p hp => ?_, by rw [codes_set hx hc]; exact h2⟩
  rcases List.mem_or_eq_of_mem_set hp with h3 | h3
  · exact h1 p h3
  · rw [h3]; exact ho
theorem iok {p : Ist} (h : p.ok = true) : pcode p.c = true ∧ pcode p.o = true ∧ (0 ≤ p.k ∧ p.k ≤ 3) ∧ (0 ≤ p.v ∧ p.v ≤ 1000000000) ∧ (0 ≤ p.a ∧ p.a ≤ 60) ∧ (p.k = 0 ∨ p.a = 0) := by
  unfold Ist.ok at h
  simp only [Bool.and_eq_true, Bool.or_eq_true, beq_iff_eq] at h
  exact ⟨h.1, h.2.1, inr_iff.1 h.2.2.1, amt_iff.1 h.2.2.2.1, inr_iff.1 h.2.2.2.2.1, h.2.2.2.2.2⟩
theorem ok_val {p : Ist} {u : Int} (h : p.ok = true) (h0 : 0 ≤ u) (h1 : u ≤ p.v) : ({ p with v := u } : Ist).ok = true := by
  have hv := iok h
  unfold Ist.ok at h ⊢
  simp only [Bool.and_eq_true] at h ⊢
  exact ⟨h.1, h.2.1, h.2.2.1, amt_iff.2 (by omega), h.2.2.2.2⟩
/-! ### a code that is taken -/
theorem dup_no {xs ys : List Ist} {y q : Ist} (hc : q.c = y.c) (hm : q ∈ xs ∨ q ∈ ys) : manB (xs ++ [y] ++ ys) = false := by
  cases hb : manB (xs ++ [y] ++ ys) with
  | false => rfl
  | true =>
    exfalso
    have h2 := (ord_iffM.1 (ordM_nat hb)).2
    unfold StrictL codesI at h2
    rw [List.map_append, List.map_append, List.pairwise_append, List.pairwise_append] at h2
    rcases hm with h | h
    · have := h2.1.2.2 q.c (List.mem_map_of_mem h) y.c (by simp)
      rw [hc, less_irr] at this; cases this
    · have := h2.2.2 y.c (by simp) q.c (List.mem_map_of_mem h)
      rw [hc, less_irr] at this; cases this
theorem mem_split {qs : List Ist} {q : Ist} (h : q ∈ qs) (p : Nat) : q ∈ qs.take p ∨ q ∈ qs.drop p := by
  rw [← List.take_append_drop p qs] at h
  exact List.mem_append.1 h
/-- Both places give the same answer. -/
theorem ins_same (qs : List Ist) (y : Ist) : (manB (insB qs y) = false ∧ manB (insM qs y) = false) ∨ insB qs y = insM qs y := by
  by_cases h : ∀ q ∈ qs, q.c ≠ y.c
  · right; unfold insB insM; rw [plc_same h]
  · left
    have ⟨q, hq⟩ : ∃ q, q ∈ qs ∧ q.c = y.c := by
      simp only [ne_eq, Classical.not_forall, Classical.not_not] at h
      obtain ⟨q, h1, h2⟩ := h
      exact ⟨q, h1, h2⟩
    exact ⟨dup_no hq.2 (mem_split hq.1 _), dup_no hq.2 (mem_split hq.1 _)⟩
/-! ### FindInterest -/
def finR (ps : List Ist) (s : List UInt8) : Int × Int := if manB ps = true then (match fndM ps s with | none => (0, 4) | some k => ((k : Int), 0)) else (0, 1)
theorem finR_no {ps : List Ist} {s : List UInt8} (h : manB ps = false) : finR ps s = (0, 1) := by unfold finR; rw [if_neg (by rw [h]; exact Bool.false_ne_true)]
theorem finR_none {ps : List Ist} {s : List UInt8} (h : manB ps = true) (h2 : fndM ps s = none) : finR ps s = (0, 4) := by unfold finR; rw [if_pos h, h2]
theorem finR_some {ps : List Ist} {s : List UInt8} {k : Nat} (h : manB ps = true) (h2 : fndM ps s = some k) : finR ps s = ((k : Int), 0) := by unfold finR; rw [if_pos h, h2]
inductive FWay (ps : List Ist) (s : List UInt8) : Int × Int → Prop where
  | man (h : manB ps = false) : FWay ps s (0, 1)
  | none (h : manB ps = true) (h2 : hasPM ps s = false) (h3 : fndIM ps s = -1) : FWay ps s (0, 4)
  | ok (k : Nat) (p : Ist) (h : manB ps = true) (h2 : hasPM ps s = true) (h3 : fndIM ps s = k) (h4 : plcM ps s = k) (hk : k < ps.length) (hp : ps[k]? = some p) (hc : p.c = s) : FWay ps s ((k : Int), 0)
theorem fway (ps : List Ist) (s : List UInt8) : FWay ps s (finR ps s) := by
  rcases Bool.eq_false_or_eq_true (manB ps) with h | h
  · cases hf : fndM ps s with
    | none =>
      rw [finR_none h hf]
      exact .none h (by unfold hasPM; rw [hf]; rfl) (by unfold fndIM; rw [hf])
    | some k =>
      rw [finR_some h hf]
      obtain ⟨p, hp, hc⟩ := fnd_atM hf
      exact .ok k p h (by unfold hasPM; rw [hf]; rfl) (by unfold fndIM; rw [hf]) (fnd_plcM (ordM_nat h) hf) (fnd_ltM hf) hp hc
  · rw [finR_no h]; exact .man h
/-! ### SplitParcel -/
def leftI (x : Ist) (r : List UInt8) (u : Int) : Ist := { x with c := r, v := x.v - u }
def splR (ps : List Ist) (c r : List UInt8) (u : Int) : List Ist × Int :=
  if (finR ps c).2 = 0 then
    (match ps[(finR ps c).1.toNat]? with
      | none => ([], 5)
      | some x => if x.k = 3 ∧ 0 ≤ u ∧ u ≤ x.v then (if manB (insM (ps.set (finR ps c).1.toNat { x with v := u }) (leftI x r u)) = true then (insM (ps.set (finR ps c).1.toNat { x with v := u }) (leftI x r u), 0) else ([], 5)) else ([], 5))
  else ([], (finR ps c).2)
inductive SWay (ps : List Ist) (c r : List UInt8) (u : Int) : Int × Int → List Ist × Int → Prop where
  | no (n : Int) (hn : n ≠ 0) : SWay ps c r u (0, n) ([], n)
  | kind (k : Nat) (x : Ist) (h : manB ps = true) (hk : k < ps.length) (hx : ps[k]? = some x) (h3 : (x.k == 3) = false) : SWay ps c r u ((k : Int), 0) ([], 5)
  | val (k : Nat) (x : Ist) (h : manB ps = true) (hk : k < ps.length) (hx : ps[k]? = some x) (h3 : x.k = 3) (h4 : inr u 0 x.v = false) : SWay ps c r u ((k : Int), 0) ([], 5)
  | bad (k : Nat) (x : Ist) (h : manB ps = true) (hk : k < ps.length) (hx : ps[k]? = some x) (h3 : x.k = 3) (h4 : inr u 0 x.v = true) (hi : manB (insM (ps.set k { x with v := u }) (leftI x r u)) = false) (hb : manB (insB (ps.set k { x with v := u }) (leftI x r u)) = false) : SWay ps c r u ((k : Int), 0) ([], 5)
  | ok (k : Nat) (x : Ist) (h : manB ps = true) (hk : k < ps.length) (hx : ps[k]? = some x) (h3 : x.k = 3) (h4 : inr u 0 x.v = true) (hi : manB (insM (ps.set k { x with v := u }) (leftI x r u)) = true) (hb : insB (ps.set k { x with v := u }) (leftI x r u) = insM (ps.set k { x with v := u }) (leftI x r u)) : SWay ps c r u ((k : Int), 0) (insM (ps.set k { x with v := u }) (leftI x r u), 0)
theorem sway (ps : List Ist) (c r : List UInt8) (u : Int) : SWay ps c r u (finR ps c) (splR ps c r u) := by
  have W := fway ps c
  have e : splR ps c r u = if (finR ps c).2 = 0 then
    (match ps[(finR ps c).1.toNat]? with
      | none => ([], 5)
      | some x => if x.k = 3 ∧ 0 ≤ u ∧ u ≤ x.v then (if manB (insM (ps.set (finR ps c).1.toNat { x with v := u }) (leftI x r u)) = true then (insM (ps.set (finR ps c).1.toNat { x with v := u }) (leftI x r u), 0) else ([], 5)) else ([], 5))
    else ([], (finR ps c).2) := rfl
  rw [e]
  clear e
  generalize finR ps c = f at W ⊢
  cases W with
  | man h => rw [if_neg (by decide)]; exact .no 1 (by decide)
  | none h h2 h3 => rw [if_neg (by decide)]; exact .no 4 (by decide)
  | ok k x h h2 h3 h4 hk hx hc =>
    simp only [if_true, Int.toNat_natCast, hx]
    by_cases hk3 : x.k = 3
    · by_cases hu : 0 ≤ u ∧ u ≤ x.v
      · rw [if_pos ⟨hk3, hu⟩]
        have hin : inr u 0 x.v = true := inr_iff.2 hu
        rcases ins_same (ps.set k { x with v := u }) (leftI x r u) with ⟨h5, h6⟩ | h5
        · rw [if_neg (by rw [h6]; exact Bool.false_ne_true)]
          exact .bad k x h hk hx hk3 hin h6 h5
        · rcases Bool.eq_false_or_eq_true (manB (insM (ps.set k { x with v := u }) (leftI x r u))) with h6 | h6
          · rw [if_pos h6]; exact .ok k x h hk hx hk3 hin h6 h5
          · rw [if_neg (by rw [h6]; exact Bool.false_ne_true)]
            exact .bad k x h hk hx hk3 hin h6 (by rw [h5]; exact h6)
      · rw [if_neg fun h => hu h.2]
        exact .val k x h hk hx hk3 (by rw [← Bool.not_eq_true, inr_iff]; exact hu)
    · rw [if_neg fun h => hk3 h.1]
      exact .kind k x h hk hx (by simpa using hk3)
theorem splR_len (ps : List Ist) (c r : List UInt8) (u : Int) : (splR ps c r u).1.length ≤ 11 := by
  have W := sway ps c r u
  generalize splR ps c r u = q at W ⊢
  generalize finR ps c = f at W
  cases W with
  | ok k x h hk hx h3 h4 hi hb => exact Nat.le_succ_of_le (manB_iff.1 hi).1
  | _ => exact Nat.zero_le _
/-! ### the total -/
def totR (ps : List Ist) : Int × Int := if manB ps = true then (isum (ps.map Ist.v), 0) else (0, 1)
theorem totR_ok {ps : List Ist} (h : manB ps = true) : totR ps = (isum (ps.map Ist.v), 0) := by unfold totR; rw [if_pos h]
theorem totR_no {ps : List Ist} (h : manB ps = false) : totR ps = (0, 1) := by unfold totR; rw [if_neg (by rw [h]; exact Bool.false_ne_true)]
theorem isum_set {ps : List Ist} {k : Nat} {x y : Ist} (hx : ps[k]? = some x) : isum ((ps.set k y).map Ist.v) = isum (ps.map Ist.v) - x.v + y.v := by
  obtain ⟨hk, e⟩ := List.getElem?_eq_some_iff.1 hx
  have h1 : ps = ps.take k ++ [x] ++ ps.drop (k + 1) := by rw [← snoc_of hx, List.take_append_drop]
  have h2 : ps.set k y = ps.take k ++ [y] ++ ps.drop (k + 1) := by rw [List.set_eq_take_append_cons_drop, if_pos hk]; simp
  rw [h2]
  conv => rhs; rw [h1]
  simp only [List.map_append, isum_app, List.map_cons, List.map_nil]
  have e1 : ∀ z : Int, isum [z] = z := fun z => by simp [isum]
  rw [e1, e1]; omega
theorem isum_ins (qs : List Ist) (y : Ist) : isum ((insM qs y).map Ist.v) = isum (qs.map Ist.v) + y.v := by
  have h1 : qs = qs.take (plcM qs y.c) ++ qs.drop (plcM qs y.c) := (List.take_append_drop _ _).symm
  have h2 : isum (qs.map Ist.v) = isum ((qs.take (plcM qs y.c)).map Ist.v) + isum ((qs.drop (plcM qs y.c)).map Ist.v) := by
    conv => lhs; rw [h1]
    rw [List.map_append, isum_app]
  unfold insM
  simp only [List.map_append, isum_app, List.map_cons, List.map_nil]
  have e1 : isum [y.v] = y.v := by simp [isum]
  rw [e1, h2]; omega
/-- The promise: the total value is as it was. -/
theorem split_total {ps : List Ist} {c r : List UInt8} {u : Int} (h : (splR ps c r u).2 = 0) : manB ps = true ∧ manB (splR ps c r u).1 = true ∧ isum ((splR ps c r u).1.map Ist.v) = isum (ps.map Ist.v) ∧ (splR ps c r u).1.length = ps.length + 1 := by
  have W := sway ps c r u
  generalize splR ps c r u = q at W h ⊢
  generalize finR ps c = f at W
  cases W with
  | no n hn => exact absurd h hn
  | ok k x h1 hk hx h3 h4 hi hb =>
    refine ⟨h1, hi, ?_, ?_⟩
    · show isum ((insM _ _).map Ist.v) = _
      rw [isum_ins, isum_set hx]
      show isum (ps.map Ist.v) - x.v + u + (x.v - u) = _
      omega
    · show (insM _ _).length = _
      rw [insM_len, List.length_set]
  | _ => exact absurd h (by show ¬ ((5 : Int) = 0); decide)
/-! ### owners and codes -/
def ownR (ps : List Ist) : List (List UInt8) × Int := if manB ps = true then (ownU (ps.map Ist.o), 0) else ([], 1)
theorem ownR_ok {ps : List Ist} (h : manB ps = true) : ownR ps = (ownU (ps.map Ist.o), 0) := by unfold ownR; rw [if_pos h]
theorem ownR_no {ps : List Ist} (h : manB ps = false) : ownR ps = ([], 1) := by unfold ownR; rw [if_neg (by rw [h]; exact Bool.false_ne_true)]
theorem ownR_len (ps : List Ist) : (ownR ps).1.length ≤ ps.length := by
  unfold ownR; split
  · have := ownU_len (ps.map Ist.o); simpa using this
  · exact Nat.zero_le _
def codR (ps : List Ist) (o : List UInt8) : List (List UInt8) × Int := if manB ps = true then (codesI (ps.filter fun p => p.o == o), 0) else ([], 1)
theorem codR_ok {ps : List Ist} {o : List UInt8} (h : manB ps = true) : codR ps o = (codesI (ps.filter fun p => p.o == o), 0) := by unfold codR; rw [if_pos h]
theorem codR_no {ps : List Ist} {o : List UInt8} (h : manB ps = false) : codR ps o = ([], 1) := by unfold codR; rw [if_neg (by rw [h]; exact Bool.false_ne_true)]
theorem codesI_len (f : Ist → Bool) (ps : List Ist) : (codesI (ps.filter f)).length ≤ ps.length := by
  unfold codesI; rw [List.length_map]; exact List.length_filter_le _ _
theorem codR_len (ps : List Ist) (o : List UInt8) : (codR ps o).1.length ≤ ps.length := by
  unfold codR; split
  · exact codesI_len _ _
  · exact Nat.zero_le _
theorem codesI_snoc (f : Ist → Bool) (ps : List Ist) (p : Ist) : codesI ((ps ++ [p]).filter f) = codesI (ps.filter f) ++ (if f p = true then [p.c] else []) := by
  unfold codesI; rw [List.filter_append, List.map_append]; by_cases h : f p = true <;> simp [List.filter_cons, h]
theorem cod_cnt (ps : List Ist) (o : List UInt8) : (codesI (ps.filter fun p => p.o == o)).length = cntU (ps.map Ist.o) o := by
  unfold codesI cntU
  rw [List.length_map, List.filter_map, List.length_map]
  rfl
end Go.Proofs.Ytjcklmhgjdmjoaa
