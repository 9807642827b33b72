/- First matches and chains in plain lists; what DoesMatch, FindClause, FirstMatch, IsReachable give. -/
import Derived.Test.YtjcklmhgjdmjoaaClr
import Derived.Test.YtjcklmhgjdmjoaaEvl
namespace Go.Proofs.Ytjcklmhgjdmjoaa
set_option linter.unusedVariables false

theorem end_match {p : Cls} (h : endB p = true) (e : Evt) : matchB p e = true := by
  unfold endB at h
  simp only [Bool.and_eq_true, beq_iff_eq] at h
  unfold matchB meetB
  simp [h.1, h.2.1, h.2.2.1, h.2.2.2.1]
/-- The first match from k on. -/
def firstC (ps : List Cls) (k : Nat) (e : Evt) : Nat := k + (ps.drop k).findIdx (fun p => matchB p e)
theorem first_here {ps : List Cls} {k : Nat} {p : Cls} {e : Evt} (hp : ps[k]? = some p) (h : matchB p e = true) : firstC ps k e = k := by
  unfold firstC
  rw [drop_of hp, List.findIdx_cons]; simp [h]
theorem first_next {ps : List Cls} {k : Nat} {p : Cls} {e : Evt} (hp : ps[k]? = some p) (h : matchB p e = false) : firstC ps k e = firstC ps (k + 1) e := by
  unfold firstC
  rw [drop_of hp, List.findIdx_cons]; simp [h]; omega
theorem first_ge (ps : List Cls) (k : Nat) (e : Evt) : k ≤ firstC ps k e := by unfold firstC; omega
theorem RB.last {ps : List Cls} (h : RB ps) : ∃ p, ps[ps.length - 1]? = some p ∧ endB p = true := by
  have := h.lo
  have hp : ps[ps.length - 1]? = some (ps[ps.length - 1]'(by omega)) := List.getElem?_eq_getElem (by omega)
  exact ⟨_, hp, h.fin _ hp⟩
theorem RB.more {ps : List Cls} (h : RB ps) {k : Nat} {p : Cls} {e : Evt} (hp : ps[k]? = some p) (hm : matchB p e = false) : k + 1 < ps.length := by
  obtain ⟨q, hq, he⟩ := h.last
  have hk := (List.getElem?_eq_some_iff.1 hp).1
  rcases Nat.lt_or_ge (k + 1) ps.length with h1 | h1
  · exact h1
  · exfalso
    rw [show ps.length - 1 = k by omega, hp] at hq
    obtain rfl := Option.some.inj hq
    rw [end_match he e] at hm; cases hm
theorem first_lt {ps : List Cls} (h : RB ps) (e : Evt) : ∀ (n k : Nat), k < ps.length → ps.length ≤ n + k → firstC ps k e < ps.length
  | 0, k, hk, hn => by omega
  | n + 1, k, hk, hn => by
    have hp : ps[k]? = some ps[k] := List.getElem?_eq_getElem hk
    rcases Bool.eq_false_or_eq_true (matchB ps[k] e) with hm | hm
    · rw [first_here hp hm]; exact hk
    · rw [first_next hp hm]; exact first_lt h e n (k + 1) (h.more hp hm) (by omega)
theorem RB.first {ps : List Cls} (h : RB ps) {k : Nat} (hk : k < ps.length) (e : Evt) : firstC ps k e < ps.length := first_lt h e ps.length k hk (by omega)
/-- The clauses that are taken, from an index on (n: at most so many). -/
def chainC (ps : List Cls) (e : Evt) : Nat → Nat → List Int
  | 0, _ => []
  | n + 1, k => (firstC ps k e : Int) :: (match ps[firstC ps k e]? with
    | some p => if p.e == 3 then chainC ps e n (fndIC ps p.t).toNat else []
    | none => [])
theorem chain_stop {ps : List Cls} {e : Evt} {n k : Nat} {p : Cls} (hp : ps[firstC ps k e]? = some p) (h : (p.e == 3) = false) : chainC ps e (n + 1) k = [(firstC ps k e : Int)] := by
  rw [chainC, hp]; simp [h]
theorem chain_go {ps : List Cls} {e : Evt} {n k : Nat} {p : Cls} (hp : ps[firstC ps k e]? = some p) (h : (p.e == 3) = true) : chainC ps e (n + 1) k = (firstC ps k e : Int) :: chainC ps e n (fndIC ps p.t).toNat := by
  rw [chainC, hp]; simp [h]
def chainL (ps : List Cls) (e : Evt) : List Int := chainC ps e 13 0
theorem chain_len (ps : List Cls) (e : Evt) : ∀ n k, (chainC ps e n k).length ≤ n
  | 0, _ => by simp [chainC]
  | n + 1, k => by
    rw [chainC, List.length_cons]
    split
    · split
      · rename_i p _ _; have := chain_len ps e n (fndIC ps p.t).toNat; omega
      · simp
    · simp
def dmR (p : Cls) (e : Evt) : Bool × Int := if p.ok = true ∧ e.ok = true then (matchB p e, 0) else (false, 1)
theorem dmR_no {p : Cls} {e : Evt} (h : p.ok = false ∨ e.ok = false) : dmR p e = (false, 1) := by
  unfold dmR; rw [if_neg]; rintro ⟨h1, h2⟩; rcases h with h | h <;> simp_all
theorem dmR_ok {p : Cls} {e : Evt} (h : p.ok = true) (h1 : e.ok = true) : dmR p e = (matchB p e, 0) := by unfold dmR; rw [if_pos ⟨h, h1⟩]
def fcR (ps : List Cls) (s : List UInt8) : Int × Int := if rbB ps = true then (if fndIC ps s < 0 then (0, 4) else (fndIC ps s, 0)) else (0, 1)
theorem fcR_no {ps : List Cls} {s : List UInt8} (h : rbB ps = false) : fcR ps s = (0, 1) := by unfold fcR; rw [if_neg (by rw [h]; decide)]
theorem fcR_none {ps : List Cls} {s : List UInt8} (h : rbB ps = true) (h1 : fndIC ps s < 0) : fcR ps s = (0, 4) := by unfold fcR; rw [if_pos h, if_pos h1]
theorem fcR_ok {ps : List Cls} {s : List UInt8} (h : rbB ps = true) (h1 : ¬ fndIC ps s < 0) : fcR ps s = (fndIC ps s, 0) := by unfold fcR; rw [if_pos h, if_neg h1]
def fmR (ps : List Cls) (f : Int) (e : Evt) : Int × Int := if rbB ps = true ∧ e.ok = true then (if 0 ≤ f ∧ f < ps.length then ((firstC ps f.toNat e : Int), 0) else (0, 2)) else (0, 1)
theorem fmR_no {ps : List Cls} {f : Int} {e : Evt} (h : rbB ps = false ∨ e.ok = false) : fmR ps f e = (0, 1) := by
  unfold fmR; rw [if_neg]; rintro ⟨h1, h2⟩; rcases h with h | h <;> simp_all
theorem fmR_range {ps : List Cls} {f : Int} {e : Evt} (h : rbB ps = true) (h1 : e.ok = true) (h2 : ¬(0 ≤ f ∧ f < ps.length)) : fmR ps f e = (0, 2) := by unfold fmR; rw [if_pos ⟨h, h1⟩, if_neg h2]
theorem fmR_ok {ps : List Cls} {k : Nat} {e : Evt} (h : rbB ps = true) (h1 : e.ok = true) (h2 : k < ps.length) : fmR ps (k : Int) e = ((firstC ps k e : Int), 0) := by unfold fmR; rw [if_pos ⟨h, h1⟩, if_pos (by omega)]; simp
/-- The events that IsReachable looks at: a kind, three truths by the bits of a number. -/
def evtC (k m : Nat) : Evt := ⟨0, (k : Int), [], 0, (m : Int) % 2 == 1, (m : Int) / 2 % 2 == 1, (m : Int) / 4 == 1⟩
def hitC (ps : List Cls) (n : Int) (k m : Nat) : Bool := (chainL ps (evtC k m)).contains n
def rowHit (ps : List Cls) (n : Int) (k j : Nat) : Bool := (List.range j).any (hitC ps n k)
def anyHit (ps : List Cls) (n : Int) (k : Nat) : Bool := (List.range k).any (fun i => rowHit ps n i 8)
theorem rowHit_succ (ps : List Cls) (n : Int) (k j : Nat) : rowHit ps n k (j + 1) = (rowHit ps n k j || hitC ps n k j) := by simp [rowHit, List.range_succ]
theorem anyHit_succ (ps : List Cls) (n : Int) (k : Nat) : anyHit ps n (k + 1) = (anyHit ps n k || rowHit ps n k 8) := by simp [anyHit, List.range_succ]
theorem any_hit {ps : List Cls} {n : Int} {k j : Nat} (hk : k < 7) (hj : j < 8) (h : hitC ps n k j = true) : anyHit ps n 7 = true := by
  unfold anyHit rowHit
  rw [List.any_eq_true]
  exact ⟨k, List.mem_range.2 hk, by rw [List.any_eq_true]; exact ⟨j, List.mem_range.2 hj, h⟩⟩
def irR (ps : List Cls) (s : List UInt8) : Bool × Int := if rbB ps = true then (if fndIC ps s < 0 then (false, 4) else (anyHit ps (fndIC ps s) 7, 0)) else (false, 1)
theorem irR_no {ps : List Cls} {s : List UInt8} (h : rbB ps = false) : irR ps s = (false, 1) := by unfold irR; rw [if_neg (by rw [h]; decide)]
theorem irR_none {ps : List Cls} {s : List UInt8} (h : rbB ps = true) (h1 : fndIC ps s < 0) : irR ps s = (false, 4) := by unfold irR; rw [if_pos h, if_pos h1]
theorem irR_ok {ps : List Cls} {s : List UInt8} (h : rbB ps = true) (h1 : ¬ fndIC ps s < 0) : irR ps s = (anyHit ps (fndIC ps s) 7, 0) := by unfold irR; rw [if_pos h, if_neg h1]
end Go.Proofs.Ytjcklmhgjdmjoaa
