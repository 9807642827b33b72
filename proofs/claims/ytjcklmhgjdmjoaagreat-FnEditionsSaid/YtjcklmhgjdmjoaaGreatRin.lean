import Derived.Test.YtjcklmhgjdmjoaaGreatBase
import Derived.RegionTactic
namespace Go.Proofs.YtjcklmhgjdmjoaaGreat
open Go.ChangeShapes Go.WideShapes Go.ChangeAt Go.RowKit
set_option linter.unusedVariables false
def undone (d : Array Bool) : Nat -> Nat
 | 0 => 0
 | n + 1 => undone d n + (if d.getD n true = true then 0 else 1)
theorem undone_zero {d : Array Bool} : ∀ n, undone d n = 0 -> ∀ i, i < n -> d.getD i true = true := by
 intro n
 induction n with
 | zero => intro _ i hi; omega
 | succ n ih =>
  intro h i hi
  unfold undone at h
  by_cases e : i = n
  ·
   subst e
   by_cases hd : d.getD i true = true
   ·
    exact hd
   ·
    rw [if_neg hd] at h; omega
  ·
   exact ih (by omega) i (by omega)
theorem undone_set {d : Array Bool} {i : Nat} (hi : d.getD i true = false) : ∀ n, (i < n -> undone (d.setIfInBounds i true) n + 1 = undone d n) /\ (n <= i -> undone (d.setIfInBounds i true) n = undone d n) := by
 have hsz : i < d.size := by
  rcases Nat.lt_or_ge i d.size with h | h
  ·
   exact h
  ·
   simp [Array.getElem?_eq_none h] at hi
 intro n
 induction n with
 | zero => exact ⟨fun h => by omega, fun _ => rfl⟩
 | succ n ih =>
  by_cases e : i = n
  ·
   subst e
   have h1 := ih.2 (Nat.le_refl _)
   refine ⟨fun _ => ?_, fun h => by omega⟩
   unfold undone
   rw [h1, if_pos (by simp [hsz]), if_neg (by rw [hi]; exact Bool.false_ne_true)]
  ·
   have hne : (d.setIfInBounds i true).getD n true = d.getD n true := getD_set_ne true e
   unfold undone
   rw [hne]
   exact ⟨fun h => by have := ih.1 (by omega); omega, fun h => by rw [ih.2 (by omega)]⟩
section
variable {P : Program} {ops : Array Oper} {Q : Exit -> Act -> World -> Prop}
theorem any_inv (Inv : Array Bool -> Act -> World -> Prop)
  (hstep : ∀ i d a w, i ∈ Region.ready .any ops d -> Inv d a w -> wpOp P ops Q i (fun a' w' => Inv (d.setIfInBounds i true) a' w') a w)
  (hend : ∀ d a w, Inv d a w -> Region.ready .any ops d = [] -> Q .normal a w) : ∀ (fuel : Nat) (d : Array Bool) (a : Act) (w : World), undone d ops.size <= fuel -> Inv d a w -> wpAny P .any ops Q fuel d a w := by
 intro fuel
 induction fuel with
 | zero =>
  intro d a w hf hI
  have hr : Region.ready .any ops d = [] := by
   cases h : Region.ready .any ops d with
   | nil => rfl
   | cons i rest =>
    have hi : i ∈ Region.ready .any ops d := by rw [h]; simp
    obtain ⟨hun, oi, hoi, _⟩ := mem_ready.1 hi
    have := undone_zero _ (Nat.le_zero.1 hf) i (Array.getElem?_eq_some_iff.1 hoi).1
    rw [this] at hun; cases hun
  exact ⟨hr, hend d a w hI hr⟩
 | succ fuel ih =>
  intro d a w hf hI
  refine ⟨fun hr => hend d a w hI hr, fun i hi => ?_⟩
  obtain ⟨hun, oi, hoi, _⟩ := mem_ready.1 hi
  have hlt := (undone_set hun ops.size).1 (Array.getElem?_eq_some_iff.1 hoi).1
  exact wpOp_mono (fun a' w' h => ih _ a' w' (by omega) h) (hstep i d a w hi hI)
theorem undone_le (d : Array Bool) : ∀ n, undone d n <= n := by
 intro n
 induction n with
 | zero => exact Nat.le_refl _
 | succ n ih => unfold undone; split <;> omega
def backB (ops : Array Oper) : Bool := (List.range ops.size).all fun i => match ops[i]? with | some o => o.after.all (fun e => decide (e.on < i)) | none => true
theorem ready_nil {d : Array Bool} (hb : backB ops = true) (hsz : d.size = ops.size) (hr : Region.ready .any ops d = []) : ∀ i, i < ops.size -> d.getD i true = true := by
 intro i
 induction i using Nat.strongRecOn with
 | _ i ih =>
  intro hi
  cases hd : d.getD i true with
  | true => rfl
  | false =>
   exfalso
   have hoi : ops[i]? = some ops[i] := Array.getElem?_eq_getElem hi
   have : i ∈ Region.ready .any ops d := by
    refine mem_ready.2 ⟨hd, _, hoi, fun e he _ => ?_⟩
    have h1 := List.all_eq_true.1 hb i (List.mem_range.2 hi)
    simp only [hoi] at h1
    have h2 : e.on < i := by
     have := Array.all_eq_true'.1 h1 e he
     simpa using this
    have h3 := ih e.on h2 (by omega)
    have hlt : e.on < d.size := by omega
    simp [hlt] at h3 ⊢
    exact h3
   rw [hr] at this; cases this
theorem region_inv {id : Nat} {a : Act} {w : World} (hm : P.follows .mixedOrders = true) (hb : backB ops = true) (Inv : Array Bool -> Act -> World -> Prop) (h0 : Inv (Array.replicate ops.size false) a w.drew)
  (hstep : ∀ i d a w, i ∈ Region.ready .any ops d -> Inv d a w -> wpOp P ops Q i (fun a' w' => Inv (d.setIfInBounds i true) a' w') a w)
  (hend : ∀ d a w, d.size = ops.size -> (∀ i, i < ops.size -> d.getD i true = true) -> Inv d a w -> Q .normal a w) : (Code.region id ops true).wp P Q a w :=
 wp_region_any hm (any_inv (fun d a w => d.size = ops.size /\ Inv d a w)
  (fun i d a w hi hI => wpOp_mono (fun a' w' h => ⟨by rw [Array.size_setIfInBounds]; exact hI.1, h⟩) (hstep i d a w hi hI.2))
  (fun d a w hI hr => hend d a w hI.1 (ready_nil hb hI.1 hr) hI.2) _ _ a w.drew (undone_le _ _) ⟨by simp, h0⟩)
theorem getD_ft {d : Array Bool} {k : Nat} (h : d.getD k false = true) : d.getD k true = true := by
 rcases Nat.lt_or_ge k d.size with hk | hk
 ·
  simp [hk] at h ⊢; exact h
 ·
  simp [Array.getElem?_eq_none hk] at h
end
end Go.Proofs.YtjcklmhgjdmjoaaGreat
