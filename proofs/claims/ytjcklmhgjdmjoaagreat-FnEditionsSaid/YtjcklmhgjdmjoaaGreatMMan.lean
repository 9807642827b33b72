import Derived.Test.YtjcklmhgjdmjoaaGreatMIst
import Derived.Test.YtjcklmhgjdmjoaaGreatMCode
import Derived.Test.YtjcklmhgjdmjoaaGreatInts
import Derived.Test.YtjcklmhgjdmjoaaGreatMRate
import Derived.Lib.SlicesCompact
namespace Go.Proofs.YtjcklmhgjdmjoaaGreat
open Go.ChangeShapes Go.WideShapes Go.ChangeAt Go.RowKit
set_option linter.unusedVariables false
def Ist.ok (p : Ist) : Bool := pcode p.c && (pcode p.o && (inr p.k 0 3 && (amt p.v && (inr p.a 0 60 && (p.k == 0 || p.a == 0)))))
def cntK (k : Int) (ps : List Ist) : Nat := (ps.filter (fun p => p.k == k)).length
theorem cntK_le (k : Int) (ps : List Ist) : cntK k ps <= ps.length := List.length_filter_le _ _
structure ITbl (w : World) (A : Option Addr) (ps : List Ist) : Prop where
 row : IstR w A ps
 txt : ∀ p ∈ ps, p.sz <= 1048600
 len : ps.length <= 1048576
theorem ITbl.below {w w' : World} {A : Option Addr} {ps : List Ist} (h : ITbl w A ps) (hb : Below w.heap.size w w') : ITbl w' A ps := ⟨h.row.below hb, h.txt, h.len⟩
end Go.Proofs.YtjcklmhgjdmjoaaGreat

namespace Go.Proofs.YtjcklmhgjdmjoaaGreat
open Go.ChangeShapes Go.WideShapes Go.ChangeAt Go.RowKit
set_option linter.unusedVariables false
end Go.Proofs.YtjcklmhgjdmjoaaGreat

namespace Go.Proofs.YtjcklmhgjdmjoaaGreat
set_option linter.unusedVariables false
def StrictL (l : List (List UInt8)) : Prop := l.Pairwise (fun x y => Op.bytesLess x y = true)
theorem strict_eq : ∀ {l m : List (List UInt8)}, StrictL l -> StrictL m -> (∀ x, x ∈ l ↔ x ∈ m) -> l = m
 | [], [], _, _, _ => rfl
 | [], b :: m, _, _, h => absurd ((h b).2 (List.mem_cons_self ..)) (by simp)
 | a :: l, [], _, _, h => absurd ((h a).1 (List.mem_cons_self ..)) (by simp)
 | a :: l, b :: m, h1, h2, h => by
  have g1 := List.pairwise_cons.1 h1
  have g2 := List.pairwise_cons.1 h2
  have hab : a = b := by
   rcases List.mem_cons.1 ((h a).1 (List.mem_cons_self ..)) with e | e
   ·
    exact e
   ·
    rcases List.mem_cons.1 ((h b).2 (List.mem_cons_self ..)) with e2 | e2
    ·
     exact e2.symm
    ·
     have := less_asym (g2.1 a e); rw [g1.1 b e2] at this; cases this
  subst hab
  have e : l = m := strict_eq g1.2 g2.2 fun x => by
   constructor
   ·
    intro hx
    rcases List.mem_cons.1 ((h x).1 (List.mem_cons_of_mem _ hx)) with e | e
    ·
     have := g1.1 x hx; rw [e, less_irr] at this; cases this
    ·
     exact e
   ·
    intro hx
    rcases List.mem_cons.1 ((h x).2 (List.mem_cons_of_mem _ hx)) with e | e
    ·
     have := g2.1 x hx; rw [e, less_irr] at this; cases this
    ·
     exact e
  rw [e]
theorem strict_at {l : List (List UInt8)} (h : StrictL l) {i j : Nat} {x y : List UInt8} (hij : i < j) (hx : l[i]? = some x) (hy : l[j]? = some y) : Op.bytesLess x y = true := by
 obtain ⟨hi, e1⟩ := List.getElem?_eq_some_iff.1 hx
 obtain ⟨hj, e2⟩ := List.getElem?_eq_some_iff.1 hy
 have := List.pairwise_iff_getElem.1 h i j hi hj hij
 rwa [e1, e2] at this
def plcU (ws : List (List UInt8)) (s : List UInt8) : Nat := ws.findIdx (fun q => !(Op.bytesLess q s))
theorem plcU_le (ws : List (List UInt8)) (s : List UInt8) : plcU ws s <= ws.length := List.findIdx_le_length
theorem plcU_less {ws : List (List UInt8)} {s q : List UInt8} {i : Nat} (hi : i < plcU ws s) (hq : ws[i]? = some q) : Op.bytesLess q s = true := by
 obtain ⟨h, e⟩ := List.getElem?_eq_some_iff.1 hq
 have := List.not_of_lt_findIdx hi
 rw [e] at this
 simpa using this
theorem plcU_not {ws : List (List UInt8)} {s q : List UInt8} (hq : ws[plcU ws s]? = some q) : Op.bytesLess q s = false := by
 obtain ⟨hl, e⟩ := List.getElem?_eq_some_iff.1 hq
 have h1 := List.findIdx_getElem (p := fun q : List UInt8 => !(Op.bytesLess q s)) (w := hl)
 have h2 : (!(Op.bytesLess (ws[plcU ws s]'hl) s)) = true := h1
 rw [e] at h2
 simpa using h2
theorem plcU_eq {ws : List (List UInt8)} {s : List UInt8} {p : Nat} (hp : p <= ws.length) (h1 : ∀ (i : Nat) (q : List UInt8), i < p -> ws[i]? = some q -> Op.bytesLess q s = true) (h2 : ∀ (q : List UInt8), ws[p]? = some q -> Op.bytesLess q s = false) : plcU ws s = p := by
 unfold plcU
 rcases Nat.lt_or_ge p ws.length with hlt | hge
 ·
  rw [List.findIdx_eq hlt]
  refine ⟨by rw [h2 _ (List.getElem?_eq_getElem hlt)]; rfl, fun j hj => ?_⟩
  rw [h1 j _ hj (List.getElem?_eq_getElem (by omega))]; rfl
 ·
  obtain rfl : p = ws.length := by omega
  rw [List.findIdx_eq_length]
  intro x hx
  obtain ⟨j, hj⟩ := List.getElem?_of_mem hx
  rw [h1 j x (List.getElem?_eq_some_iff.1 hj).1 hj]; rfl
def insU (ws : List (List UInt8)) (s : List UInt8) : List (List UInt8) := if ws[plcU ws s]? = some s then ws else ws.take (plcU ws s) ++ [s] ++ ws.drop (plcU ws s)
theorem insU_len (ws : List (List UInt8)) (s : List UInt8) : (insU ws s).length <= ws.length + 1 := by
 have := plcU_le ws s
 unfold insU; split
 ·
  omega
 ·
  simp only [List.length_append, List.length_take, List.length_drop, List.length_cons, List.length_nil]; omega
theorem insU_mem (ws : List (List UInt8)) (s x : List UInt8) : x ∈ insU ws s ↔ x = s ∨ x ∈ ws := by
 unfold insU; split
 ·
  rename_i h
  constructor
  ·
   exact .inr
  ·
   rintro (rfl | h2)
   ·
    exact List.mem_of_getElem? h
   ·
    exact h2
 ·
  have e : ws = ws.take (plcU ws s) ++ ws.drop (plcU ws s) := (List.take_append_drop _ _).symm
  constructor
  ·
   intro h
   simp only [List.mem_append, List.mem_singleton] at h
   rcases h with (h | h) | h
   ·
    exact .inr (List.mem_of_mem_take h)
   ·
    exact .inl h
   ·
    exact .inr (List.mem_of_mem_drop h)
  ·
   rintro (rfl | h2)
   ·
    simp
   ·
    rw [e] at h2
    simp only [List.mem_append, List.mem_singleton] at h2 ⊢
    rcases h2 with h2 | h2
    ·
     exact .inl (.inl h2)
    ·
     exact .inr h2
theorem insU_strict {ws : List (List UInt8)} {s : List UInt8} (h : StrictL ws) : StrictL (insU ws s) := by
 unfold insU; split
 ·
  exact h
 ·
  rename_i hne
  have k1 : ∀ q ∈ ws.take (plcU ws s), Op.bytesLess q s = true := fun q hq => by
   obtain ⟨j, hj⟩ := List.getElem?_of_mem hq
   rw [List.getElem?_take] at hj
   split at hj
   ·
    rename_i hlt; exact plcU_less hlt hj
   ·
    cases hj
  have k2 : ∀ q ∈ ws.drop (plcU ws s), Op.bytesLess s q = true := fun q hq => by
   obtain ⟨j, hj⟩ := List.getElem?_of_mem hq
   rw [List.getElem?_drop] at hj
   have hlt : plcU ws s < ws.length := by have := (List.getElem?_eq_some_iff.1 hj).1; omega
   obtain ⟨q0, hq0⟩ : ∃ q0, ws[plcU ws s]? = some q0 := ⟨_, List.getElem?_eq_getElem hlt⟩
   have h0 : Op.bytesLess s q0 = true := by
    cases hb : Op.bytesLess s q0 with
    | true => rfl
    | false => exact absurd hq0 (by rw [less_tot (plcU_not hq0) hb]; exact hne)
   cases j with
   | zero => rw [Nat.add_zero, hq0] at hj; rw [<- Option.some.inj hj]; exact h0
   | succ j => exact less_trans h0 (strict_at h (by omega) hq0 hj)
  unfold StrictL
  rw [List.pairwise_append, List.pairwise_append]
  refine ⟨⟨h.sublist (List.take_sublist _ _), List.pairwise_singleton _ _, fun x hx y hy => ?_⟩, h.sublist (List.drop_sublist _ _), fun x hx y hy => ?_⟩
  ·
   rw [List.mem_singleton.1 hy]; exact k1 x hx
  ·
   rcases List.mem_append.1 hx with hx | hx
   ·
    exact less_trans (k1 x hx) (k2 y hy)
   ·
    rw [List.mem_singleton.1 hx]; exact k2 y hy
def ownU (l : List (List UInt8)) : List (List UInt8) := l.foldl insU []
theorem ownU_snoc (l : List (List UInt8)) (s : List UInt8) : ownU (l ++ [s]) = insU (ownU l) s := by unfold ownU; rw [List.foldl_append]; rfl
theorem ownU_facts : ∀ (n : Nat) (l : List (List UInt8)), n <= l.length -> StrictL (ownU (l.take n)) /\ (∀ x, x ∈ ownU (l.take n) ↔ x ∈ l.take n) /\ (ownU (l.take n)).length <= n
 | 0, l, _ => by simp [ownU, StrictL]
 | n + 1, l, h => by
  obtain ⟨h1, h2, h3⟩ := ownU_facts n l (by omega)
  obtain ⟨s, hs⟩ : ∃ s, l[n]? = some s := ⟨_, List.getElem?_eq_getElem (by omega)⟩
  rw [snoc_of hs, ownU_snoc]
  refine ⟨insU_strict h1, fun x => ?_, ?_⟩
  ·
   rw [insU_mem, h2, List.mem_append, List.mem_singleton]; exact Or.comm
  ·
   have := insU_len (ownU (l.take n)) s; omega
theorem ownU_strict (l : List (List UInt8)) : StrictL (ownU l) := by
 have := (ownU_facts l.length l (Nat.le_refl _)).1; rwa [List.take_length] at this
theorem ownU_mem (l : List (List UInt8)) (x : List UInt8) : x ∈ ownU l ↔ x ∈ l := by
 have := (ownU_facts l.length l (Nat.le_refl _)).2.1; rw [List.take_length] at this; exact this x
theorem ownU_len (l : List (List UInt8)) : (ownU l).length <= l.length := by
 have := (ownU_facts l.length l (Nat.le_refl _)).2.2; rwa [List.take_length] at this
theorem arr_at {α : Type} [Inhabited α] {zs : List α} {k : Nat} {x : α} (h : zs[k]? = some x) : zs.toArray[k]! = x := by
 obtain ⟨hk, e⟩ := List.getElem?_eq_some_iff.1 h
 simp [hk, e]
theorem compact_facts {zs : List (List UInt8)} (h : zs.Pairwise (fun x y => Op.bytesLess y x = false)) : ∀ k, k <= zs.length -> StrictL (Lib.compactUpTo zs.toArray k) /\ (∀ x, x ∈ Lib.compactUpTo zs.toArray k ↔ x ∈ zs.take k)
 | 0, _ => by simp [Lib.compactUpTo, StrictL]
 | k + 1, hk => by
  obtain ⟨h1, h2⟩ := compact_facts h k (by omega)
  obtain ⟨z, hz⟩ : ∃ z, zs[k]? = some z := ⟨_, List.getElem?_eq_getElem (by omega)⟩
  have hle : ∀ (i j : Nat) (x y : List UInt8), i < j -> zs[i]? = some x -> zs[j]? = some y -> Op.bytesLess y x = false := fun i j x y hij hx hy => by
   obtain ⟨hi, e1⟩ := List.getElem?_eq_some_iff.1 hx
   obtain ⟨hj, e2⟩ := List.getElem?_eq_some_iff.1 hy
   have := List.pairwise_iff_getElem.1 h i j hi hj hij
   rwa [e1, e2] at this
  rw [Lib.compactUpTo_succ, arr_at hz, snoc_of hz]
  rcases Nat.eq_zero_or_pos k with rfl | hk0
  ·
   have e : Lib.keeps zs.toArray 0 = true := by simp [Lib.keeps]
   rw [e]
   simp [Lib.compactUpTo, StrictL]
  ·
   obtain ⟨q, hq⟩ : ∃ q, zs[k - 1]? = some q := ⟨_, List.getElem?_eq_getElem (by omega)⟩
   by_cases e : z = q
   ·
    rw [Lib.keeps_neg hk0 (by rw [arr_at hz, arr_at hq]; exact e)]
    simp only [Bool.false_eq_true, if_false, List.append_nil]
    refine ⟨h1, fun x => ?_⟩
    rw [h2, List.mem_append, List.mem_singleton]
    constructor
    ·
     exact .inl
    ·
     rintro (h3 | rfl)
     ·
      exact h3
     ·
      rw [e]
      exact List.mem_of_getElem? (i := k - 1) (by rw [List.getElem?_take, if_pos (by omega)]; exact hq)
   ·
    rw [Lib.keeps_pos (by rw [arr_at hz, arr_at hq]; exact e)]
    simp only [if_true]
    refine ⟨?_, fun x => ?_⟩
    ·
     unfold StrictL
     rw [List.pairwise_append]
     refine ⟨h1, List.pairwise_singleton _ _, fun x hx y hy => ?_⟩
     rw [List.mem_singleton.1 hy]
     obtain ⟨j, hj⟩ := List.getElem?_of_mem ((h2 x).1 hx)
     rw [List.getElem?_take] at hj
     split at hj
     ·
      rename_i hjk
      cases hb : Op.bytesLess x z with
      | true => rfl
      | false =>
       exfalso
       have exz : x = z := less_tot hb (hle j k x z hjk hj hz)
       rcases Nat.lt_or_ge j (k - 1) with h4 | h4
       ·
        have a1 := hle j (k - 1) x q h4 hj hq
        have a2 := hle (k - 1) k q z (by omega) hq hz
        rw [exz] at a1
        exact e (less_tot a2 a1)
       ·
        obtain rfl : j = k - 1 := by omega
        rw [hq] at hj
        exact e (exz.symm.trans (Option.some.inj hj).symm)
     ·
      cases hj
    ·
     rw [List.mem_append, h2, List.mem_append]
theorem le_not (x y : List UInt8) : decide (x <= y) = !(Op.bytesLess y x) := by
 rw [bytesLess_eq]
 rcases Bool.eq_false_or_eq_true (decide (y < x)) with h | h
 ·
  have h2 : y < x := by simpa using h
  rw [h]; simpa [List.not_le] using h2
 ·
  have h2 : ¬ y < x := by simpa using h
  rw [h]; simpa [List.not_lt] using h2
theorem compact_sort (l : List (List UInt8)) : Lib.compact (l.mergeSort fun x y => decide (x <= y)) = ownU l := by
 have hp : (l.mergeSort fun x y => decide (x <= y)).Pairwise (fun x y => Op.bytesLess y x = false) := by
  have h0 := List.pairwise_mergeSort (le := fun x y : List UInt8 => decide (x <= y))
   (fun a b c h1 h2 => by
    simp only [le_not, Bool.not_eq_true'] at h1 h2 ⊢
    cases hb : Op.bytesLess c a with
    | false => rfl
    | true =>
     cases hc : Op.bytesLess a b with
     | true => have := less_trans hb hc; rw [h2] at this; cases this
     | false => have e := less_tot hc h1; rw [e] at hb; rw [h2] at hb; cases hb)
   (fun a b => by
    simp only [le_not]
    cases hb : Op.bytesLess b a with
    | false => rfl
    | true => rw [less_asym hb]; rfl) l
  exact h0.imp fun {a b} h => by simpa only [le_not, Bool.not_eq_true'] using h
 obtain ⟨h1, h2⟩ := compact_facts hp _ (Nat.le_refl _)
 refine strict_eq h1 (ownU_strict l) fun x => ?_
 have := h2 x
 rw [List.take_length] at this
 rw [Lib.compact, this, ownU_mem, List.mem_mergeSort]
end Go.Proofs.YtjcklmhgjdmjoaaGreat

namespace Go.Proofs.YtjcklmhgjdmjoaaGreat
open Go.ChangeShapes Go.WideShapes Go.ChangeAt Go.RowKit
set_option linter.unusedVariables false
end Go.Proofs.YtjcklmhgjdmjoaaGreat

