/- Voyages in plain lists; one stop by itself. -/
import Derived.Test.YtklhcofonkmiiaaStof
import Derived.Test.YtklhcofonkmiiaaPcode
import Derived.Test.YtklhcofonkmiiaaArd
namespace Go.Proofs.Ytklhcofonkmiiaa
open Go.ChangeShapes Go.WideShapes Go.ChangeAt Go.RowKit
set_option linter.unusedVariables false

/-- A stop is as described. -/
def Sto.ok (r : Sto) : Bool := pcode r.p && (inr r.i 0 36524 && (inr r.o 0 36524 && decide (r.i ≤ r.o)))
theorem sok {r : Sto} (h : r.ok = true) : pcode r.p = true ∧ (0 ≤ r.i ∧ r.i ≤ 36524) ∧ (0 ≤ r.o ∧ r.o ≤ 36524) ∧ r.i ≤ r.o := by
  unfold Sto.ok at h
  simp only [Bool.and_eq_true, decide_eq_true_eq, inr_iff] at h
  exact h
def vAt (rs : List Sto) (i : Nat) : Bool :=
  match rs[i]? with
  | none => true
  | some r => r.ok && (match i with | 0 => true | j + 1 => match rs[j]? with | none => true | some q => decide (q.o < r.i))
def vTo (rs : List Sto) (k : Nat) : Bool := (List.range k).all (vAt rs)
theorem vTo_succ (rs : List Sto) (k : Nat) : vTo rs (k + 1) = (vTo rs k && vAt rs k) := by simp [vTo, List.range_succ]
theorem vTo_no {rs : List Sto} {k n : Nat} (h : vAt rs k = false) (hk : k < n) : vTo rs n = false := by
  unfold vTo; rw [List.all_eq_false]; exact ⟨k, by simpa using hk, by simp [h]⟩
theorem vTo_at {rs : List Sto} {k n : Nat} (h : vTo rs n = true) (hk : k < n) : vAt rs k = true := by
  unfold vTo at h; rw [List.all_eq_true] at h; exact h k (by simpa using hk)
/-- A voyage. -/
def voyB (rs : List Sto) : Bool := vTo rs rs.length && inr (rs.length : Nat) 1 10
theorem vAt_0 {rs : List Sto} {r : Sto} (h : rs[0]? = some r) : vAt rs 0 = r.ok := by unfold vAt; simp [h]
theorem vAt_s {rs : List Sto} {k : Nat} {q r : Sto} (h : rs[k + 1]? = some r) (hq : rs[k]? = some q) : vAt rs (k + 1) = (r.ok && decide (q.o < r.i)) := by unfold vAt; simp [h, hq]
theorem vAt_no {rs : List Sto} {k : Nat} {r : Sto} (h : rs[k]? = some r) (hr : r.ok = false) : vAt rs k = false := by unfold vAt; simp [h, hr]
theorem voy_no {rs : List Sto} {k : Nat} (hk : k < rs.length) (h : vAt rs k = false) : voyB rs = false := by unfold voyB; rw [vTo_no h hk, Bool.false_and]
theorem voy_long {rs : List Sto} (h : 10 < rs.length) : voyB rs = false := by
  unfold voyB; rw [Bool.and_eq_false_iff]; right; rw [inr_no]; omega
theorem voy_nil {rs : List Sto} (h : rs.length = 0) : voyB rs = false := by
  unfold voyB; rw [Bool.and_eq_false_iff]; right; rw [inr_no]; omega
theorem voy_iff {rs : List Sto} : voyB rs = true ↔ vTo rs rs.length = true ∧ 1 ≤ rs.length ∧ rs.length ≤ 10 := by
  unfold voyB; rw [Bool.and_eq_true, inr_iff]
  exact ⟨fun ⟨h, h1, h2⟩ => ⟨h, by omega, by omega⟩, fun ⟨h, h1, h2⟩ => ⟨h, by omega, by omega⟩⟩
theorem voy_all {rs : List Sto} (h : vTo rs rs.length = true) : voyB rs = inr (rs.length : Nat) 1 10 := by unfold voyB; rw [h, Bool.true_and]
theorem vok {rs : List Sto} (h : vTo rs rs.length = true) {k : Nat} {r : Sto} (hr : rs[k]? = some r) : r.ok = true := by
  have := vTo_at h (List.getElem?_eq_some_iff.1 hr).1
  unfold vAt at this
  rw [hr] at this
  simp only [Bool.and_eq_true] at this
  exact this.1
theorem voy_ok {rs : List Sto} (h : voyB rs = true) {k : Nat} {r : Sto} (hr : rs[k]? = some r) : pcode r.p = true ∧ (0 ≤ r.i ∧ r.i ≤ 36524) ∧ (0 ≤ r.o ∧ r.o ≤ 36524) ∧ r.i ≤ r.o := sok (vok (voy_iff.1 h).1 hr)
theorem voy_lt {rs : List Sto} (h : voyB rs = true) {k : Nat} {q r : Sto} (hq : rs[k]? = some q) (hr : rs[k + 1]? = some r) : q.o < r.i := by
  have := vTo_at (voy_iff.1 h).1 (List.getElem?_eq_some_iff.1 hr).1
  rw [vAt_s hr hq, Bool.and_eq_true, decide_eq_true_eq] at this
  exact this.2
theorem voy_before {rs : List Sto} (h : voyB rs = true) : ∀ {i j : Nat} {q r : Sto}, i < j → rs[i]? = some q → rs[j]? = some r → q.o < r.i := by
  intro i j
  induction j with
  | zero => intro q r hij; omega
  | succ j ih =>
    intro q r hij hq hr
    rcases Nat.lt_or_ge i j with h1 | h1
    · have hj : j < rs.length := by have := (List.getElem?_eq_some_iff.1 hr).1; omega
      have hs := List.getElem?_eq_getElem hj
      have a := ih h1 hq hs
      have b := (voy_ok h hs).2.2.2
      have c := voy_lt h hs hr
      omega
    · obtain rfl : i = j := by omega
      exact voy_lt h hq hr
/-- What makes a list a voyage, read off its elements. -/
theorem vTo_iff {rs : List Sto} : vTo rs rs.length = true ↔ (∀ (k : Nat) (r : Sto), rs[k]? = some r → r.ok = true) ∧ ∀ (k : Nat) (q r : Sto), rs[k]? = some q → rs[k + 1]? = some r → q.o < r.i := by
  constructor
  · intro h
    refine ⟨fun k r hr => vok h hr, fun k q r hq hr => ?_⟩
    have := vTo_at h (List.getElem?_eq_some_iff.1 hr).1
    rw [vAt_s hr hq, Bool.and_eq_true, decide_eq_true_eq] at this
    exact this.2
  · rintro ⟨h1, h2⟩
    unfold vTo
    rw [List.all_eq_true]
    intro k hk
    have hk : k < rs.length := by simpa using hk
    have hr := List.getElem?_eq_getElem hk
    cases k with
    | zero => rw [vAt_0 hr]; exact h1 _ _ hr
    | succ j =>
      have hq : rs[j]? = some rs[j] := List.getElem?_eq_getElem (by omega)
      rw [vAt_s hr hq, h1 _ _ hr, Bool.true_and, decide_eq_true_eq]
      exact h2 j _ _ hq hr
/-- The ways through the conditions on a stop. -/
inductive VWay (r : Sto) : Bool → Prop where
  | code (h : pcode r.p = false) : VWay r false
  | inn (h : pcode r.p = true) (h1 : inr r.i 0 36524 = false) (h2 : daysB [r.i, r.o] = false) : VWay r false
  | out (h : pcode r.p = true) (h1 : inr r.i 0 36524 = true) (h2 : daysB [r.i, r.o] = false) (h3 : inr r.o 0 36524 = false) : VWay r false
  | ord (h : pcode r.p = true) (h1 : inr r.i 0 36524 = true) (h2 : daysB [r.i, r.o] = true) (h3 : inr r.o 0 36524 = true) (h4 : r.o < r.i) : VWay r false
  | ok (h : pcode r.p = true) (h1 : inr r.i 0 36524 = true) (h2 : daysB [r.i, r.o] = true) (h3 : inr r.o 0 36524 = true) (h4 : r.i ≤ r.o) : VWay r true
theorem vway (r : Sto) : VWay r r.ok := by
  have e : r.ok = (pcode r.p && (inr r.i 0 36524 && (inr r.o 0 36524 && decide (r.i ≤ r.o)))) := rfl
  rw [e]
  have D := daysB_2 r.i r.o
  rcases Bool.eq_false_or_eq_true (pcode r.p) with h | h
  · rcases Bool.eq_false_or_eq_true (inr r.i 0 36524) with h1 | h1
    · rcases Bool.eq_false_or_eq_true (inr r.o 0 36524) with h3 | h3
      · rw [h1, h3] at D
        by_cases h4 : r.i ≤ r.o
        · rw [h, h1, h3, decide_eq_true h4]; exact .ok h h1 D h3 h4
        · rw [h, h1, h3, decide_eq_false h4]; exact .ord h h1 D h3 (by omega)
      · rw [h1, h3] at D
        rw [h, h1, h3]; exact .out h h1 D h3
    · rw [h1] at D
      rw [h, h1]; exact .inn h h1 D
  · rw [h]; exact .code h
/-- A box of a stop stands as it was laid; nothing below is written. -/
structure KeepV (w0 : World) (p : Sto) (W : World) : Prop where
  a : W.heap[w0.heap.size]? = some (.cells #[.string ⟨p.p.toArray⟩, .int .i64 p.i, .int .i64 p.o] 35 (0, 0))
  bel : Below w0.heap.size w0 W
theorem KeepV.step {w0 W w' : World} {p : Sto} (k : KeepV w0 p W) (b : Below W.heap.size W w') : KeepV w0 p w' := ⟨(b.block _ (lt_some k.a)).trans k.a, belowGo k.bel b⟩
theorem KeepV.drew {w0 W : World} {p : Sto} (k : KeepV w0 p W) : KeepV w0 p W.drew := ⟨k.a, k.bel.drew⟩
theorem KeepV.new (w : World) (p : Sto) : KeepV w p (w.alloc (.cells #[.string ⟨p.p.toArray⟩, .int .i64 p.i, .int .i64 p.o] 35)) := ⟨heap_alloc_new _ _, (Below.refl _ _).alloc (Nat.le_refl _) _⟩
theorem KeepV.cells {w0 W : World} {p : Sto} (k : KeepV w0 p W) : StoC W w0.heap.size 0 p :=
  ⟨by rw [cell_of_row _ _ _ _ _ _ k.a]; rfl, by rw [cell_of_row _ _ _ _ _ _ k.a]; rfl, by rw [cell_of_row _ _ _ _ _ _ k.a]; rfl⟩
theorem pcodeI_qV {s : List UInt8} {b : Bool} (h : pcode s = b) (hl : s.length ≤ 9223372036854775807) (w : World) : Calls Try.prog 65 #[.string ⟨s.toArray⟩] w fun e w' => e = .returned (.bool b) ∧ w = w' :=
  (isPcode_i s w hl).mono fun e w' k => ⟨by rw [← h]; exact k.1, k.2⟩
theorem pcodeS_qV {s : List UInt8} {b : Bool} (h : pcode s = b) (hl : s.length ≤ 9223372036854775807) (w : World) : Calls Try.prog 55 #[.string ⟨s.toArray⟩] w fun e w' => e = .returned (.bool b) ∧ w = w' :=
  (isPcode_s s w hl).mono fun e w' k => ⟨by rw [← h]; exact k.1, k.2⟩
/-- Stops that a function takes: their texts are short. -/
structure VTbl (w : World) (A : Option Addr) (ps : List Sto) : Prop where
  row : StoR w A ps
  txt : ∀ p ∈ ps, p.sz ≤ 1048600
  len : ps.length ≤ 1048590
theorem VTbl.below {w w' : World} {A : Option Addr} {ps : List Sto} (h : VTbl w A ps) (hb : Below w.heap.size w w') : VTbl w' A ps := ⟨h.row.below hb, h.txt, h.len⟩
/-- With its capacity. -/
structure VTblC (w : World) (A : Option Addr) (c : Nat) (ps : List Sto) : Prop where
  tbl : VTbl w A ps
  cap : ps.length ≤ c
theorem VTblC.row {w : World} {A : Option Addr} {c : Nat} {ps : List Sto} (h : VTblC w A c ps) : StoR w A ps := h.tbl.row
theorem VTblC.len {w : World} {A : Option Addr} {c : Nat} {ps : List Sto} (h : VTblC w A c ps) : ps.length ≤ 1048590 := h.tbl.len
theorem VTblC.below {w w' : World} {A : Option Addr} {c : Nat} {ps : List Sto} (h : VTblC w A c ps) (hb : Below w.heap.size w w') : VTblC w' A c ps := ⟨h.tbl.below hb, h.cap⟩
theorem sto_cap {w : World} {base : Nat} {A : Option Addr} {n c : Nat} {ps : List Sto} (h : StoO w base A n c ps) : n ≤ c := by
  rcases h.2 with ⟨e, e2⟩ | ⟨g, cap, cur, e, _, _, hle, _⟩
  · have := h.1; injection e; omega
  · injection e with e1 e2 e3; omega
theorem vtbl_of {w : World} {base : Nat} {A : Option Addr} {c : Nat} {ps : List Sto} (h : StoO w base A ps.length c ps) (htx : ∀ p ∈ ps, p.sz ≤ 1048576) (hn : ps.length ≤ 1048576) : VTblC w A c ps := ⟨⟨h.row, fun p hp => Nat.le_trans (htx p hp) (by decide), by omega⟩, sto_cap h⟩
theorem sz_v {p : Sto} (h : p.sz ≤ 1048600) : p.p.length ≤ 9223372036854775807 := by unfold Sto.sz at h; omega
end Go.Proofs.Ytklhcofonkmiiaa
