/- Libraries in plain lists; spec.IsLibrary. -/
import Derived.Test.YtjcklmhgjdmjoaaEdnh
import Derived.Test.YtjcklmhgjdmjoaaCln
namespace Go.Proofs.Ytjcklmhgjdmjoaa
open Go.ChangeShapes Go.WideShapes Go.ChangeAt Go.RowKit
set_option linter.unusedVariables false

/-- Editions that a function takes: few enough, with short texts. -/
structure LTbl (w : World) (A : Option Addr) (es : List Edn) : Prop where
  row : EdnR w A es
  txt : ∀ e ∈ es, ∀ p ∈ e.cs, p.sz ≤ 1048600
  cnt : ∀ e ∈ es, e.cs.length ≤ 1048590
  len : es.length ≤ 1048590
theorem LTbl.below {w w' : World} {A : Option Addr} {es : List Edn} (h : LTbl w A es) (hb : Below w.heap.size w w') : LTbl w' A es := ⟨h.row.below hb, h.txt, h.cnt, h.len⟩
theorem LTbl.at {w : World} {A : Option Addr} {es : List Edn} (h : LTbl w A es) {k : Nat} (hk : k < es.length) :
    ∃ b off e a c, A = some ⟨b, off, none⟩ ∧ b < w.heap.size ∧ Hid (es[k]? = some e) ∧ w.cell? ⟨b, off + k * 2, none⟩ = some (.int .i64 e.y) ∧
      w.cell? ⟨b, off + k * 2 + 1, none⟩ = some (.slice a e.cs.length c) ∧ CTbl w a e.cs := by
  obtain ⟨b, off, e, a, c, h1, h2, h3, h4, h5, h6⟩ := h.row.at hk
  have hm := List.mem_of_getElem? h3.out
  exact ⟨b, off, e, a, c, h1, h2, h3, h4, h5, h6, h.txt e hm, h.cnt e hm⟩
/-! ### libraries in plain lists -/
def lbAt (es : List Edn) (i : Nat) : Bool :=
  match es[i]? with
  | some e => inr e.y 1970 2069 && (rbB e.cs && (i == 0 || match es[i - 1]? with | some d => decide (d.y < e.y) | none => false))
  | none => false
def lbTo (es : List Edn) (k : Nat) : Bool := (List.range k).all (lbAt es)
def lbB (es : List Edn) : Bool := lbTo es es.length && inr (es.length : Int) 1 6
theorem lbTo_succ (es : List Edn) (k : Nat) : lbTo es (k + 1) = (lbTo es k && lbAt es k) := by simp [lbTo, List.range_succ]
theorem lb_no {es : List Edn} {k : Nat} (hk : k < es.length) (h : lbAt es k = false) : lbB es = false := by
  have : lbTo es es.length = false := by
    rw [lbTo, List.all_eq_false]; exact ⟨k, by simpa using hk, by simp [h]⟩
  simp [lbB, this]
theorem lb_all {es : List Edn} (h : lbTo es es.length = true) : lbB es = inr (es.length : Int) 1 6 := by rw [lbB, h, Bool.true_and]
theorem lbAt_0 {es : List Edn} {e : Edn} (h : es[0]? = some e) : lbAt es 0 = (inr e.y 1970 2069 && rbB e.cs) := by unfold lbAt; rw [h]; simp
theorem lbAt_s {es : List Edn} {j : Nat} {d e : Edn} (h : es[j + 1]? = some e) (h1 : es[j]? = some d) : lbAt es (j + 1) = (inr e.y 1970 2069 && (rbB e.cs && decide (d.y < e.y))) := by
  unfold lbAt; rw [h]; simp [h1]
theorem lbAt_no {es : List Edn} {k : Nat} {e : Edn} (h : es[k]? = some e) (hv : (inr e.y 1970 2069 && rbB e.cs) = false) : lbAt es k = false := by
  unfold lbAt; rw [h]
  simp only [← Bool.and_assoc, hv, Bool.false_and]
structure LB (es : List Edn) : Prop where
  len : 1 ≤ es.length ∧ es.length ≤ 6
  at' : ∀ k, k < es.length → lbAt es k = true
  one : ∀ e ∈ es, inr e.y 1970 2069 = true ∧ rbB e.cs = true
  asc : ∀ (j : Nat) d e, es[j]? = some d → es[j + 1]? = some e → d.y < e.y
theorem lb_of {es : List Edn} (h : lbB es = true) : LB es := by
  unfold lbB at h
  rw [Bool.and_eq_true] at h
  obtain ⟨h1, h2⟩ := h
  have ha : ∀ k, k < es.length → lbAt es k = true := fun k hk => by
    rw [lbTo, List.all_eq_true] at h1
    exact h1 k (by simpa using hk)
  have hl := inr_iff.1 h2
  refine ⟨by omega, ha, fun e he => ?_, fun j d e hd he => ?_⟩
  · obtain ⟨i, hi⟩ := List.getElem?_of_mem he
    have h3 := ha i (List.getElem?_eq_some_iff.1 hi).1
    unfold lbAt at h3; rw [hi] at h3
    simp only [Bool.and_eq_true] at h3
    exact ⟨h3.1, h3.2.1⟩
  · have h3 := ha (j + 1) (List.getElem?_eq_some_iff.1 he).1
    rw [lbAt_s he hd] at h3
    simp only [Bool.and_eq_true, decide_eq_true_eq] at h3
    exact h3.2.2

/-! ### spec.IsLibrary -/
theorem inE_y {S : World → Prop} {n lo hi : Int} {b : Bool} (h : inr n lo hi = b) (y : Sub S) : Calls Try.prog 84 #[.int .i64 n, .int .i64 lo, .int .i64 hi] y.w fun e w' => e = .returned (.bool b) ∧ ∃ z : Sub S, w' = z.w :=
  (innC_q h y.w).mono fun e w' k => ⟨k.1, y, k.2.symm⟩
theorem rbE_y {wr : World} {A : Option Addr} {c : Nat} {ps : List Cls} {b : Bool} (h : CTbl wr A ps) (hb : rbB ps = b) (y : Sub (Bel wr)) : Calls Try.prog 71 #[.slice A ps.length c] y.w fun e w' => e = .returned (.bool b) ∧ ∃ z : Sub (Bel wr), w' = z.w :=
  (rbS_q (h.below y.h) hb).mono fun e w' k => ⟨k.1, ⟨w', Bel.step y k.2⟩, rfl⟩
end Go.Proofs.Ytjcklmhgjdmjoaa
