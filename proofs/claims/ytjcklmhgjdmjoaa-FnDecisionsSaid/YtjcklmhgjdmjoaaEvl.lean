/- Logs in plain lists; one event by itself. (by gen_ev.py) -/
import Derived.Test.YtjcklmhgjdmjoaaMEvt
import Derived.Test.YtjcklmhgjdmjoaaMCode
import Derived.Test.YtjcklmhgjdmjoaaMCal
import Derived.Test.YtjcklmhgjdmjoaaInts
namespace Go.Proofs.Ytjcklmhgjdmjoaa
open Go.ChangeShapes Go.WideShapes Go.ChangeAt Go.RowKit
set_option linter.unusedVariables false

/-- An event is as described. -/
def Evt.ok (r : Evt) : Bool := inr r.d 0 36524 && (inr r.k 0 6 && (pcode r.c && amt r.a))
theorem eok {r : Evt} (h : r.ok = true) : (0 ≤ r.d ∧ r.d ≤ 36524) ∧ (0 ≤ r.k ∧ r.k ≤ 6) ∧ pcode r.c = true ∧ (0 ≤ r.a ∧ r.a ≤ 1000000000) := by
  unfold Evt.ok at h
  simp only [Bool.and_eq_true, inr_iff, amt_iff] at h
  exact h
def lAt (rs : List Evt) (i : Nat) : Bool :=
  match rs[i]? with
  | none => true
  | some r => r.ok && (match i with | 0 => true | j + 1 => match rs[j]? with | none => true | some q => decide (q.d ≤ r.d))
def lTo (rs : List Evt) (k : Nat) : Bool := (List.range k).all (lAt rs)
theorem lTo_succ (rs : List Evt) (k : Nat) : lTo rs (k + 1) = (lTo rs k && lAt rs k) := by simp [lTo, List.range_succ]
theorem lTo_no {rs : List Evt} {k n : Nat} (h : lAt rs k = false) (hk : k < n) : lTo rs n = false := by
  unfold lTo; rw [List.all_eq_false]; exact ⟨k, by simpa using hk, by simp [h]⟩
theorem lTo_at {rs : List Evt} {k n : Nat} (h : lTo rs n = true) (hk : k < n) : lAt rs k = true := by
  unfold lTo at h; rw [List.all_eq_true] at h; exact h k (by simpa using hk)
/-- A log. -/
def logB (rs : List Evt) : Bool := lTo rs rs.length && decide ((rs.length : Int) ≤ 15)
theorem lAt_0 {rs : List Evt} {r : Evt} (h : rs[0]? = some r) : lAt rs 0 = r.ok := by unfold lAt; simp [h]
theorem lAt_s {rs : List Evt} {k : Nat} {q r : Evt} (h : rs[k + 1]? = some r) (hq : rs[k]? = some q) : lAt rs (k + 1) = (r.ok && decide (q.d ≤ r.d)) := by unfold lAt; simp [h, hq]
theorem lAt_no {rs : List Evt} {k : Nat} {r : Evt} (h : rs[k]? = some r) (hr : r.ok = false) : lAt rs k = false := by unfold lAt; simp [h, hr]
theorem log_no {rs : List Evt} {k : Nat} (hk : k < rs.length) (h : lAt rs k = false) : logB rs = false := by unfold logB; rw [lTo_no h hk, Bool.false_and]
theorem log_long {rs : List Evt} (h : 15 < rs.length) : logB rs = false := by
  unfold logB; rw [Bool.and_eq_false_iff]; right; rw [decide_eq_false_iff_not]; omega
theorem log_all {rs : List Evt} (h : lTo rs rs.length = true) : logB rs = decide ((rs.length : Int) ≤ 15) := by unfold logB; rw [h, Bool.true_and]
theorem log_iff {rs : List Evt} : logB rs = true ↔ lTo rs rs.length = true ∧ rs.length ≤ 15 := by
  unfold logB; rw [Bool.and_eq_true, decide_eq_true_eq]
  exact ⟨fun ⟨h, h1⟩ => ⟨h, by omega⟩, fun ⟨h, h1⟩ => ⟨h, by omega⟩⟩
theorem lok {rs : List Evt} (h : lTo rs rs.length = true) {k : Nat} {r : Evt} (hr : rs[k]? = some r) : r.ok = true := by
  have := lTo_at h (List.getElem?_eq_some_iff.1 hr).1
  unfold lAt at this
  rw [hr] at this
  simp only [Bool.and_eq_true] at this
  exact this.1
theorem log_ok {rs : List Evt} (h : logB rs = true) {k : Nat} {r : Evt} (hr : rs[k]? = some r) : r.ok = true := lok (log_iff.1 h).1 hr
theorem log_le {rs : List Evt} (h : logB rs = true) {k : Nat} {q r : Evt} (hq : rs[k]? = some q) (hr : rs[k + 1]? = some r) : q.d ≤ r.d := by
  have := lTo_at (log_iff.1 h).1 (List.getElem?_eq_some_iff.1 hr).1
  rw [lAt_s hr hq, Bool.and_eq_true, decide_eq_true_eq] at this
  exact this.2
theorem log_before {rs : List Evt} (h : logB rs = true) : ∀ {i j : Nat} {q r : Evt}, i ≤ j → rs[i]? = some q → rs[j]? = some r → q.d ≤ r.d := by
  intro i j
  induction j with
  | zero => intro q r hij hq hr; obtain rfl : i = 0 := by omega
            rw [hq] at hr; rw [Option.some.inj hr]; exact Int.le_refl _
  | succ j ih =>
    intro q r hij hq hr
    rcases Nat.lt_or_ge j i with h1 | h1
    · obtain rfl : i = j + 1 := by omega
      rw [hq] at hr; rw [Option.some.inj hr]; exact Int.le_refl _
    · have hj : j < rs.length := by have := (List.getElem?_eq_some_iff.1 hr).1; omega
      have hs := List.getElem?_eq_getElem hj
      have a := ih h1 hq hs
      have c := log_le h hs hr
      omega
/-- What makes a list a log, read off its elements. -/
theorem lTo_iff {rs : List Evt} : lTo rs rs.length = true ↔ (∀ (k : Nat) (r : Evt), rs[k]? = some r → r.ok = true) ∧ ∀ (k : Nat) (q r : Evt), rs[k]? = some q → rs[k + 1]? = some r → q.d ≤ r.d := by
  constructor
  · intro h
    refine ⟨fun k r hr => lok h hr, fun k q r hq hr => ?_⟩
    have := lTo_at h (List.getElem?_eq_some_iff.1 hr).1
    rw [lAt_s hr hq, Bool.and_eq_true, decide_eq_true_eq] at this
    exact this.2
  · rintro ⟨h1, h2⟩
    unfold lTo
    rw [List.all_eq_true]
    intro k hk
    have hk : k < rs.length := by simpa using hk
    have hr := List.getElem?_eq_getElem hk
    cases k with
    | zero => rw [lAt_0 hr]; exact h1 _ _ hr
    | succ j =>
      have hq : rs[j]? = some rs[j] := List.getElem?_eq_getElem (by omega)
      rw [lAt_s hr hq, h1 _ _ hr, Bool.true_and, decide_eq_true_eq]
      exact h2 j _ _ hq hr
/-- The ways through the conditions on an event. -/
inductive EWay (r : Evt) : Bool → Prop where
  | day (h : inr r.d 0 36524 = false) : EWay r false
  | kind (h : inr r.d 0 36524 = true) (h1 : inr r.k 0 6 = false) : EWay r false
  | code (h : inr r.d 0 36524 = true) (h1 : inr r.k 0 6 = true) (h2 : pcode r.c = false) : EWay r false
  | ok (b : Bool) (h : inr r.d 0 36524 = true) (h1 : inr r.k 0 6 = true) (h2 : pcode r.c = true) (h3 : amt r.a = b) : EWay r b
theorem eway (r : Evt) : EWay r r.ok := by
  have e : r.ok = (inr r.d 0 36524 && (inr r.k 0 6 && (pcode r.c && amt r.a))) := rfl
  rw [e]
  rcases Bool.eq_false_or_eq_true (inr r.d 0 36524) with h | h
  · rcases Bool.eq_false_or_eq_true (inr r.k 0 6) with h1 | h1
    · rcases Bool.eq_false_or_eq_true (pcode r.c) with h2 | h2
      · rw [h, h1, h2]; exact .ok _ h h1 h2 rfl
      · rw [h, h1, h2]; exact .code h h1 h2
    · rw [h, h1]; exact .kind h h1
  · rw [h]; exact .day h
/-- A box of an event stands as it was laid; nothing below is written. -/
structure KeepE (w0 : World) (p : Evt) (W : World) : Prop where
  a : W.heap[w0.heap.size]? = some (.cells #[.int .i64 p.d, .int .i64 p.k, .string ⟨p.c.toArray⟩, .int .i64 p.a, .bool p.p, .bool p.v, .bool p.r] 26 (0, 0))
  bel : Below w0.heap.size w0 W
theorem KeepE.step {w0 W w' : World} {p : Evt} (k : KeepE w0 p W) (b : Below W.heap.size W w') : KeepE w0 p w' := ⟨(b.block _ (lt_some k.a)).trans k.a, belowGo k.bel b⟩
theorem KeepE.drew {w0 W : World} {p : Evt} (k : KeepE w0 p W) : KeepE w0 p W.drew := ⟨k.a, k.bel.drew⟩
theorem KeepE.new (w : World) (p : Evt) : KeepE w p (w.alloc (.cells #[.int .i64 p.d, .int .i64 p.k, .string ⟨p.c.toArray⟩, .int .i64 p.a, .bool p.p, .bool p.v, .bool p.r] 26)) := ⟨heap_alloc_new _ _, (Below.refl _ _).alloc (Nat.le_refl _) _⟩
theorem KeepE.cells {w0 W : World} {p : Evt} (k : KeepE w0 p W) : EvtC W w0.heap.size 0 p :=
  ⟨by rw [cell_of_row _ _ _ _ _ _ k.a]; rfl, by rw [cell_of_row _ _ _ _ _ _ k.a]; rfl, by rw [cell_of_row _ _ _ _ _ _ k.a]; rfl, by rw [cell_of_row _ _ _ _ _ _ k.a]; rfl, by rw [cell_of_row _ _ _ _ _ _ k.a]; rfl, by rw [cell_of_row _ _ _ _ _ _ k.a]; rfl, by rw [cell_of_row _ _ _ _ _ _ k.a]; rfl⟩
theorem pcodeI_qE {s : List UInt8} {b : Bool} (h : pcode s = b) (hl : s.length ≤ 9223372036854775807) (w : World) : Calls Try.prog 114 #[.string ⟨s.toArray⟩] w fun e w' => e = .returned (.bool b) ∧ w = w' :=
  (isPcode_i s w hl).mono fun e w' k => ⟨by rw [← h]; exact k.1, k.2⟩
theorem pcodeS_qE {s : List UInt8} {b : Bool} (h : pcode s = b) (hl : s.length ≤ 9223372036854775807) (w : World) : Calls Try.prog 120 #[.string ⟨s.toArray⟩] w fun e w' => e = .returned (.bool b) ∧ w = w' :=
  (isPcode_s s w hl).mono fun e w' k => ⟨by rw [← h]; exact k.1, k.2⟩
theorem amtI_qE {n : Int} {b : Bool} (h : amt n = b) (w : World) : Calls Try.prog 115 #[.int .i64 n] w fun e w' => e = .returned (.bool b) ∧ w = w' := h ▸ isAmount_i n w
theorem amtS_qE {n : Int} {b : Bool} (h : amt n = b) (w : World) : Calls Try.prog 121 #[.int .i64 n] w fun e w' => e = .returned (.bool b) ∧ w = w' := h ▸ isAmount_s n w
theorem innE_q {n lo hi : Int} {b : Bool} (h : inr n lo hi = b) (w : World) : Calls Try.prog 84 #[.int .i64 n, .int .i64 lo, .int .i64 hi] w fun e w' => e = .returned (.bool b) ∧ w = w' := h ▸ inr_s n lo hi w
/-- Events that a function takes: their texts are short. -/
structure ETbl (w : World) (A : Option Addr) (ps : List Evt) : Prop where
  row : EvtR w A ps
  txt : ∀ p ∈ ps, p.sz ≤ 1048600
  len : ps.length ≤ 1048590
theorem ETbl.below {w w' : World} {A : Option Addr} {ps : List Evt} (h : ETbl w A ps) (hb : Below w.heap.size w w') : ETbl w' A ps := ⟨h.row.below hb, h.txt, h.len⟩
/-- With its capacity. -/
structure ETblC (w : World) (A : Option Addr) (c : Nat) (ps : List Evt) : Prop where
  tbl : ETbl w A ps
  adr : (A = none ∧ c = 0) ∨ ∃ b off, A = some ⟨b, off, none⟩
  cap : ps.length ≤ c
theorem ETblC.row {w : World} {A : Option Addr} {c : Nat} {ps : List Evt} (h : ETblC w A c ps) : EvtR w A ps := h.tbl.row
theorem ETblC.len {w : World} {A : Option Addr} {c : Nat} {ps : List Evt} (h : ETblC w A c ps) : ps.length ≤ 1048590 := h.tbl.len
theorem ETblC.below {w w' : World} {A : Option Addr} {c : Nat} {ps : List Evt} (h : ETblC w A c ps) (hb : Below w.heap.size w w') : ETblC w' A c ps := ⟨h.tbl.below hb, h.adr, h.cap⟩
theorem evt_cap {w : World} {base : Nat} {A : Option Addr} {n c : Nat} {ps : List Evt} (h : EvtO w base A n c ps) : n ≤ c := by
  rcases h.2 with ⟨e, e2⟩ | ⟨g, cap, cur, e, _, _, hle, _⟩
  · have := h.1; injection e; omega
  · injection e with e1 e2 e3; omega
theorem etbl_of {w : World} {base : Nat} {A : Option Addr} {c : Nat} {ps : List Evt} (h : EvtO w base A ps.length c ps) (htx : ∀ p ∈ ps, p.sz ≤ 1048576) (hn : ps.length ≤ 1048576) : ETblC w A c ps := by
  refine ⟨⟨h.row, fun p hp => Nat.le_trans (htx p hp) (by decide), by omega⟩, ?_, evt_cap h⟩
  rcases h.2 with ⟨h1, _⟩ | ⟨g, cap, cur, h1, _⟩
  · injection h1 with h1 _ h3; exact .inl ⟨h1, h3⟩
  · injection h1 with h1 _ _; exact .inr ⟨g, 0, h1⟩
theorem sz_e {p : Evt} (h : p.sz ≤ 1048600) : p.c.length ≤ 9223372036854775807 := by unfold Evt.sz at h; omega
end Go.Proofs.Ytjcklmhgjdmjoaa
