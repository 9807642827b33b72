import Derived.Test.YtifioecofeojpaaEvtf
import Derived.Test.YtifioecofeojpaaMCode
import Derived.Test.YtifioecofeojpaaDayp
import Derived.Test.YtifioecofeojpaaInts
/- Logs in plain lists; one event by itself. (by gen_ev.py) -/
namespace Go.Proofs.Ytifioecofeojpaa
open Go.ChangeShapes Go.WideShapes Go.ChangeAt Go.RowKit
set_option linter.unusedVariables false

/-- An event is as described. -/
def Evt.ok (r : Evt) : Bool := inr r.d 0 36524 && (inr r.k 0 6 && (pcode r.c && amt r.a))
theorem eok {r : Evt} (h : r.ok = true) : (0 ≤ r.d ∧ r.d ≤ 36524) ∧ (0 ≤ r.k ∧ r.k ≤ 6) ∧ pcode r.c = true ∧ (0 ≤ r.a ∧ r.a ≤ 1000000000) := by
  unfold Evt.ok at h
  simp only [Bool.and_eq_true, inr_iff, amt_iff] at h
  exact h
def lAt (rs : List Evt) (i : Nat) : Bool :=
  match rs[i]? with
  | none => true
  | some r => r.ok && (match i with | 0 => true | j + 1 => match rs[j]? with | none => true | some q => decide (q.d ≤ r.d))
def lTo (rs : List Evt) (k : Nat) : Bool := (List.range k).all (lAt rs)
theorem lTo_succ (rs : List Evt) (k : Nat) : lTo rs (k + 1) = (lTo rs k && lAt rs k) := by simp [lTo, List.range_succ]
theorem lTo_no {rs : List Evt} {k n : Nat} (h : lAt rs k = false) (hk : k < n) : lTo rs n = false := by
  unfold lTo; rw [List.all_eq_false]; exact ⟨k, by simpa using hk, by simp [h]⟩
theorem lTo_at {rs : List Evt} {k n : Nat} (h : lTo rs n = true) (hk : k < n) : lAt rs k = true := by
  unfold lTo at h; rw [List.all_eq_true] at h; exact h k (by simpa using hk)
/-- A log. -/
def logB (rs : List Evt) : Bool := lTo rs rs.length && decide ((rs.length : Int) ≤ 15)
theorem lAt_0 {rs : List Evt} {r : Evt} (h : rs[0]? = some r) : lAt rs 0 = r.ok := by unfold lAt; simp [h]
theorem lAt_s {rs : List Evt} {k : Nat} {q r : Evt} (h : rs[k + 1]? = some r) (hq : rs[k]? = some q) : lAt rs (k + 1) = (r.ok && decide (q.d ≤ r.d)) := by unfold lAt; simp [h, hq]
theorem lAt_no {rs : List Evt} {k : Nat} {r : Evt} (h : rs[k]? = some r) (hr : r.ok = false) : lAt rs k = false := by unfold lAt; simp [h, hr]
theorem log_no {rs : List Evt} {k : Nat} (hk : k < rs.length) (h : lAt rs k = false) : logB rs = false := by unfold logB; rw [lTo_no h hk, Bool.false_and]
theorem log_long {rs : List Evt} (h : 15 < rs.length) : logB rs = false := by
  unfold logB; rw [Bool.and_eq_false_iff]; right; rw [decide_eq_false_iff_not]; omega
theorem log_all {rs : List Evt} (h : lTo rs rs.length = true) : logB rs = decide ((rs.length : Int) ≤ 15) := by unfold logB; rw [h, Bool.true_and]
theorem log_iff {rs : List Evt} : logB rs = true ↔ lTo rs rs.length = true ∧ rs.length ≤ 15 := by
  unfold logB; rw [Bool.and_eq_true, decide_eq_true_eq]
  exact ⟨fun ⟨h, h1⟩ => ⟨h, by omega⟩, fun ⟨h, h1⟩ => ⟨h, by omega⟩⟩
theorem lok {rs : List Evt} (h : lTo rs rs.length = true) {k : Nat} {r : Evt} (hr : rs[k]? = some r) : r.ok = true := by
  have := lTo_at h (List.getElem?_eq_some_iff.1 hr).1
  unfold lAt at this
  rw [hr] at this
  simp only [Bool.and_eq_true] at this
  exact this.1
theorem log_ok {rs : List Evt} (h : logB rs = true) {k : Nat} {r : Evt} (hr : rs[k]? = some r) : r.ok = true := lok (log_iff.1 h).1 hr
theorem log_le {rs : List Evt} (h : logB rs = true) {k : Nat} {q r : Evt} (hq : rs[k]? = some q) (hr : rs[k + 1]? = some r) : q.d ≤ r.d := by
  have := lTo_at (log_iff.1 h).1 (List.getElem?_eq_some_iff.1 hr).1
  rw [lAt_s hr hq, Bool.and_eq_true, decide_eq_true_eq] at this
  exact this.2
theorem log_before {rs : List Evt} (h : logB rs = true) : ∀ {i j : Nat} {q r : Evt}, i ≤ j → rs[i]? = some q → rs[j]? = some r → q.d ≤ r.d := by
  intro i j
  induction j with
  | zero => intro q r hij hq hr; obtain rfl : i = 0 := by omega
            rw [hq] at hr; rw [Option.some.inj hr]; exact Int.le_refl _
  | succ j ih =>
    intro q r hij hq hr
    rcases Nat.lt_or_ge j i with h1 | h1
    · obtain rfl : i = j + 1 := by omega
      rw [hq] at hr; rw [Option.some.inj hr]; exact Int.le_refl _
    · have hj : j < rs.length := by have := (List.getElem?_eq_some_iff.1 hr).1; omega
      have hs := List.getElem?_eq_getElem hj
      have a := ih h1 hq hs
      have c := log_le h hs hr
      omega
/-- What makes a list a log, read off its elements. -/
theorem lTo_iff {rs : List Evt} : lTo rs rs.length = true ↔ (∀ (k : Nat) (r : Evt), rs[k]? = some r → r.ok = true) ∧ ∀ (k : Nat) (q r : Evt), rs[k]? = some q → rs[k + 1]? = some r → q.d ≤ r.d := by
  constructor
  · intro h
    refine ⟨fun k r hr => lok h hr, fun k q r hq hr => ?_⟩
    have := lTo_at h (List.getElem?_eq_some_iff.1 hr).1
    rw [lAt_s hr hq, Bool.and_eq_true, decide_eq_true_eq] at this
    exact this.2
  · rintro ⟨h1, h2⟩
    unfold lTo
    rw [List.all_eq_true]
    intro k hk
    have hk : k < rs.length := by simpa using hk
    have hr := List.getElem?_eq_getElem hk
    cases k with
    | zero => rw [lAt_0 hr]; exact h1 _ _ hr
    | succ j =>
      have hq : rs[j]? = some rs[j] := List.getElem?_eq_getElem (by omega)
      rw [lAt_s hr hq, h1 _ _ hr, Bool.true_and, decide_eq_true_eq]
      exact h2 j _ _ hq hr
/-- The ways through the conditions on an event. -/
inductive EWay (r : Evt) : Bool → Prop where
  | day (h : inr r.d 0 36524 = false) : EWay r false
  | kind (h : inr r.d 0 36524 = true) (h1 : inr r.k 0 6 = false) : EWay r false
  | code (h : inr r.d 0 36524 = true) (h1 : inr r.k 0 6 = true) (h2 : pcode r.c = false) : EWay r false
  | ok (b : Bool) (h : inr r.d 0 36524 = true) (h1 : inr r.k 0 6 = true) (h2 : pcode r.c = true) (h3 : amt r.a = b) : EWay r b
theorem eway (r : Evt) : EWay r r.ok := by
  have e : r.ok = (inr r.d 0 36524 && (inr r.k 0 6 && (pcode r.c && amt r.a))) := rfl
  rw [e]
  rcases Bool.eq_false_or_eq_true (inr r.d 0 36524) with h | h
  · rcases Bool.eq_false_or_eq_true (inr r.k 0 6) with h1 | h1
    · rcases Bool.eq_false_or_eq_true (pcode r.c) with h2 | h2
      · rw [h, h1, h2]; exact .ok _ h h1 h2 rfl
      · rw [h, h1, h2]; exact .code h h1 h2
    · rw [h, h1]; exact .kind h h1
  · rw [h]; exact .day h
/-- A box of an event stands as it was laid; nothing below is written. -/
structure KeepE (w0 : World) (p : Evt) (W : World) : Prop where
  a : W.heap[w0.heap.size]? = some (.cells #[.int .i64 p.d, .int .i64 p.k, .string ⟨p.c.toArray⟩, .int .i64 p.a, .bool p.p, .bool p.v, .bool p.r] 26 (0, 0))
  bel : Below w0.heap.size w0 W
theorem KeepE.step {w0 W w' : World} {p : Evt} (k : KeepE w0 p W) (b : Below W.heap.size W w') : KeepE w0 p w' := ⟨(b.block _ (lt_some k.a)).trans k.a, belowGo k.bel b⟩
theorem KeepE.drew {w0 W : World} {p : Evt} (k : KeepE w0 p W) : KeepE w0 p W.drew := ⟨k.a, k.bel.drew⟩
theorem KeepE.new (w : World) (p : Evt) : KeepE w p (w.alloc (.cells #[.int .i64 p.d, .int .i64 p.k, .string ⟨p.c.toArray⟩, .int .i64 p.a, .bool p.p, .bool p.v, .bool p.r] 26)) := ⟨heap_alloc_new _ _, (Below.refl _ _).alloc (Nat.le_refl _) _⟩
theorem KeepE.cells {w0 W : World} {p : Evt} (k : KeepE w0 p W) : EvtC W w0.heap.size 0 p :=
  ⟨by rw [cell_of_row _ _ _ _ _ _ k.a]; rfl, by rw [cell_of_row _ _ _ _ _ _ k.a]; rfl, by rw [cell_of_row _ _ _ _ _ _ k.a]; rfl, by rw [cell_of_row _ _ _ _ _ _ k.a]; rfl, by rw [cell_of_row _ _ _ _ _ _ k.a]; rfl, by rw [cell_of_row _ _ _ _ _ _ k.a]; rfl, by rw [cell_of_row _ _ _ _ _ _ k.a]; rfl⟩
theorem pcodeI_qE {s : List UInt8} {b : Bool} (h : pcode s = b) (hl : s.length ≤ 9223372036854775807) (w : World) : Calls Try.prog 72 #[.string ⟨s.toArray⟩] w fun e w' => e = .returned (.bool b) ∧ w = w' :=
  (isPcode_i s w hl).mono fun e w' k => ⟨by rw [← h]; exact k.1, k.2⟩
theorem pcodeS_qE {s : List UInt8} {b : Bool} (h : pcode s = b) (hl : s.length ≤ 9223372036854775807) (w : World) : Calls Try.prog 69 #[.string ⟨s.toArray⟩] w fun e w' => e = .returned (.bool b) ∧ w = w' :=
  (isPcode_s s w hl).mono fun e w' k => ⟨by rw [← h]; exact k.1, k.2⟩
theorem amtI_qE {n : Int} {b : Bool} (h : amt n = b) (w : World) : Calls Try.prog 73 #[.int .i64 n] w fun e w' => e = .returned (.bool b) ∧ w = w' := h ▸ isAmount_i n w
theorem amtS_qE {n : Int} {b : Bool} (h : amt n = b) (w : World) : Calls Try.prog 70 #[.int .i64 n] w fun e w' => e = .returned (.bool b) ∧ w = w' := h ▸ isAmount_s n w
theorem innE_q {n lo hi : Int} {b : Bool} (h : inr n lo hi = b) (w : World) : Calls Try.prog 59 #[.int .i64 n, .int .i64 lo, .int .i64 hi] w fun e w' => e = .returned (.bool b) ∧ w = w' := h ▸ inr_s n lo hi w
/-- Events that a function takes: their texts are short. -/
structure ETbl (w : World) (A : Option Addr) (ps : List Evt) : Prop where
  row : EvtR w A ps
  txt : ∀ p ∈ ps, p.sz ≤ 1048600
  len : ps.length ≤ 1048590
theorem ETbl.below {w w' : World} {A : Option Addr} {ps : List Evt} (h : ETbl w A ps) (hb : Below w.heap.size w w') : ETbl w' A ps := ⟨h.row.below hb, h.txt, h.len⟩
/-- With its capacity. -/
structure ETblC (w : World) (A : Option Addr) (c : Nat) (ps : List Evt) : Prop where
  tbl : ETbl w A ps
  adr : (A = none ∧ c = 0) ∨ ∃ b off, A = some ⟨b, off, none⟩
  cap : ps.length ≤ c
theorem ETblC.row {w : World} {A : Option Addr} {c : Nat} {ps : List Evt} (h : ETblC w A c ps) : EvtR w A ps := h.tbl.row
theorem ETblC.len {w : World} {A : Option Addr} {c : Nat} {ps : List Evt} (h : ETblC w A c ps) : ps.length ≤ 1048590 := h.tbl.len
theorem ETblC.below {w w' : World} {A : Option Addr} {c : Nat} {ps : List Evt} (h : ETblC w A c ps) (hb : Below w.heap.size w w') : ETblC w' A c ps := ⟨h.tbl.below hb, h.adr, h.cap⟩
theorem evt_cap {w : World} {base : Nat} {A : Option Addr} {n c : Nat} {ps : List Evt} (h : EvtO w base A n c ps) : n ≤ c := by
  rcases h.2 with ⟨e, e2⟩ | ⟨g, cap, cur, e, _, _, hle, _⟩
  · have := h.1; injection e; omega
  · injection e with e1 e2 e3; omega
theorem etbl_of {w : World} {base : Nat} {A : Option Addr} {c : Nat} {ps : List Evt} (h : EvtO w base A ps.length c ps) (htx : ∀ p ∈ ps, p.sz ≤ 1048576) (hn : ps.length ≤ 1048576) : ETblC w A c ps := by
  refine ⟨⟨h.row, fun p hp => Nat.le_trans (htx p hp) (by decide), by omega⟩, ?_, evt_cap h⟩
  rcases h.2 with ⟨h1, _⟩ | ⟨g, cap, cur, h1, _⟩
  · injection h1 with h1 _ h3; exact .inl ⟨h1, h3⟩
  · injection h1 with h1 _ _; exact .inr ⟨g, 0, h1⟩
theorem sz_e {p : Evt} (h : p.sz ≤ 1048600) : p.c.length ≤ 9223372036854775807 := by unfold Evt.sz at h; omega
end Go.Proofs.Ytifioecofeojpaa

/- impl.IsEvent, impl.IsLog. (by gen_ev.py) -/
namespace Go.Proofs.Ytifioecofeojpaa
open Go.ChangeShapes Go.WideShapes Go.ChangeAt Go.RowKit
set_option linter.unusedVariables false

set_option maxRecDepth 100000 in
set_option maxHeartbeats 4000000 in
theorem evalid_i (p : Evt) (w : World) (hc : p.c.length ≤ 9223372036854775807) : Calls Try.prog 34 #[.agg #[.int .i64 p.d, .int .i64 p.k, .string ⟨p.c.toArray⟩, .int .i64 p.a, .bool p.p, .bool p.v, .bool p.r]] w (Gives w (.bool p.ok)) := by
  have B : ∀ o, Hid (Below w.heap.size w (w.alloc o)) := fun o => Lib.hid ((Below.refl _ _).alloc (Nat.le_refl _) _)
  have W := eway p
  obtain ⟨b, hb⟩ : ∃ b, b = p.ok := ⟨_, rfl⟩
  rw [← hb] at W
  rw [← hb]
  clear hb
  cases W
  all_goals
    go_enter Try.func34, Try.ntmps34
    go_wp2_with (first
      | (go_at_call 71; refine (isDay_q (by assumption) _).mono ?_; rintro e w' ⟨rfl, rfl⟩)
      | (go_at_call 57; refine (within_q (by assumption) _).mono ?_; rintro e w' ⟨rfl, rfl⟩)
      | (go_at_call 72; refine (pcodeI_qE (by assumption) (by assumption) _).mono ?_; rintro e w' ⟨rfl, rfl⟩)
      | (go_at_call 73; refine (amtI_qE (by assumption) _).mono ?_; rintro e w' ⟨rfl, rfl⟩))
    go_ret
    exact ⟨by first | rfl | simp_all, (B _).out⟩
set_option maxRecDepth 100000 in
set_option maxHeartbeats 4000000 in
theorem isLog_i (A : Option Addr) (c : Nat) (ps : List Evt) (w : World) (h : ETbl w A ps) :
    Calls Try.prog 29 #[.slice A ps.length c] w (Gives w (.bool (logB ps))) := by
  have hR := h.row
  have hs := h.txt
  have hn := h.len
  clear h
  by_cases h15 : 15 < ps.length
  · have E : Hid (logB ps = false) := Lib.hid (log_long h15)
    go_enter Try.func29, Try.ntmps29
    go_wp2_with fail
    go_ret
    exact ⟨by rw [E.out] <;> rfl, Below.refl _ _⟩
  have e1 : decide (15 < (ps.length : Int)) = false := by simp; omega
  go_enter Try.func29, Try.ntmps29
  go_wp2_with fail
  go_loopw [10] (fun i wr => ∃ k : Nat, k ≤ ps.length ∧ i = .int .i64 k ∧ Hid (lTo ps k = true) ∧ Below w.heap.size w wr) (fun i _ => ps.length - (intOf i).toNat)
  case atStart => exact ⟨0, Nat.zero_le _, rfl, Lib.hid rfl, Below.refl _ _⟩
  case round =>
    obtain ⟨k, hk, rfl, hok, hb⟩ := hrel
    by_cases hlt : k < ps.length
    · obtain ⟨b, off, p, rfl, hl, hp, h4⟩ := (hR.below hb).at hlt
      have hpc := sz_e (hs p (List.mem_of_getElem? hp.out))
      have k0 := (KeepE.new wr p).drew
      have HV := Lib.hid (fun y : Sub (KeepE wr p) => (evalid_i p y.w hpc).mono fun e w' h => (⟨h.1, ⟨w', y.h.step h.2⟩, rfl⟩ : e = .returned (.bool p.ok) ∧ ∃ z : Sub (KeepE wr p), w' = z.w))
      have q0 : ∀ y : Sub (KeepE wr p), y.w.cell? ⟨wr.heap.size, 0, none⟩ = some (.int .i64 p.d) := fun y => y.h.cells.c0
      have q1 : ∀ y : Sub (KeepE wr p), y.w.cell? ⟨wr.heap.size, 1, none⟩ = some (.int .i64 p.k) := fun y => y.h.cells.c1
      have q2 : ∀ y : Sub (KeepE wr p), y.w.cell? ⟨wr.heap.size, 2, none⟩ = some (.string ⟨p.c.toArray⟩) := fun y => y.h.cells.c2
      have q3 : ∀ y : Sub (KeepE wr p), y.w.cell? ⟨wr.heap.size, 3, none⟩ = some (.int .i64 p.a) := fun y => y.h.cells.c3
      have q4 : ∀ y : Sub (KeepE wr p), y.w.cell? ⟨wr.heap.size, 4, none⟩ = some (.bool p.p) := fun y => y.h.cells.c4
      have q5 : ∀ y : Sub (KeepE wr p), y.w.cell? ⟨wr.heap.size, 5, none⟩ = some (.bool p.v) := fun y => y.h.cells.c5
      have q6 : ∀ y : Sub (KeepE wr p), y.w.cell? ⟨wr.heap.size, 6, none⟩ = some (.bool p.r) := fun y => y.h.cells.c6
      have HB := Lib.hid (fun y : Sub (KeepE wr p) => (belowGo hb y.h.bel : Below w.heap.size w y.w))
      have c0 := h4.c0; have c1 := h4.c1; have c2 := h4.c2; have c3 := h4.c3; have c4 := h4.c4; have c5 := h4.c5; have c6 := h4.c6
      rcases Bool.eq_false_or_eq_true p.ok with hv | hv
      · rw [hv] at HV
        by_cases hk0 : 0 < k
        · obtain ⟨b', off', q, e2, hl', hq, h4'⟩ := (hR.below hb).at (k := k - 1) (by omega)
          obtain ⟨rfl, rfl⟩ : b = b' ∧ off = off' := by injection e2 with e2; injection e2 with e3 e4; exact ⟨e3, e4⟩
          have p0 : ∀ y : Sub (KeepE wr p), y.w.cell? ⟨b, off + (k - 1) * 7, none⟩ = some (.int .i64 q.d) := fun y => (h4'.below hl' y.h.bel).c0
          have ho : lAt ps k = decide (q.d ≤ p.d) := by
            obtain ⟨j, rfl⟩ : ∃ j, k = j + 1 := ⟨k - 1, by omega⟩
            rw [lAt_s hp.out (by simpa using hq.out), hv, Bool.true_and]
          have HT := Lib.hid (lTo_succ ps k)
          rw [hok.out, Bool.true_and, ho] at HT
          have E := Lib.hid (fun h : decide (q.d ≤ p.d) = false => log_no hlt (ho.trans h))
          clear hR hs hp hok hv hq h4' h4 e2 ho
          by_cases hqr : q.d ≤ p.d
          · rw [decide_eq_true hqr] at HT
            clear E
            have dd : decide (p.d < q.d) = false := decide_eq_false (by omega)
            go_wp2_with fail
            refine region_held (KeepE wr p) (by kernel_rfl) (by kernel_rfl) k0 ?_
            repeat (go_big_quiet_step ((first | rfl | (go_at_call 34; exact HV.out _))))
            refine wpQuiet_nil ?_
            rintro _ ⟨y, rfl⟩
            go_wp2_with fail
            go_roundw
            case rel => exact ⟨k + 1, by omega, by go_num, HT, HB.out y⟩
            case measure => simp [intOf]; omega
          · have E3 : Hid (logB ps = false) := Lib.hid (E.out (decide_eq_false hqr))
            have hqr : p.d < q.d := by omega
            clear E HT
            go_wp2_with fail
            refine region_held (KeepE wr p) (by kernel_rfl) (by kernel_rfl) k0 ?_
            repeat (go_big_quiet_step ((first | rfl | (go_at_call 34; exact HV.out _))))
            refine wpQuiet_nil ?_
            rintro _ ⟨y, rfl⟩
            go_wp2_with fail
            go_ret
            exact ⟨by rw [E3.out] <;> rfl, HB.out y⟩
        · have HT : Hid (lTo ps (k + 1) = true) := Lib.hid (by
            rw [lTo_succ, hok.out, Bool.true_and]
            obtain rfl : k = 0 := by omega
            rw [lAt_0 hp.out, hv])
          have hd : decide (0 < (k : Int)) = false := by simp; omega
          clear hR hs hp hok hv h4
          go_wp2_with fail
          refine region_held (KeepE wr p) (by kernel_rfl) (by kernel_rfl) k0 ?_
          repeat (go_big_quiet_step ((first | rfl | (go_at_call 34; exact HV.out _))))
          refine wpQuiet_nil ?_
          rintro _ ⟨y, rfl⟩
          go_wp2_with fail
          go_roundw
          case rel => exact ⟨k + 1, by omega, by go_num, HT, HB.out y⟩
          case measure => simp [intOf]; omega
      · rw [hv] at HV
        have E3 : Hid (logB ps = false) := Lib.hid (log_no hlt (lAt_no hp.out hv))
        clear hR hs hp hok hv h4
        go_wp2_with fail
        refine region_held (KeepE wr p) (by kernel_rfl) (by kernel_rfl) k0 ?_
        repeat (go_big_quiet_step ((first | rfl | (go_at_call 34; exact HV.out _))))
        refine wpQuiet_nil ?_
        rintro _ ⟨y, rfl⟩
        go_wp2_with fail
        go_ret
        exact ⟨by rw [E3.out] <;> rfl, HB.out y⟩
    · obtain rfl : k = ps.length := by omega
      have E : Hid (logB ps = true) := Lib.hid (log_iff.2 ⟨hok.out, by omega⟩)
      clear hok hR hs
      go_wp2_with fail
      go_ret
      exact ⟨by rw [E.out] <;> rfl, hb⟩
theorem logI_q {w : World} {A : Option Addr} {c : Nat} {ps : List Evt} {b : Bool} (h : ETbl w A ps) (hb : logB ps = b) : Calls Try.prog 29 #[.slice A ps.length c] w (Gives w (.bool b)) := by
  subst hb; exact isLog_i A c ps w h
end Go.Proofs.Ytifioecofeojpaa

/- spec.IsEvent, spec.IsLog. (by gen_ev.py) -/
namespace Go.Proofs.Ytifioecofeojpaa
open Go.ChangeShapes Go.WideShapes Go.ChangeAt Go.RowKit
set_option linter.unusedVariables false

set_option maxRecDepth 100000 in
set_option maxHeartbeats 4000000 in
theorem evalid_s (p : Evt) (w : World) (hc : p.c.length ≤ 9223372036854775807) : Calls Try.prog 32 #[.agg #[.int .i64 p.d, .int .i64 p.k, .string ⟨p.c.toArray⟩, .int .i64 p.a, .bool p.p, .bool p.v, .bool p.r]] w (Gives w (.bool p.ok)) := by
  have B : ∀ o, Hid (Below w.heap.size w (w.alloc o)) := fun o => Lib.hid ((Below.refl _ _).alloc (Nat.le_refl _) _)
  have W := eway p
  obtain ⟨b, hb⟩ : ∃ b, b = p.ok := ⟨_, rfl⟩
  rw [← hb] at W
  rw [← hb]
  clear hb
  cases W
  all_goals
    go_enter Try.func32, Try.ntmps32
    go_wp2_with (first
      | (go_at_call 58; refine (is_q (by assumption) _).mono ?_; rintro e w' ⟨rfl, rfl⟩)
      | (go_at_call 59; refine (innE_q (by assumption) _).mono ?_; rintro e w' ⟨rfl, rfl⟩)
      | (go_at_call 69; refine (pcodeS_qE (by assumption) (by assumption) _).mono ?_; rintro e w' ⟨rfl, rfl⟩)
      | (go_at_call 70; refine (amtS_qE (by assumption) _).mono ?_; rintro e w' ⟨rfl, rfl⟩))
    go_ret
    exact ⟨by first | rfl | simp_all, (B _).out⟩
set_option maxRecDepth 100000 in
set_option maxHeartbeats 4000000 in
theorem isLog_s (A : Option Addr) (c : Nat) (ps : List Evt) (w : World) (h : ETbl w A ps) :
    Calls Try.prog 36 #[.slice A ps.length c] w (Gives w (.bool (logB ps))) := by
  have hR := h.row
  have hs := h.txt
  have hn := h.len
  clear h
  go_enter Try.func36, Try.ntmps36
  go_wp2_with fail
  go_loopw [3] (fun i wr => ∃ k : Nat, k ≤ ps.length ∧ i = .int .i64 k ∧ Hid (lTo ps k = true) ∧ Below w.heap.size w wr) (fun i _ => ps.length - (intOf i).toNat)
  case atStart => exact ⟨0, Nat.zero_le _, rfl, Lib.hid rfl, Below.refl _ _⟩
  case round =>
    obtain ⟨k, hk, rfl, hok, hb⟩ := hrel
    by_cases hlt : k < ps.length
    · obtain ⟨b, off, p, rfl, hl, hp, h4⟩ := (hR.below hb).at hlt
      have hpc := sz_e (hs p (List.mem_of_getElem? hp.out))
      have k0 := Bel.drew wr
      have HV := Lib.hid (fun y : Sub (Bel wr) => (evalid_s p y.w hpc).mono fun e w' h => (⟨h.1, ⟨w', Bel.step y h.2⟩, rfl⟩ : e = .returned (.bool p.ok) ∧ ∃ z : Sub (Bel wr), w' = z.w))
      have q0 : ∀ y : Sub (Bel wr), y.w.cell? ⟨b, off + k * 7, none⟩ = some (.int .i64 p.d) := fun y => (h4.below hl y.h).c0
      have q1 : ∀ y : Sub (Bel wr), y.w.cell? ⟨b, off + k * 7 + 1, none⟩ = some (.int .i64 p.k) := fun y => (h4.below hl y.h).c1
      have q2 : ∀ y : Sub (Bel wr), y.w.cell? ⟨b, off + k * 7 + 2, none⟩ = some (.string ⟨p.c.toArray⟩) := fun y => (h4.below hl y.h).c2
      have q3 : ∀ y : Sub (Bel wr), y.w.cell? ⟨b, off + k * 7 + 3, none⟩ = some (.int .i64 p.a) := fun y => (h4.below hl y.h).c3
      have q4 : ∀ y : Sub (Bel wr), y.w.cell? ⟨b, off + k * 7 + 4, none⟩ = some (.bool p.p) := fun y => (h4.below hl y.h).c4
      have q5 : ∀ y : Sub (Bel wr), y.w.cell? ⟨b, off + k * 7 + 5, none⟩ = some (.bool p.v) := fun y => (h4.below hl y.h).c5
      have q6 : ∀ y : Sub (Bel wr), y.w.cell? ⟨b, off + k * 7 + 6, none⟩ = some (.bool p.r) := fun y => (h4.below hl y.h).c6
      have HB := Lib.hid (fun y : Sub (Bel wr) => (belowGo hb y.h : Below w.heap.size w y.w))
      rcases Bool.eq_false_or_eq_true p.ok with hv | hv
      · rw [hv] at HV
        by_cases hk0 : 0 < k
        · obtain ⟨b', off', q, e2, hl', hq, h4'⟩ := (hR.below hb).at (k := k - 1) (by omega)
          obtain ⟨rfl, rfl⟩ : b = b' ∧ off = off' := by injection e2 with e2; injection e2 with e3 e4; exact ⟨e3, e4⟩
          have p0 : ∀ y : Sub (Bel wr), y.w.cell? ⟨b, off + (k - 1) * 7, none⟩ = some (.int .i64 q.d) := fun y => (h4'.below hl' y.h).c0
          have ho : lAt ps k = decide (q.d ≤ p.d) := by
            obtain ⟨j, rfl⟩ : ∃ j, k = j + 1 := ⟨k - 1, by omega⟩
            rw [lAt_s hp.out (by simpa using hq.out), hv, Bool.true_and]
          have HT := Lib.hid (lTo_succ ps k)
          rw [hok.out, Bool.true_and, ho] at HT
          have E := Lib.hid (fun h : decide (q.d ≤ p.d) = false => log_no hlt (ho.trans h))
          clear hR hs hp hok hv hq h4' h4 e2 ho
          by_cases hqr : q.d ≤ p.d
          · rw [decide_eq_true hqr] at HT
            clear E
            have dd : decide (p.d < q.d) = false := decide_eq_false (by omega)
            go_wp2_with fail
            refine region_held (Bel wr) (by kernel_rfl) (by kernel_rfl) (Bel.drew wr) ?_
            repeat (go_big_quiet_step ((first | rfl | (go_at_call 32; exact HV.out _))))
            refine wpQuiet_nil ?_
            rintro _ ⟨y, rfl⟩
            go_wp2_with fail
            go_roundw
            case rel => exact ⟨k + 1, by omega, by go_num, HT, HB.out y⟩
            case measure => simp [intOf]; omega
          · have E3 : Hid (logB ps = false) := Lib.hid (E.out (decide_eq_false hqr))
            have hqr : p.d < q.d := by omega
            clear E HT
            go_wp2_with fail
            refine region_held (Bel wr) (by kernel_rfl) (by kernel_rfl) (Bel.drew wr) ?_
            repeat (go_big_quiet_step ((first | rfl | (go_at_call 32; exact HV.out _))))
            refine wpQuiet_nil ?_
            rintro _ ⟨y, rfl⟩
            go_wp2_with fail
            go_ret
            exact ⟨by rw [E3.out] <;> rfl, HB.out y⟩
        · have HT : Hid (lTo ps (k + 1) = true) := Lib.hid (by
            rw [lTo_succ, hok.out, Bool.true_and]
            obtain rfl : k = 0 := by omega
            rw [lAt_0 hp.out, hv])
          have hd : decide (0 < (k : Int)) = false := by simp; omega
          clear hR hs hp hok hv h4
          go_wp2_with fail
          refine region_held (Bel wr) (by kernel_rfl) (by kernel_rfl) (Bel.drew wr) ?_
          repeat (go_big_quiet_step ((first | rfl | (go_at_call 32; exact HV.out _))))
          refine wpQuiet_nil ?_
          rintro _ ⟨y, rfl⟩
          go_wp2_with fail
          go_roundw
          case rel => exact ⟨k + 1, by omega, by go_num, HT, HB.out y⟩
          case measure => simp [intOf]; omega
      · rw [hv] at HV
        have E3 : Hid (logB ps = false) := Lib.hid (log_no hlt (lAt_no hp.out hv))
        clear hR hs hp hok hv h4
        go_wp2_with fail
        refine region_held (Bel wr) (by kernel_rfl) (by kernel_rfl) (Bel.drew wr) ?_
        repeat (go_big_quiet_step ((first | rfl | (go_at_call 32; exact HV.out _))))
        refine wpQuiet_nil ?_
        rintro _ ⟨y, rfl⟩
        go_wp2_with fail
        go_ret
        exact ⟨by rw [E3.out] <;> rfl, HB.out y⟩
    · have E := Lib.hid (log_all (by obtain rfl : k = ps.length := by omega
                                     exact hok.out))
      clear hok hR hs
      go_wp2_with fail
      go_ret
      exact ⟨by rw [E.out] <;> rfl, hb⟩
theorem logS_q {w : World} {A : Option Addr} {c : Nat} {ps : List Evt} {b : Bool} (h : ETbl w A ps) (hb : logB ps = b) : Calls Try.prog 36 #[.slice A ps.length c] w (Gives w (.bool b)) := by
  subst hb; exact isLog_s A c ps w h
end Go.Proofs.Ytifioecofeojpaa

/- Logs in plain lists: the place of a day, further events, indices, totals by kind. -/
namespace Go.Proofs.Ytifioecofeojpaa
open Go.ChangeShapes Go.WideShapes Go.ChangeAt Go.RowKit
set_option linter.unusedVariables false

/-! ### the place of a day -/
def plcE (rs : List Evt) (d : Int) : Nat := rs.findIdx (fun q => decide (d < q.d))
theorem plc_leE (rs : List Evt) (d : Int) : plcE rs d ≤ rs.length := List.findIdx_le_length
theorem plc_eqE {rs : List Evt} {d : Int} {p : Nat} (hp : p ≤ rs.length) (h1 : ∀ (i : Nat) (q : Evt), i < p → rs[i]? = some q → q.d ≤ d) (h2 : ∀ (q : Evt), rs[p]? = some q → d < q.d) : plcE rs d = p := by
  unfold plcE
  rcases Nat.lt_or_ge p rs.length with hlt | hge
  · rw [List.findIdx_eq hlt]
    refine ⟨decide_eq_true (h2 _ (List.getElem?_eq_getElem hlt)), fun j hj => ?_⟩
    have := h1 j _ hj (List.getElem?_eq_getElem (by omega))
    rw [decide_eq_false_iff_not]; omega
  · obtain rfl : p = rs.length := by omega
    rw [List.findIdx_eq_length]
    intro x hx
    obtain ⟨j, hj⟩ := List.getElem?_of_mem hx
    have := h1 j x (List.getElem?_eq_some_iff.1 hj).1 hj
    rw [decide_eq_false_iff_not]; omega
theorem plc_lessE {rs : List Evt} {d : Int} {i : Nat} {q : Evt} (hi : i < plcE rs d) (hq : rs[i]? = some q) : q.d ≤ d := by
  obtain ⟨h, e⟩ := List.getElem?_eq_some_iff.1 hq
  have := List.not_of_lt_findIdx hi
  rw [e] at this
  simp only [decide_eq_false_iff_not] at this
  omega
theorem plc_atE {rs : List Evt} {d : Int} {q : Evt} (hq : rs[plcE rs d]? = some q) : d < q.d := by
  obtain ⟨hp, e⟩ := List.getElem?_eq_some_iff.1 hq
  have h1 := List.findIdx_getElem (p := fun q : Evt => decide (d < q.d)) (w := hp)
  have h2 : d < (rs[plcE rs d]'hp).d := of_decide_eq_true h1
  rw [e] at h2; exact h2
theorem plc_notE {rs : List Evt} (h : logB rs = true) {d : Int} {i : Nat} {q : Evt} (hi : plcE rs d ≤ i) (hq : rs[i]? = some q) : d < q.d := by
  have hl := (List.getElem?_eq_some_iff.1 hq).1
  have hp := List.getElem?_eq_getElem (l := rs) (i := plcE rs d) (by omega)
  have a := plc_atE hp
  have b := log_before h hi hp hq
  omega
/-! ### a further event -/
def addE (rs : List Evt) (e : Evt) : List Evt := rs.take (plcE rs e.d) ++ e :: rs.drop (plcE rs e.d)
theorem addE_len (rs : List Evt) (e : Evt) : (addE rs e).length = rs.length + 1 := by
  unfold addE; have := plc_leE rs e.d; simp [List.length_take, List.length_drop]; omega
def addR (rs : List Evt) (e : Evt) : List Evt × Int := if logB rs = true ∧ e.ok = true then if rs.length = 15 then ([], 3) else (addE rs e, 0) else ([], 1)
theorem addR_no {rs : List Evt} {e : Evt} (h : logB rs = false ∨ e.ok = false) : addR rs e = ([], 1) := by
  unfold addR; rw [if_neg]; rintro ⟨a, b⟩; rcases h with h | h <;> simp_all
theorem addR_lim {rs : List Evt} {e : Evt} (h : logB rs = true) (h1 : e.ok = true) (h2 : rs.length = 15) : addR rs e = ([], 3) := by unfold addR; rw [if_pos ⟨h, h1⟩, if_pos h2]
theorem addR_ok {rs : List Evt} {e : Evt} (h : logB rs = true) (h1 : e.ok = true) (h2 : rs.length ≠ 15) : addR rs e = (addE rs e, 0) := by unfold addR; rw [if_pos ⟨h, h1⟩, if_neg h2]
theorem addR_len (rs : List Evt) (e : Evt) : (addR rs e).1.length ≤ rs.length + 1 := by
  unfold addR; split
  · split
    · exact Nat.zero_le _
    · rw [addE_len]; exact Nat.le_refl _
  · exact Nat.zero_le _
/-! ### indices -/
def idx (f : Evt → Bool) : List Evt → Nat → List Int
  | [], _ => []
  | r :: rs, i => (if f r = true then [(i : Int)] else []) ++ idx f rs (i + 1)
theorem idx_snoc (f : Evt → Bool) (r : Evt) : ∀ (rs : List Evt) (i : Nat), idx f (rs ++ [r]) i = idx f rs i ++ (if f r = true then [((i + rs.length : Nat) : Int)] else [])
  | [], i => by simp [idx]
  | q :: rs, i => by
    rw [List.cons_append, idx, idx_snoc f r rs (i + 1), idx, List.append_assoc, List.length_cons, show i + 1 + rs.length = i + (rs.length + 1) by omega]
theorem idx_len (f : Evt → Bool) : ∀ (rs : List Evt) (i : Nat), (idx f rs i).length ≤ rs.length
  | [], i => Nat.le_refl _
  | q :: rs, i => by
    have := idx_len f rs (i + 1)
    rw [idx, List.length_append, List.length_cons]; split <;> simp <;> omega
def ixs (f : Evt → Bool) (rs : List Evt) : List Int := idx f rs 0
theorem ixs_len (f : Evt → Bool) (rs : List Evt) : (ixs f rs).length ≤ rs.length := idx_len f rs 0
theorem ixs_next (f : Evt → Bool) {rs : List Evt} {k : Nat} {r : Evt} (h : rs[k]? = some r) : ixs f (rs.take (k + 1)) = ixs f (rs.take k) ++ (if f r = true then [(k : Int)] else []) := by
  have hk := (List.getElem?_eq_some_iff.1 h).1
  unfold ixs
  rw [snoc_of h, idx_snoc, List.length_take, Nat.min_eq_left (by omega), Nat.zero_add]
def betR (rs : List Evt) (f t : Int) : List Int × Int :=
  if logB rs = true then if inr f 0 36524 = true ∧ inr t 0 36524 = true then (ixs (fun r => inr r.d f t) rs, 0) else ([], 2) else ([], 1)
theorem betR_no {rs : List Evt} {f t : Int} (h : logB rs = false) : betR rs f t = ([], 1) := by unfold betR; rw [if_neg (by rw [h]; decide)]
theorem betR_day {rs : List Evt} {f t : Int} (h : logB rs = true) (h1 : inr f 0 36524 = false ∨ inr t 0 36524 = false) : betR rs f t = ([], 2) := by
  unfold betR; rw [if_pos h, if_neg]; rintro ⟨a, b⟩; rcases h1 with h | h <;> simp_all
theorem betR_ok {rs : List Evt} {f t : Int} (h : logB rs = true) (h1 : inr f 0 36524 = true) (h2 : inr t 0 36524 = true) : betR rs f t = (ixs (fun r => inr r.d f t) rs, 0) := by unfold betR; rw [if_pos h, if_pos ⟨h1, h2⟩]
theorem betR_len (rs : List Evt) (f t : Int) : (betR rs f t).1.length ≤ rs.length := by
  unfold betR; split
  · split
    · exact ixs_len _ _
    · exact Nat.zero_le _
  · exact Nat.zero_le _
def eofR (rs : List Evt) (s : List UInt8) : List Int × Int := if logB rs = true then (ixs (fun r => r.c == s) rs, 0) else ([], 1)
theorem eofR_no {rs : List Evt} {s : List UInt8} (h : logB rs = false) : eofR rs s = ([], 1) := by unfold eofR; rw [if_neg (by rw [h]; decide)]
theorem eofR_ok {rs : List Evt} {s : List UInt8} (h : logB rs = true) : eofR rs s = (ixs (fun r => r.c == s) rs, 0) := by unfold eofR; rw [if_pos h]
theorem eofR_len (rs : List Evt) (s : List UInt8) : (eofR rs s).1.length ≤ rs.length := by
  unfold eofR; split
  · exact ixs_len _ _
  · exact Nat.zero_le _
/-! ### totals by kind -/
def totE (j : Int) (rs : List Evt) : Int := isum ((rs.filter (fun r => r.k == j)).map Evt.a)
theorem totE_snoc (j : Int) (rs : List Evt) (r : Evt) : totE j (rs ++ [r]) = totE j rs + (if r.k = j then r.a else 0) := by
  unfold totE; rw [List.filter_append, List.map_append, isum_app]
  by_cases h : r.k = j <;> simp [List.filter_cons, h, isum]
theorem totE_bd (j : Int) : ∀ {rs : List Evt}, (∀ r ∈ rs, r.ok = true) → 0 ≤ totE j rs ∧ totE j rs ≤ rs.length * 1000000000
  | [], _ => by simp [totE, isum]
  | r :: rs, h => by
    have ih := totE_bd (rs := rs) j fun q hq => h q (List.mem_cons_of_mem _ hq)
    have ho := (eok (h r (List.mem_cons_self ..))).2.2.2
    have e : totE j (r :: rs) = (if r.k = j then r.a else 0) + totE j rs := by
      unfold totE; by_cases hk : r.k = j <;> simp [List.filter_cons, hk, isum]
    rw [e, List.length_cons]; split <;> omega
def totL (rs : List Evt) : List Int := [totE 0 rs, totE 1 rs, totE 2 rs, totE 3 rs, totE 4 rs, totE 5 rs, totE 6 rs]
def tbkR (rs : List Evt) : List Int × Int := if logB rs = true then (totL rs, 0) else ([], 1)
theorem tbkR_no {rs : List Evt} (h : logB rs = false) : tbkR rs = ([], 1) := by unfold tbkR; rw [if_neg (by rw [h]; decide)]
theorem tbkR_ok {rs : List Evt} (h : logB rs = true) : tbkR rs = (totL rs, 0) := by unfold tbkR; rw [if_pos h]
theorem tbkR_len (rs : List Evt) : (tbkR rs).1.length ≤ 7 := by
  unfold tbkR; split
  · exact Nat.le_refl _
  · exact Nat.zero_le _
end Go.Proofs.Ytifioecofeojpaa

