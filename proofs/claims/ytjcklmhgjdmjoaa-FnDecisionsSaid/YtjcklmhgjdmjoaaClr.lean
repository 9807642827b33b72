/- Matches and rulebooks in plain lists; spec.l09Meets, l09Matches, IsRulebook. -/
import Derived.Test.YtjcklmhgjdmjoaaCll
import Derived.Test.YtjcklmhgjdmjoaaMEvt
import Derived.Test.YtjcklmhgjdmjoaaMHeld
namespace Go.Proofs.Ytjcklmhgjdmjoaa
open Go.ChangeShapes Go.WideShapes Go.ChangeAt Go.RowKit
set_option linter.unusedVariables false

/-- A truth meets a need. -/
def meetB (n : Int) (t : Bool) : Bool := n == 0 || (t == (n == 1))
/-- A clause matches an event. -/
def matchB (p : Cls) (e : Evt) : Bool := (p.k == -1 || p.k == e.k) && (meetB p.p e.p && (meetB p.v e.v && meetB p.r e.r))
theorem meets_s {n : Int} {t b : Bool} (h : meetB n t = b) (w : World) : Calls Try.prog 156 #[.int .i64 n, .bool t] w fun e w' => e = .returned (.bool b) ∧ w = w' := by
  subst h
  have E : Hid (meetB n t = (n == 0 || (t == (n == 1)))) := Lib.hid rfl
  rcases Bool.eq_false_or_eq_true (n == 0) with h0 | h0
  · go_enter Try.func156, Try.ntmps156
    go_wp2_with fail
    go_ret
    exact ⟨by rw [E.out, h0] <;> rfl, rfl⟩
  · go_enter Try.func156, Try.ntmps156
    go_wp2_with fail
    go_ret
    exact ⟨by rw [E.out, h0] <;> rfl, rfl⟩
/-- The ways through a match. -/
inductive MWay (p : Cls) (e : Evt) : Bool → Prop where
  | no (h0 : (p.k == -1) = false) (h : (p.k == e.k) = false) : MWay p e false
  | aper (h0 : (p.k == -1) = true) (h1 : meetB p.p e.p = false) : MWay p e false
  | avol (h0 : (p.k == -1) = true) (h1 : meetB p.p e.p = true) (h2 : meetB p.v e.v = false) : MWay p e false
  | afin (b : Bool) (h0 : (p.k == -1) = true) (h1 : meetB p.p e.p = true) (h2 : meetB p.v e.v = true) (h3 : meetB p.r e.r = b) : MWay p e b
  | kper (h0 : (p.k == -1) = false) (h : (p.k == e.k) = true) (h1 : meetB p.p e.p = false) : MWay p e false
  | kvol (h0 : (p.k == -1) = false) (h : (p.k == e.k) = true) (h1 : meetB p.p e.p = true) (h2 : meetB p.v e.v = false) : MWay p e false
  | kfin (b : Bool) (h0 : (p.k == -1) = false) (h : (p.k == e.k) = true) (h1 : meetB p.p e.p = true) (h2 : meetB p.v e.v = true) (h3 : meetB p.r e.r = b) : MWay p e b
theorem mway (p : Cls) (e : Evt) : MWay p e (matchB p e) := by
  have E : matchB p e = ((p.k == -1 || p.k == e.k) && (meetB p.p e.p && (meetB p.v e.v && meetB p.r e.r))) := rfl
  rw [E]
  rcases Bool.eq_false_or_eq_true (p.k == -1) with h0 | h0
  · rcases Bool.eq_false_or_eq_true (meetB p.p e.p) with h1 | h1
    · rcases Bool.eq_false_or_eq_true (meetB p.v e.v) with h2 | h2
      · rw [h0, h1, h2]; exact .afin _ h0 h1 h2 rfl
      · rw [h0, h1, h2]; exact .avol h0 h1 h2
    · rw [h0, h1]; exact .aper h0 h1
  · rcases Bool.eq_false_or_eq_true (p.k == e.k) with h | h
    · rcases Bool.eq_false_or_eq_true (meetB p.p e.p) with h1 | h1
      · rcases Bool.eq_false_or_eq_true (meetB p.v e.v) with h2 | h2
        · rw [h0, h, h1, h2]; exact .kfin _ h0 h h1 h2 rfl
        · rw [h0, h, h1, h2]; exact .kvol h0 h h1 h2
      · rw [h0, h, h1]; exact .kper h0 h h1
    · rw [h0, h]; exact .no h0 h
set_option maxRecDepth 100000 in
set_option maxHeartbeats 4000000 in
theorem matches_s (p : Cls) (q : Evt) (w : World) : Calls Try.prog 140 #[.agg #[.string ⟨p.c.toArray⟩, .int .i64 p.k, .int .i64 p.p, .int .i64 p.v, .int .i64 p.r, .int .i64 p.e, .string ⟨p.t.toArray⟩], .agg #[.int .i64 q.d, .int .i64 q.k, .string ⟨q.c.toArray⟩, .int .i64 q.a, .bool q.p, .bool q.v, .bool q.r]] w (Gives w (.bool (matchB p q))) := by
  have B : ∀ o o2, Hid (Below w.heap.size w ((w.alloc o).alloc o2)) := fun o o2 => Lib.hid (belowGo (below_alloc w o) (below_alloc _ o2))
  have W := mway p q
  obtain ⟨b, hb⟩ : ∃ b, b = matchB p q := ⟨_, rfl⟩
  rw [← hb] at W
  rw [← hb]
  clear hb
  cases W
  all_goals
    go_enter Try.func140, Try.ntmps140
    go_wp2_with (go_at_call 156; refine (meets_s (by assumption) _).mono ?_; rintro e w' ⟨rfl, rfl⟩)
    go_ret
    exact ⟨by first | rfl | simp_all, (B _ _).out⟩
/-- The clause at an index keeps a rulebook's rules. -/
def rbAt (ps : List Cls) (i : Nat) : Bool :=
  match ps[i]? with
  | none => true
  | some p => p.ok && (fndIC ps p.c == (i : Int) && (!(p.e == 3) || decide ((i : Int) < fndIC ps p.t)))
def rbTo (ps : List Cls) (k : Nat) : Bool := (List.range k).all (rbAt ps)
/-- The last clause. -/
def endB (p : Cls) : Bool := p.k == -1 && (p.p == 0 && (p.v == 0 && (p.r == 0 && p.e != 3)))
def rbB (ps : List Cls) : Bool := decide (1 ≤ ps.length ∧ ps.length ≤ 12) && (rbTo ps ps.length && (match ps[ps.length - 1]? with | some p => endB p | none => false))
theorem rbAt_some {ps : List Cls} {k : Nat} {p : Cls} (h : ps[k]? = some p) : rbAt ps k = (p.ok && (fndIC ps p.c == (k : Int) && (!(p.e == 3) || decide ((k : Int) < fndIC ps p.t)))) := by unfold rbAt; rw [h]
theorem rbTo_succ (ps : List Cls) (k : Nat) : rbTo ps (k + 1) = (rbTo ps k && rbAt ps k) := by simp [rbTo, List.range_succ]
theorem rbTo_no {ps : List Cls} {k n : Nat} (h : rbAt ps k = false) (hk : k < n) : rbTo ps n = false := by
  unfold rbTo; rw [List.all_eq_false]; exact ⟨k, List.mem_range.2 hk, by rw [h]; decide⟩
theorem rbTo_at {ps : List Cls} {k n : Nat} (h : rbTo ps n = true) (hk : k < n) : rbAt ps k = true := by
  unfold rbTo at h; rw [List.all_eq_true] at h; exact h k (List.mem_range.2 hk)
theorem rb_no {ps : List Cls} {k : Nat} (hk : k < ps.length) (h : rbAt ps k = false) : rbB ps = false := by
  unfold rbB; rw [rbTo_no h hk]; simp
theorem rb_len {ps : List Cls} (h : ¬(1 ≤ ps.length ∧ ps.length ≤ 12)) : rbB ps = false := by
  unfold rbB; rw [decide_eq_false h]; rfl
theorem rb_end {ps : List Cls} {p : Cls} (h : 1 ≤ ps.length ∧ ps.length ≤ 12) (h1 : rbTo ps ps.length = true) (hp : ps[ps.length - 1]? = some p) : rbB ps = endB p := by
  unfold rbB; rw [decide_eq_true h, h1, hp]; rfl
/-- What a rulebook is, as its readers use it. -/
structure RB (ps : List Cls) : Prop where
  lo : 1 ≤ ps.length
  hi : ps.length ≤ 12
  ok : ∀ (k : Nat) (p : Cls), ps[k]? = some p → p.ok = true
  own : ∀ (k : Nat) (p : Cls), ps[k]? = some p → fndIC ps p.c = (k : Int)
  to : ∀ (k : Nat) (p : Cls), ps[k]? = some p → p.e = 3 → (k : Int) < fndIC ps p.t
  fin : ∀ p, ps[ps.length - 1]? = some p → endB p = true
theorem rb_of {ps : List Cls} (h : rbB ps = true) : RB ps := by
  unfold rbB at h
  rw [Bool.and_eq_true, Bool.and_eq_true, decide_eq_true_eq] at h
  obtain ⟨⟨h1, h2⟩, h3, h4⟩ := h
  have H := fun (k : Nat) (p : Cls) (hp : ps[k]? = some p) => by
    have a := rbTo_at h3 (List.getElem?_eq_some_iff.1 hp).1
    rw [rbAt_some hp, Bool.and_eq_true, Bool.and_eq_true] at a
    exact a
  refine ⟨h1, h2, fun k p hp => (H k p hp).1, fun k p hp => by simpa using (H k p hp).2.1, fun k p hp he => ?_, fun p hp => by rw [hp] at h4; exact h4⟩
  have a := (H k p hp).2.2
  rw [he] at a
  simpa using a
end Go.Proofs.Ytjcklmhgjdmjoaa
