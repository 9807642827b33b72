/- Registers in plain lists; one party by itself: (impl.Party).isValid, spec.l05Party; spec.l05Find. -/
import Derived.Test.YtjgagiigpijaiaaDoorPtyf
import Derived.Test.YtjgagiigpijaiaaDoorPcode
namespace Go.Proofs.YtjgagiigpijaiaaDoor
open Go.ChangeShapes Go.WideShapes Go.ChangeAt Go.RowKit
set_option linter.unusedVariables false

/-- A party is as described by itself. -/
def Pty.ok (p : Pty) : Bool := pcode p.c && inr p.k 0 4 && (p.a == [] || (pcode p.a && !(p.a == p.c)))
/-- The index of the party with a code. -/
def fnd (ps : List Pty) (c : List UInt8) : Option Nat := ps.findIdx? (fun p => p.c == c)
def fndI (ps : List Pty) (c : List UInt8) : Int := match fnd ps c with | none => -1 | some k => k
/-- There is a party with the code that has no agent itself. -/
def agB (ps : List Pty) (c : List UInt8) : Bool := match fnd ps c with | none => false | some k => match ps[k]? with | none => false | some q => q.a == []
def befP (p q : Pty) : Bool := Op.bytesLess p.c q.c
/-- One party behind those before it: as described, and behind the one before. -/
def ordAt (ps : List Pty) (i : Nat) : Bool :=
  match ps[i]? with
  | none => true
  | some p => p.ok && (match i with | 0 => true | j + 1 => match ps[j]? with | none => true | some q => befP q p)
def agAt (ps : List Pty) (i : Nat) : Bool :=
  match ps[i]? with
  | none => true
  | some p => p.a == [] || agB ps p.a
def ordTo (ps : List Pty) (k : Nat) : Bool := (List.range k).all (ordAt ps)
def agTo (ps : List Pty) (k : Nat) : Bool := (List.range k).all (agAt ps)
def regB (ps : List Pty) : Bool := decide ((ps.length : Int) ≤ 12) && (ordTo ps ps.length && agTo ps ps.length)
theorem ordTo_succ (ps : List Pty) (k : Nat) : ordTo ps (k + 1) = (ordTo ps k && ordAt ps k) := by simp [ordTo, List.range_succ]
theorem agTo_succ (ps : List Pty) (k : Nat) : agTo ps (k + 1) = (agTo ps k && agAt ps k) := by simp [agTo, List.range_succ]
theorem rto_no {f : Nat → Bool} {k n : Nat} (h : f k = false) (hk : k < n) : (List.range n).all f = false := by
  rw [List.all_eq_false]; exact ⟨k, by simpa using hk, by simp [h]⟩
theorem rto_at {f : Nat → Bool} {k n : Nat} (h : (List.range n).all f = true) (hk : k < n) : f k = true := by
  rw [List.all_eq_true] at h; exact h k (by simpa using hk)
theorem reg_no1 {ps : List Pty} {k : Nat} (hk : k < ps.length) (h : ordAt ps k = false) : regB ps = false := by
  unfold regB; rw [show ordTo ps ps.length = false from rto_no h hk]; simp
theorem reg_no2 {ps : List Pty} {k : Nat} (hk : k < ps.length) (h : agAt ps k = false) : regB ps = false := by
  unfold regB; rw [show agTo ps ps.length = false from rto_no h hk]; simp
theorem reg_long {ps : List Pty} (h : 12 < ps.length) : regB ps = false := by
  unfold regB; rw [show decide ((ps.length : Int) ≤ 12) = false by rw [decide_eq_false_iff_not]; omega]; rfl
theorem reg_yes {ps : List Pty} (h : ¬ 12 < ps.length) (h1 : ordTo ps ps.length = true) (h2 : agTo ps ps.length = true) : regB ps = true := by
  unfold regB; rw [h1, h2]; simp; omega
theorem regB_iff {ps : List Pty} : regB ps = true ↔ ps.length ≤ 12 ∧ ordTo ps ps.length = true ∧ agTo ps ps.length = true := by
  unfold regB; simp only [Bool.and_eq_true, decide_eq_true_eq]
  exact ⟨fun ⟨h1, h2⟩ => ⟨by omega, h2⟩, fun ⟨h1, h2⟩ => ⟨by omega, h2⟩⟩
theorem ordAt_0 {ps : List Pty} {p : Pty} (h : ps[0]? = some p) : ordAt ps 0 = p.ok := by unfold ordAt; simp [h]
theorem ordAt_s {ps : List Pty} {k : Nat} {q p : Pty} (h : ps[k + 1]? = some p) (hq : ps[k]? = some q) : ordAt ps (k + 1) = (p.ok && befP q p) := by unfold ordAt; simp [h, hq]
theorem ordAt_no {ps : List Pty} {k : Nat} {p : Pty} (h : ps[k]? = some p) (hr : p.ok = false) : ordAt ps k = false := by unfold ordAt; simp [h, hr]
theorem agAt_eq {ps : List Pty} {k : Nat} {p : Pty} (h : ps[k]? = some p) : agAt ps k = (p.a == [] || agB ps p.a) := by unfold agAt; simp [h]
/-! ### the order -/
theorem ord_bef {ps : List Pty} (h : ordTo ps ps.length = true) {k : Nat} {q p : Pty} (hq : ps[k]? = some q) (hp : ps[k + 1]? = some p) : befP q p = true := by
  obtain ⟨hk, _⟩ := List.getElem?_eq_some_iff.1 hp
  have := rto_at h hk
  rw [ordAt_s hp hq, Bool.and_eq_true] at this
  exact this.2
theorem ord_ok {ps : List Pty} (h : ordTo ps ps.length = true) {k : Nat} {p : Pty} (hp : ps[k]? = some p) : p.ok = true := by
  obtain ⟨hk, _⟩ := List.getElem?_eq_some_iff.1 hp
  have := rto_at h hk
  unfold ordAt at this
  rw [hp] at this
  simp only [Bool.and_eq_true] at this
  exact this.1
theorem befP_trans {a b c : Pty} (h : befP a b = true) (k : befP b c = true) : befP a c = true := less_trans h k
theorem ord_before {ps : List Pty} (h : ordTo ps ps.length = true) : ∀ {i j : Nat} {q p : Pty}, i < j → ps[i]? = some q → ps[j]? = some p → befP q p = true := by
  intro i j
  induction j with
  | zero => intro q p hij; omega
  | succ j ih =>
    intro q p hij hq hp
    rcases Nat.lt_or_ge i j with h1 | h1
    · have hj : j < ps.length := by have := (List.getElem?_eq_some_iff.1 hp).1; omega
      exact befP_trans (ih h1 hq (List.getElem?_eq_getElem hj)) (ord_bef h (List.getElem?_eq_getElem hj) hp)
    · obtain rfl : i = j := by omega
      exact ord_bef h hq hp
theorem ord_key {ps : List Pty} (h : ordTo ps ps.length = true) {i j : Nat} {q p : Pty} (hq : ps[i]? = some q) (hp : ps[j]? = some p) (hc : q.c = p.c) : i = j := by
  rcases Nat.lt_trichotomy i j with hlt | rfl | hgt
  · have := ord_before h hlt hq hp
    unfold befP at this; rw [hc, less_irr] at this; cases this
  · rfl
  · have := ord_before h hgt hp hq
    unfold befP at this; rw [hc, less_irr] at this; cases this
/-! ### finding -/
theorem fnd_none {ps : List Pty} {c : List UInt8} (h : ∀ (j : Nat) (q : Pty), ps[j]? = some q → (q.c == c) = false) : fnd ps c = none := by
  unfold fnd; rw [List.findIdx?_eq_none_iff]
  intro x hx
  obtain ⟨j, hj⟩ := List.getElem?_of_mem hx
  exact h j x hj
theorem fnd_some {ps : List Pty} {c : List UInt8} {k : Nat} {p : Pty} (hk : ps[k]? = some p) (hc : (p.c == c) = true) (h : ∀ (j : Nat) (q : Pty), j < k → ps[j]? = some q → (q.c == c) = false) : fnd ps c = some k := by
  unfold fnd
  rw [List.findIdx?_eq_some_iff_getElem]
  obtain ⟨hl, e⟩ := List.getElem?_eq_some_iff.1 hk
  refine ⟨hl, by rw [e]; exact hc, fun j hj => ?_⟩
  rw [h j _ hj (List.getElem?_eq_getElem (by omega))]; exact Bool.false_ne_true
theorem fnd_at {ps : List Pty} {c : List UInt8} {k : Nat} (h : fnd ps c = some k) : ∃ p, ps[k]? = some p ∧ p.c = c := by
  unfold fnd at h
  rw [List.findIdx?_eq_some_iff_getElem] at h
  obtain ⟨hl, hc, _⟩ := h
  exact ⟨_, List.getElem?_eq_getElem hl, by simpa using hc⟩
theorem fnd_lt {ps : List Pty} {c : List UInt8} {k : Nat} (h : fnd ps c = some k) : k < ps.length := by
  obtain ⟨p, hp, _⟩ := fnd_at h; exact (List.getElem?_eq_some_iff.1 hp).1
theorem fnd_no {ps : List Pty} {c : List UInt8} (h : fnd ps c = none) {j : Nat} {q : Pty} (hq : ps[j]? = some q) : q.c ≠ c := by
  unfold fnd at h; rw [List.findIdx?_eq_none_iff] at h
  have := h q (List.mem_of_getElem? hq)
  simpa using this
theorem fnd_key {ps : List Pty} (h : ordTo ps ps.length = true) {c : List UInt8} {k : Nat} {p : Pty} (hp : ps[k]? = some p) (hc : p.c = c) : fnd ps c = some k := by
  refine fnd_some hp (by simpa using hc) fun j q hj hq => ?_
  rw [beq_eq_false_iff_ne]
  intro e
  have := ord_key h hq hp (e.trans hc.symm)
  omega
/-! ### one party -/
theorem pcodeI_q {s : List UInt8} {b : Bool} (h : pcode s = b) (hl : s.length ≤ 9223372036854775807) (w : World) : Calls Tryd.prog 45 #[.string ⟨s.toArray⟩] w fun e w' => e = .returned (.bool b) ∧ w = w' :=
  (isPcode_i s w hl).mono fun e w' k => ⟨by rw [← h]; exact k.1, k.2⟩
theorem pcodeS_q {s : List UInt8} {b : Bool} (h : pcode s = b) (hl : s.length ≤ 9223372036854775807) (w : World) : Calls Tryd.prog 46 #[.string ⟨s.toArray⟩] w fun e w' => e = .returned (.bool b) ∧ w = w' :=
  (isPcode_s s w hl).mono fun e w' k => ⟨by rw [← h]; exact k.1, k.2⟩
inductive PWay (p : Pty) : Bool → Prop where
  | code (b : Bool) (h : pcode p.c = false) (ha : (p.a == []) = b) (h2 : pcode p.a = false) : PWay p false
  | codeA (b : Bool) (h : pcode p.c = false) (ha : (p.a == []) = false) (h2 : pcode p.a = true) (h3 : (p.a == p.c) = b) : PWay p false
  | kind (b : Bool) (h : pcode p.c = true) (h1 : inr p.k 0 4 = false) (ha : (p.a == []) = b) (h2 : pcode p.a = false) : PWay p false
  | kindA (b : Bool) (h : pcode p.c = true) (h1 : inr p.k 0 4 = false) (ha : (p.a == []) = false) (h2 : pcode p.a = true) (h3 : (p.a == p.c) = b) : PWay p false
  | none (h : pcode p.c = true) (h1 : inr p.k 0 4 = true) (ha : (p.a == []) = true) (h2 : pcode p.a = false) : PWay p true
  | bad (h : pcode p.c = true) (h1 : inr p.k 0 4 = true) (ha : (p.a == []) = false) (h2 : pcode p.a = false) : PWay p false
  | self (h : pcode p.c = true) (h1 : inr p.k 0 4 = true) (ha : (p.a == []) = false) (h2 : pcode p.a = true) (h3 : (p.a == p.c) = true) : PWay p false
  | ok (h : pcode p.c = true) (h1 : inr p.k 0 4 = true) (ha : (p.a == []) = false) (h2 : pcode p.a = true) (h3 : (p.a == p.c) = false) : PWay p true
theorem pcode_nil {s : List UInt8} (h : (s == []) = true) : pcode s = false := by
  have : s = [] := by simpa using h
  subst this; exact pcode_0
theorem pway (p : Pty) : PWay p p.ok := by
  have e : p.ok = (pcode p.c && inr p.k 0 4 && (p.a == [] || (pcode p.a && !(p.a == p.c)))) := rfl
  rw [e]
  rcases Bool.eq_false_or_eq_true (pcode p.a) with h2 | h2
  · have ha : (p.a == []) = false := by
      rcases Bool.eq_false_or_eq_true (p.a == []) with ha | ha
      · have := pcode_nil ha; rw [h2] at this; cases this
      · exact ha
    rcases Bool.eq_false_or_eq_true (pcode p.c) with h | h
    · rcases Bool.eq_false_or_eq_true (inr p.k 0 4) with h1 | h1
      · rcases Bool.eq_false_or_eq_true (p.a == p.c) with h3 | h3
        · rw [h, h1, ha, h2, h3]; exact .self h h1 ha h2 h3
        · rw [h, h1, ha, h2, h3]; exact .ok h h1 ha h2 h3
      · rw [h, h1]; exact .kindA _ h h1 ha h2 rfl
    · rw [h]; exact .codeA _ h ha h2 rfl
  · rcases Bool.eq_false_or_eq_true (pcode p.c) with h | h
    · rcases Bool.eq_false_or_eq_true (inr p.k 0 4) with h1 | h1
      · rcases Bool.eq_false_or_eq_true (p.a == []) with ha | ha
        · rw [h, h1, ha, h2]; exact .none h h1 ha h2
        · rw [h, h1, ha, h2]; exact .bad h h1 ha h2
      · rw [h, h1]; exact .kind _ h h1 rfl h2
    · rw [h]; exact .code _ h rfl h2
set_option maxHeartbeats 2000000 in
theorem pvalid_i (p : Pty) (w : World) (hc : p.c.length ≤ 9223372036854775807) (ha : p.a.length ≤ 9223372036854775807) : Calls Tryd.prog 60 #[.agg #[.string ⟨p.c.toArray⟩, .int .i64 p.k, .string ⟨p.a.toArray⟩]] w (Gives w (.bool p.ok)) := by
  have B : ∀ o, Hid (Below w.heap.size w (w.alloc o)) := fun o => Lib.hid ((Below.refl _ _).alloc (Nat.le_refl _) _)
  have W := pway p
  obtain ⟨b, hb⟩ : ∃ b, b = p.ok := ⟨_, rfl⟩
  rw [← hb] at W ⊢
  clear hb
  cases W
  all_goals
    go_enter Tryd.func60, Tryd.ntmps60
    go_wp2_with (first
      | (go_at_call 45; refine (pcodeI_q (by assumption) (by assumption) _).mono ?_; rintro e w' ⟨rfl, rfl⟩)
      | (go_at_call 81; refine (within_q (by assumption) _).mono ?_; rintro e w' ⟨rfl, rfl⟩))
    go_ret
    exact ⟨by first | rfl | simp_all, (B _).out⟩
set_option maxHeartbeats 2000000 in
theorem pvalid_s (p : Pty) (w : World) (hc : p.c.length ≤ 9223372036854775807) (ha : p.a.length ≤ 9223372036854775807) : Calls Tryd.prog 52 #[.agg #[.string ⟨p.c.toArray⟩, .int .i64 p.k, .string ⟨p.a.toArray⟩]] w (Gives w (.bool p.ok)) := by
  have B : ∀ o, Hid (Below w.heap.size w (w.alloc o)) := fun o => Lib.hid ((Below.refl _ _).alloc (Nat.le_refl _) _)
  have W := pway p
  obtain ⟨b, hb⟩ : ∃ b, b = p.ok := ⟨_, rfl⟩
  rw [← hb] at W ⊢
  clear hb
  cases W
  all_goals
    go_enter Tryd.func52, Tryd.ntmps52
    go_wp2_with (first
      | (go_at_call 46; refine (pcodeS_q (by assumption) (by assumption) _).mono ?_; rintro e w' ⟨rfl, rfl⟩)
      | (go_at_call 75; refine (inn_q (by assumption) _).mono ?_; rintro e w' ⟨rfl, rfl⟩))
    go_ret
    exact ⟨by first | rfl | simp_all, (B _).out⟩
set_option maxHeartbeats 1000000 in
theorem find_s (A : Option Addr) (c : Nat) (ps : List Pty) (s : List UInt8) (w : World) (hR : PtyR w A ps) (hn : ps.length ≤ 1000000000) :
    Calls Tryd.prog 48 #[.slice A ps.length c, .string ⟨s.toArray⟩] w fun e w' => e = .returned (.int .i64 (fndI ps s)) ∧ w = w' := by
  go_enter Tryd.func48, Tryd.ntmps48
  go_wp2_with fail
  go_loop [5] (fun i => ∃ k : Nat, k ≤ ps.length ∧ i = .int .i64 k ∧ Hid (∀ (j : Nat) (q : Pty), j < k → ps[j]? = some q → (q.c == s) = false)) (fun i => ps.length - (intOf i).toNat)
  case atStart => exact ⟨0, Nat.zero_le _, rfl, Lib.hid fun j q hj => by omega⟩
  case round =>
    obtain ⟨k, hk, rfl, hno⟩ := hrel
    by_cases hlt : k < ps.length
    · obtain ⟨b, off, p, rfl, hl, hp, h4⟩ := hR.at hlt
      have c0 := h4.c0; have c1 := h4.c1; have c2 := h4.c2
      rcases Bool.eq_false_or_eq_true (p.c == s) with he | he
      · have E : Hid (fndI ps s = (k : Int)) := Lib.hid (by unfold fndI; rw [fnd_some hp.out he hno.out])
        clear hp hno h4 hR
        go_wp2_with fail
        go_ret
        exact ⟨by rw [E.out] <;> rfl, rfl⟩
      · have HN : Hid (∀ (j : Nat) (q : Pty), j < k + 1 → ps[j]? = some q → (q.c == s) = false) := Lib.hid fun j q hj hq => by
          rcases Nat.lt_or_ge j k with h1 | h1
          · exact hno.out j q h1 hq
          · obtain rfl : j = k := by omega
            rw [hp.out] at hq; rw [← Option.some.inj hq]; exact he
        clear hp hno h4 hR
        go_wp2_with fail
        go_round
        case rel => exact ⟨k + 1, by omega, by go_num, HN⟩
        case measure => simp [intOf]; omega
    · have E : Hid (fndI ps s = -1) := Lib.hid (by
        unfold fndI
        rw [fnd_none fun j q hq => hno.out j q (by have := (List.getElem?_eq_some_iff.1 hq).1; omega) hq])
      clear hno hR
      go_wp2_with fail
      go_ret
      exact ⟨by rw [E.out] <;> rfl, rfl⟩
end Go.Proofs.YtjgagiigpijaiaaDoor
