/- Manifests in plain lists; one interest by itself: IsInterest; spec.l06Find. (by gen_man.py, with XReg) -/
import Derived.Test.YtjcklmhgjdmjoaaIstf
import Derived.Test.YtjcklmhgjdmjoaaMCode
import Derived.Test.YtjcklmhgjdmjoaaInts
namespace Go.Proofs.Ytjcklmhgjdmjoaa
open Go.ChangeShapes Go.WideShapes Go.ChangeAt Go.RowKit
set_option linter.unusedVariables false

/-- An interest is as described. -/
def Ist.ok (p : Ist) : Bool := pcode p.c && (pcode p.o && (inr p.k 0 3 && (amt p.v && (inr p.a 0 60 && (p.k == 0 || p.a == 0)))))
/-- The index of the party with a code. -/
def fndM (ps : List Ist) (c : List UInt8) : Option Nat := ps.findIdx? (fun p => p.c == c)
def fndIM (ps : List Ist) (c : List UInt8) : Int := match fndM ps c with | none => -1 | some k => k
def befPM (p q : Ist) : Bool := Op.bytesLess p.c q.c
/-- One party behind those before it: as described, and behind the one before. -/
def ordAtM (ps : List Ist) (i : Nat) : Bool :=
  match ps[i]? with
  | none => true
  | some p => p.ok && (match i with | 0 => true | j + 1 => match ps[j]? with | none => true | some q => befPM q p)
def ordToM (ps : List Ist) (k : Nat) : Bool := (List.range k).all (ordAtM ps)
theorem ordTo_succM (ps : List Ist) (k : Nat) : ordToM ps (k + 1) = (ordToM ps k && ordAtM ps k) := by simp [ordToM, List.range_succ]
theorem rto_noM {f : Nat → Bool} {k n : Nat} (h : f k = false) (hk : k < n) : (List.range n).all f = false := by
  rw [List.all_eq_false]; exact ⟨k, by simpa using hk, by simp [h]⟩
theorem rto_atM {f : Nat → Bool} {k n : Nat} (h : (List.range n).all f = true) (hk : k < n) : f k = true := by
  rw [List.all_eq_true] at h; exact h k (by simpa using hk)
theorem ordAt_0M {ps : List Ist} {p : Ist} (h : ps[0]? = some p) : ordAtM ps 0 = p.ok := by unfold ordAtM; simp [h]
theorem ordAt_sM {ps : List Ist} {k : Nat} {q p : Ist} (h : ps[k + 1]? = some p) (hq : ps[k]? = some q) : ordAtM ps (k + 1) = (p.ok && befPM q p) := by unfold ordAtM; simp [h, hq]
theorem ordAt_noM {ps : List Ist} {k : Nat} {p : Ist} (h : ps[k]? = some p) (hr : p.ok = false) : ordAtM ps k = false := by unfold ordAtM; simp [h, hr]
/-! ### the order -/
theorem ord_befM {ps : List Ist} (h : ordToM ps ps.length = true) {k : Nat} {q p : Ist} (hq : ps[k]? = some q) (hp : ps[k + 1]? = some p) : befPM q p = true := by
  obtain ⟨hk, _⟩ := List.getElem?_eq_some_iff.1 hp
  have := rto_atM h hk
  rw [ordAt_sM hp hq, Bool.and_eq_true] at this
  exact this.2
theorem ord_okM {ps : List Ist} (h : ordToM ps ps.length = true) {k : Nat} {p : Ist} (hp : ps[k]? = some p) : p.ok = true := by
  obtain ⟨hk, _⟩ := List.getElem?_eq_some_iff.1 hp
  have := rto_atM h hk
  unfold ordAtM at this
  rw [hp] at this
  simp only [Bool.and_eq_true] at this
  exact this.1
theorem befP_transM {a b c : Ist} (h : befPM a b = true) (k : befPM b c = true) : befPM a c = true := less_trans h k
theorem ord_beforeM {ps : List Ist} (h : ordToM ps ps.length = true) : ∀ {i j : Nat} {q p : Ist}, i < j → ps[i]? = some q → ps[j]? = some p → befPM q p = true := by
  intro i j
  induction j with
  | zero => intro q p hij; omega
  | succ j ih =>
    intro q p hij hq hp
    rcases Nat.lt_or_ge i j with h1 | h1
    · have hj : j < ps.length := by have := (List.getElem?_eq_some_iff.1 hp).1; omega
      exact befP_transM (ih h1 hq (List.getElem?_eq_getElem hj)) (ord_befM h (List.getElem?_eq_getElem hj) hp)
    · obtain rfl : i = j := by omega
      exact ord_befM h hq hp
theorem ord_keyM {ps : List Ist} (h : ordToM ps ps.length = true) {i j : Nat} {q p : Ist} (hq : ps[i]? = some q) (hp : ps[j]? = some p) (hc : q.c = p.c) : i = j := by
  rcases Nat.lt_trichotomy i j with hlt | rfl | hgt
  · have := ord_beforeM h hlt hq hp
    unfold befPM at this; rw [hc, less_irr] at this; cases this
  · rfl
  · have := ord_beforeM h hgt hp hq
    unfold befPM at this; rw [hc, less_irr] at this; cases this
/-! ### finding -/
theorem fnd_noneM {ps : List Ist} {c : List UInt8} (h : ∀ (j : Nat) (q : Ist), ps[j]? = some q → (q.c == c) = false) : fndM ps c = none := by
  unfold fndM; rw [List.findIdx?_eq_none_iff]
  intro x hx
  obtain ⟨j, hj⟩ := List.getElem?_of_mem hx
  exact h j x hj
theorem fnd_someM {ps : List Ist} {c : List UInt8} {k : Nat} {p : Ist} (hk : ps[k]? = some p) (hc : (p.c == c) = true) (h : ∀ (j : Nat) (q : Ist), j < k → ps[j]? = some q → (q.c == c) = false) : fndM ps c = some k := by
  unfold fndM
  rw [List.findIdx?_eq_some_iff_getElem]
  obtain ⟨hl, e⟩ := List.getElem?_eq_some_iff.1 hk
  refine ⟨hl, by rw [e]; exact hc, fun j hj => ?_⟩
  rw [h j _ hj (List.getElem?_eq_getElem (by omega))]; exact Bool.false_ne_true
theorem fnd_atM {ps : List Ist} {c : List UInt8} {k : Nat} (h : fndM ps c = some k) : ∃ p, ps[k]? = some p ∧ p.c = c := by
  unfold fndM at h
  rw [List.findIdx?_eq_some_iff_getElem] at h
  obtain ⟨hl, hc, _⟩ := h
  exact ⟨_, List.getElem?_eq_getElem hl, by simpa using hc⟩
theorem fnd_ltM {ps : List Ist} {c : List UInt8} {k : Nat} (h : fndM ps c = some k) : k < ps.length := by
  obtain ⟨p, hp, _⟩ := fnd_atM h; exact (List.getElem?_eq_some_iff.1 hp).1
theorem fnd_noM {ps : List Ist} {c : List UInt8} (h : fndM ps c = none) {j : Nat} {q : Ist} (hq : ps[j]? = some q) : q.c ≠ c := by
  unfold fndM at h; rw [List.findIdx?_eq_none_iff] at h
  have := h q (List.mem_of_getElem? hq)
  simpa using this
theorem fnd_keyM {ps : List Ist} (h : ordToM ps ps.length = true) {c : List UInt8} {k : Nat} {p : Ist} (hp : ps[k]? = some p) (hc : p.c = c) : fndM ps c = some k := by
  refine fnd_someM hp (by simpa using hc) fun j q hj hq => ?_
  rw [beq_eq_false_iff_ne]
  intro e
  have := ord_keyM h hq hp (e.trans hc.symm)
  omega
/-! ### kinds -/
def cntK (k : Int) (ps : List Ist) : Nat := (ps.filter (fun p => p.k == k)).length
theorem cntK_snoc (k : Int) (ps : List Ist) (p : Ist) : cntK k (ps ++ [p]) = cntK k ps + (if p.k = k then 1 else 0) := by
  unfold cntK; rw [List.filter_append, List.length_append]; by_cases h : p.k = k <;> simp [h]
theorem cntK_app (k : Int) (ps qs : List Ist) : cntK k (ps ++ qs) = cntK k ps + cntK k qs := by
  unfold cntK; rw [List.filter_append, List.length_append]
theorem cntK_take (k : Int) (ps : List Ist) (n : Nat) : cntK k (ps.take n) ≤ cntK k ps := by
  have h : cntK k ps = cntK k (ps.take n) + cntK k (ps.drop n) := by rw [← cntK_app, List.take_append_drop]
  omega
theorem cntK_le (k : Int) (ps : List Ist) : cntK k ps ≤ ps.length := List.length_filter_le _ _
def kndB (ps : List Ist) : Bool := decide (cntK 0 ps = 1) && (decide (cntK 1 ps ≤ 1) && decide (cntK 2 ps ≤ 1))
theorem kndB_iff {ps : List Ist} : kndB ps = true ↔ cntK 0 ps = 1 ∧ cntK 1 ps ≤ 1 ∧ cntK 2 ps ≤ 1 := by
  unfold kndB; simp only [Bool.and_eq_true, decide_eq_true_eq]
theorem kndB_no {ps : List Ist} (h : ¬ (cntK 0 ps = 1 ∧ cntK 1 ps ≤ 1 ∧ cntK 2 ps ≤ 1)) : kndB ps = false := by
  rw [← Bool.not_eq_true, kndB_iff]; exact h
/-- A manifest. -/
def manB (ps : List Ist) : Bool := decide ((ps.length : Int) ≤ 10) && (ordToM ps ps.length && kndB ps)
theorem man_no1 {ps : List Ist} {k : Nat} (hk : k < ps.length) (h : ordAtM ps k = false) : manB ps = false := by
  unfold manB; rw [show ordToM ps ps.length = false from rto_noM h hk]; simp
theorem man_long {ps : List Ist} (h : 10 < ps.length) : manB ps = false := by
  unfold manB; rw [show decide ((ps.length : Int) ≤ 10) = false by rw [decide_eq_false_iff_not]; omega]; rfl
theorem man_end {ps : List Ist} (h : ¬ 10 < ps.length) (h1 : ordToM ps ps.length = true) : manB ps = kndB ps := by
  unfold manB; rw [h1, show decide ((ps.length : Int) ≤ 10) = true by rw [decide_eq_true_eq]; omega]; rfl
theorem manB_iff {ps : List Ist} : manB ps = true ↔ ps.length ≤ 10 ∧ ordToM ps ps.length = true ∧ kndB ps = true := by
  unfold manB; simp only [Bool.and_eq_true, decide_eq_true_eq]
  exact ⟨fun ⟨h1, h2⟩ => ⟨by omega, h2⟩, fun ⟨h1, h2⟩ => ⟨by omega, h2⟩⟩
theorem ordM_nat {ps : List Ist} (h : manB ps = true) : ordToM ps ps.length = true := (manB_iff.1 h).2.1
/-! ### one interest -/
theorem pcodeI_qM {s : List UInt8} {b : Bool} (h : pcode s = b) (hl : s.length ≤ 9223372036854775807) (w : World) : Calls Try.prog 114 #[.string ⟨s.toArray⟩] w fun e w' => e = .returned (.bool b) ∧ w = w' :=
  (isPcode_i s w hl).mono fun e w' k => ⟨by rw [← h]; exact k.1, k.2⟩
theorem pcodeS_qM {s : List UInt8} {b : Bool} (h : pcode s = b) (hl : s.length ≤ 9223372036854775807) (w : World) : Calls Try.prog 120 #[.string ⟨s.toArray⟩] w fun e w' => e = .returned (.bool b) ∧ w = w' :=
  (isPcode_s s w hl).mono fun e w' k => ⟨by rw [← h]; exact k.1, k.2⟩
theorem amtI_qM {n : Int} {b : Bool} (h : amt n = b) (w : World) : Calls Try.prog 115 #[.int .i64 n] w fun e w' => e = .returned (.bool b) ∧ w = w' :=
  (isAmount_i n w).mono fun e w' k => ⟨by rw [← h]; exact k.1, k.2⟩
theorem amtS_qM {n : Int} {b : Bool} (h : amt n = b) (w : World) : Calls Try.prog 121 #[.int .i64 n] w fun e w' => e = .returned (.bool b) ∧ w = w' :=
  (isAmount_s n w).mono fun e w' k => ⟨by rw [← h]; exact k.1, k.2⟩
def gage (k : Int) : Int := if k = 0 then 60 else 0
/-- The ways of one interest; m is the greatest age of its kind. -/
inductive IWay (p : Ist) : Bool → Int → Prop where
  | code (m : Int) (h : pcode p.c = false) : IWay p false m
  | own (m : Int) (h : pcode p.c = true) (h1 : pcode p.o = false) : IWay p false m
  | kind (m : Int) (h : pcode p.c = true) (h1 : pcode p.o = true) (h2 : inr p.k 0 3 = false) : IWay p false m
  | val (m : Int) (h : pcode p.c = true) (h1 : pcode p.o = true) (h2 : inr p.k 0 3 = true) (h3 : amt p.v = false) : IWay p false m
  | shipN (h : pcode p.c = true) (h1 : pcode p.o = true) (h2 : inr p.k 0 3 = true) (h3 : amt p.v = true) (h4 : gage p.k = 60) (h5 : (p.k == 0) = true) (h6 : inr p.a 0 60 = false) : IWay p false 60
  | ship (h : pcode p.c = true) (h1 : pcode p.o = true) (h2 : inr p.k 0 3 = true) (h3 : amt p.v = true) (h4 : gage p.k = 60) (h5 : (p.k == 0) = true) (h6 : inr p.a 0 60 = true) : IWay p true 60
  | othA (h : pcode p.c = true) (h1 : pcode p.o = true) (h2 : inr p.k 0 3 = true) (h3 : amt p.v = true) (h4 : gage p.k = 0) (h5 : (p.k == 0) = false) (h6 : inr p.a 0 60 = false) (h7 : inr p.a 0 0 = false) : IWay p false 0
  | othB (h : pcode p.c = true) (h1 : pcode p.o = true) (h2 : inr p.k 0 3 = true) (h3 : amt p.v = true) (h4 : gage p.k = 0) (h5 : (p.k == 0) = false) (h6 : inr p.a 0 60 = true) (h7 : inr p.a 0 0 = false) (h8 : (p.a == 0) = false) : IWay p false 0
  | oth (h : pcode p.c = true) (h1 : pcode p.o = true) (h2 : inr p.k 0 3 = true) (h3 : amt p.v = true) (h4 : gage p.k = 0) (h5 : (p.k == 0) = false) (h6 : inr p.a 0 60 = true) (h7 : inr p.a 0 0 = true) (h8 : (p.a == 0) = true) : IWay p true 0
theorem iway (p : Ist) : IWay p p.ok (gage p.k) := by
  have e : p.ok = (pcode p.c && (pcode p.o && (inr p.k 0 3 && (amt p.v && (inr p.a 0 60 && (p.k == 0 || p.a == 0)))))) := rfl
  rw [e]
  rcases Bool.eq_false_or_eq_true (pcode p.c) with h | h
  · rcases Bool.eq_false_or_eq_true (pcode p.o) with h1 | h1
    · rcases Bool.eq_false_or_eq_true (inr p.k 0 3) with h2 | h2
      · rcases Bool.eq_false_or_eq_true (amt p.v) with h3 | h3
        · rcases Bool.eq_false_or_eq_true (p.k == 0) with h5 | h5
          · have h4 : gage p.k = 60 := by rw [gage, if_pos (by simpa using h5)]
            rw [h, h1, h2, h3, h4, h5]
            rcases Bool.eq_false_or_eq_true (inr p.a 0 60) with h6 | h6
            · rw [h6]; exact .ship h h1 h2 h3 h4 h5 h6
            · rw [h6]; exact .shipN h h1 h2 h3 h4 h5 h6
          · have h4 : gage p.k = 0 := by rw [gage, if_neg (by simpa using h5)]
            rw [h, h1, h2, h3, h4, h5]
            rcases Bool.eq_false_or_eq_true (p.a == 0) with h8 | h8
            · have ea : p.a = 0 := by simpa using h8
              have h6 : inr p.a 0 60 = true := inr_iff.2 (by omega)
              have h7 : inr p.a 0 0 = true := inr_iff.2 (by omega)
              rw [h6, h8]; exact .oth h h1 h2 h3 h4 h5 h6 h7 h8
            · have ea : p.a ≠ 0 := by simpa using h8
              have h7 : inr p.a 0 0 = false := inr_no.2 (by omega)
              rcases Bool.eq_false_or_eq_true (inr p.a 0 60) with h6 | h6
              · rw [h6, h8]; exact .othB h h1 h2 h3 h4 h5 h6 h7 h8
              · rw [h6]; exact .othA h h1 h2 h3 h4 h5 h6 h7
        · rw [h, h1, h2, h3]; exact .val _ h h1 h2 h3
      · rw [h, h1, h2]; exact .kind _ h h1 h2
    · rw [h, h1]; exact .own _ h h1
  · rw [h]; exact .code _ h
/-- Interests that a function takes: their texts are short. -/
structure ITbl (w : World) (A : Option Addr) (ps : List Ist) : Prop where
  row : IstR w A ps
  txt : ∀ p ∈ ps, p.sz ≤ 1048600
  len : ps.length ≤ 1048576
theorem ITbl.below {w w' : World} {A : Option Addr} {ps : List Ist} (h : ITbl w A ps) (hb : Below w.heap.size w w') : ITbl w' A ps := ⟨h.row.below hb, h.txt, h.len⟩
abbrev ITblC (w : World) (A : Option Addr) (c : Nat) (ps : List Ist) : Prop := ITbl w A ps
theorem sz_i {p : Ist} (h : p.sz ≤ 1048600) : p.c.length ≤ 9223372036854775807 ∧ p.o.length ≤ 9223372036854775807 := by unfold Ist.sz at h; omega
end Go.Proofs.Ytjcklmhgjdmjoaa
