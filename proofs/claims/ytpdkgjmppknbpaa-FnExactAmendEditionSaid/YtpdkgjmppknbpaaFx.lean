/- Currencies in plain lists: codes, tables, the rate of a day. No program. -/
import Derived.Test.YtpdkgjmppknbpaaRate
import Derived.Sort.Walk0
namespace Go.Proofs.Ytpdkgjmppknbpaa

/-! ### the order of texts -/
theorem less_irr (x : List UInt8) : Op.bytesLess x x = false := by rw [bytesLess_eq]; simp
theorem less_trans {x y z : List UInt8} (h : Op.bytesLess x y = true) (k : Op.bytesLess y z = true) : Op.bytesLess x z = true := by
  rw [bytesLess_eq, decide_eq_true_eq] at *; exact List.lt_trans h k
theorem less_tot {x y : List UInt8} (h : Op.bytesLess x y = false) (k : Op.bytesLess y x = false) : x = y := by
  rw [bytesLess_eq, decide_eq_false_iff_not] at *
  exact List.le_antisymm (List.not_lt.1 k) (List.not_lt.1 h)
theorem less_asym {x y : List UInt8} (h : Op.bytesLess x y = true) : Op.bytesLess y x = false := by
  cases k : Op.bytesLess y x with
  | false => rfl
  | true => have := less_trans h k; rw [less_irr] at this; cases this

/-! ### codes -/
def upb (c : UInt8) : Bool := decide (65 ≤ (c.toNat : Int) ∧ (c.toNat : Int) ≤ 90)
def codeB (l : List UInt8) : Bool := decide ((l.length : Int) = 3) && l.all upb
def xdr : List UInt8 := [88, 68, 82]
theorem codeB_iff {l : List UInt8} : codeB l = true ↔ l.length = 3 ∧ l.all upb = true := by
  unfold codeB; rw [Bool.and_eq_true, decide_eq_true_eq, show ((l.length : Int) = 3) = (l.length = 3) from propext (by omega)]
theorem xdr_code : codeB xdr = true := by decide
def keyN (l : List UInt8) : Int := l.foldl (fun n c => n * 26 + ((c.toNat : Int) - 65)) 0
theorem upb_bd {c : UInt8} (h : upb c = true) : 65 ≤ (c.toNat : Int) ∧ (c.toNat : Int) ≤ 90 := by simpa [upb] using h
theorem code3 {l : List UInt8} (h : codeB l = true) : ∃ a b c, l = [a, b, c] ∧ upb a = true ∧ upb b = true ∧ upb c = true := by
  obtain ⟨h3, ha⟩ := codeB_iff.1 h
  match l, h3 with
  | [a, b, c], _ => exact ⟨a, b, c, rfl, by simpa using ha⟩
theorem keyN_inj {l m : List UInt8} (hl : codeB l = true) (hm : codeB m = true) (h : keyN l = keyN m) : l = m := by
  obtain ⟨a, b, c, rfl, ha, hb, hc⟩ := code3 hl
  obtain ⟨x, y, z, rfl, hx, hy, hz⟩ := code3 hm
  have := upb_bd ha; have := upb_bd hb; have := upb_bd hc; have := upb_bd hx; have := upb_bd hy; have := upb_bd hz
  simp only [keyN, List.foldl_cons, List.foldl_nil] at h
  have e1 : a.toNat = x.toNat := by omega
  have e2 : b.toNat = y.toNat := by omega
  have e3 : c.toNat = z.toNat := by omega
  rw [UInt8.toNat.inj e1, UInt8.toNat.inj e2, UInt8.toNat.inj e3]
theorem keyN_bd {l : List UInt8} (hl : codeB l = true) : 0 ≤ keyN l ∧ keyN l ≤ 17575 := by
  obtain ⟨a, b, c, rfl, ha, hb, hc⟩ := code3 hl
  have := upb_bd ha; have := upb_bd hb; have := upb_bd hc
  simp only [keyN, List.foldl_cons, List.foldl_nil]
  omega

/-! ### tables -/
def dayB (n : Int) : Bool := decide (0 ≤ n ∧ n ≤ 36524)
def termB (n : Int) : Bool := decide (1 ≤ n ∧ n ≤ 1000000)
def Rt.ok (r : Rt) : Bool := codeB r.c && !(r.c == xdr) && dayB r.day && termB r.num && termB r.den
/-- a stands before b. -/
def bef (a b : Rt) : Bool := Op.bytesLess a.c b.c || (a.c == b.c && decide (a.day < b.day))
def okAt (rs : List Rt) (i : Nat) : Bool :=
  match rs[i]? with
  | none => true
  | some r => r.ok && (match i with | 0 => true | j + 1 => match rs[j]? with | none => true | some q => bef q r)
def okTo (rs : List Rt) (k : Nat) : Bool := (List.range k).all (okAt rs)
theorem okTo_zero (rs : List Rt) : okTo rs 0 = true := rfl
theorem okTo_succ (rs : List Rt) (k : Nat) : okTo rs (k + 1) = (okTo rs k && okAt rs k) := by simp [okTo, List.range_succ]
theorem okTo_no {rs : List Rt} {k n : Nat} (h : okAt rs k = false) (hk : k < n) : okTo rs n = false := by
  unfold okTo; rw [List.all_eq_false]; exact ⟨k, by simpa using hk, by simp [h]⟩
theorem okTo_at {rs : List Rt} {k n : Nat} (h : okTo rs n = true) (hk : k < n) : okAt rs k = true := by
  unfold okTo at h; rw [List.all_eq_true] at h; exact h k (by simpa using hk)
def tabB (rs : List Rt) : Bool := okTo rs rs.length && decide ((rs.length : Int) ≤ 20)
theorem tabB_iff {rs : List Rt} : tabB rs = true ↔ okTo rs rs.length = true ∧ rs.length ≤ 20 := by
  unfold tabB; rw [Bool.and_eq_true, decide_eq_true_eq, show ((rs.length : Int) ≤ 20) = (rs.length ≤ 20) from propext (by omega)]
theorem tab_ok {rs : List Rt} (h : tabB rs = true) {k : Nat} {r : Rt} (hr : rs[k]? = some r) : r.ok = true := by
  obtain ⟨hk, _⟩ := List.getElem?_eq_some_iff.1 hr
  have := okTo_at (tabB_iff.1 h).1 hk
  unfold okAt at this
  rw [hr] at this
  simp only [Bool.and_eq_true] at this
  exact this.1
theorem tab_bef {rs : List Rt} (h : tabB rs = true) {k : Nat} {q r : Rt} (hq : rs[k]? = some q) (hr : rs[k + 1]? = some r) : bef q r = true := by
  obtain ⟨hk, _⟩ := List.getElem?_eq_some_iff.1 hr
  have := okTo_at (tabB_iff.1 h).1 hk
  unfold okAt at this
  simp only [hr, hq, Bool.and_eq_true] at this
  exact this.2
theorem bef_trans {a b c : Rt} (h : bef a b = true) (k : bef b c = true) : bef a c = true := by
  unfold bef at *
  simp only [Bool.or_eq_true, Bool.and_eq_true, beq_iff_eq, decide_eq_true_eq] at *
  rcases h with h | ⟨h1, h2⟩
  · rcases k with k | ⟨k1, k2⟩
    · exact .inl (less_trans h k)
    · exact .inl (k1 ▸ h)
  · rcases k with k | ⟨k1, k2⟩
    · exact .inl (h1 ▸ k)
    · exact .inr ⟨h1.trans k1, by omega⟩
theorem tab_before {rs : List Rt} (h : tabB rs = true) : ∀ {i j : Nat} {q r : Rt}, i < j → rs[i]? = some q → rs[j]? = some r → bef q r = true := by
  intro i j
  induction j with
  | zero => intro q r hij; omega
  | succ j ih =>
    intro q r hij hq hr
    rcases Nat.lt_or_ge i j with h1 | h1
    · have hj : j < rs.length := by have := (List.getElem?_eq_some_iff.1 hr).1; omega
      exact bef_trans (ih h1 hq (List.getElem?_eq_getElem hj)) (tab_bef h (List.getElem?_eq_getElem hj) hr)
    · obtain rfl : i = j := by omega
      exact tab_bef h hq hr
theorem Rt.ok_iff {r : Rt} : r.ok = true ↔ codeB r.c = true ∧ r.c ≠ xdr ∧ (0 ≤ r.day ∧ r.day ≤ 36524) ∧ (1 ≤ r.num ∧ r.num ≤ 1000000) ∧ (1 ≤ r.den ∧ r.den ≤ 1000000) := by
  unfold Rt.ok dayB termB
  simp only [Bool.and_eq_true, Bool.not_eq_true', beq_eq_false_iff_ne, decide_eq_true_eq, ne_eq, and_assoc]

/-! ### the rate of a day -/
/-- The last rate of a currency that has begun. -/
def lastOn (c : List UInt8) (d : Int) (rs : List Rt) : Option Rt := rs.foldl (fun acc r => if r.c = c ∧ r.day ≤ d then some r else acc) none
theorem lastOn_snoc (c : List UInt8) (d : Int) (rs : List Rt) (r : Rt) : lastOn c d (rs ++ [r]) = if r.c = c ∧ r.day ≤ d then some r else lastOn c d rs := by
  simp [lastOn, List.foldl_append]
/-- Numerator and denominator of a currency on a day; (0, 0) if there is none. -/
def rateL (c : List UInt8) (d : Int) (rs : List Rt) : Int × Int :=
  if c = xdr then (1, 1) else match lastOn c d rs with | none => (0, 0) | some r => (r.num, r.den)
theorem rev_ind {α : Type} {P : List α → Prop} (h0 : P []) (h1 : ∀ xs x, P xs → P (xs ++ [x])) (xs : List α) : P xs := by
  have : ∀ n, ∀ xs : List α, xs.length = n → P xs := by
    intro n
    induction n with
    | zero => intro xs h; rw [List.eq_nil_of_length_eq_zero h]; exact h0
    | succ n ih =>
      intro xs h
      have hne : xs ≠ [] := by rintro rfl; simp at h
      rw [← List.dropLast_concat_getLast hne]
      exact h1 _ _ (ih _ (by simp [h]))
  exact this _ xs rfl
theorem lastOn_some {c : List UInt8} {d : Int} {rs : List Rt} : ∀ {r : Rt}, lastOn c d rs = some r → ∃ k, rs[k]? = some r ∧ r.c = c ∧ r.day ≤ d ∧ ∀ (j : Nat) (q : Rt), k < j → rs[j]? = some q → ¬ (q.c = c ∧ q.day ≤ d) := by
  refine rev_ind (P := fun rs => ∀ {r : Rt}, lastOn c d rs = some r → ∃ k, rs[k]? = some r ∧ r.c = c ∧ r.day ≤ d ∧ ∀ (j : Nat) (q : Rt), k < j → rs[j]? = some q → ¬ (q.c = c ∧ q.day ≤ d)) ?_ ?_ rs
  · intro r h; simp [lastOn] at h
  · intro rs x ih
    intro r h
    rw [lastOn_snoc] at h
    split at h
    · rename_i hx
      obtain rfl := Option.some.inj h
      refine ⟨rs.length, by simp, hx.1, hx.2, fun j q hj hq => ?_⟩
      have := (List.getElem?_eq_some_iff.1 hq).1
      simp at this; omega
    · rename_i hx
      obtain ⟨k, h1, h2, h3, h4⟩ := ih h
      have hk := (List.getElem?_eq_some_iff.1 h1).1
      refine ⟨k, by rw [List.getElem?_append_left hk]; exact h1, h2, h3, fun j q hj hq => ?_⟩
      rcases Nat.lt_or_ge j rs.length with hl | hl
      · rw [List.getElem?_append_left hl] at hq; exact h4 j q hj hq
      · rw [List.getElem?_append_right hl] at hq
        have : j - rs.length = 0 := by
          have := (List.getElem?_eq_some_iff.1 hq).1; simp at this; omega
        rw [this] at hq
        simp at hq; subst hq; exact hx
theorem lastOn_none {c : List UInt8} {d : Int} {rs : List Rt} (h : lastOn c d rs = none) : ∀ r ∈ rs, ¬ (r.c = c ∧ r.day ≤ d) := by
  revert h
  refine rev_ind (P := fun rs => lastOn c d rs = none → ∀ r ∈ rs, ¬ (r.c = c ∧ r.day ≤ d)) ?_ ?_ rs
  · intro _ r hr; cases hr
  · intro rs x ih h
    rw [lastOn_snoc] at h
    split at h
    · cases h
    · rename_i hx
      intro r hr
      rcases List.mem_append.1 hr with hr | hr
      · exact ih h r hr
      · simp at hr; subst hr; exact hx
/-- In a table the last one is the one with the greatest day: there is one rate of it and a day. -/
theorem lastOn_max {c : List UInt8} {d : Int} {rs : List Rt} (h : tabB rs = true) {r q : Rt} (hr : lastOn c d rs = some r) (hq : q ∈ rs) (hc : q.c = c) (hd : q.day ≤ d) (hm : r.day ≤ q.day) : q = r := by
  obtain ⟨k, h1, h2, h3, h4⟩ := lastOn_some hr
  obtain ⟨j, hj⟩ := List.getElem?_of_mem hq
  rcases Nat.lt_trichotomy j k with hlt | rfl | hgt
  · have := tab_before h hlt hj h1
    unfold bef at this
    rw [hc, h2, less_irr] at this
    simp at this; omega
  · rw [hj] at h1; exact Option.some.inj h1
  · exact absurd ⟨hc, hd⟩ (h4 j q hgt hj)
theorem tab_key {rs : List Rt} (h : tabB rs = true) {q r : Rt} (hq : q ∈ rs) (hr : r ∈ rs) (hc : q.c = r.c) (hd : q.day = r.day) : q = r := by
  obtain ⟨i, hi⟩ := List.getElem?_of_mem hq
  obtain ⟨j, hj⟩ := List.getElem?_of_mem hr
  rcases Nat.lt_trichotomy i j with hlt | rfl | hgt
  · have := tab_before h hlt hi hj
    unfold bef at this
    rw [hc, hd, less_irr] at this
    simp at this
  · rw [hi] at hj; exact Option.some.inj hj
  · have := tab_before h hgt hj hi
    unfold bef at this
    rw [hc, hd, less_irr] at this
    simp at this
end Go.Proofs.Ytpdkgjmppknbpaa
