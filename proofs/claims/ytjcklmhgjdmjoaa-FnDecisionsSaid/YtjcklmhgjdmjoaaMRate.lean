import Derived.Test.YtjcklmhgjdmjoaaBase
import Derived.Laws.StructEq
import Derived.Deep.Slices
import Derived.Deep.Fields
import Derived.ChangeSame
import Derived.Sort.Walk0
import Derived.Deep.QuietTactic
import Derived.Deep.RegionHeld3
/- Rates: rows of structs of a string and three numbers. -/
namespace Go.Proofs.Ytjcklmhgjdmjoaa
open Go.ChangeShapes Go.WideShapes Go.ChangeAt Go.RowKit
set_option linter.unusedVariables false

structure Rt where
  c : List UInt8
  day : Int
  num : Int
  den : Int
def Rt.cells (r : Rt) : List Value := [.string ⟨r.c.toArray⟩, .int .i64 r.day, .int .i64 r.num, .int .i64 r.den]
theorem flat_at {α β : Type} (f : α → List β) (n : Nat) (hf : ∀ a, (f a).length = n) : ∀ (xs : List α) (k j : Nat) (a : α), xs[k]? = some a → j < n → (xs.flatMap f)[k * n + j]? = (f a)[j]? := by
  intro xs
  induction xs with
  | nil => intro k j a h; simp at h
  | cons x r ih =>
    intro k j a h hj
    rw [List.flatMap_cons]
    cases k with
    | zero =>
      simp at h; subst h
      rw [Nat.zero_mul, Nat.zero_add, List.getElem?_append_left (by rw [hf]; exact hj)]
    | succ k =>
      rw [List.getElem?_append_right (by rw [hf, Nat.succ_mul]; omega), hf, Nat.succ_mul, show k * n + n + j - n = k * n + j by omega]
      exact ih k j a (by simpa using h) hj
theorem flat_len {α β : Type} (f : α → List β) (n : Nat) (hf : ∀ a, (f a).length = n) (xs : List α) : (xs.flatMap f).length = xs.length * n := by
  induction xs with
  | nil => simp
  | cons x r ih => rw [List.flatMap_cons, List.length_append, hf, ih, List.length_cons, Nat.succ_mul]; omega
def Rr (w : World) (A : Option Addr) (rs : List Rt) : Prop := Rw w A (rs.flatMap Rt.cells)
theorem Rr.at {w : World} {A : Option Addr} {rs : List Rt} (h : Rr w A rs) {k : Nat} (hk : k < rs.length) :
    ∃ b off r, A = some ⟨b, off, none⟩ ∧ b < w.heap.size ∧ Hid (rs[k]? = some r) ∧ w.cell? ⟨b, off + k * 4, none⟩ = some (.string ⟨r.c.toArray⟩) ∧ w.cell? ⟨b, off + k * 4 + 1, none⟩ = some (.int .i64 r.day) ∧
      w.cell? ⟨b, off + k * 4 + 2, none⟩ = some (.int .i64 r.num) ∧ w.cell? ⟨b, off + k * 4 + 3, none⟩ = some (.int .i64 r.den) := by
  have hl := flat_len Rt.cells 4 (fun _ => rfl) rs
  obtain ⟨b, off, e, hb, hc⟩ := h (by rw [hl]; omega)
  have hr : rs[k]? = some rs[k] := List.getElem?_eq_getElem hk
  have g := fun j hj => hc (k * 4 + j) _ ((flat_at Rt.cells 4 (fun _ => rfl) rs k j _ hr hj).trans (List.getElem?_eq_getElem (by exact hj)))
  refine ⟨b, off, rs[k], e, hb, Lib.hid hr, ?_, ?_, ?_, ?_⟩
  · simpa [Rt.cells] using g 0 (by omega)
  · simpa [Rt.cells, Nat.add_assoc] using g 1 (by omega)
  · simpa [Rt.cells, Nat.add_assoc] using g 2 (by omega)
  · simpa [Rt.cells, Nat.add_assoc] using g 3 (by omega)

/-- How many letters are left. -/
def szl : List Rt → Int → Int
  | [], n => n
  | r :: rs, n => if n < 0 then n else szl rs (if n - r.c.length < 0 then -1 else n - r.c.length)
/-! ### a slice of rates that came in -/
def Rt.wf (r : Rt) : Prop := r.c.length ≤ maxLen ∧ (Lit.int .i64 r.day).wf = true ∧ (Lit.int .i64 r.num).wf = true ∧ (Lit.int .i64 r.den).wf = true
theorem flat_some {α β : Type} (f : α → List β) (n : Nat) (hn : 0 < n) (hf : ∀ a, (f a).length = n) (xs : List α) (j : Nat) (v : β) (h : (xs.flatMap f)[j]? = some v) :
    ∃ a, xs[j / n]? = some a ∧ (f a)[j % n]? = some v := by
  have hl := flat_len f n hf xs
  have hj : j < xs.length * n := by rw [← hl]; exact (List.getElem?_eq_some_iff.1 h).1
  have hk : j / n < xs.length := (Nat.div_lt_iff_lt_mul hn).2 hj
  have hm : j % n < n := Nat.mod_lt _ hn
  have e := flat_at f n hf xs (j / n) (j % n) _ (List.getElem?_eq_getElem hk) hm
  rw [Nat.mul_comm, Nat.div_add_mod] at e
  exact ⟨_, List.getElem?_eq_getElem hk, e ▸ h⟩
theorem pick_all {α : Type} {P : Nat → α → Prop} {n : Nat} (h : ∀ i, i < n → ∃ a, P i a) : ∃ xs : List α, xs.length = n ∧ ∀ i a, xs[i]? = some a → P i a := by
  induction n with
  | zero => exact ⟨[], rfl, fun i a h => by simp at h⟩
  | succ n ih =>
    obtain ⟨xs, hl, hx⟩ := ih fun i hi => h i (by omega)
    obtain ⟨a, ha⟩ := h n (by omega)
    refine ⟨xs ++ [a], by simp [hl], fun i b hb => ?_⟩
    rcases Nat.lt_or_ge i xs.length with hi | hi
    · rw [List.getElem?_append_left hi] at hb; exact hx i b hb
    · rw [List.getElem?_append_right hi] at hb
      have : i - xs.length = 0 := by have := (List.getElem?_eq_some_iff.1 hb).1; simp at this; omega
      rw [this] at hb
      simp at hb
      subst hb
      rw [show i = n by omega]; exact ha
theorem list4 {α : Type} {l : List α} (h : l.length = 4) : ∃ a b c d, l = [a, b, c, d] := by
  match l, h with
  | [a, b, c, d], _ => exact ⟨a, b, c, d, rfl⟩
theorem rr_of {H : Type} {enc : TypeId × Value → H} {w : World} {spare : Nat → Bool} {held : Bool} {t e : TypeId} {f0 f1 f2 f3 : Field} {fuel : Nat} {A : Option Addr} {len cap : Nat} {x : DataW H × List MemPlace}
    (ht : Try.prog.underlying t = some (.slice e)) (he : Try.prog.underlying e = some (.struct #[f0, f1, f2, f3])) (hC : Try.prog.cellsOf e = 4) (hone : Go.Deep.oneCellFields Try.prog #[f0, f1, f2, f3] = true)
    (h0 : Try.prog.underlying f0.type = some .string) (h1 : Try.prog.underlying f1.type = some (.int .i64)) (h2 : Try.prog.underlying f2.type = some (.int .i64)) (h3 : Try.prog.underlying f3.type = some (.int .i64))
    (h : DataW.trod enc Try.prog w 0 spare held fuel t [.slice A len cap] = some x) :
    ∃ rs : List Rt, rs.length = len ∧ Rr w A rs ∧ rs.length ≤ maxLen ∧ ∀ r ∈ rs, r.wf := by
  rcases Go.Deep.open_slice ht h with ⟨hcs, _⟩ | ⟨a, l, c, m, n, D, Pl, hcs, _, hlc, hcm, hmm, _, hel⟩
  · simp only [List.cons.injEq, Value.slice.injEq, and_true] at hcs
    obtain ⟨rfl, rfl, rfl⟩ := hcs
    exact ⟨[], rfl, fun hp => by simp at hp, by simp, fun r hr => by cases hr⟩
  · simp only [List.cons.injEq, Value.slice.injEq, and_true] at hcs
    obtain ⟨rfl, rfl, rfl⟩ := hcs
    have hlm : len ≤ m := by rw [hmm]; split <;> omega
    have key : ∀ i, i < len → ∃ r : Rt, r.wf ∧ ∀ j v, r.cells[j]? = some v → w.cell? (a.add (i * 4 + j)) = some v := by
      intro i hi
      obtain ⟨cs', hc, ht'⟩ := hel i (by omega)
      rw [hC] at hc
      obtain ⟨_, hcl, hat⟩ := World.cells?_some hc
      obtain ⟨ys, n', _, _, _, hyl, hf⟩ := DataW.trod_struct he ht'
      obtain ⟨o0, k0⟩ := Go.Deep.hone_of hone 0 f0 rfl
      obtain ⟨o1, k1⟩ := Go.Deep.hone_of hone 1 f1 rfl
      obtain ⟨o2, k2⟩ := Go.Deep.hone_of hone 2 f2 rfl
      obtain ⟨o3, k3⟩ := Go.Deep.hone_of hone 3 f3 rfl
      obtain ⟨c0, c1, c2, c3, rfl⟩ := list4 hcl
      · skip
        have g0 := hf 0 f0 rfl
        have g1 := hf 1 f1 rfl
        have g2 := hf 2 f2 rfl
        have g3 := hf 3 f3 rfl
        rw [o0, k0] at g0; rw [o1, k1] at g1; rw [o2, k2] at g2; rw [o3, k3] at g3
        have hys : ∀ j, j < 4 → ∃ y, ys[j]? = some y := fun j hj => by
          have : ys.length = 4 := hyl.trans rfl
          exact ⟨_, List.getElem?_eq_getElem (by omega)⟩
        obtain ⟨y0, e0⟩ := hys 0 (by omega); rw [e0] at g0
        obtain ⟨y1, e1⟩ := hys 1 (by omega); rw [e1] at g1
        obtain ⟨y2, e2⟩ := hys 2 (by omega); rw [e2] at g2
        obtain ⟨y3, e3⟩ := hys 3 (by omega); rw [e3] at g3
        obtain ⟨s, q0, _, w0⟩ := DataW.trod_string h0 g0
        obtain ⟨d, q1, _, w1⟩ := DataW.trod_int h1 g1
        obtain ⟨nu, q2, _, w2⟩ := DataW.trod_int h2 g2
        obtain ⟨de, q3, _, w3⟩ := DataW.trod_int h3 g3
        simp at q0 q1 q2 q3
        subst q0 q1 q2 q3
        refine ⟨⟨s.data.toList, d, nu, de⟩, ⟨by simpa using w0, w1, w2, w3⟩, fun j v hj => ?_⟩
        have hj4 : j < 4 := (List.getElem?_eq_some_iff.1 hj).1
        rw [← Go.Deep.add_add]
        have := hat j hj4
        rw [this, ← hj]
        rfl
    obtain ⟨rs, hl, hr⟩ := pick_all key
    refine ⟨rs, hl, fun hp => ?_, by omega, fun r hr' => ?_⟩
    · rw [flat_len Rt.cells 4 (fun _ => rfl)] at hp
      have h00 := (hr 0 rs[0] (List.getElem?_eq_getElem (by omega))).2 0 _ rfl
      obtain ⟨b, off, spot⟩ := a
      have hspot : spot = none := by simpa [Addr.add] using World.cell?_spot h00
      subst hspot
      refine ⟨b, off, rfl, World.block_lt_of_cell? w _ h00, fun j v hj => ?_⟩
      obtain ⟨r, h5, h6⟩ := flat_some Rt.cells 4 (by decide) (fun _ => rfl) rs j v hj
      have := (hr _ r h5).2 _ v h6
      rw [Go.WideShapes.add_plain, Nat.mul_comm, Nat.div_add_mod] at this
      exact this
    · obtain ⟨i, hi⟩ := List.getElem?_of_mem hr'
      exact (hr i r hi).1
end Go.Proofs.Ytjcklmhgjdmjoaa

/- Currencies in plain lists: codes, tables, the rate of a day. No program. -/
namespace Go.Proofs.Ytjcklmhgjdmjoaa

/-! ### the order of texts -/
theorem less_irr (x : List UInt8) : Op.bytesLess x x = false := by rw [bytesLess_eq]; simp
theorem less_trans {x y z : List UInt8} (h : Op.bytesLess x y = true) (k : Op.bytesLess y z = true) : Op.bytesLess x z = true := by
  rw [bytesLess_eq, decide_eq_true_eq] at *; exact List.lt_trans h k
theorem less_tot {x y : List UInt8} (h : Op.bytesLess x y = false) (k : Op.bytesLess y x = false) : x = y := by
  rw [bytesLess_eq, decide_eq_false_iff_not] at *
  exact List.le_antisymm (List.not_lt.1 k) (List.not_lt.1 h)
theorem less_asym {x y : List UInt8} (h : Op.bytesLess x y = true) : Op.bytesLess y x = false := by
  cases k : Op.bytesLess y x with
  | false => rfl
  | true => have := less_trans h k; rw [less_irr] at this; cases this

/-! ### codes -/
def upb (c : UInt8) : Bool := decide (65 ≤ (c.toNat : Int) ∧ (c.toNat : Int) ≤ 90)
def codeB (l : List UInt8) : Bool := decide ((l.length : Int) = 3) && l.all upb
def xdr : List UInt8 := [88, 68, 82]
theorem codeB_iff {l : List UInt8} : codeB l = true ↔ l.length = 3 ∧ l.all upb = true := by
  unfold codeB; rw [Bool.and_eq_true, decide_eq_true_eq, show ((l.length : Int) = 3) = (l.length = 3) from propext (by omega)]
theorem xdr_code : codeB xdr = true := by decide
def keyN (l : List UInt8) : Int := l.foldl (fun n c => n * 26 + ((c.toNat : Int) - 65)) 0
theorem upb_bd {c : UInt8} (h : upb c = true) : 65 ≤ (c.toNat : Int) ∧ (c.toNat : Int) ≤ 90 := by simpa [upb] using h
theorem code3 {l : List UInt8} (h : codeB l = true) : ∃ a b c, l = [a, b, c] ∧ upb a = true ∧ upb b = true ∧ upb c = true := by
  obtain ⟨h3, ha⟩ := codeB_iff.1 h
  match l, h3 with
  | [a, b, c], _ => exact ⟨a, b, c, rfl, by simpa using ha⟩
theorem keyN_inj {l m : List UInt8} (hl : codeB l = true) (hm : codeB m = true) (h : keyN l = keyN m) : l = m := by
  obtain ⟨a, b, c, rfl, ha, hb, hc⟩ := code3 hl
  obtain ⟨x, y, z, rfl, hx, hy, hz⟩ := code3 hm
  have := upb_bd ha; have := upb_bd hb; have := upb_bd hc; have := upb_bd hx; have := upb_bd hy; have := upb_bd hz
  simp only [keyN, List.foldl_cons, List.foldl_nil] at h
  have e1 : a.toNat = x.toNat := by omega
  have e2 : b.toNat = y.toNat := by omega
  have e3 : c.toNat = z.toNat := by omega
  rw [UInt8.toNat.inj e1, UInt8.toNat.inj e2, UInt8.toNat.inj e3]
theorem keyN_bd {l : List UInt8} (hl : codeB l = true) : 0 ≤ keyN l ∧ keyN l ≤ 17575 := by
  obtain ⟨a, b, c, rfl, ha, hb, hc⟩ := code3 hl
  have := upb_bd ha; have := upb_bd hb; have := upb_bd hc
  simp only [keyN, List.foldl_cons, List.foldl_nil]
  omega

/-! ### tables -/
def dayB (n : Int) : Bool := decide (0 ≤ n ∧ n ≤ 36524)
def termB (n : Int) : Bool := decide (1 ≤ n ∧ n ≤ 1000000)
def Rt.ok (r : Rt) : Bool := codeB r.c && !(r.c == xdr) && dayB r.day && termB r.num && termB r.den
/-- a stands before b. -/
def bef (a b : Rt) : Bool := Op.bytesLess a.c b.c || (a.c == b.c && decide (a.day < b.day))
def okAt (rs : List Rt) (i : Nat) : Bool :=
  match rs[i]? with
  | none => true
  | some r => r.ok && (match i with | 0 => true | j + 1 => match rs[j]? with | none => true | some q => bef q r)
def okTo (rs : List Rt) (k : Nat) : Bool := (List.range k).all (okAt rs)
theorem okTo_zero (rs : List Rt) : okTo rs 0 = true := rfl
theorem okTo_succ (rs : List Rt) (k : Nat) : okTo rs (k + 1) = (okTo rs k && okAt rs k) := by simp [okTo, List.range_succ]
theorem okTo_no {rs : List Rt} {k n : Nat} (h : okAt rs k = false) (hk : k < n) : okTo rs n = false := by
  unfold okTo; rw [List.all_eq_false]; exact ⟨k, by simpa using hk, by simp [h]⟩
theorem okTo_at {rs : List Rt} {k n : Nat} (h : okTo rs n = true) (hk : k < n) : okAt rs k = true := by
  unfold okTo at h; rw [List.all_eq_true] at h; exact h k (by simpa using hk)
def tabB (rs : List Rt) : Bool := okTo rs rs.length && decide ((rs.length : Int) ≤ 20)
theorem tabB_iff {rs : List Rt} : tabB rs = true ↔ okTo rs rs.length = true ∧ rs.length ≤ 20 := by
  unfold tabB; rw [Bool.and_eq_true, decide_eq_true_eq, show ((rs.length : Int) ≤ 20) = (rs.length ≤ 20) from propext (by omega)]
theorem tab_ok {rs : List Rt} (h : tabB rs = true) {k : Nat} {r : Rt} (hr : rs[k]? = some r) : r.ok = true := by
  obtain ⟨hk, _⟩ := List.getElem?_eq_some_iff.1 hr
  have := okTo_at (tabB_iff.1 h).1 hk
  unfold okAt at this
  rw [hr] at this
  simp only [Bool.and_eq_true] at this
  exact this.1
theorem tab_bef {rs : List Rt} (h : tabB rs = true) {k : Nat} {q r : Rt} (hq : rs[k]? = some q) (hr : rs[k + 1]? = some r) : bef q r = true := by
  obtain ⟨hk, _⟩ := List.getElem?_eq_some_iff.1 hr
  have := okTo_at (tabB_iff.1 h).1 hk
  unfold okAt at this
  simp only [hr, hq, Bool.and_eq_true] at this
  exact this.2
theorem bef_trans {a b c : Rt} (h : bef a b = true) (k : bef b c = true) : bef a c = true := by
  unfold bef at *
  simp only [Bool.or_eq_true, Bool.and_eq_true, beq_iff_eq, decide_eq_true_eq] at *
  rcases h with h | ⟨h1, h2⟩
  · rcases k with k | ⟨k1, k2⟩
    · exact .inl (less_trans h k)
    · exact .inl (k1 ▸ h)
  · rcases k with k | ⟨k1, k2⟩
    · exact .inl (h1 ▸ k)
    · exact .inr ⟨h1.trans k1, by omega⟩
theorem tab_before {rs : List Rt} (h : tabB rs = true) : ∀ {i j : Nat} {q r : Rt}, i < j → rs[i]? = some q → rs[j]? = some r → bef q r = true := by
  intro i j
  induction j with
  | zero => intro q r hij; omega
  | succ j ih =>
    intro q r hij hq hr
    rcases Nat.lt_or_ge i j with h1 | h1
    · have hj : j < rs.length := by have := (List.getElem?_eq_some_iff.1 hr).1; omega
      exact bef_trans (ih h1 hq (List.getElem?_eq_getElem hj)) (tab_bef h (List.getElem?_eq_getElem hj) hr)
    · obtain rfl : i = j := by omega
      exact tab_bef h hq hr
theorem Rt.ok_iff {r : Rt} : r.ok = true ↔ codeB r.c = true ∧ r.c ≠ xdr ∧ (0 ≤ r.day ∧ r.day ≤ 36524) ∧ (1 ≤ r.num ∧ r.num ≤ 1000000) ∧ (1 ≤ r.den ∧ r.den ≤ 1000000) := by
  unfold Rt.ok dayB termB
  simp only [Bool.and_eq_true, Bool.not_eq_true', beq_eq_false_iff_ne, decide_eq_true_eq, ne_eq, and_assoc]

/-! ### the rate of a day -/
/-- The last rate of a currency that has begun. -/
def lastOn (c : List UInt8) (d : Int) (rs : List Rt) : Option Rt := rs.foldl (fun acc r => if r.c = c ∧ r.day ≤ d then some r else acc) none
theorem lastOn_snoc (c : List UInt8) (d : Int) (rs : List Rt) (r : Rt) : lastOn c d (rs ++ [r]) = if r.c = c ∧ r.day ≤ d then some r else lastOn c d rs := by
  simp [lastOn, List.foldl_append]
/-- Numerator and denominator of a currency on a day; (0, 0) if there is none. -/
def rateL (c : List UInt8) (d : Int) (rs : List Rt) : Int × Int :=
  if c = xdr then (1, 1) else match lastOn c d rs with | none => (0, 0) | some r => (r.num, r.den)
theorem rev_ind {α : Type} {P : List α → Prop} (h0 : P []) (h1 : ∀ xs x, P xs → P (xs ++ [x])) (xs : List α) : P xs := by
  have : ∀ n, ∀ xs : List α, xs.length = n → P xs := by
    intro n
    induction n with
    | zero => intro xs h; rw [List.eq_nil_of_length_eq_zero h]; exact h0
    | succ n ih =>
      intro xs h
      have hne : xs ≠ [] := by rintro rfl; simp at h
      rw [← List.dropLast_concat_getLast hne]
      exact h1 _ _ (ih _ (by simp [h]))
  exact this _ xs rfl
theorem lastOn_some {c : List UInt8} {d : Int} {rs : List Rt} : ∀ {r : Rt}, lastOn c d rs = some r → ∃ k, rs[k]? = some r ∧ r.c = c ∧ r.day ≤ d ∧ ∀ (j : Nat) (q : Rt), k < j → rs[j]? = some q → ¬ (q.c = c ∧ q.day ≤ d) := by
  refine rev_ind (P := fun rs => ∀ {r : Rt}, lastOn c d rs = some r → ∃ k, rs[k]? = some r ∧ r.c = c ∧ r.day ≤ d ∧ ∀ (j : Nat) (q : Rt), k < j → rs[j]? = some q → ¬ (q.c = c ∧ q.day ≤ d)) ?_ ?_ rs
  · intro r h; simp [lastOn] at h
  · intro rs x ih
    intro r h
    rw [lastOn_snoc] at h
    split at h
    · rename_i hx
      obtain rfl := Option.some.inj h
      refine ⟨rs.length, by simp, hx.1, hx.2, fun j q hj hq => ?_⟩
      have := (List.getElem?_eq_some_iff.1 hq).1
      simp at this; omega
    · rename_i hx
      obtain ⟨k, h1, h2, h3, h4⟩ := ih h
      have hk := (List.getElem?_eq_some_iff.1 h1).1
      refine ⟨k, by rw [List.getElem?_append_left hk]; exact h1, h2, h3, fun j q hj hq => ?_⟩
      rcases Nat.lt_or_ge j rs.length with hl | hl
      · rw [List.getElem?_append_left hl] at hq; exact h4 j q hj hq
      · rw [List.getElem?_append_right hl] at hq
        have : j - rs.length = 0 := by
          have := (List.getElem?_eq_some_iff.1 hq).1; simp at this; omega
        rw [this] at hq
        simp at hq; subst hq; exact hx
theorem lastOn_none {c : List UInt8} {d : Int} {rs : List Rt} (h : lastOn c d rs = none) : ∀ r ∈ rs, ¬ (r.c = c ∧ r.day ≤ d) := by
  revert h
  refine rev_ind (P := fun rs => lastOn c d rs = none → ∀ r ∈ rs, ¬ (r.c = c ∧ r.day ≤ d)) ?_ ?_ rs
  · intro _ r hr; cases hr
  · intro rs x ih h
    rw [lastOn_snoc] at h
    split at h
    · cases h
    · rename_i hx
      intro r hr
      rcases List.mem_append.1 hr with hr | hr
      · exact ih h r hr
      · simp at hr; subst hr; exact hx
/-- In a table the last one is the one with the greatest day: there is one rate of it and a day. -/
theorem lastOn_max {c : List UInt8} {d : Int} {rs : List Rt} (h : tabB rs = true) {r q : Rt} (hr : lastOn c d rs = some r) (hq : q ∈ rs) (hc : q.c = c) (hd : q.day ≤ d) (hm : r.day ≤ q.day) : q = r := by
  obtain ⟨k, h1, h2, h3, h4⟩ := lastOn_some hr
  obtain ⟨j, hj⟩ := List.getElem?_of_mem hq
  rcases Nat.lt_trichotomy j k with hlt | rfl | hgt
  · have := tab_before h hlt hj h1
    unfold bef at this
    rw [hc, h2, less_irr] at this
    simp at this; omega
  · rw [hj] at h1; exact Option.some.inj h1
  · exact absurd ⟨hc, hd⟩ (h4 j q hgt hj)
theorem tab_key {rs : List Rt} (h : tabB rs = true) {q r : Rt} (hq : q ∈ rs) (hr : r ∈ rs) (hc : q.c = r.c) (hd : q.day = r.day) : q = r := by
  obtain ⟨i, hi⟩ := List.getElem?_of_mem hq
  obtain ⟨j, hj⟩ := List.getElem?_of_mem hr
  rcases Nat.lt_trichotomy i j with hlt | rfl | hgt
  · have := tab_before h hlt hi hj
    unfold bef at this
    rw [hc, hd, less_irr] at this
    simp at this
  · rw [hi] at hj; exact Option.some.inj hj
  · have := tab_before h hgt hj hi
    unfold bef at this
    rw [hc, hd, less_irr] at this
    simp at this
end Go.Proofs.Ytjcklmhgjdmjoaa

/- append of one element onto a row of the call's own. -/
namespace Go.Proofs.Ytjcklmhgjdmjoaa
open Go.ChangeShapes Go.WideShapes Go.ChangeAt Go.RowKit
set_option linter.unusedVariables false

theorem wpList_push {P : Program} (w : World) {ops : Array Oper} {rest : List Oper} {o : Oper} {a : Act} {Q : Exit → Act → World → Prop} (hgd : o.guard = none) (s x : Operand) (t : TypeId)
    (ho : o.op = .call { callee := .builtin .append, args := #[s, x], argTypes := #[t, t] })
    (base : Nat) (e : TypeId) (i : TypeInfo) (z : Value) (size bytes : Nat) (ht : P.underlying t = some (.slice e)) (hi : P.info? e = some i) (hz : i.zero = some z)
    (hsize : i.size = size) (hby : i.bytes = bytes) (hzs : z.cells.size = size) (hsz : 0 < size)
    (v : Value) (n : Nat) (xs : List Value) (hs : a.eval s = v) (hown : w.ownsRow base e size v n xs)
    (news : List Value) (hl : news.length = size) (h1 : ∀ u ∈ news, u.oneCell' = true)
    (hx : a.eval x = .slice (some ⟨w.heap.size, 0, none⟩) 1 1)
    (h63 : n + 1 ≤ maxLen) (hbytes : (n + 1) * bytes ≤ 140737488355328) (hbase : base ≤ w.heap.size)
    (h : ∀ v' w', w'.ownsRow base e size v' (n + 1) (xs ++ news) → Below base w w' → wpList P ops Q rest (a.put o.dst v') w') :
    wpList P ops Q (o :: rest) a (w.alloc (.cells news.toArray e)) := by
  refine wpList_append_own _ hgd s x t ho base e i z size bytes ht hi hz hsize hby hzs hsz v n xs hs (hown.alloc _) ⟨w.heap.size, 0, none⟩ 1 1 news hx (by omega) ?_ h1 h63 hbytes
    (by simp only [World.size_alloc]; omega) (fun v' w' h2 h3 _ => h v' w' h2 ?_)
  · intro j u hu
    rw [show ((⟨w.heap.size, 0, none⟩ : Addr).add j) = ⟨w.heap.size, 0 + j, none⟩ from by unfold Addr.add; split <;> simp_all,
      cell_of_row _ _ _ _ _ _ (heap_alloc_new w _)]
    simpa using hu
  · exact (((Below.refl base w).alloc hbase _)).grown h3 (by simp only [World.size_alloc]; omega) (fun k hk => (hown.lt k hk).1)

/-- The slice of a row that is owned, as the walk has it. -/
theorem own_form {w : World} {base : Nat} {e : TypeId} {size n : Nat} {v : Value} {xs : List Value} (h : w.ownsRow base e size v n xs) : ∃ A c, v = .slice A n c := by
  rcases h.2 with ⟨rfl, rfl⟩ | ⟨g, cap, _, rfl, _⟩
  · exact ⟨none, 0, rfl⟩
  · exact ⟨_, _, rfl⟩

/-- Two rows in different blocks. -/
def Sep (u v : Value) : Prop := ∀ k, u.ownBlock = some k → v.ownBlock ≠ some k
theorem Sep.symm {u v : Value} (h : Sep u v) : Sep v u := fun k hv hu => h k hu hv
theorem own_sep {w w' : World} {base : Nat} {e : TypeId} {size n : Nat} {u v : Value} {xs : List Value} (h : w.ownsRow base e size v n xs) (hs : Sep u v) (hg : w.grownBy w' u.ownBlock) : w'.ownsRow base e size v n xs := by
  refine h.kept hg ?_
  cases hv : v.ownBlock with
  | none => exact .inl rfl
  | some k => exact .inr (fun e => hs k e.symm hv)
theorem sep_push {w : World} {base : Nat} {e : TypeId} {size n : Nat} {u v u' : Value} {xs : List Value} (h : w.ownsRow base e size v n xs) (hs : Sep u v) (hu : u'.ownBlock = u.ownBlock ∨ ∃ k, w.heap.size ≤ k ∧ u'.ownBlock = some k) : Sep u' v := by
  intro k hk hv
  rcases hu with hu | ⟨k', h1, h2⟩
  · exact hs k (hu ▸ hk) hv
  · have := (h.lt k hv).2
    rw [h2] at hk; cases hk; omega

theorem wpList_push2 {P : Program} (w : World) {ops : Array Oper} {rest : List Oper} {o : Oper} {a : Act} {Q : Exit → Act → World → Prop} (hgd : o.guard = none) (s x : Operand) (t : TypeId)
    (ho : o.op = .call { callee := .builtin .append, args := #[s, x], argTypes := #[t, t] })
    (base : Nat) (e : TypeId) (i : TypeInfo) (z : Value) (size bytes : Nat) (ht : P.underlying t = some (.slice e)) (hi : P.info? e = some i) (hz : i.zero = some z)
    (hsize : i.size = size) (hby : i.bytes = bytes) (hzs : z.cells.size = size) (hsz : 0 < size)
    (v : Value) (n : Nat) (xs : List Value) (hs : a.eval s = v) (hown : w.ownsRow base e size v n xs)
    (news : List Value) (hl : news.length = size) (h1 : ∀ u ∈ news, u.oneCell' = true)
    (hx : a.eval x = .slice (some ⟨w.heap.size, 0, none⟩) 1 1)
    (h63 : n + 1 ≤ maxLen) (hbytes : (n + 1) * bytes ≤ 140737488355328) (hbase : base ≤ w.heap.size)
    (h : ∀ v' w', w'.ownsRow base e size v' (n + 1) (xs ++ news) → w.grownBy w' v.ownBlock → (v'.ownBlock = v.ownBlock ∨ ∃ k, w.heap.size ≤ k ∧ v'.ownBlock = some k) → wpList P ops Q rest (a.put o.dst v') w') :
    wpList P ops Q (o :: rest) a (w.alloc (.cells news.toArray e)) := by
  refine wpList_append_own_at _ hgd s x t ho base e i z size bytes ht hi hz hsize hby hzs hsz v n xs hs (hown.alloc _) ⟨w.heap.size, 0, none⟩ 1 1 news hx (by omega) ?_ h1 h63 hbytes
    (by simp only [World.size_alloc]; omega) (fun v' w' h2 h3 _ h5 => h v' w' h2 ((World.grownBy_alloc w _ _).trans h3) ?_)
  · intro j u hu
    rw [show ((⟨w.heap.size, 0, none⟩ : Addr).add j) = ⟨w.heap.size, 0 + j, none⟩ from by unfold Addr.add; split <;> simp_all,
      cell_of_row _ _ _ _ _ _ (heap_alloc_new w _)]
    simpa using hu
  · rcases h5 with h5 | h5
    · exact .inl h5
    · exact .inr ⟨_, by simp only [World.size_alloc]; omega, h5⟩
end Go.Proofs.Ytjcklmhgjdmjoaa

/- laws.toRate, szRateS, toRateS, eqRate, eqRateS: rates are copied, counted and compared. -/
namespace Go.Proofs.Ytjcklmhgjdmjoaa
open Go.ChangeShapes Go.WideShapes Go.ChangeAt Go.RowKit
set_option linter.unusedVariables false

/-! ### rows of rates -/
theorem Rr.below {w w' : World} {A : Option Addr} {rs : List Rt} (h : Rr w A rs) (hb : Below w.heap.size w w') : Rr w' A rs := Rw.below h hb
def szT (rs : List Rt) (n : Int) : Int := if n - rs.length < 0 then -1 else szl rs (n - rs.length)
theorem szl_neg (rs : List Rt) : szl rs (-1) = -1 := by cases rs <;> rfl
theorem szl_bd : ∀ (rs : List Rt) (n : Int), 0 ≤ szl rs n → szl rs n ≤ n ∧ ∀ r ∈ rs, (r.c.length : Int) ≤ n
  | [], n, h => ⟨Int.le_refl _, fun r hr => by cases hr⟩
  | r :: rs, n, h => by
    unfold szl at h ⊢
    by_cases hn : n < 0
    · rw [if_pos hn] at h; omega
    · rw [if_neg hn] at h ⊢
      by_cases h1 : n - r.c.length < 0
      · rw [if_pos h1, szl_neg] at h; omega
      · rw [if_neg h1] at h ⊢
        obtain ⟨h2, h3⟩ := szl_bd rs _ h
        refine ⟨by omega, fun q hq => ?_⟩
        rcases List.mem_cons.1 hq with rfl | hq
        · omega
        · have := h3 q hq; omega
theorem szT_bd {rs : List Rt} {n : Int} (h : 0 ≤ szT rs n) : szT rs n ≤ n ∧ (rs.length : Int) ≤ n ∧ ∀ r ∈ rs, (r.c.length : Int) ≤ n := by
  unfold szT at h ⊢
  by_cases h1 : n - rs.length < 0
  · rw [if_pos h1] at h; omega
  · rw [if_neg h1] at h ⊢
    obtain ⟨h2, h3⟩ := szl_bd rs _ h
    exact ⟨by omega, by omega, fun r hr => by have := h3 r hr; omega⟩
theorem szl_cons {r : Rt} {rs : List Rt} {m : Int} (hm : 0 ≤ m) : szl (r :: rs) m = szl rs (if m - r.c.length < 0 then -1 else m - r.c.length) := by rw [szl, if_neg (by omega)]
/-- Rates that came in: each text is no longer than a text can be. -/
def Rok (rs : List Rt) : Prop := ∀ r ∈ rs, r.c.length ≤ maxLen
/-! ### a row of rates of the call's own -/
theorem Rw.ownS {w : World} {base n size : Nat} {e : TypeId} {A : Option Addr} {c : Nat} {vs : List Value} (h : w.ownsRow base e size (.slice A n c) n vs) : Rw w A vs := fun hp => by
  rcases h.2 with ⟨hv, hx⟩ | ⟨g, cap, cur, hv, _, hh, _⟩
  · have h1 := h.1; rw [hx, Nat.zero_mul] at h1; omega
  · have hlt := (h.lt g (by rw [hv]; rfl)).2
    injection hv with hA _ _
    subst hA
    refine ⟨g, 0, rfl, hlt, fun j v hj => ?_⟩
    have := h.cells (g := g) rfl j v hj
    rwa [show ((⟨g, 0, none⟩ : Addr).add j) = ⟨g, 0 + j, none⟩ from by unfold Addr.add; split <;> simp_all] at this
section
variable {w w' : World} {base : Nat} {A : Option Addr} {n c : Nat} {rs : List Rt}
theorem own_below {e : TypeId} {size : Nat} {v : Value} {xs : List Value} (h : w.ownsRow base e size v n xs) (hb : Below w.heap.size w w') : w'.ownsRow base e size v n xs := by
  refine ⟨h.1, ?_⟩
  rcases h.2 with h1 | ⟨g, cap, cur, h1, h2, h3, h4⟩
  · exact .inl h1
  · exact .inr ⟨g, cap, cur, h1, h2, (hb.block g (by
      rcases Nat.lt_or_ge g w.heap.size with hlt | hge
      · exact hlt
      · rw [Array.getElem?_eq_none hge] at h3; cases h3)).trans h3, h4⟩
end
theorem set4 {ys : List Value} {k : Nat} (hk : k * 4 + 3 < ys.length) {a b c d : Value} {P : List Value} (h : ys.take (k * 4) = P) :
    ((((ys.set (k * 4) a).set (k * 4 + 1) b).set (k * 4 + 2) c).set (k * 4 + 3) d).take ((k + 1) * 4) = P ++ [a, b, c, d] := by
  apply List.ext_getElem?
  intro j
  subst h
  rw [List.getElem?_take, List.getElem?_append, List.length_take, Nat.min_eq_left (by omega)]
  by_cases h1 : j < k * 4
  · rw [if_pos (by omega), if_pos h1, List.getElem?_take, if_pos h1]
    rw [List.getElem?_set_ne (by omega), List.getElem?_set_ne (by omega), List.getElem?_set_ne (by omega), List.getElem?_set_ne (by omega)]
  · rw [if_neg h1]
    by_cases h2 : j < (k + 1) * 4
    · rw [if_pos h2]
      have : j = k * 4 ∨ j = k * 4 + 1 ∨ j = k * 4 + 2 ∨ j = k * 4 + 3 := by omega
      rcases this with rfl | rfl | rfl | rfl
      · rw [List.getElem?_set_ne (by omega), List.getElem?_set_ne (by omega), List.getElem?_set_ne (by omega), List.getElem?_set_self (by omega), Nat.sub_self]; rfl
      · rw [List.getElem?_set_ne (by omega), List.getElem?_set_ne (by omega), List.getElem?_set_self (by simp; omega), show k * 4 + 1 - k * 4 = 1 by omega]; rfl
      · rw [List.getElem?_set_ne (by omega), List.getElem?_set_self (by simp; omega), show k * 4 + 2 - k * 4 = 2 by omega]; rfl
      · rw [List.getElem?_set_self (by simp; omega), show k * 4 + 3 - k * 4 = 3 by omega]; rfl
    · rw [if_neg h2, List.getElem?_eq_none (by simp; omega)]
theorem stored4 {w : World} {base g n c : Nat} {e : TypeId} {xs : List Value} (h : w.ownsRow base e 4 (.slice (some ⟨g, 0, none⟩) n c) n xs) (j : Nat) (a b d f : Value) :
    ((((w.setCell ⟨g, j, none⟩ a).setCell ⟨g, j + 1, none⟩ b).setCell ⟨g, j + 2, none⟩ d).setCell ⟨g, j + 3, none⟩ f).ownsRow base e 4 (.slice (some ⟨g, 0, none⟩) n c) n ((((xs.set j a).set (j + 1) b).set (j + 2) d).set (j + 3) f) ∧
    w.grownBy ((((w.setCell ⟨g, j, none⟩ a).setCell ⟨g, j + 1, none⟩ b).setCell ⟨g, j + 2, none⟩ d).setCell ⟨g, j + 3, none⟩ f) (some g) := by
  have h1 := h.stored j a
  have h2 := h1.1.stored (j + 1) b
  have h3 := h2.1.stored (j + 2) d
  have h4 := h3.1.stored (j + 3) f
  exact ⟨h4.1, ((h1.2.trans h2.2).trans h3.2).trans h4.2⟩

theorem own_at {w : World} {base g n c size : Nat} {e : TypeId} {xs : List Value} (h : w.ownsRow base e size (.slice (some ⟨g, 0, none⟩) n c) n xs) (j : Nat) (hj : j < xs.length) : ∃ v, w.cell? ⟨g, j, none⟩ = some v :=
  ⟨xs[j], by rw [h.cellAt j (by rw [← h.1]; exact hj)]; simp [hj]⟩
end Go.Proofs.Ytjcklmhgjdmjoaa

/- laws.eqRateS: equal rates are told equal. -/
namespace Go.Proofs.Ytjcklmhgjdmjoaa
open Go.ChangeShapes Go.WideShapes Go.ChangeAt Go.RowKit
set_option linter.unusedVariables false

/-- The four cells of a rate. -/
structure Cells4 (W : World) (b o : Nat) (r : Rt) : Prop where
  c0 : W.cell? ⟨b, o, none⟩ = some (.string ⟨r.c.toArray⟩)
  c1 : W.cell? ⟨b, o + 1, none⟩ = some (.int .i64 r.day)
  c2 : W.cell? ⟨b, o + 2, none⟩ = some (.int .i64 r.num)
  c3 : W.cell? ⟨b, o + 3, none⟩ = some (.int .i64 r.den)
theorem Cells4.below {w W : World} {b o : Nat} {r : Rt} (h : Cells4 w b o r) (hl : b < w.heap.size) (hb : Below w.heap.size w W) : Cells4 W b o r :=
  ⟨(hb.cell (p := ⟨b, o, none⟩) hl).trans h.c0, (hb.cell (p := ⟨b, o + 1, none⟩) hl).trans h.c1, (hb.cell (p := ⟨b, o + 2, none⟩) hl).trans h.c2, (hb.cell (p := ⟨b, o + 3, none⟩) hl).trans h.c3⟩
theorem Rr.four {w : World} {A : Option Addr} {rs : List Rt} (h : Rr w A rs) {k : Nat} (hk : k < rs.length) :
    ∃ b off r, A = some ⟨b, off, none⟩ ∧ b < w.heap.size ∧ Hid (rs[k]? = some r) ∧ Cells4 w b (off + k * 4) r := by
  obtain ⟨b, off, r, e, hl, hr, c0, c1, c2, c3⟩ := h.at hk
  exact ⟨b, off, r, e, hl, hr, c0, c1, c2, c3⟩
/-- Two rates stand as they did; nothing below is written. -/
def Held2 (w0 : World) (b o b' o' : Nat) (r q : Rt) (W : World) : Prop :=
  Below w0.heap.size w0 W ∧ W.cell? ⟨b, o, none⟩ = some (.string ⟨r.c.toArray⟩) ∧ W.cell? ⟨b, o + 1, none⟩ = some (.int .i64 r.day) ∧ W.cell? ⟨b, o + 2, none⟩ = some (.int .i64 r.num) ∧ W.cell? ⟨b, o + 3, none⟩ = some (.int .i64 r.den) ∧
    W.cell? ⟨b', o', none⟩ = some (.string ⟨q.c.toArray⟩) ∧ W.cell? ⟨b', o' + 1, none⟩ = some (.int .i64 q.day) ∧ W.cell? ⟨b', o' + 2, none⟩ = some (.int .i64 q.num) ∧ W.cell? ⟨b', o' + 3, none⟩ = some (.int .i64 q.den)
theorem held2 {w0 W : World} {b o b' o' : Nat} {r q : Rt} (h : Cells4 w0 b o r) (hl : b < w0.heap.size) (h' : Cells4 w0 b' o' q) (hl' : b' < w0.heap.size) (hb : Below w0.heap.size w0 W) :
    Below w0.heap.size w0 W ∧ W.cell? ⟨b, o, none⟩ = some (.string ⟨r.c.toArray⟩) ∧ W.cell? ⟨b, o + 1, none⟩ = some (.int .i64 r.day) ∧ W.cell? ⟨b, o + 2, none⟩ = some (.int .i64 r.num) ∧ W.cell? ⟨b, o + 3, none⟩ = some (.int .i64 r.den) ∧
    W.cell? ⟨b', o', none⟩ = some (.string ⟨q.c.toArray⟩) ∧ W.cell? ⟨b', o' + 1, none⟩ = some (.int .i64 q.day) ∧ W.cell? ⟨b', o' + 2, none⟩ = some (.int .i64 q.num) ∧ W.cell? ⟨b', o' + 3, none⟩ = some (.int .i64 q.den) := by
  have g := h.below hl hb
  have g' := h'.below hl' hb
  exact ⟨hb, g.c0, g.c1, g.c2, g.c3, g'.c0, g'.c1, g'.c2, g'.c3⟩
end Go.Proofs.Ytjcklmhgjdmjoaa

