/- Rates: rows of structs of a string and three numbers. -/
import Derived.Test.YtpdkgjmppknbpaaBase
import Derived.Laws.StructEq
import Derived.Deep.Slices
import Derived.Deep.Fields
import Derived.ChangeSame
namespace Go.Proofs.Ytpdkgjmppknbpaa
open Go.ChangeShapes Go.WideShapes Go.ChangeAt Go.RowKit
set_option linter.unusedVariables false

structure Rt where
  c : List UInt8
  day : Int
  num : Int
  den : Int
def Rt.cells (r : Rt) : List Value := [.string ⟨r.c.toArray⟩, .int .i64 r.day, .int .i64 r.num, .int .i64 r.den]
theorem flat_at {α β : Type} (f : α → List β) (n : Nat) (hf : ∀ a, (f a).length = n) : ∀ (xs : List α) (k j : Nat) (a : α), xs[k]? = some a → j < n → (xs.flatMap f)[k * n + j]? = (f a)[j]? := by
  intro xs
  induction xs with
  | nil => intro k j a h; simp at h
  | cons x r ih =>
    intro k j a h hj
    rw [List.flatMap_cons]
    cases k with
    | zero =>
      simp at h; subst h
      rw [Nat.zero_mul, Nat.zero_add, List.getElem?_append_left (by rw [hf]; exact hj)]
    | succ k =>
      rw [List.getElem?_append_right (by rw [hf, Nat.succ_mul]; omega), hf, Nat.succ_mul, show k * n + n + j - n = k * n + j by omega]
      exact ih k j a (by simpa using h) hj
theorem flat_len {α β : Type} (f : α → List β) (n : Nat) (hf : ∀ a, (f a).length = n) (xs : List α) : (xs.flatMap f).length = xs.length * n := by
  induction xs with
  | nil => simp
  | cons x r ih => rw [List.flatMap_cons, List.length_append, hf, ih, List.length_cons, Nat.succ_mul]; omega
def Rr (w : World) (A : Option Addr) (rs : List Rt) : Prop := Rw w A (rs.flatMap Rt.cells)
theorem Rr.at {w : World} {A : Option Addr} {rs : List Rt} (h : Rr w A rs) {k : Nat} (hk : k < rs.length) :
    ∃ b off r, A = some ⟨b, off, none⟩ ∧ b < w.heap.size ∧ Hid (rs[k]? = some r) ∧ w.cell? ⟨b, off + k * 4, none⟩ = some (.string ⟨r.c.toArray⟩) ∧ w.cell? ⟨b, off + k * 4 + 1, none⟩ = some (.int .i64 r.day) ∧
      w.cell? ⟨b, off + k * 4 + 2, none⟩ = some (.int .i64 r.num) ∧ w.cell? ⟨b, off + k * 4 + 3, none⟩ = some (.int .i64 r.den) := by
  have hl := flat_len Rt.cells 4 (fun _ => rfl) rs
  obtain ⟨b, off, e, hb, hc⟩ := h (by rw [hl]; omega)
  have hr : rs[k]? = some rs[k] := List.getElem?_eq_getElem hk
  have g := fun j hj => hc (k * 4 + j) _ ((flat_at Rt.cells 4 (fun _ => rfl) rs k j _ hr hj).trans (List.getElem?_eq_getElem (by exact hj)))
  refine ⟨b, off, rs[k], e, hb, Lib.hid hr, ?_, ?_, ?_, ?_⟩
  · simpa [Rt.cells] using g 0 (by omega)
  · simpa [Rt.cells, Nat.add_assoc] using g 1 (by omega)
  · simpa [Rt.cells, Nat.add_assoc] using g 2 (by omega)
  · simpa [Rt.cells, Nat.add_assoc] using g 3 (by omega)

/-- How many letters are left. -/
def szl : List Rt → Int → Int
  | [], n => n
  | r :: rs, n => if n < 0 then n else szl rs (if n - r.c.length < 0 then -1 else n - r.c.length)
/-! ### a slice of rates that came in -/
def Rt.wf (r : Rt) : Prop := r.c.length ≤ maxLen ∧ (Lit.int .i64 r.day).wf = true ∧ (Lit.int .i64 r.num).wf = true ∧ (Lit.int .i64 r.den).wf = true
theorem flat_some {α β : Type} (f : α → List β) (n : Nat) (hn : 0 < n) (hf : ∀ a, (f a).length = n) (xs : List α) (j : Nat) (v : β) (h : (xs.flatMap f)[j]? = some v) :
    ∃ a, xs[j / n]? = some a ∧ (f a)[j % n]? = some v := by
  have hl := flat_len f n hf xs
  have hj : j < xs.length * n := by rw [← hl]; exact (List.getElem?_eq_some_iff.1 h).1
  have hk : j / n < xs.length := (Nat.div_lt_iff_lt_mul hn).2 hj
  have hm : j % n < n := Nat.mod_lt _ hn
  have e := flat_at f n hf xs (j / n) (j % n) _ (List.getElem?_eq_getElem hk) hm
  rw [Nat.mul_comm, Nat.div_add_mod] at e
  exact ⟨_, List.getElem?_eq_getElem hk, e ▸ h⟩
theorem pick_all {α : Type} {P : Nat → α → Prop} {n : Nat} (h : ∀ i, i < n → ∃ a, P i a) : ∃ xs : List α, xs.length = n ∧ ∀ i a, xs[i]? = some a → P i a := by
  induction n with
  | zero => exact ⟨[], rfl, fun i a h => by simp at h⟩
  | succ n ih =>
    obtain ⟨xs, hl, hx⟩ := ih fun i hi => h i (by omega)
    obtain ⟨a, ha⟩ := h n (by omega)
    refine ⟨xs ++ [a], by simp [hl], fun i b hb => ?_⟩
    rcases Nat.lt_or_ge i xs.length with hi | hi
    · rw [List.getElem?_append_left hi] at hb; exact hx i b hb
    · rw [List.getElem?_append_right hi] at hb
      have : i - xs.length = 0 := by have := (List.getElem?_eq_some_iff.1 hb).1; simp at this; omega
      rw [this] at hb
      simp at hb
      subst hb
      rw [show i = n by omega]; exact ha
theorem list4 {α : Type} {l : List α} (h : l.length = 4) : ∃ a b c d, l = [a, b, c, d] := by
  match l, h with
  | [a, b, c, d], _ => exact ⟨a, b, c, d, rfl⟩
theorem rr_of {H : Type} {enc : TypeId × Value → H} {w : World} {spare : Nat → Bool} {held : Bool} {t e : TypeId} {f0 f1 f2 f3 : Field} {fuel : Nat} {A : Option Addr} {len cap : Nat} {x : DataW H × List MemPlace}
    (ht : Try.prog.underlying t = some (.slice e)) (he : Try.prog.underlying e = some (.struct #[f0, f1, f2, f3])) (hC : Try.prog.cellsOf e = 4) (hone : Go.Deep.oneCellFields Try.prog #[f0, f1, f2, f3] = true)
    (h0 : Try.prog.underlying f0.type = some .string) (h1 : Try.prog.underlying f1.type = some (.int .i64)) (h2 : Try.prog.underlying f2.type = some (.int .i64)) (h3 : Try.prog.underlying f3.type = some (.int .i64))
    (h : DataW.trod enc Try.prog w 0 spare held fuel t [.slice A len cap] = some x) :
    ∃ rs : List Rt, rs.length = len ∧ Rr w A rs ∧ rs.length ≤ maxLen ∧ ∀ r ∈ rs, r.wf := by
  rcases Go.Deep.open_slice ht h with ⟨hcs, _⟩ | ⟨a, l, c, m, n, D, Pl, hcs, _, hlc, hcm, hmm, _, hel⟩
  · simp only [List.cons.injEq, Value.slice.injEq, and_true] at hcs
    obtain ⟨rfl, rfl, rfl⟩ := hcs
    exact ⟨[], rfl, fun hp => by simp at hp, by simp, fun r hr => by cases hr⟩
  · simp only [List.cons.injEq, Value.slice.injEq, and_true] at hcs
    obtain ⟨rfl, rfl, rfl⟩ := hcs
    have hlm : len ≤ m := by rw [hmm]; split <;> omega
    have key : ∀ i, i < len → ∃ r : Rt, r.wf ∧ ∀ j v, r.cells[j]? = some v → w.cell? (a.add (i * 4 + j)) = some v := by
      intro i hi
      obtain ⟨cs', hc, ht'⟩ := hel i (by omega)
      rw [hC] at hc
      obtain ⟨_, hcl, hat⟩ := World.cells?_some hc
      obtain ⟨ys, n', _, _, _, hyl, hf⟩ := DataW.trod_struct he ht'
      obtain ⟨o0, k0⟩ := Go.Deep.hone_of hone 0 f0 rfl
      obtain ⟨o1, k1⟩ := Go.Deep.hone_of hone 1 f1 rfl
      obtain ⟨o2, k2⟩ := Go.Deep.hone_of hone 2 f2 rfl
      obtain ⟨o3, k3⟩ := Go.Deep.hone_of hone 3 f3 rfl
      obtain ⟨c0, c1, c2, c3, rfl⟩ := list4 hcl
      · skip
        have g0 := hf 0 f0 rfl
        have g1 := hf 1 f1 rfl
        have g2 := hf 2 f2 rfl
        have g3 := hf 3 f3 rfl
        rw [o0, k0] at g0; rw [o1, k1] at g1; rw [o2, k2] at g2; rw [o3, k3] at g3
        have hys : ∀ j, j < 4 → ∃ y, ys[j]? = some y := fun j hj => by
          have : ys.length = 4 := hyl.trans rfl
          exact ⟨_, List.getElem?_eq_getElem (by omega)⟩
        obtain ⟨y0, e0⟩ := hys 0 (by omega); rw [e0] at g0
        obtain ⟨y1, e1⟩ := hys 1 (by omega); rw [e1] at g1
        obtain ⟨y2, e2⟩ := hys 2 (by omega); rw [e2] at g2
        obtain ⟨y3, e3⟩ := hys 3 (by omega); rw [e3] at g3
        obtain ⟨s, q0, _, w0⟩ := DataW.trod_string h0 g0
        obtain ⟨d, q1, _, w1⟩ := DataW.trod_int h1 g1
        obtain ⟨nu, q2, _, w2⟩ := DataW.trod_int h2 g2
        obtain ⟨de, q3, _, w3⟩ := DataW.trod_int h3 g3
        simp at q0 q1 q2 q3
        subst q0 q1 q2 q3
        refine ⟨⟨s.data.toList, d, nu, de⟩, ⟨by simpa using w0, w1, w2, w3⟩, fun j v hj => ?_⟩
        have hj4 : j < 4 := (List.getElem?_eq_some_iff.1 hj).1
        rw [← Go.Deep.add_add]
        have := hat j hj4
        rw [this, ← hj]
        rfl
    obtain ⟨rs, hl, hr⟩ := pick_all key
    refine ⟨rs, hl, fun hp => ?_, by omega, fun r hr' => ?_⟩
    · rw [flat_len Rt.cells 4 (fun _ => rfl)] at hp
      have h00 := (hr 0 rs[0] (List.getElem?_eq_getElem (by omega))).2 0 _ rfl
      obtain ⟨b, off, spot⟩ := a
      have hspot : spot = none := by simpa [Addr.add] using World.cell?_spot h00
      subst hspot
      refine ⟨b, off, rfl, World.block_lt_of_cell? w _ h00, fun j v hj => ?_⟩
      obtain ⟨r, h5, h6⟩ := flat_some Rt.cells 4 (by decide) (fun _ => rfl) rs j v hj
      have := (hr _ r h5).2 _ v h6
      rw [Go.WideShapes.add_plain, Nat.mul_comm, Nat.div_add_mod] at this
      exact this
    · obtain ⟨i, hi⟩ := List.getElem?_of_mem hr'
      exact (hr i r hi).1
end Go.Proofs.Ytpdkgjmppknbpaa
