/- Interest: rows of structs (by gen_struct.py). -/
import Derived.Test.YtjcklmhgjdmjoaaMHeld
import Derived.ProofKit
import Derived.Deep.Slices
import Derived.Deep.Fields
namespace Go.Proofs.Ytjcklmhgjdmjoaa
open Go.ChangeShapes Go.WideShapes Go.ChangeAt Go.RowKit
set_option linter.unusedVariables false

structure Ist where
  c : List UInt8
  k : Int
  o : List UInt8
  v : Int
  a : Int
  deriving DecidableEq
def Ist.cells (r : Ist) : List Value := [.string ⟨r.c.toArray⟩, .int .i64 r.k, .string ⟨r.o.toArray⟩, .int .i64 r.v, .int .i64 r.a]
def Ist.wf (r : Ist) : Prop := r.c.length ≤ maxLen ∧ (Lit.int .i64 r.k).wf = true ∧ r.o.length ≤ maxLen ∧ (Lit.int .i64 r.v).wf = true ∧ (Lit.int .i64 r.a).wf = true
/-- How many letters. -/
def Ist.sz (r : Ist) : Nat := r.c.length + r.o.length
def IstR (w : World) (A : Option Addr) (rs : List Ist) : Prop := Rw w A (rs.flatMap Ist.cells)
/-- The cells of one. -/
structure IstC (W : World) (b o : Nat) (r : Ist) : Prop where
  c0 : W.cell? ⟨b, o, none⟩ = some (.string ⟨r.c.toArray⟩)
  c1 : W.cell? ⟨b, o + 1, none⟩ = some (.int .i64 r.k)
  c2 : W.cell? ⟨b, o + 2, none⟩ = some (.string ⟨r.o.toArray⟩)
  c3 : W.cell? ⟨b, o + 3, none⟩ = some (.int .i64 r.v)
  c4 : W.cell? ⟨b, o + 4, none⟩ = some (.int .i64 r.a)
theorem IstC.below {w W : World} {b o : Nat} {r : Ist} (h : IstC w b o r) (hl : b < w.heap.size) (hb : Below w.heap.size w W) : IstC W b o r :=
  ⟨(hb.cell (p := ⟨b, o, none⟩) hl).trans h.c0, (hb.cell (p := ⟨b, o + 1, none⟩) hl).trans h.c1, (hb.cell (p := ⟨b, o + 2, none⟩) hl).trans h.c2, (hb.cell (p := ⟨b, o + 3, none⟩) hl).trans h.c3, (hb.cell (p := ⟨b, o + 4, none⟩) hl).trans h.c4⟩
theorem IstC.belowB {w W : World} {B b o : Nat} {r : Ist} (h : IstC w b o r) (hl : b < B) (hb : Below B w W) : IstC W b o r :=
  ⟨(hb.cell (p := ⟨b, o, none⟩) hl).trans h.c0, (hb.cell (p := ⟨b, o + 1, none⟩) hl).trans h.c1, (hb.cell (p := ⟨b, o + 2, none⟩) hl).trans h.c2, (hb.cell (p := ⟨b, o + 3, none⟩) hl).trans h.c3, (hb.cell (p := ⟨b, o + 4, none⟩) hl).trans h.c4⟩
theorem IstR.at {w : World} {A : Option Addr} {rs : List Ist} (h : IstR w A rs) {k : Nat} (hk : k < rs.length) :
    ∃ b off r, A = some ⟨b, off, none⟩ ∧ b < w.heap.size ∧ Hid (rs[k]? = some r) ∧ IstC w b (off + k * 5) r := by
  have hl := flat_len Ist.cells 5 (fun _ => rfl) rs
  obtain ⟨b, off, e, hb, hc⟩ := h (by rw [hl]; omega)
  have hr : rs[k]? = some rs[k] := List.getElem?_eq_getElem hk
  have g := fun j hj => hc (k * 5 + j) _ ((flat_at Ist.cells 5 (fun _ => rfl) rs k j _ hr hj).trans (List.getElem?_eq_getElem (by exact hj)))
  refine ⟨b, off, rs[k], e, hb, Lib.hid hr, ?_, ?_, ?_, ?_, ?_⟩
  · simpa [Ist.cells] using g 0 (by omega)
  · simpa [Ist.cells, Nat.add_assoc] using g 1 (by omega)
  · simpa [Ist.cells, Nat.add_assoc] using g 2 (by omega)
  · simpa [Ist.cells, Nat.add_assoc] using g 3 (by omega)
  · simpa [Ist.cells, Nat.add_assoc] using g 4 (by omega)
theorem IstR.below {w w' : World} {A : Option Addr} {rs : List Ist} (h : IstR w A rs) (hb : Below w.heap.size w w') : IstR w' A rs := Rw.below h hb
theorem IstR.keepB {w w' : World} {A : Option Addr} {rs : List Ist} {B : Nat} (h : IstR w A rs) (hA : Bd A B) (hb : Below B w w') : IstR w' A rs := Rw.keepB h hA hb
/-! ### a slice that came in -/
theorem list_ist {α : Type} {l : List α} (h : l.length = 5) : ∃ x0 x1 x2 x3 x4, l = [x0, x1, x2, x3, x4] := by
  match l, h with
  | [x0, x1, x2, x3, x4], _ => exact ⟨x0, x1, x2, x3, x4, rfl⟩
theorem istR_of {H : Type} {enc : TypeId × Value → H} {w : World} {spare : Nat → Bool} {held : Bool} {t e : TypeId} {f0 f1 f2 f3 f4 : Field} {fuel : Nat} {A : Option Addr} {len cap : Nat} {x : DataW H × List MemPlace}
    (ht : Try.prog.underlying t = some (.slice e)) (he : Try.prog.underlying e = some (.struct #[f0, f1, f2, f3, f4])) (hC : Try.prog.cellsOf e = 5) (hone : Go.Deep.oneCellFields Try.prog #[f0, f1, f2, f3, f4] = true)
    (h0 : Try.prog.underlying f0.type = some (.string)) (h1 : Try.prog.underlying f1.type = some (.int .i64)) (h2 : Try.prog.underlying f2.type = some (.string)) (h3 : Try.prog.underlying f3.type = some (.int .i64)) (h4 : Try.prog.underlying f4.type = some (.int .i64))
    (h : DataW.trod enc Try.prog w 0 spare held fuel t [.slice A len cap] = some x) :
    ∃ rs : List Ist, rs.length = len ∧ IstR w A rs ∧ rs.length ≤ maxLen ∧ ∀ r ∈ rs, r.wf := by
  rcases Go.Deep.open_slice ht h with ⟨hcs, _⟩ | ⟨a, l, c, m, n, D, Pl, hcs, _, hlc, hcm, hmm, _, hel⟩
  · simp only [List.cons.injEq, Value.slice.injEq, and_true] at hcs
    obtain ⟨rfl, rfl, rfl⟩ := hcs
    exact ⟨[], rfl, fun hp => by simp at hp, by simp, fun r hr => by cases hr⟩
  · simp only [List.cons.injEq, Value.slice.injEq, and_true] at hcs
    obtain ⟨rfl, rfl, rfl⟩ := hcs
    have hlm : len ≤ m := by rw [hmm]; split <;> omega
    have key : ∀ i, i < len → ∃ r : Ist, r.wf ∧ ∀ j v, r.cells[j]? = some v → w.cell? (a.add (i * 5 + j)) = some v := by
      intro i hi
      obtain ⟨cs', hc, ht'⟩ := hel i (by omega)
      rw [hC] at hc
      obtain ⟨_, hcl, hat⟩ := World.cells?_some hc
      obtain ⟨ys, n', _, _, _, hyl, hf⟩ := DataW.trod_struct he ht'
      obtain ⟨o0, k0⟩ := Go.Deep.hone_of hone 0 f0 rfl
      obtain ⟨o1, k1⟩ := Go.Deep.hone_of hone 1 f1 rfl
      obtain ⟨o2, k2⟩ := Go.Deep.hone_of hone 2 f2 rfl
      obtain ⟨o3, k3⟩ := Go.Deep.hone_of hone 3 f3 rfl
      obtain ⟨o4, k4⟩ := Go.Deep.hone_of hone 4 f4 rfl
      obtain ⟨c0, c1, c2, c3, c4, rfl⟩ := list_ist hcl
      have g0 := hf 0 f0 rfl
      rw [o0, k0] at g0
      have g1 := hf 1 f1 rfl
      rw [o1, k1] at g1
      have g2 := hf 2 f2 rfl
      rw [o2, k2] at g2
      have g3 := hf 3 f3 rfl
      rw [o3, k3] at g3
      have g4 := hf 4 f4 rfl
      rw [o4, k4] at g4
      have hys : ∀ j, j < 5 → ∃ y, ys[j]? = some y := fun j hj => by
        have : ys.length = 5 := hyl.trans rfl
        exact ⟨_, List.getElem?_eq_getElem (by omega)⟩
      obtain ⟨y0, e0⟩ := hys 0 (by omega); rw [e0] at g0
      obtain ⟨y1, e1⟩ := hys 1 (by omega); rw [e1] at g1
      obtain ⟨y2, e2⟩ := hys 2 (by omega); rw [e2] at g2
      obtain ⟨y3, e3⟩ := hys 3 (by omega); rw [e3] at g3
      obtain ⟨y4, e4⟩ := hys 4 (by omega); rw [e4] at g4
      obtain ⟨z0, q0, _, w0⟩ := DataW.trod_string h0 g0
      obtain ⟨z1, q1, _, w1⟩ := DataW.trod_int h1 g1
      obtain ⟨z2, q2, _, w2⟩ := DataW.trod_string h2 g2
      obtain ⟨z3, q3, _, w3⟩ := DataW.trod_int h3 g3
      obtain ⟨z4, q4, _, w4⟩ := DataW.trod_int h4 g4
      simp at q0 q1 q2 q3 q4
      subst q0 q1 q2 q3 q4
      refine ⟨⟨z0.data.toList, z1, z2.data.toList, z3, z4⟩, ⟨by simpa using w0, w1, by simpa using w2, w3, w4⟩, fun j v hj => ?_⟩
      have hj4 : j < 5 := (List.getElem?_eq_some_iff.1 hj).1
      rw [← Go.Deep.add_add]
      have := hat j hj4
      rw [this, ← hj]
      rfl
    obtain ⟨rs, hl, hr⟩ := pick_all key
    refine ⟨rs, hl, fun hp => ?_, by omega, fun r hr' => ?_⟩
    · rw [flat_len Ist.cells 5 (fun _ => rfl)] at hp
      have h00 := (hr 0 rs[0] (List.getElem?_eq_getElem (by omega))).2 0 _ rfl
      obtain ⟨b, off, spot⟩ := a
      have hspot : spot = none := by simpa [Addr.add] using World.cell?_spot h00
      subst hspot
      refine ⟨b, off, rfl, World.block_lt_of_cell? w _ h00, fun j v hj => ?_⟩
      obtain ⟨r, h5, h6⟩ := flat_some Ist.cells 5 (by decide) (fun _ => rfl) rs j v hj
      have := (hr _ r h5).2 _ v h6
      rw [Go.WideShapes.add_plain, Nat.mul_comm, Nat.div_add_mod] at this
      exact this
    · obtain ⟨i, hi⟩ := List.getElem?_of_mem hr'
      exact (hr i r hi).1
end Go.Proofs.Ytjcklmhgjdmjoaa
