/- Clause: rows of structs (by gen_struct.py). -/
import Derived.Test.YtjcklmhgjdmjoabMHeld
import Derived.ProofKit
import Derived.Deep.Slices
import Derived.Deep.Fields
namespace Go.Proofs.Ytjcklmhgjdmjoab
open Go.ChangeShapes Go.WideShapes Go.ChangeAt Go.RowKit
set_option linter.unusedVariables false

structure Cls where
  c : List UInt8
  k : Int
  p : Int
  v : Int
  r : Int
  e : Int
  t : List UInt8
  deriving DecidableEq
def Cls.cells (r : Cls) : List Value := [.string ⟨r.c.toArray⟩, .int .i64 r.k, .int .i64 r.p, .int .i64 r.v, .int .i64 r.r, .int .i64 r.e, .string ⟨r.t.toArray⟩]
def Cls.wf (r : Cls) : Prop := r.c.length ≤ maxLen ∧ (Lit.int .i64 r.k).wf = true ∧ (Lit.int .i64 r.p).wf = true ∧ (Lit.int .i64 r.v).wf = true ∧ (Lit.int .i64 r.r).wf = true ∧ (Lit.int .i64 r.e).wf = true ∧ r.t.length ≤ maxLen
/-- How many letters. -/
def Cls.sz (r : Cls) : Nat := r.c.length + r.t.length
def ClsR (w : World) (A : Option Addr) (rs : List Cls) : Prop := Rw w A (rs.flatMap Cls.cells)
/-- The cells of one. -/
structure ClsC (W : World) (b o : Nat) (r : Cls) : Prop where
  c0 : W.cell? ⟨b, o, none⟩ = some (.string ⟨r.c.toArray⟩)
  c1 : W.cell? ⟨b, o + 1, none⟩ = some (.int .i64 r.k)
  c2 : W.cell? ⟨b, o + 2, none⟩ = some (.int .i64 r.p)
  c3 : W.cell? ⟨b, o + 3, none⟩ = some (.int .i64 r.v)
  c4 : W.cell? ⟨b, o + 4, none⟩ = some (.int .i64 r.r)
  c5 : W.cell? ⟨b, o + 5, none⟩ = some (.int .i64 r.e)
  c6 : W.cell? ⟨b, o + 6, none⟩ = some (.string ⟨r.t.toArray⟩)
theorem ClsC.below {w W : World} {b o : Nat} {r : Cls} (h : ClsC w b o r) (hl : b < w.heap.size) (hb : Below w.heap.size w W) : ClsC W b o r :=
  ⟨(hb.cell (p := ⟨b, o, none⟩) hl).trans h.c0, (hb.cell (p := ⟨b, o + 1, none⟩) hl).trans h.c1, (hb.cell (p := ⟨b, o + 2, none⟩) hl).trans h.c2, (hb.cell (p := ⟨b, o + 3, none⟩) hl).trans h.c3, (hb.cell (p := ⟨b, o + 4, none⟩) hl).trans h.c4, (hb.cell (p := ⟨b, o + 5, none⟩) hl).trans h.c5, (hb.cell (p := ⟨b, o + 6, none⟩) hl).trans h.c6⟩
theorem ClsC.belowB {w W : World} {B b o : Nat} {r : Cls} (h : ClsC w b o r) (hl : b < B) (hb : Below B w W) : ClsC W b o r :=
  ⟨(hb.cell (p := ⟨b, o, none⟩) hl).trans h.c0, (hb.cell (p := ⟨b, o + 1, none⟩) hl).trans h.c1, (hb.cell (p := ⟨b, o + 2, none⟩) hl).trans h.c2, (hb.cell (p := ⟨b, o + 3, none⟩) hl).trans h.c3, (hb.cell (p := ⟨b, o + 4, none⟩) hl).trans h.c4, (hb.cell (p := ⟨b, o + 5, none⟩) hl).trans h.c5, (hb.cell (p := ⟨b, o + 6, none⟩) hl).trans h.c6⟩
theorem ClsR.at {w : World} {A : Option Addr} {rs : List Cls} (h : ClsR w A rs) {k : Nat} (hk : k < rs.length) :
    ∃ b off r, A = some ⟨b, off, none⟩ ∧ b < w.heap.size ∧ Hid (rs[k]? = some r) ∧ ClsC w b (off + k * 7) r := by
  have hl := flat_len Cls.cells 7 (fun _ => rfl) rs
  obtain ⟨b, off, e, hb, hc⟩ := h (by rw [hl]; omega)
  have hr : rs[k]? = some rs[k] := List.getElem?_eq_getElem hk
  have g := fun j hj => hc (k * 7 + j) _ ((flat_at Cls.cells 7 (fun _ => rfl) rs k j _ hr hj).trans (List.getElem?_eq_getElem (by exact hj)))
  refine ⟨b, off, rs[k], e, hb, Lib.hid hr, ?_, ?_, ?_, ?_, ?_, ?_, ?_⟩
  · simpa [Cls.cells] using g 0 (by omega)
  · simpa [Cls.cells, Nat.add_assoc] using g 1 (by omega)
  · simpa [Cls.cells, Nat.add_assoc] using g 2 (by omega)
  · simpa [Cls.cells, Nat.add_assoc] using g 3 (by omega)
  · simpa [Cls.cells, Nat.add_assoc] using g 4 (by omega)
  · simpa [Cls.cells, Nat.add_assoc] using g 5 (by omega)
  · simpa [Cls.cells, Nat.add_assoc] using g 6 (by omega)
theorem ClsR.below {w w' : World} {A : Option Addr} {rs : List Cls} (h : ClsR w A rs) (hb : Below w.heap.size w w') : ClsR w' A rs := Rw.below h hb
theorem ClsR.keepB {w w' : World} {A : Option Addr} {rs : List Cls} {B : Nat} (h : ClsR w A rs) (hA : Bd A B) (hb : Below B w w') : ClsR w' A rs := Rw.keepB h hA hb
/-! ### a slice that came in -/
theorem list_cls {α : Type} {l : List α} (h : l.length = 7) : ∃ x0 x1 x2 x3 x4 x5 x6, l = [x0, x1, x2, x3, x4, x5, x6] := by
  match l, h with
  | [x0, x1, x2, x3, x4, x5, x6], _ => exact ⟨x0, x1, x2, x3, x4, x5, x6, rfl⟩
theorem clsR_of {H : Type} {enc : TypeId × Value → H} {w : World} {spare : Nat → Bool} {held : Bool} {t e : TypeId} {f0 f1 f2 f3 f4 f5 f6 : Field} {fuel : Nat} {A : Option Addr} {len cap : Nat} {x : DataW H × List MemPlace}
    (ht : Try.prog.underlying t = some (.slice e)) (he : Try.prog.underlying e = some (.struct #[f0, f1, f2, f3, f4, f5, f6])) (hC : Try.prog.cellsOf e = 7) (hone : Go.Deep.oneCellFields Try.prog #[f0, f1, f2, f3, f4, f5, f6] = true)
    (h0 : Try.prog.underlying f0.type = some (.string)) (h1 : Try.prog.underlying f1.type = some (.int .i64)) (h2 : Try.prog.underlying f2.type = some (.int .i64)) (h3 : Try.prog.underlying f3.type = some (.int .i64)) (h4 : Try.prog.underlying f4.type = some (.int .i64)) (h5 : Try.prog.underlying f5.type = some (.int .i64)) (h6 : Try.prog.underlying f6.type = some (.string))
    (h : DataW.trod enc Try.prog w 0 spare held fuel t [.slice A len cap] = some x) :
    ∃ rs : List Cls, rs.length = len ∧ ClsR w A rs ∧ rs.length ≤ maxLen ∧ ∀ r ∈ rs, r.wf := by
  rcases Go.Deep.open_slice ht h with ⟨hcs, _⟩ | ⟨a, l, c, m, n, D, Pl, hcs, _, hlc, hcm, hmm, _, hel⟩
  · simp only [List.cons.injEq, Value.slice.injEq, and_true] at hcs
    obtain ⟨rfl, rfl, rfl⟩ := hcs
    exact ⟨[], rfl, fun hp => by simp at hp, by simp, fun r hr => by cases hr⟩
  · simp only [List.cons.injEq, Value.slice.injEq, and_true] at hcs
    obtain ⟨rfl, rfl, rfl⟩ := hcs
    have hlm : len ≤ m := by rw [hmm]; split <;> omega
    have key : ∀ i, i < len → ∃ r : Cls, r.wf ∧ ∀ j v, r.cells[j]? = some v → w.cell? (a.add (i * 7 + j)) = some v := by
      intro i hi
      obtain ⟨cs', hc, ht'⟩ := hel i (by omega)
      rw [hC] at hc
      obtain ⟨_, hcl, hat⟩ := World.cells?_some hc
      obtain ⟨ys, n', _, _, _, hyl, hf⟩ := DataW.trod_struct he ht'
      obtain ⟨o0, k0⟩ := Go.Deep.hone_of hone 0 f0 rfl
      obtain ⟨o1, k1⟩ := Go.Deep.hone_of hone 1 f1 rfl
      obtain ⟨o2, k2⟩ := Go.Deep.hone_of hone 2 f2 rfl
      obtain ⟨o3, k3⟩ := Go.Deep.hone_of hone 3 f3 rfl
      obtain ⟨o4, k4⟩ := Go.Deep.hone_of hone 4 f4 rfl
      obtain ⟨o5, k5⟩ := Go.Deep.hone_of hone 5 f5 rfl
      obtain ⟨o6, k6⟩ := Go.Deep.hone_of hone 6 f6 rfl
      obtain ⟨c0, c1, c2, c3, c4, c5, c6, rfl⟩ := list_cls hcl
      have g0 := hf 0 f0 rfl
      rw [o0, k0] at g0
      have g1 := hf 1 f1 rfl
      rw [o1, k1] at g1
      have g2 := hf 2 f2 rfl
      rw [o2, k2] at g2
      have g3 := hf 3 f3 rfl
      rw [o3, k3] at g3
      have g4 := hf 4 f4 rfl
      rw [o4, k4] at g4
      have g5 := hf 5 f5 rfl
      rw [o5, k5] at g5
      have g6 := hf 6 f6 rfl
      rw [o6, k6] at g6
      have hys : ∀ j, j < 7 → ∃ y, ys[j]? = some y := fun j hj => by
        have : ys.length = 7 := hyl.trans rfl
        exact ⟨_, List.getElem?_eq_getElem (by omega)⟩
      obtain ⟨y0, e0⟩ := hys 0 (by omega); rw [e0] at g0
      obtain ⟨y1, e1⟩ := hys 1 (by omega); rw [e1] at g1
      obtain ⟨y2, e2⟩ := hys 2 (by omega); rw [e2] at g2
      obtain ⟨y3, e3⟩ := hys 3 (by omega); rw [e3] at g3
      obtain ⟨y4, e4⟩ := hys 4 (by omega); rw [e4] at g4
      obtain ⟨y5, e5⟩ := hys 5 (by omega); rw [e5] at g5
      obtain ⟨y6, e6⟩ := hys 6 (by omega); rw [e6] at g6
      obtain ⟨z0, q0, _, w0⟩ := DataW.trod_string h0 g0
      obtain ⟨z1, q1, _, w1⟩ := DataW.trod_int h1 g1
      obtain ⟨z2, q2, _, w2⟩ := DataW.trod_int h2 g2
      obtain ⟨z3, q3, _, w3⟩ := DataW.trod_int h3 g3
      obtain ⟨z4, q4, _, w4⟩ := DataW.trod_int h4 g4
      obtain ⟨z5, q5, _, w5⟩ := DataW.trod_int h5 g5
      obtain ⟨z6, q6, _, w6⟩ := DataW.trod_string h6 g6
      simp at q0 q1 q2 q3 q4 q5 q6
      subst q0 q1 q2 q3 q4 q5 q6
      refine ⟨⟨z0.data.toList, z1, z2, z3, z4, z5, z6.data.toList⟩, ⟨by simpa using w0, w1, w2, w3, w4, w5, by simpa using w6⟩, fun j v hj => ?_⟩
      have hj4 : j < 7 := (List.getElem?_eq_some_iff.1 hj).1
      rw [← Go.Deep.add_add]
      have := hat j hj4
      rw [this, ← hj]
      rfl
    obtain ⟨rs, hl, hr⟩ := pick_all key
    refine ⟨rs, hl, fun hp => ?_, by omega, fun r hr' => ?_⟩
    · rw [flat_len Cls.cells 7 (fun _ => rfl)] at hp
      have h00 := (hr 0 rs[0] (List.getElem?_eq_getElem (by omega))).2 0 _ rfl
      obtain ⟨b, off, spot⟩ := a
      have hspot : spot = none := by simpa [Addr.add] using World.cell?_spot h00
      subst hspot
      refine ⟨b, off, rfl, World.block_lt_of_cell? w _ h00, fun j v hj => ?_⟩
      obtain ⟨r, h5, h6⟩ := flat_some Cls.cells 7 (by decide) (fun _ => rfl) rs j v hj
      have := (hr _ r h5).2 _ v h6
      rw [Go.WideShapes.add_plain, Nat.mul_comm, Nat.div_add_mod] at this
      exact this
    · obtain ⟨i, hi⟩ := List.getElem?_of_mem hr'
      exact (hr i r hi).1
end Go.Proofs.Ytjcklmhgjdmjoab
