/- Party: rows of structs (by gen_struct.py). -/
import Derived.Test.YtjgagiigpijaiaaDoorStrs
import Derived.ProofKit
import Derived.Deep.Slices
import Derived.Deep.Fields
namespace Go.Proofs.YtjgagiigpijaiaaDoor
open Go.ChangeShapes Go.WideShapes Go.ChangeAt Go.RowKit
set_option linter.unusedVariables false

structure Pty where
  c : List UInt8
  k : Int
  a : List UInt8
  deriving DecidableEq
def Pty.cells (r : Pty) : List Value := [.string ⟨r.c.toArray⟩, .int .i64 r.k, .string ⟨r.a.toArray⟩]
def Pty.wf (r : Pty) : Prop := r.c.length ≤ maxLen ∧ (Lit.int .i64 r.k).wf = true ∧ r.a.length ≤ maxLen
/-- How many letters. -/
def Pty.sz (r : Pty) : Nat := r.c.length + r.a.length
def PtyR (w : World) (A : Option Addr) (rs : List Pty) : Prop := Rw w A (rs.flatMap Pty.cells)
/-- The cells of one. -/
structure PtyC (W : World) (b o : Nat) (r : Pty) : Prop where
  c0 : W.cell? ⟨b, o, none⟩ = some (.string ⟨r.c.toArray⟩)
  c1 : W.cell? ⟨b, o + 1, none⟩ = some (.int .i64 r.k)
  c2 : W.cell? ⟨b, o + 2, none⟩ = some (.string ⟨r.a.toArray⟩)
theorem PtyC.below {w W : World} {b o : Nat} {r : Pty} (h : PtyC w b o r) (hl : b < w.heap.size) (hb : Below w.heap.size w W) : PtyC W b o r :=
  ⟨(hb.cell (p := ⟨b, o, none⟩) hl).trans h.c0, (hb.cell (p := ⟨b, o + 1, none⟩) hl).trans h.c1, (hb.cell (p := ⟨b, o + 2, none⟩) hl).trans h.c2⟩
theorem PtyC.belowB {w W : World} {B b o : Nat} {r : Pty} (h : PtyC w b o r) (hl : b < B) (hb : Below B w W) : PtyC W b o r :=
  ⟨(hb.cell (p := ⟨b, o, none⟩) hl).trans h.c0, (hb.cell (p := ⟨b, o + 1, none⟩) hl).trans h.c1, (hb.cell (p := ⟨b, o + 2, none⟩) hl).trans h.c2⟩
theorem PtyR.at {w : World} {A : Option Addr} {rs : List Pty} (h : PtyR w A rs) {k : Nat} (hk : k < rs.length) :
    ∃ b off r, A = some ⟨b, off, none⟩ ∧ b < w.heap.size ∧ Hid (rs[k]? = some r) ∧ PtyC w b (off + k * 3) r := by
  have hl := flat_len Pty.cells 3 (fun _ => rfl) rs
  obtain ⟨b, off, e, hb, hc⟩ := h (by rw [hl]; omega)
  have hr : rs[k]? = some rs[k] := List.getElem?_eq_getElem hk
  have g := fun j hj => hc (k * 3 + j) _ ((flat_at Pty.cells 3 (fun _ => rfl) rs k j _ hr hj).trans (List.getElem?_eq_getElem (by exact hj)))
  refine ⟨b, off, rs[k], e, hb, Lib.hid hr, ?_, ?_, ?_⟩
  · simpa [Pty.cells] using g 0 (by omega)
  · simpa [Pty.cells, Nat.add_assoc] using g 1 (by omega)
  · simpa [Pty.cells, Nat.add_assoc] using g 2 (by omega)
theorem PtyR.below {w w' : World} {A : Option Addr} {rs : List Pty} (h : PtyR w A rs) (hb : Below w.heap.size w w') : PtyR w' A rs := Rw.below h hb
theorem PtyR.keepB {w w' : World} {A : Option Addr} {rs : List Pty} {B : Nat} (h : PtyR w A rs) (hA : Bd A B) (hb : Below B w w') : PtyR w' A rs := Rw.keepB h hA hb
/-! ### a slice that came in -/
theorem list_pty {α : Type} {l : List α} (h : l.length = 3) : ∃ x0 x1 x2, l = [x0, x1, x2] := by
  match l, h with
  | [x0, x1, x2], _ => exact ⟨x0, x1, x2, rfl⟩
theorem ptyR_of {H : Type} {enc : TypeId × Value → H} {w : World} {spare : Nat → Bool} {held : Bool} {t e : TypeId} {f0 f1 f2 : Field} {fuel : Nat} {A : Option Addr} {len cap : Nat} {x : DataW H × List MemPlace}
    (ht : Tryd.prog.underlying t = some (.slice e)) (he : Tryd.prog.underlying e = some (.struct #[f0, f1, f2])) (hC : Tryd.prog.cellsOf e = 3) (hone : Go.Deep.oneCellFields Tryd.prog #[f0, f1, f2] = true)
    (h0 : Tryd.prog.underlying f0.type = some (.string)) (h1 : Tryd.prog.underlying f1.type = some (.int .i64)) (h2 : Tryd.prog.underlying f2.type = some (.string))
    (h : DataW.trod enc Tryd.prog w 0 spare held fuel t [.slice A len cap] = some x) :
    ∃ rs : List Pty, rs.length = len ∧ PtyR w A rs ∧ rs.length ≤ maxLen ∧ ∀ r ∈ rs, r.wf := by
  rcases Go.Deep.open_slice ht h with ⟨hcs, _⟩ | ⟨a, l, c, m, n, D, Pl, hcs, _, hlc, hcm, hmm, _, hel⟩
  · simp only [List.cons.injEq, Value.slice.injEq, and_true] at hcs
    obtain ⟨rfl, rfl, rfl⟩ := hcs
    exact ⟨[], rfl, fun hp => by simp at hp, by simp, fun r hr => by cases hr⟩
  · simp only [List.cons.injEq, Value.slice.injEq, and_true] at hcs
    obtain ⟨rfl, rfl, rfl⟩ := hcs
    have hlm : len ≤ m := by rw [hmm]; split <;> omega
    have key : ∀ i, i < len → ∃ r : Pty, r.wf ∧ ∀ j v, r.cells[j]? = some v → w.cell? (a.add (i * 3 + j)) = some v := by
      intro i hi
      obtain ⟨cs', hc, ht'⟩ := hel i (by omega)
      rw [hC] at hc
      obtain ⟨_, hcl, hat⟩ := World.cells?_some hc
      obtain ⟨ys, n', _, _, _, hyl, hf⟩ := DataW.trod_struct he ht'
      obtain ⟨o0, k0⟩ := Go.Deep.hone_of hone 0 f0 rfl
      obtain ⟨o1, k1⟩ := Go.Deep.hone_of hone 1 f1 rfl
      obtain ⟨o2, k2⟩ := Go.Deep.hone_of hone 2 f2 rfl
      obtain ⟨c0, c1, c2, rfl⟩ := list_pty hcl
      have g0 := hf 0 f0 rfl
      rw [o0, k0] at g0
      have g1 := hf 1 f1 rfl
      rw [o1, k1] at g1
      have g2 := hf 2 f2 rfl
      rw [o2, k2] at g2
      have hys : ∀ j, j < 3 → ∃ y, ys[j]? = some y := fun j hj => by
        have : ys.length = 3 := hyl.trans rfl
        exact ⟨_, List.getElem?_eq_getElem (by omega)⟩
      obtain ⟨y0, e0⟩ := hys 0 (by omega); rw [e0] at g0
      obtain ⟨y1, e1⟩ := hys 1 (by omega); rw [e1] at g1
      obtain ⟨y2, e2⟩ := hys 2 (by omega); rw [e2] at g2
      obtain ⟨z0, q0, _, w0⟩ := DataW.trod_string h0 g0
      obtain ⟨z1, q1, _, w1⟩ := DataW.trod_int h1 g1
      obtain ⟨z2, q2, _, w2⟩ := DataW.trod_string h2 g2
      simp at q0 q1 q2
      subst q0 q1 q2
      refine ⟨⟨z0.data.toList, z1, z2.data.toList⟩, ⟨by simpa using w0, w1, by simpa using w2⟩, fun j v hj => ?_⟩
      have hj4 : j < 3 := (List.getElem?_eq_some_iff.1 hj).1
      rw [← Go.Deep.add_add]
      have := hat j hj4
      rw [this, ← hj]
      rfl
    obtain ⟨rs, hl, hr⟩ := pick_all key
    refine ⟨rs, hl, fun hp => ?_, by omega, fun r hr' => ?_⟩
    · rw [flat_len Pty.cells 3 (fun _ => rfl)] at hp
      have h00 := (hr 0 rs[0] (List.getElem?_eq_getElem (by omega))).2 0 _ rfl
      obtain ⟨b, off, spot⟩ := a
      have hspot : spot = none := by simpa [Addr.add] using World.cell?_spot h00
      subst hspot
      refine ⟨b, off, rfl, World.block_lt_of_cell? w _ h00, fun j v hj => ?_⟩
      obtain ⟨r, h5, h6⟩ := flat_some Pty.cells 3 (by decide) (fun _ => rfl) rs j v hj
      have := (hr _ r h5).2 _ v h6
      rw [Go.WideShapes.add_plain, Nat.mul_comm, Nat.div_add_mod] at this
      exact this
    · obtain ⟨i, hi⟩ := List.getElem?_of_mem hr'
      exact (hr i r hi).1
end Go.Proofs.YtjgagiigpijaiaaDoor
