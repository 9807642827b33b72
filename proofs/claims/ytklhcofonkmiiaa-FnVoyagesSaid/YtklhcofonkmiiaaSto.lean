/- Stop: rows of structs (by gen_struct.py). -/
import Derived.Test.YtklhcofonkmiiaaStrs
import Derived.ProofKit
import Derived.Deep.Slices
import Derived.Deep.Fields
namespace Go.Proofs.Ytklhcofonkmiiaa
open Go.ChangeShapes Go.WideShapes Go.ChangeAt Go.RowKit
set_option linter.unusedVariables false

structure Sto where
  p : List UInt8
  i : Int
  o : Int
  deriving DecidableEq
def Sto.cells (r : Sto) : List Value := [.string ⟨r.p.toArray⟩, .int .i64 r.i, .int .i64 r.o]
def Sto.wf (r : Sto) : Prop := r.p.length ≤ maxLen ∧ (Lit.int .i64 r.i).wf = true ∧ (Lit.int .i64 r.o).wf = true
/-- How many letters. -/
def Sto.sz (r : Sto) : Nat := r.p.length
def StoR (w : World) (A : Option Addr) (rs : List Sto) : Prop := Rw w A (rs.flatMap Sto.cells)
/-- The cells of one. -/
structure StoC (W : World) (b o : Nat) (r : Sto) : Prop where
  c0 : W.cell? ⟨b, o, none⟩ = some (.string ⟨r.p.toArray⟩)
  c1 : W.cell? ⟨b, o + 1, none⟩ = some (.int .i64 r.i)
  c2 : W.cell? ⟨b, o + 2, none⟩ = some (.int .i64 r.o)
theorem StoC.below {w W : World} {b o : Nat} {r : Sto} (h : StoC w b o r) (hl : b < w.heap.size) (hb : Below w.heap.size w W) : StoC W b o r :=
  ⟨(hb.cell (p := ⟨b, o, none⟩) hl).trans h.c0, (hb.cell (p := ⟨b, o + 1, none⟩) hl).trans h.c1, (hb.cell (p := ⟨b, o + 2, none⟩) hl).trans h.c2⟩
theorem StoC.belowB {w W : World} {B b o : Nat} {r : Sto} (h : StoC w b o r) (hl : b < B) (hb : Below B w W) : StoC W b o r :=
  ⟨(hb.cell (p := ⟨b, o, none⟩) hl).trans h.c0, (hb.cell (p := ⟨b, o + 1, none⟩) hl).trans h.c1, (hb.cell (p := ⟨b, o + 2, none⟩) hl).trans h.c2⟩
theorem StoR.at {w : World} {A : Option Addr} {rs : List Sto} (h : StoR w A rs) {k : Nat} (hk : k < rs.length) :
    ∃ b off r, A = some ⟨b, off, none⟩ ∧ b < w.heap.size ∧ Hid (rs[k]? = some r) ∧ StoC w b (off + k * 3) r := by
  have hl := flat_len Sto.cells 3 (fun _ => rfl) rs
  obtain ⟨b, off, e, hb, hc⟩ := h (by rw [hl]; omega)
  have hr : rs[k]? = some rs[k] := List.getElem?_eq_getElem hk
  have g := fun j hj => hc (k * 3 + j) _ ((flat_at Sto.cells 3 (fun _ => rfl) rs k j _ hr hj).trans (List.getElem?_eq_getElem (by exact hj)))
  refine ⟨b, off, rs[k], e, hb, Lib.hid hr, ?_, ?_, ?_⟩
  · simpa [Sto.cells] using g 0 (by omega)
  · simpa [Sto.cells, Nat.add_assoc] using g 1 (by omega)
  · simpa [Sto.cells, Nat.add_assoc] using g 2 (by omega)
theorem StoR.below {w w' : World} {A : Option Addr} {rs : List Sto} (h : StoR w A rs) (hb : Below w.heap.size w w') : StoR w' A rs := Rw.below h hb
theorem StoR.keepB {w w' : World} {A : Option Addr} {rs : List Sto} {B : Nat} (h : StoR w A rs) (hA : Bd A B) (hb : Below B w w') : StoR w' A rs := Rw.keepB h hA hb
/-! ### a slice that came in -/
theorem list_sto {α : Type} {l : List α} (h : l.length = 3) : ∃ x0 x1 x2, l = [x0, x1, x2] := by
  match l, h with
  | [x0, x1, x2], _ => exact ⟨x0, x1, x2, rfl⟩
theorem stoR_of {H : Type} {enc : TypeId × Value → H} {w : World} {spare : Nat → Bool} {held : Bool} {t e : TypeId} {f0 f1 f2 : Field} {fuel : Nat} {A : Option Addr} {len cap : Nat} {x : DataW H × List MemPlace}
    (ht : Try.prog.underlying t = some (.slice e)) (he : Try.prog.underlying e = some (.struct #[f0, f1, f2])) (hC : Try.prog.cellsOf e = 3) (hone : Go.Deep.oneCellFields Try.prog #[f0, f1, f2] = true)
    (h0 : Try.prog.underlying f0.type = some (.string)) (h1 : Try.prog.underlying f1.type = some (.int .i64)) (h2 : Try.prog.underlying f2.type = some (.int .i64))
    (h : DataW.trod enc Try.prog w 0 spare held fuel t [.slice A len cap] = some x) :
    ∃ rs : List Sto, rs.length = len ∧ StoR w A rs ∧ rs.length ≤ maxLen ∧ ∀ r ∈ rs, r.wf := by
  rcases Go.Deep.open_slice ht h with ⟨hcs, _⟩ | ⟨a, l, c, m, n, D, Pl, hcs, _, hlc, hcm, hmm, _, hel⟩
  · simp only [List.cons.injEq, Value.slice.injEq, and_true] at hcs
    obtain ⟨rfl, rfl, rfl⟩ := hcs
    exact ⟨[], rfl, fun hp => by simp at hp, by simp, fun r hr => by cases hr⟩
  · simp only [List.cons.injEq, Value.slice.injEq, and_true] at hcs
    obtain ⟨rfl, rfl, rfl⟩ := hcs
    have hlm : len ≤ m := by rw [hmm]; split <;> omega
    have key : ∀ i, i < len → ∃ r : Sto, r.wf ∧ ∀ j v, r.cells[j]? = some v → w.cell? (a.add (i * 3 + j)) = some v := by
      intro i hi
      obtain ⟨cs', hc, ht'⟩ := hel i (by omega)
      rw [hC] at hc
      obtain ⟨_, hcl, hat⟩ := World.cells?_some hc
      obtain ⟨ys, n', _, _, _, hyl, hf⟩ := DataW.trod_struct he ht'
      obtain ⟨o0, k0⟩ := Go.Deep.hone_of hone 0 f0 rfl
      obtain ⟨o1, k1⟩ := Go.Deep.hone_of hone 1 f1 rfl
      obtain ⟨o2, k2⟩ := Go.Deep.hone_of hone 2 f2 rfl
      obtain ⟨c0, c1, c2, rfl⟩ := list_sto hcl
      have g0 := hf 0 f0 rfl
      rw [o0, k0] at g0
      have g1 := hf 1 f1 rfl
      rw [o1, k1] at g1
      have g2 := hf 2 f2 rfl
      rw [o2, k2] at g2
      have hys : ∀ j, j < 3 → ∃ y, ys[j]? = some y := fun j hj => by
        have : ys.length = 3 := hyl.trans rfl
        exact ⟨_, List.getElem?_eq_getElem (by omega)⟩
      obtain ⟨y0, e0⟩ := hys 0 (by omega); rw [e0] at g0
      obtain ⟨y1, e1⟩ := hys 1 (by omega); rw [e1] at g1
      obtain ⟨y2, e2⟩ := hys 2 (by omega); rw [e2] at g2
      obtain ⟨z0, q0, _, w0⟩ := DataW.trod_string h0 g0
      obtain ⟨z1, q1, _, w1⟩ := DataW.trod_int h1 g1
      obtain ⟨z2, q2, _, w2⟩ := DataW.trod_int h2 g2
      simp at q0 q1 q2
      subst q0 q1 q2
      refine ⟨⟨z0.data.toList, z1, z2⟩, ⟨by simpa using w0, w1, w2⟩, fun j v hj => ?_⟩
      have hj4 : j < 3 := (List.getElem?_eq_some_iff.1 hj).1
      rw [← Go.Deep.add_add]
      have := hat j hj4
      rw [this, ← hj]
      rfl
    obtain ⟨rs, hl, hr⟩ := pick_all key
    refine ⟨rs, hl, fun hp => ?_, by omega, fun r hr' => ?_⟩
    · rw [flat_len Sto.cells 3 (fun _ => rfl)] at hp
      have h00 := (hr 0 rs[0] (List.getElem?_eq_getElem (by omega))).2 0 _ rfl
      obtain ⟨b, off, spot⟩ := a
      have hspot : spot = none := by simpa [Addr.add] using World.cell?_spot h00
      subst hspot
      refine ⟨b, off, rfl, World.block_lt_of_cell? w _ h00, fun j v hj => ?_⟩
      obtain ⟨r, h5, h6⟩ := flat_some Sto.cells 3 (by decide) (fun _ => rfl) rs j v hj
      have := (hr _ r h5).2 _ v h6
      rw [Go.WideShapes.add_plain, Nat.mul_comm, Nat.div_add_mod] at this
      exact this
    · obtain ⟨i, hi⟩ := List.getElem?_of_mem hr'
      exact (hr i r hi).1
end Go.Proofs.Ytklhcofonkmiiaa
