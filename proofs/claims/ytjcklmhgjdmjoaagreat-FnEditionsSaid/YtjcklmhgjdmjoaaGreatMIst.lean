import Derived.Test.YtjcklmhgjdmjoaaGreatMHeld
import Derived.ProofKit
import Derived.Deep.Slices
import Derived.Deep.Fields
import Derived.Deep.QuietTactic
import Derived.Deep.RegionHeld3
namespace Go.Proofs.YtjcklmhgjdmjoaaGreat
open Go.ChangeShapes Go.WideShapes Go.ChangeAt Go.RowKit
set_option linter.unusedVariables false
structure Ist where
 c : List UInt8
 k : Int
 o : List UInt8
 v : Int
 a : Int
 deriving DecidableEq
def Ist.cells (r : Ist) : List Value := [.string ⟨r.c.toArray⟩, .int .i64 r.k, .string ⟨r.o.toArray⟩, .int .i64 r.v, .int .i64 r.a]
def Ist.sz (r : Ist) : Nat := r.c.length + r.o.length
def IstR (w : World) (A : Option Addr) (rs : List Ist) : Prop := Rw w A (rs.flatMap Ist.cells)
structure IstC (W : World) (b o : Nat) (r : Ist) : Prop where
 c0 : W.cell? ⟨b, o, none⟩ = some (.string ⟨r.c.toArray⟩)
 c1 : W.cell? ⟨b, o + 1, none⟩ = some (.int .i64 r.k)
 c2 : W.cell? ⟨b, o + 2, none⟩ = some (.string ⟨r.o.toArray⟩)
 c3 : W.cell? ⟨b, o + 3, none⟩ = some (.int .i64 r.v)
 c4 : W.cell? ⟨b, o + 4, none⟩ = some (.int .i64 r.a)
theorem IstC.below {w W : World} {b o : Nat} {r : Ist} (h : IstC w b o r) (hl : b < w.heap.size) (hb : Below w.heap.size w W) : IstC W b o r :=
 ⟨(hb.cell (p := ⟨b, o, none⟩) hl).trans h.c0, (hb.cell (p := ⟨b, o + 1, none⟩) hl).trans h.c1, (hb.cell (p := ⟨b, o + 2, none⟩) hl).trans h.c2, (hb.cell (p := ⟨b, o + 3, none⟩) hl).trans h.c3, (hb.cell (p := ⟨b, o + 4, none⟩) hl).trans h.c4⟩
theorem IstC.belowB {w W : World} {B b o : Nat} {r : Ist} (h : IstC w b o r) (hl : b < B) (hb : Below B w W) : IstC W b o r :=
 ⟨(hb.cell (p := ⟨b, o, none⟩) hl).trans h.c0, (hb.cell (p := ⟨b, o + 1, none⟩) hl).trans h.c1, (hb.cell (p := ⟨b, o + 2, none⟩) hl).trans h.c2, (hb.cell (p := ⟨b, o + 3, none⟩) hl).trans h.c3, (hb.cell (p := ⟨b, o + 4, none⟩) hl).trans h.c4⟩
theorem IstR.at {w : World} {A : Option Addr} {rs : List Ist} (h : IstR w A rs) {k : Nat} (hk : k < rs.length) :
  ∃ b off r, A = some ⟨b, off, none⟩ /\ b < w.heap.size /\ Hid (rs[k]? = some r) /\ IstC w b (off + k * 5) r := by
 have hl := flat_len Ist.cells 5 (fun _ => rfl) rs
 obtain ⟨b, off, e, hb, hc⟩ := h (by rw [hl]; omega)
 have hr : rs[k]? = some rs[k] := List.getElem?_eq_getElem hk
 have g := fun j hj => hc (k * 5 + j) _ ((flat_at Ist.cells 5 (fun _ => rfl) rs k j _ hr hj).trans (List.getElem?_eq_getElem (by exact hj)))
 refine ⟨b, off, rs[k], e, hb, Lib.hid hr, ?_, ?_, ?_, ?_, ?_⟩
 ·
  simpa [Ist.cells] using g 0 (by omega)
 ·
  simpa [Ist.cells, Nat.add_assoc] using g 1 (by omega)
 ·
  simpa [Ist.cells, Nat.add_assoc] using g 2 (by omega)
 ·
  simpa [Ist.cells, Nat.add_assoc] using g 3 (by omega)
 ·
  simpa [Ist.cells, Nat.add_assoc] using g 4 (by omega)
theorem IstR.below {w w' : World} {A : Option Addr} {rs : List Ist} (h : IstR w A rs) (hb : Below w.heap.size w w') : IstR w' A rs := Rw.below h hb
theorem IstR.keepB {w w' : World} {A : Option Addr} {rs : List Ist} {B : Nat} (h : IstR w A rs) (hA : Bd A B) (hb : Below B w w') : IstR w' A rs := Rw.keepB h hA hb
end Go.Proofs.YtjcklmhgjdmjoaaGreat

namespace Go.Proofs.YtjcklmhgjdmjoaaGreat
open Go.ChangeShapes Go.WideShapes Go.ChangeAt Go.RowKit
set_option linter.unusedVariables false
section
variable {w w' : World} {base : Nat} {A : Option Addr} {n c : Nat} {rs : List Ist}
end
def Ist.mark (k : Nat) : Ist := ⟨mkT (k), (k : Int) + 1, mkT (k + 2), (k : Int) + 3, (k : Int) + 4⟩
def Ist.marks (k : Nat) (n : Nat) : List Ist := (List.range n).map fun j => Ist.mark (k + 5 * j)
end Go.Proofs.YtjcklmhgjdmjoaaGreat

