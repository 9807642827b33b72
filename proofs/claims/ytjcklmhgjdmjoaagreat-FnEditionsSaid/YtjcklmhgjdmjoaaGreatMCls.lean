import Derived.Test.YtjcklmhgjdmjoaaGreatMHeld
import Derived.ProofKit
import Derived.Deep.Slices
import Derived.Deep.Fields
import Derived.Deep.QuietTactic
import Derived.Deep.RegionHeld3
namespace Go.Proofs.YtjcklmhgjdmjoaaGreat
open Go.ChangeShapes Go.WideShapes Go.ChangeAt Go.RowKit
set_option linter.unusedVariables false
structure Cls where
 c : List UInt8
 k : Int
 p : Int
 v : Int
 r : Int
 e : Int
 t : List UInt8
 deriving DecidableEq
def Cls.cells (r : Cls) : List Value := [.string ⟨r.c.toArray⟩, .int .i64 r.k, .int .i64 r.p, .int .i64 r.v, .int .i64 r.r, .int .i64 r.e, .string ⟨r.t.toArray⟩]
def Cls.sz (r : Cls) : Nat := r.c.length + r.t.length
def ClsR (w : World) (A : Option Addr) (rs : List Cls) : Prop := Rw w A (rs.flatMap Cls.cells)
structure ClsC (W : World) (b o : Nat) (r : Cls) : Prop where
 c0 : W.cell? ⟨b, o, none⟩ = some (.string ⟨r.c.toArray⟩)
 c1 : W.cell? ⟨b, o + 1, none⟩ = some (.int .i64 r.k)
 c2 : W.cell? ⟨b, o + 2, none⟩ = some (.int .i64 r.p)
 c3 : W.cell? ⟨b, o + 3, none⟩ = some (.int .i64 r.v)
 c4 : W.cell? ⟨b, o + 4, none⟩ = some (.int .i64 r.r)
 c5 : W.cell? ⟨b, o + 5, none⟩ = some (.int .i64 r.e)
 c6 : W.cell? ⟨b, o + 6, none⟩ = some (.string ⟨r.t.toArray⟩)
theorem ClsC.below {w W : World} {b o : Nat} {r : Cls} (h : ClsC w b o r) (hl : b < w.heap.size) (hb : Below w.heap.size w W) : ClsC W b o r :=
 ⟨(hb.cell (p := ⟨b, o, none⟩) hl).trans h.c0, (hb.cell (p := ⟨b, o + 1, none⟩) hl).trans h.c1, (hb.cell (p := ⟨b, o + 2, none⟩) hl).trans h.c2, (hb.cell (p := ⟨b, o + 3, none⟩) hl).trans h.c3, (hb.cell (p := ⟨b, o + 4, none⟩) hl).trans h.c4, (hb.cell (p := ⟨b, o + 5, none⟩) hl).trans h.c5, (hb.cell (p := ⟨b, o + 6, none⟩) hl).trans h.c6⟩
theorem ClsC.belowB {w W : World} {B b o : Nat} {r : Cls} (h : ClsC w b o r) (hl : b < B) (hb : Below B w W) : ClsC W b o r :=
 ⟨(hb.cell (p := ⟨b, o, none⟩) hl).trans h.c0, (hb.cell (p := ⟨b, o + 1, none⟩) hl).trans h.c1, (hb.cell (p := ⟨b, o + 2, none⟩) hl).trans h.c2, (hb.cell (p := ⟨b, o + 3, none⟩) hl).trans h.c3, (hb.cell (p := ⟨b, o + 4, none⟩) hl).trans h.c4, (hb.cell (p := ⟨b, o + 5, none⟩) hl).trans h.c5, (hb.cell (p := ⟨b, o + 6, none⟩) hl).trans h.c6⟩
theorem ClsR.at {w : World} {A : Option Addr} {rs : List Cls} (h : ClsR w A rs) {k : Nat} (hk : k < rs.length) :
  ∃ b off r, A = some ⟨b, off, none⟩ /\ b < w.heap.size /\ Hid (rs[k]? = some r) /\ ClsC w b (off + k * 7) r := by
 have hl := flat_len Cls.cells 7 (fun _ => rfl) rs
 obtain ⟨b, off, e, hb, hc⟩ := h (by rw [hl]; omega)
 have hr : rs[k]? = some rs[k] := List.getElem?_eq_getElem hk
 have g := fun j hj => hc (k * 7 + j) _ ((flat_at Cls.cells 7 (fun _ => rfl) rs k j _ hr hj).trans (List.getElem?_eq_getElem (by exact hj)))
 refine ⟨b, off, rs[k], e, hb, Lib.hid hr, ?_, ?_, ?_, ?_, ?_, ?_, ?_⟩
 ·
  simpa [Cls.cells] using g 0 (by omega)
 ·
  simpa [Cls.cells, Nat.add_assoc] using g 1 (by omega)
 ·
  simpa [Cls.cells, Nat.add_assoc] using g 2 (by omega)
 ·
  simpa [Cls.cells, Nat.add_assoc] using g 3 (by omega)
 ·
  simpa [Cls.cells, Nat.add_assoc] using g 4 (by omega)
 ·
  simpa [Cls.cells, Nat.add_assoc] using g 5 (by omega)
 ·
  simpa [Cls.cells, Nat.add_assoc] using g 6 (by omega)
theorem ClsR.below {w w' : World} {A : Option Addr} {rs : List Cls} (h : ClsR w A rs) (hb : Below w.heap.size w w') : ClsR w' A rs := Rw.below h hb
theorem ClsR.keepB {w w' : World} {A : Option Addr} {rs : List Cls} {B : Nat} (h : ClsR w A rs) (hA : Bd A B) (hb : Below B w w') : ClsR w' A rs := Rw.keepB h hA hb
end Go.Proofs.YtjcklmhgjdmjoaaGreat

namespace Go.Proofs.YtjcklmhgjdmjoaaGreat
open Go.ChangeShapes Go.WideShapes Go.ChangeAt Go.RowKit
set_option linter.unusedVariables false
theorem clsInfo : (Tryz.prog.info? 47).map (fun i => (i.zero, i.size, i.bytes)) = some (some (.agg #[.string ⟨#[]⟩, .int .i64 0, .int .i64 0, .int .i64 0, .int .i64 0, .int .i64 0, .string ⟨#[]⟩]), 7, 72) := by kernel_rfl
def ClsO (w : World) (base : Nat) (A : Option Addr) (n c : Nat) (rs : List Cls) : Prop := w.ownsRow base 47 7 (.slice A n c) n (rs.flatMap Cls.cells)
section
variable {w w' : World} {base : Nat} {A : Option Addr} {n c : Nat} {rs : List Cls}
theorem ClsO.len (h : ClsO w base A n c rs) : rs.length = n := by
 have := h.1; rw [flat_len Cls.cells 7 (fun _ => rfl)] at this; omega
theorem ClsO.row (h : ClsO w base A n c rs) : ClsR w A rs := Rw.ownS h
theorem ClsO.bd (h : ClsO w base A n c rs) : Bd A w.heap.size := fun a e => (h.lt a.block (by rw [e]; rfl)).2
theorem ClsO.lo (h : ClsO w base A n c rs) : ∀ k, (Value.slice A n c).ownBlock = some k -> base <= k := fun k e => (h.lt k e).1
theorem ClsO.below (h : ClsO w base A n c rs) (hb : Below w.heap.size w w') : ClsO w' base A n c rs := own_below h hb
theorem ClsO.mono {base' : Nat} (h : ClsO w base A n c rs) (hb : base' <= base) : ClsO w base' A n c rs := by
 refine ⟨h.1, h.2.imp id ?_⟩
 rintro ⟨g, cap, cur, h1, h2, h3⟩
 exact ⟨g, cap, cur, h1, by omega, h3⟩
theorem ClsO.kept {B : Option Addr} {m d : Nat} (h : ClsO w base A n c rs) (hg : w.grownBy w' (Value.slice B m d).ownBlock) (hB : Bd B base) : ClsO w' base A n c rs :=
 World.ownsRow.kept h hg (by
  cases A with
  | none => exact .inl rfl
  | some a =>
   right
   cases B with
   | none => simp [Value.ownBlock]
   | some b =>
    intro e
    have h1 := h.lo a.block rfl
    have h2 := hB b rfl
    simp [Value.ownBlock] at e
    omega)
theorem ClsO.far {B : Nat} (h : ClsO w base A n c rs) (hg : w.grownBy w' (Value.slice A n c).ownBlock) (hB : B <= base) (hs : B <= w.heap.size) : Below B w w' :=
 (Below.refl _ _).grown hg hs (fun k e => Nat.le_trans hB (h.lo k e))
end
theorem stored_cls {w : World} {base g n c : Nat} {e : TypeId} {xs : List Value} (h : w.ownsRow base e 7 (.slice (some ⟨g, 0, none⟩) n c) n xs) (j : Nat) (v0 v1 v2 v3 v4 v5 v6 : Value) :
  (((((((w.setCell ⟨g, j, none⟩ (v0)).setCell ⟨g, j + 1, none⟩ (v1)).setCell ⟨g, j + 2, none⟩ (v2)).setCell ⟨g, j + 3, none⟩ (v3)).setCell ⟨g, j + 4, none⟩ (v4)).setCell ⟨g, j + 5, none⟩ (v5)).setCell ⟨g, j + 6, none⟩ (v6)).ownsRow base e 7 (.slice (some ⟨g, 0, none⟩) n c) n (((((((xs.set (j) (v0)).set (j + 1) (v1)).set (j + 2) (v2)).set (j + 3) (v3)).set (j + 4) (v4)).set (j + 5) (v5)).set (j + 6) (v6)) /\
  w.grownBy (((((((w.setCell ⟨g, j, none⟩ (v0)).setCell ⟨g, j + 1, none⟩ (v1)).setCell ⟨g, j + 2, none⟩ (v2)).setCell ⟨g, j + 3, none⟩ (v3)).setCell ⟨g, j + 4, none⟩ (v4)).setCell ⟨g, j + 5, none⟩ (v5)).setCell ⟨g, j + 6, none⟩ (v6)) (some g) := by
 have h1 := h.stored (j) v0
 have h2 := h1.1.stored (j + 1) v1
 have h3 := h2.1.stored (j + 2) v2
 have h4 := h3.1.stored (j + 3) v3
 have h5 := h4.1.stored (j + 4) v4
 have h6 := h5.1.stored (j + 5) v5
 have h7 := h6.1.stored (j + 6) v6
 exact ⟨h7.1, ((((((h1.2.trans h2.2).trans h3.2).trans h4.2).trans h5.2).trans h6.2).trans h7.2)⟩
def Cls.mark (k : Nat) : Cls := ⟨mkT (k), (k : Int) + 1, (k : Int) + 2, (k : Int) + 3, (k : Int) + 4, (k : Int) + 5, mkT (k + 6)⟩
def Cls.marks (k : Nat) (n : Nat) : List Cls := (List.range n).map fun j => Cls.mark (k + 7 * j)
end Go.Proofs.YtjcklmhgjdmjoaaGreat

