import Derived.Test.YtjcklmhgjdmjoaaGreatMHeld
import Derived.ProofKit
import Derived.Deep.Slices
import Derived.Deep.Fields
import Derived.Deep.QuietTactic
import Derived.Deep.RegionHeld3
namespace Go.Proofs.YtjcklmhgjdmjoaaGreat
open Go.ChangeShapes Go.WideShapes Go.ChangeAt Go.RowKit
set_option linter.unusedVariables false
structure Evt where
 d : Int
 k : Int
 c : List UInt8
 a : Int
 p : Bool
 v : Bool
 r : Bool
 deriving DecidableEq
def Evt.cells (r : Evt) : List Value := [.int .i64 r.d, .int .i64 r.k, .string ⟨r.c.toArray⟩, .int .i64 r.a, .bool r.p, .bool r.v, .bool r.r]
def Evt.sz (r : Evt) : Nat := r.c.length
def EvtR (w : World) (A : Option Addr) (rs : List Evt) : Prop := Rw w A (rs.flatMap Evt.cells)
structure EvtC (W : World) (b o : Nat) (r : Evt) : Prop where
 c0 : W.cell? ⟨b, o, none⟩ = some (.int .i64 r.d)
 c1 : W.cell? ⟨b, o + 1, none⟩ = some (.int .i64 r.k)
 c2 : W.cell? ⟨b, o + 2, none⟩ = some (.string ⟨r.c.toArray⟩)
 c3 : W.cell? ⟨b, o + 3, none⟩ = some (.int .i64 r.a)
 c4 : W.cell? ⟨b, o + 4, none⟩ = some (.bool r.p)
 c5 : W.cell? ⟨b, o + 5, none⟩ = some (.bool r.v)
 c6 : W.cell? ⟨b, o + 6, none⟩ = some (.bool r.r)
theorem EvtC.below {w W : World} {b o : Nat} {r : Evt} (h : EvtC w b o r) (hl : b < w.heap.size) (hb : Below w.heap.size w W) : EvtC W b o r :=
 ⟨(hb.cell (p := ⟨b, o, none⟩) hl).trans h.c0, (hb.cell (p := ⟨b, o + 1, none⟩) hl).trans h.c1, (hb.cell (p := ⟨b, o + 2, none⟩) hl).trans h.c2, (hb.cell (p := ⟨b, o + 3, none⟩) hl).trans h.c3, (hb.cell (p := ⟨b, o + 4, none⟩) hl).trans h.c4, (hb.cell (p := ⟨b, o + 5, none⟩) hl).trans h.c5, (hb.cell (p := ⟨b, o + 6, none⟩) hl).trans h.c6⟩
theorem EvtC.belowB {w W : World} {B b o : Nat} {r : Evt} (h : EvtC w b o r) (hl : b < B) (hb : Below B w W) : EvtC W b o r :=
 ⟨(hb.cell (p := ⟨b, o, none⟩) hl).trans h.c0, (hb.cell (p := ⟨b, o + 1, none⟩) hl).trans h.c1, (hb.cell (p := ⟨b, o + 2, none⟩) hl).trans h.c2, (hb.cell (p := ⟨b, o + 3, none⟩) hl).trans h.c3, (hb.cell (p := ⟨b, o + 4, none⟩) hl).trans h.c4, (hb.cell (p := ⟨b, o + 5, none⟩) hl).trans h.c5, (hb.cell (p := ⟨b, o + 6, none⟩) hl).trans h.c6⟩
theorem EvtR.at {w : World} {A : Option Addr} {rs : List Evt} (h : EvtR w A rs) {k : Nat} (hk : k < rs.length) :
  ∃ b off r, A = some ⟨b, off, none⟩ /\ b < w.heap.size /\ Hid (rs[k]? = some r) /\ EvtC w b (off + k * 7) r := by
 have hl := flat_len Evt.cells 7 (fun _ => rfl) rs
 obtain ⟨b, off, e, hb, hc⟩ := h (by rw [hl]; omega)
 have hr : rs[k]? = some rs[k] := List.getElem?_eq_getElem hk
 have g := fun j hj => hc (k * 7 + j) _ ((flat_at Evt.cells 7 (fun _ => rfl) rs k j _ hr hj).trans (List.getElem?_eq_getElem (by exact hj)))
 refine ⟨b, off, rs[k], e, hb, Lib.hid hr, ?_, ?_, ?_, ?_, ?_, ?_, ?_⟩
 ·
  simpa [Evt.cells] using g 0 (by omega)
 ·
  simpa [Evt.cells, Nat.add_assoc] using g 1 (by omega)
 ·
  simpa [Evt.cells, Nat.add_assoc] using g 2 (by omega)
 ·
  simpa [Evt.cells, Nat.add_assoc] using g 3 (by omega)
 ·
  simpa [Evt.cells, Nat.add_assoc] using g 4 (by omega)
 ·
  simpa [Evt.cells, Nat.add_assoc] using g 5 (by omega)
 ·
  simpa [Evt.cells, Nat.add_assoc] using g 6 (by omega)
theorem EvtR.below {w w' : World} {A : Option Addr} {rs : List Evt} (h : EvtR w A rs) (hb : Below w.heap.size w w') : EvtR w' A rs := Rw.below h hb
theorem EvtR.keepB {w w' : World} {A : Option Addr} {rs : List Evt} {B : Nat} (h : EvtR w A rs) (hA : Bd A B) (hb : Below B w w') : EvtR w' A rs := Rw.keepB h hA hb
end Go.Proofs.YtjcklmhgjdmjoaaGreat

namespace Go.Proofs.YtjcklmhgjdmjoaaGreat
open Go.ChangeShapes Go.WideShapes Go.ChangeAt Go.RowKit
set_option linter.unusedVariables false
theorem evtInfo : (Tryz.prog.info? 30).map (fun i => (i.zero, i.size, i.bytes)) = some (some (.agg #[.int .i64 0, .int .i64 0, .string ⟨#[]⟩, .int .i64 0, .bool false, .bool false, .bool false]), 7, 48) := by kernel_rfl
def EvtO (w : World) (base : Nat) (A : Option Addr) (n c : Nat) (rs : List Evt) : Prop := w.ownsRow base 30 7 (.slice A n c) n (rs.flatMap Evt.cells)
section
variable {w w' : World} {base : Nat} {A : Option Addr} {n c : Nat} {rs : List Evt}
theorem EvtO.len (h : EvtO w base A n c rs) : rs.length = n := by
 have := h.1; rw [flat_len Evt.cells 7 (fun _ => rfl)] at this; omega
theorem EvtO.row (h : EvtO w base A n c rs) : EvtR w A rs := Rw.ownS h
theorem EvtO.bd (h : EvtO w base A n c rs) : Bd A w.heap.size := fun a e => (h.lt a.block (by rw [e]; rfl)).2
theorem EvtO.lo (h : EvtO w base A n c rs) : ∀ k, (Value.slice A n c).ownBlock = some k -> base <= k := fun k e => (h.lt k e).1
theorem EvtO.below (h : EvtO w base A n c rs) (hb : Below w.heap.size w w') : EvtO w' base A n c rs := own_below h hb
theorem EvtO.mono {base' : Nat} (h : EvtO w base A n c rs) (hb : base' <= base) : EvtO w base' A n c rs := by
 refine ⟨h.1, h.2.imp id ?_⟩
 rintro ⟨g, cap, cur, h1, h2, h3⟩
 exact ⟨g, cap, cur, h1, by omega, h3⟩
theorem EvtO.kept {B : Option Addr} {m d : Nat} (h : EvtO w base A n c rs) (hg : w.grownBy w' (Value.slice B m d).ownBlock) (hB : Bd B base) : EvtO w' base A n c rs :=
 World.ownsRow.kept h hg (by
  cases A with
  | none => exact .inl rfl
  | some a =>
   right
   cases B with
   | none => simp [Value.ownBlock]
   | some b =>
    intro e
    have h1 := h.lo a.block rfl
    have h2 := hB b rfl
    simp [Value.ownBlock] at e
    omega)
theorem EvtO.far {B : Nat} (h : EvtO w base A n c rs) (hg : w.grownBy w' (Value.slice A n c).ownBlock) (hB : B <= base) (hs : B <= w.heap.size) : Below B w w' :=
 (Below.refl _ _).grown hg hs (fun k e => Nat.le_trans hB (h.lo k e))
end
def NewEvts (w : World) (rs : List Evt) (e : Ending) (w' : World) : Prop :=
 ∃ A c, e = .returned (.slice A rs.length c) /\ EvtO w' w.heap.size A rs.length c rs /\ Below w.heap.size w w'
def mkB (n : Int) : Bool := n.tmod 3 == 0
def Evt.mark (k : Nat) : Evt := ⟨(k : Int), (k : Int) + 1, mkT (k + 2), (k : Int) + 3, mkB ((k : Int) + 4), mkB ((k : Int) + 5), mkB ((k : Int) + 6)⟩
def Evt.marks (k : Nat) (n : Nat) : List Evt := (List.range n).map fun j => Evt.mark (k + 7 * j)
end Go.Proofs.YtjcklmhgjdmjoaaGreat

