import Derived.Test.YtjcklmhgjdmjoaaGreatMEvt
import Derived.Test.YtjcklmhgjdmjoaaGreatMCode
import Derived.Test.YtjcklmhgjdmjoaaGreatMCal
import Derived.Test.YtjcklmhgjdmjoaaGreatInts
namespace Go.Proofs.YtjcklmhgjdmjoaaGreat
open Go.ChangeShapes Go.WideShapes Go.ChangeAt Go.RowKit
set_option linter.unusedVariables false
def Evt.ok (r : Evt) : Bool := inr r.d 0 36524 && (inr r.k 0 6 && (pcode r.c && amt r.a))
structure KeepE (w0 : World) (p : Evt) (W : World) : Prop where
 a : W.heap[w0.heap.size]? = some (.cells #[.int .i64 p.d, .int .i64 p.k, .string ⟨p.c.toArray⟩, .int .i64 p.a, .bool p.p, .bool p.v, .bool p.r] 30 (0, 0))
 bel : Below w0.heap.size w0 W
theorem KeepE.step {w0 W w' : World} {p : Evt} (k : KeepE w0 p W) (b : Below W.heap.size W w') : KeepE w0 p w' := ⟨(b.block _ (lt_some k.a)).trans k.a, belowGo k.bel b⟩
theorem KeepE.drew {w0 W : World} {p : Evt} (k : KeepE w0 p W) : KeepE w0 p W.drew := ⟨k.a, k.bel.drew⟩
theorem KeepE.new (w : World) (p : Evt) : KeepE w p (w.alloc (.cells #[.int .i64 p.d, .int .i64 p.k, .string ⟨p.c.toArray⟩, .int .i64 p.a, .bool p.p, .bool p.v, .bool p.r] 30)) := ⟨heap_alloc_new _ _, (Below.refl _ _).alloc (Nat.le_refl _) _⟩
theorem KeepE.cells {w0 W : World} {p : Evt} (k : KeepE w0 p W) : EvtC W w0.heap.size 0 p :=
 ⟨by rw [cell_of_row _ _ _ _ _ _ k.a]; rfl, by rw [cell_of_row _ _ _ _ _ _ k.a]; rfl, by rw [cell_of_row _ _ _ _ _ _ k.a]; rfl, by rw [cell_of_row _ _ _ _ _ _ k.a]; rfl, by rw [cell_of_row _ _ _ _ _ _ k.a]; rfl, by rw [cell_of_row _ _ _ _ _ _ k.a]; rfl, by rw [cell_of_row _ _ _ _ _ _ k.a]; rfl⟩
structure ETbl (w : World) (A : Option Addr) (ps : List Evt) : Prop where
 row : EvtR w A ps
 txt : ∀ p ∈ ps, p.sz <= 1048600
 len : ps.length <= 1048590
theorem ETbl.below {w w' : World} {A : Option Addr} {ps : List Evt} (h : ETbl w A ps) (hb : Below w.heap.size w w') : ETbl w' A ps := ⟨h.row.below hb, h.txt, h.len⟩
structure ETblC (w : World) (A : Option Addr) (c : Nat) (ps : List Evt) : Prop where
 tbl : ETbl w A ps
 adr : (A = none /\ c = 0) ∨ ∃ b off, A = some ⟨b, off, none⟩
 cap : ps.length <= c
theorem ETblC.row {w : World} {A : Option Addr} {c : Nat} {ps : List Evt} (h : ETblC w A c ps) : EvtR w A ps := h.tbl.row
theorem ETblC.len {w : World} {A : Option Addr} {c : Nat} {ps : List Evt} (h : ETblC w A c ps) : ps.length <= 1048590 := h.tbl.len
theorem ETblC.below {w w' : World} {A : Option Addr} {c : Nat} {ps : List Evt} (h : ETblC w A c ps) (hb : Below w.heap.size w w') : ETblC w' A c ps := ⟨h.tbl.below hb, h.adr, h.cap⟩
end Go.Proofs.YtjcklmhgjdmjoaaGreat

namespace Go.Proofs.YtjcklmhgjdmjoaaGreat
open Go.ChangeShapes Go.WideShapes Go.ChangeAt Go.RowKit
set_option linter.unusedVariables false
end Go.Proofs.YtjcklmhgjdmjoaaGreat

namespace Go.Proofs.YtjcklmhgjdmjoaaGreat
open Go.ChangeShapes Go.WideShapes Go.ChangeAt Go.RowKit
set_option linter.unusedVariables false
end Go.Proofs.YtjcklmhgjdmjoaaGreat

