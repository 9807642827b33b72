/- The law's own box of a party. (by laws5.py) -/
import Derived.Test.YtjgagiigpijaiaaDoorReg
import Derived.Deep.CutRange
namespace Go.Proofs.YtjgagiigpijaiaaDoor
open Go.ChangeShapes Go.WideShapes Go.ChangeAt Go.RowKit
set_option linter.unusedVariables false

/-- The law's own box of a struct that came in. -/
structure BoxPty (g : Nat) (p : Pty) (W : World) : Prop where
  a : W.heap[g]? = some (.cells #[.string ⟨p.c.toArray⟩, .int .i64 p.k, .string ⟨p.a.toArray⟩] 31 (0, 0))
theorem BoxPty.new (w : World) (p : Pty) : BoxPty w.heap.size p (w.alloc (.cells #[.string ⟨p.c.toArray⟩, .int .i64 p.k, .string ⟨p.a.toArray⟩] 31)) := ⟨heap_alloc_new _ _⟩
theorem BoxPty.lt {g : Nat} {p : Pty} {W : World} (h : BoxPty g p W) : g < W.heap.size := lt_some h.a
theorem BoxPty.below {g : Nat} {p : Pty} {W W' : World} (h : BoxPty g p W) (b : Below W.heap.size W W') : BoxPty g p W' := ⟨(b.block _ h.lt).trans h.a⟩
theorem BoxPty.drew {g : Nat} {p : Pty} {W : World} (h : BoxPty g p W) : BoxPty g p W.drew := ⟨h.a⟩
theorem BoxPty.belowB {g B : Nat} {p : Pty} {W W' : World} (h : BoxPty g p W) (hB : g < B) (b : Below B W W') : BoxPty g p W' := ⟨(b.block _ hB).trans h.a⟩
theorem BoxPty.cells {g : Nat} {p : Pty} {W : World} (h : BoxPty g p W) : PtyC W g 0 p :=
  ⟨by rw [cell_of_row _ _ _ _ _ _ h.a]; rfl, by rw [cell_of_row _ _ _ _ _ _ h.a]; rfl, by rw [cell_of_row _ _ _ _ _ _ h.a]; rfl⟩
end Go.Proofs.YtjgagiigpijaiaaDoor
