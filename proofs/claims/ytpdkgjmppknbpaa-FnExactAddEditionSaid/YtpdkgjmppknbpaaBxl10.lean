/- Boxes of the laws of AddEdition, AmendEdition. (by laws10.py) -/
import Derived.Test.YtpdkgjmppknbpaaEdq
import Derived.Test.YtpdkgjmppknbpaaEdw2
namespace Go.Proofs.Ytpdkgjmppknbpaa
open Go.ChangeShapes Go.WideShapes Go.ChangeAt Go.RowKit
set_option linter.unusedVariables false

/-- The law's own box of an edition that came in. -/
structure BoxEd (g : Nat) (y : Int) (A : Option Addr) (n c : Nat) (W : World) : Prop where
  a : W.heap[g]? = some (.cells #[.int .i64 y, .slice A n c] 34 (0, 0))
section
variable {g : Nat} {y : Int} {A : Option Addr} {n c : Nat} {W W' : World}
theorem BoxEd.new (w : World) (y : Int) (A : Option Addr) (n c : Nat) : BoxEd w.heap.size y A n c (w.alloc (.cells #[.int .i64 y, .slice A n c] 34)) := ⟨heap_alloc_new _ _⟩
theorem BoxEd.lt (h : BoxEd g y A n c W) : g < W.heap.size := lt_some h.a
theorem BoxEd.below (h : BoxEd g y A n c W) (b : Below W.heap.size W W') : BoxEd g y A n c W' := ⟨(b.block _ h.lt).trans h.a⟩
theorem BoxEd.drew (h : BoxEd g y A n c W) : BoxEd g y A n c W.drew := ⟨h.a⟩
theorem BoxEd.tou {lo hi : Nat} (h : BoxEd g y A n c W) (t : Tou lo hi W W') (hd : g < lo) : BoxEd g y A n c W' := ⟨(t.block _ h.lt (by omega)).trans h.a⟩
theorem BoxEd.tou2 {lo hi : Nat} (h : BoxEd g y A n c W) (t : Tou lo hi W W') (hd : hi ≤ g) : BoxEd g y A n c W' := ⟨(t.block _ h.lt (by omega)).trans h.a⟩
theorem BoxEd.c0 (h : BoxEd g y A n c W) : W.cell? ⟨g, 0, none⟩ = some (.int .i64 y) := by rw [cell_of_row _ _ _ _ _ _ h.a]; rfl
theorem BoxEd.c1 (h : BoxEd g y A n c W) : W.cell? ⟨g, 1, none⟩ = some (.slice A n c) := by rw [cell_of_row _ _ _ _ _ _ h.a]; rfl
end
/-- A box of an edition of the call. -/
structure BoxIE (g : Nat) (y : Int) (A : Option Addr) (n c : Nat) (W : World) : Prop where
  a : W.heap[g]? = some (.cells #[.int .i64 y, .slice A n c] 40 (0, 0))
section
variable {g : Nat} {y : Int} {A : Option Addr} {n c : Nat} {W W' : World}
theorem BoxIE.new (w : World) (y : Int) (A : Option Addr) (n c : Nat) : BoxIE w.heap.size y A n c (w.alloc (.cells #[.int .i64 y, .slice A n c] 40)) := ⟨heap_alloc_new _ _⟩
theorem BoxIE.lt (h : BoxIE g y A n c W) : g < W.heap.size := lt_some h.a
theorem BoxIE.below (h : BoxIE g y A n c W) (b : Below W.heap.size W W') : BoxIE g y A n c W' := ⟨(b.block _ h.lt).trans h.a⟩
theorem BoxIE.drew (h : BoxIE g y A n c W) : BoxIE g y A n c W.drew := ⟨h.a⟩
theorem BoxIE.tou {lo hi : Nat} (h : BoxIE g y A n c W) (t : Tou lo hi W W') (hd : g < lo) : BoxIE g y A n c W' := ⟨(t.block _ h.lt (by omega)).trans h.a⟩
theorem BoxIE.tou2 {lo hi : Nat} (h : BoxIE g y A n c W) (t : Tou lo hi W W') (hd : hi ≤ g) : BoxIE g y A n c W' := ⟨(t.block _ h.lt (by omega)).trans h.a⟩
theorem BoxIE.c0 (h : BoxIE g y A n c W) : W.cell? ⟨g, 0, none⟩ = some (.int .i64 y) := by rw [cell_of_row _ _ _ _ _ _ h.a]; rfl
theorem BoxIE.c1 (h : BoxIE g y A n c W) : W.cell? ⟨g, 1, none⟩ = some (.slice A n c) := by rw [cell_of_row _ _ _ _ _ _ h.a]; rfl
end
/-- The law's own box of a clause that came in. -/
structure BoxCl (g : Nat) (p : Cls) (W : World) : Prop where
  a : W.heap[g]? = some (.cells #[.string ⟨p.c.toArray⟩, .int .i64 p.k, .int .i64 p.p, .int .i64 p.v, .int .i64 p.r, .int .i64 p.e, .string ⟨p.t.toArray⟩] 47 (0, 0))
section
variable {g : Nat} {p : Cls} {W W' : World}
theorem BoxCl.new (w : World) (p : Cls) : BoxCl w.heap.size p (w.alloc (.cells #[.string ⟨p.c.toArray⟩, .int .i64 p.k, .int .i64 p.p, .int .i64 p.v, .int .i64 p.r, .int .i64 p.e, .string ⟨p.t.toArray⟩] 47)) := ⟨heap_alloc_new _ _⟩
theorem BoxCl.lt (h : BoxCl g p W) : g < W.heap.size := lt_some h.a
theorem BoxCl.below (h : BoxCl g p W) (b : Below W.heap.size W W') : BoxCl g p W' := ⟨(b.block _ h.lt).trans h.a⟩
theorem BoxCl.drew (h : BoxCl g p W) : BoxCl g p W.drew := ⟨h.a⟩
theorem BoxCl.tou {lo hi : Nat} (h : BoxCl g p W) (t : Tou lo hi W W') (hd : g < lo) : BoxCl g p W' := ⟨(t.block _ h.lt (by omega)).trans h.a⟩
theorem BoxCl.cells (h : BoxCl g p W) : ClsC W g 0 p :=
  ⟨by rw [cell_of_row _ _ _ _ _ _ h.a]; rfl, by rw [cell_of_row _ _ _ _ _ _ h.a]; rfl, by rw [cell_of_row _ _ _ _ _ _ h.a]; rfl, by rw [cell_of_row _ _ _ _ _ _ h.a]; rfl, by rw [cell_of_row _ _ _ _ _ _ h.a]; rfl, by rw [cell_of_row _ _ _ _ _ _ h.a]; rfl, by rw [cell_of_row _ _ _ _ _ _ h.a]; rfl⟩
end
theorem adR_lib (es : List Edn) (e : Edn) : (adR es e).1 = [] ∨ lbB (adR es e).1 = true := by
  unfold adR
  split
  · split
    · rename_i h; exact .inr h
    · exact .inl rfl
  · exact .inl rfl
theorem amR_lib (es : List Edn) (y : Int) (p : Cls) : (amR es y p).1 = [] ∨ lbB (amR es y p).1 = true := by
  unfold amR
  split
  · split
    · split
      · split
        · split
          · rename_i h; exact .inr h
          · exact .inl rfl
        · exact .inl rfl
      · exact .inl rfl
    · exact .inl rfl
  · exact .inl rfl
end Go.Proofs.Ytpdkgjmppknbpaa
