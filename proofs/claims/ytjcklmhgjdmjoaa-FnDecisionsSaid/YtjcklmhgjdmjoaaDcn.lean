/- Decisions: rows whose rows lie elsewhere. Views for reading, views of what a call owns, what a mark touches. -/
import Derived.Test.YtjcklmhgjdmjoaaEdn
import Derived.Test.YtjcklmhgjdmjoaaMHeld
namespace Go.Proofs.Ytjcklmhgjdmjoaa
open Go.ChangeShapes Go.WideShapes Go.ChangeAt Go.RowKit
set_option linter.unusedVariables false

structure Dcn where
  y : Int
  cs : List (List UInt8)
  deriving DecidableEq
/-- What lies in the row itself. -/
structure Dch where
  y : Int
  A : Option Addr
  n : Nat
  c : Nat
def Dch.cells (h : Dch) : List Value := [.int .i64 h.y, .slice h.A h.n h.c]
def Dch.ob (h : Dch) : Option Nat := (Value.slice h.A h.n h.c).ownBlock
def Dcn.wf (e : Dcn) : Prop := (Lit.int .i64 e.y).wf = true ∧ e.cs.length ≤ maxLen
def DcOne (w : World) (h : Dch) (e : Dcn) : Prop := h.y = e.y ∧ h.n = e.cs.length ∧ Sr w h.A e.cs
/-- A row reads as a list of decisions. -/
def DcnR (w : World) (A : Option Addr) (es : List Dcn) : Prop :=
  ∃ hs : List Dch, hs.length = es.length ∧ Rw w A (hs.flatMap Dch.cells) ∧ ∀ (k : Nat) h e, hs[k]? = some h → es[k]? = some e → DcOne w h e
theorem DcnR.at {w : World} {A : Option Addr} {es : List Dcn} (h : DcnR w A es) {k : Nat} (hk : k < es.length) :
    ∃ b off e a c, A = some ⟨b, off, none⟩ ∧ b < w.heap.size ∧ Hid (es[k]? = some e) ∧ w.cell? ⟨b, off + k * 2, none⟩ = some (.int .i64 e.y) ∧
      w.cell? ⟨b, off + k * 2 + 1, none⟩ = some (.slice a e.cs.length c) ∧ Sr w a e.cs := by
  obtain ⟨hs, hl, hr, ho⟩ := h
  have hf := flat_len Dch.cells 2 (fun _ => rfl) hs
  obtain ⟨b, off, e0, hb, hc⟩ := hr (by rw [hf]; omega)
  have h1 : hs[k]? = some (hs[k]'(by omega)) := List.getElem?_eq_getElem (by omega)
  have h2 : es[k]? = some es[k] := List.getElem?_eq_getElem hk
  obtain ⟨q1, q2, q3⟩ := ho k _ _ h1 h2
  have g := fun j hj => hc (k * 2 + j) _ ((flat_at Dch.cells 2 (fun _ => rfl) hs k j _ h1 hj).trans (List.getElem?_eq_getElem (by exact hj)))
  refine ⟨b, off, es[k], (hs[k]'(by omega)).A, (hs[k]'(by omega)).c, e0, hb, Lib.hid h2, ?_, ?_, q3⟩
  · have := g 0 (by omega); rw [← q1]; simpa [Dch.cells] using this
  · have := g 1 (by omega); rw [← q2]; simpa [Dch.cells, Nat.add_assoc] using this
theorem DcnR.below {w w' : World} {A : Option Addr} {es : List Dcn} (h : DcnR w A es) (hb : Below w.heap.size w w') : DcnR w' A es := by
  obtain ⟨hs, hl, hr, ho⟩ := h
  exact ⟨hs, hl, Rw.below hr hb, fun k h e h1 h2 => ⟨(ho k h e h1 h2).1, (ho k h e h1 h2).2.1, (ho k h e h1 h2).2.2.below hb⟩⟩
theorem Ost.tou {w w' : World} {base lo hi : Nat} {A : Option Addr} {n c : Nat} {rs : List (List UInt8)} (h : Ost w base A n c rs) (ht : Tou lo hi w w') (hd : ∀ g, (Value.slice A n c).ownBlock = some g → ¬ (lo ≤ g ∧ g < hi)) : Ost w' base A n c rs := own_tou h ht hd

theorem Ost.row {w : World} {base : Nat} {A : Option Addr} {n c : Nat} {ws : List (List UInt8)} (h : Ost w base A n c ws) : Sr w A ws := h.sr
theorem Ost.mono {w : World} {base base' : Nat} {A : Option Addr} {n c : Nat} {ws : List (List UInt8)} (h : Ost w base A n c ws) (hb : base' ≤ base) : Ost w base' A n c ws := by
  refine ⟨h.1, h.2.imp id ?_⟩
  rintro ⟨g, cap, cur, h1, h2, h3⟩
  exact ⟨g, cap, cur, h1, by omega, h3⟩
/-! ### rows of the call's own -/
def Dch.sep (a b : Dch) : Prop := ∀ g, a.ob = some g → b.ob ≠ some g
structure DcnOw (w : World) (lo hi : Nat) (A : Option Addr) (n c : Nat) (hs : List Dch) (es : List Dcn) : Prop where
  row : w.ownsRow lo 31 2 (.slice A n c) n (hs.flatMap Dch.cells)
  len : hs.length = es.length
  one : ∀ (k : Nat) h e, hs[k]? = some h → es[k]? = some e → h.y = e.y ∧ Ost w lo h.A h.n h.c e.cs
  hiA : ∀ g, (Value.slice A n c).ownBlock = some g → g < hi
  his : ∀ h ∈ hs, ∀ g, h.ob = some g → g < hi ∧ (Value.slice A n c).ownBlock ≠ some g
  sep : hs.Pairwise Dch.sep
def DcnO (w : World) (lo hi : Nat) (A : Option Addr) (n c : Nat) (es : List Dcn) : Prop := ∃ hs, DcnOw w lo hi A n c hs es
section
variable {w w' : World} {lo hi : Nat} {A : Option Addr} {n c : Nat} {hs : List Dch} {es : List Dcn}
theorem DcnOw.lenN (h : DcnOw w lo hi A n c hs es) : hs.length = n := by
  have := h.row.1; rw [flat_len Dch.cells 2 (fun _ => rfl)] at this; omega
theorem DcnO.len (h : DcnO w lo hi A n c es) : es.length = n := by obtain ⟨hs, h⟩ := h; rw [← h.len]; exact h.lenN
theorem DcnOw.lo_mem (h : DcnOw w lo hi A n c hs es) {x : Dch} (hx : x ∈ hs) {g : Nat} (hg : x.ob = some g) : lo ≤ g ∧ g < hi ∧ g < w.heap.size := by
  obtain ⟨i, hi'⟩ := List.getElem?_of_mem hx
  have hl : i < es.length := by rw [← h.len]; exact (List.getElem?_eq_some_iff.1 hi').1
  have := (h.one i x _ hi' (List.getElem?_eq_getElem hl)).2.lt g hg
  exact ⟨this.1, (h.his x hx g hg).1, this.2⟩
theorem DcnO.reads (h : DcnO w lo hi A n c es) : DcnR w A es := by
  obtain ⟨hs, h⟩ := h
  exact ⟨hs, h.len, Rw.ownS h.row, fun k x e h1 h2 => ⟨(h.one k x e h1 h2).1, (h.one k x e h1 h2).2.len.symm, (h.one k x e h1 h2).2.row⟩⟩
theorem DcnO.below (h : DcnO w lo hi A n c es) (hb : Below w.heap.size w w') : DcnO w' lo hi A n c es := by
  obtain ⟨hs, h⟩ := h
  exact ⟨hs, own_below h.row hb, h.len, fun k x e h1 h2 => ⟨(h.one k x e h1 h2).1, (h.one k x e h1 h2).2.below hb⟩, h.hiA, h.his, h.sep⟩
/-- Kept over what touches other blocks. -/
theorem DcnO.tou {lo' hi' : Nat} (h : DcnO w lo hi A n c es) (ht : Tou lo' hi' w w') (hd : hi' ≤ lo ∨ hi ≤ lo') : DcnO w' lo hi A n c es := by
  obtain ⟨hs, h⟩ := h
  refine ⟨hs, own_tou h.row ht (fun g hg => ?_), h.len, fun k x e h1 h2 => ⟨(h.one k x e h1 h2).1, (h.one k x e h1 h2).2.tou ht (fun g hg => ?_)⟩, h.hiA, h.his, h.sep⟩
  · have a := (h.row.lt g hg).1
    have b := h.hiA g hg
    omega
  · have a := h.lo_mem (List.mem_of_getElem? h1) hg
    omega
theorem DcnO.mono {lo' hi' : Nat} (h : DcnO w lo hi A n c es) (h1 : lo' ≤ lo) (h2 : hi ≤ hi') : DcnO w lo' hi' A n c es := by
  obtain ⟨hs, h⟩ := h
  refine ⟨hs, ?_, h.len, fun k x e e1 e2 => ⟨(h.one k x e e1 e2).1, (h.one k x e e1 e2).2.mono h1⟩, fun g hg => Nat.lt_of_lt_of_le (h.hiA g hg) h2, fun x hx g hg => ⟨Nat.lt_of_lt_of_le (h.his x hx g hg).1 h2, (h.his x hx g hg).2⟩, h.sep⟩
  refine ⟨h.row.1, h.row.2.imp id ?_⟩
  rintro ⟨g, cap, cur, q1, q2, q3⟩
  exact ⟨g, cap, cur, q1, by omega, q3⟩
theorem DcnO.bdA (h : DcnO w lo hi A n c es) : Bd A hi := by
  obtain ⟨hs, h⟩ := h
  exact fun a e => h.hiA a.block (by rw [e]; rfl)
end
def NewDcns (w : World) (es : List Dcn) (e : Ending) (w' : World) : Prop :=
  ∃ A c, e = .returned (.slice A es.length c) ∧ DcnO w' w.heap.size w'.heap.size A es.length c es ∧ Below w.heap.size w w'
def NewDcnsC (w : World) (p : List Dcn × Int) (e : Ending) (w' : World) : Prop :=
  ∃ A c, e = .returned (.tuple #[.slice A p.1.length c, .int .i64 p.2]) ∧ DcnO w' w.heap.size w'.heap.size A p.1.length c p.1 ∧ Below w.heap.size w w'
end Go.Proofs.Ytjcklmhgjdmjoaa
