/- laws.eqRateS: equal rates are told equal. -/
import Derived.Test.YtpdkgjmppknbpaaRates
namespace Go.Proofs.Ytpdkgjmppknbpaa
open Go.ChangeShapes Go.WideShapes Go.ChangeAt Go.RowKit
set_option linter.unusedVariables false

/-- The four cells of a rate. -/
structure Cells4 (W : World) (b o : Nat) (r : Rt) : Prop where
  c0 : W.cell? ⟨b, o, none⟩ = some (.string ⟨r.c.toArray⟩)
  c1 : W.cell? ⟨b, o + 1, none⟩ = some (.int .i64 r.day)
  c2 : W.cell? ⟨b, o + 2, none⟩ = some (.int .i64 r.num)
  c3 : W.cell? ⟨b, o + 3, none⟩ = some (.int .i64 r.den)
theorem Cells4.below {w W : World} {b o : Nat} {r : Rt} (h : Cells4 w b o r) (hl : b < w.heap.size) (hb : Below w.heap.size w W) : Cells4 W b o r :=
  ⟨(hb.cell (p := ⟨b, o, none⟩) hl).trans h.c0, (hb.cell (p := ⟨b, o + 1, none⟩) hl).trans h.c1, (hb.cell (p := ⟨b, o + 2, none⟩) hl).trans h.c2, (hb.cell (p := ⟨b, o + 3, none⟩) hl).trans h.c3⟩
theorem Rr.four {w : World} {A : Option Addr} {rs : List Rt} (h : Rr w A rs) {k : Nat} (hk : k < rs.length) :
    ∃ b off r, A = some ⟨b, off, none⟩ ∧ b < w.heap.size ∧ Hid (rs[k]? = some r) ∧ Cells4 w b (off + k * 4) r := by
  obtain ⟨b, off, r, e, hl, hr, c0, c1, c2, c3⟩ := h.at hk
  exact ⟨b, off, r, e, hl, hr, c0, c1, c2, c3⟩
/-- Two rates stand as they did; nothing below is written. -/
def Held2 (w0 : World) (b o b' o' : Nat) (r q : Rt) (W : World) : Prop :=
  Below w0.heap.size w0 W ∧ W.cell? ⟨b, o, none⟩ = some (.string ⟨r.c.toArray⟩) ∧ W.cell? ⟨b, o + 1, none⟩ = some (.int .i64 r.day) ∧ W.cell? ⟨b, o + 2, none⟩ = some (.int .i64 r.num) ∧ W.cell? ⟨b, o + 3, none⟩ = some (.int .i64 r.den) ∧
    W.cell? ⟨b', o', none⟩ = some (.string ⟨q.c.toArray⟩) ∧ W.cell? ⟨b', o' + 1, none⟩ = some (.int .i64 q.day) ∧ W.cell? ⟨b', o' + 2, none⟩ = some (.int .i64 q.num) ∧ W.cell? ⟨b', o' + 3, none⟩ = some (.int .i64 q.den)
theorem held2 {w0 W : World} {b o b' o' : Nat} {r q : Rt} (h : Cells4 w0 b o r) (hl : b < w0.heap.size) (h' : Cells4 w0 b' o' q) (hl' : b' < w0.heap.size) (hb : Below w0.heap.size w0 W) :
    Below w0.heap.size w0 W ∧ W.cell? ⟨b, o, none⟩ = some (.string ⟨r.c.toArray⟩) ∧ W.cell? ⟨b, o + 1, none⟩ = some (.int .i64 r.day) ∧ W.cell? ⟨b, o + 2, none⟩ = some (.int .i64 r.num) ∧ W.cell? ⟨b, o + 3, none⟩ = some (.int .i64 r.den) ∧
    W.cell? ⟨b', o', none⟩ = some (.string ⟨q.c.toArray⟩) ∧ W.cell? ⟨b', o' + 1, none⟩ = some (.int .i64 q.day) ∧ W.cell? ⟨b', o' + 2, none⟩ = some (.int .i64 q.num) ∧ W.cell? ⟨b', o' + 3, none⟩ = some (.int .i64 q.den) := by
  have g := h.below hl hb
  have g' := h'.below hl' hb
  exact ⟨hb, g.c0, g.c1, g.c2, g.c3, g'.c0, g'.c1, g'.c2, g'.c3⟩
end Go.Proofs.Ytpdkgjmppknbpaa
