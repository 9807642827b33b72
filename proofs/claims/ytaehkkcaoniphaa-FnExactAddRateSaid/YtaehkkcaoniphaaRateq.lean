/- laws.eqRateS: equal rates are told equal. -/
import Derived.Test.YtaehkkcaoniphaaRates
namespace Go.Proofs.Ytaehkkcaoniphaa
open Go.ChangeShapes Go.WideShapes Go.ChangeAt Go.RowKit
set_option linter.unusedVariables false

/-- The four cells of a rate. -/
structure Cells4 (W : World) (b o : Nat) (r : Rt) : Prop where
  c0 : W.cell? ⟨b, o, none⟩ = some (.string ⟨r.c.toArray⟩)
  c1 : W.cell? ⟨b, o + 1, none⟩ = some (.int .i64 r.day)
  c2 : W.cell? ⟨b, o + 2, none⟩ = some (.int .i64 r.num)
  c3 : W.cell? ⟨b, o + 3, none⟩ = some (.int .i64 r.den)
theorem Cells4.below {w W : World} {b o : Nat} {r : Rt} (h : Cells4 w b o r) (hl : b < w.heap.size) (hb : Below w.heap.size w W) : Cells4 W b o r :=
  ⟨(hb.cell (p := ⟨b, o, none⟩) hl).trans h.c0, (hb.cell (p := ⟨b, o + 1, none⟩) hl).trans h.c1, (hb.cell (p := ⟨b, o + 2, none⟩) hl).trans h.c2, (hb.cell (p := ⟨b, o + 3, none⟩) hl).trans h.c3⟩
theorem Rr.four {w : World} {A : Option Addr} {rs : List Rt} (h : Rr w A rs) {k : Nat} (hk : k < rs.length) :
    ∃ b off r, A = some ⟨b, off, none⟩ ∧ b < w.heap.size ∧ Hid (rs[k]? = some r) ∧ Cells4 w b (off + k * 4) r := by
  obtain ⟨b, off, r, e, hl, hr, c0, c1, c2, c3⟩ := h.at hk
  exact ⟨b, off, r, e, hl, hr, c0, c1, c2, c3⟩
/-- Two rates stand as they did; nothing below is written. -/
def Held2 (w0 : World) (b o b' o' : Nat) (r q : Rt) (W : World) : Prop :=
  Below w0.heap.size w0 W ∧ W.cell? ⟨b, o, none⟩ = some (.string ⟨r.c.toArray⟩) ∧ W.cell? ⟨b, o + 1, none⟩ = some (.int .i64 r.day) ∧ W.cell? ⟨b, o + 2, none⟩ = some (.int .i64 r.num) ∧ W.cell? ⟨b, o + 3, none⟩ = some (.int .i64 r.den) ∧
    W.cell? ⟨b', o', none⟩ = some (.string ⟨q.c.toArray⟩) ∧ W.cell? ⟨b', o' + 1, none⟩ = some (.int .i64 q.day) ∧ W.cell? ⟨b', o' + 2, none⟩ = some (.int .i64 q.num) ∧ W.cell? ⟨b', o' + 3, none⟩ = some (.int .i64 q.den)
theorem held2 {w0 W : World} {b o b' o' : Nat} {r q : Rt} (h : Cells4 w0 b o r) (hl : b < w0.heap.size) (h' : Cells4 w0 b' o' q) (hl' : b' < w0.heap.size) (hb : Below w0.heap.size w0 W) :
    Below w0.heap.size w0 W ∧ W.cell? ⟨b, o, none⟩ = some (.string ⟨r.c.toArray⟩) ∧ W.cell? ⟨b, o + 1, none⟩ = some (.int .i64 r.day) ∧ W.cell? ⟨b, o + 2, none⟩ = some (.int .i64 r.num) ∧ W.cell? ⟨b, o + 3, none⟩ = some (.int .i64 r.den) ∧
    W.cell? ⟨b', o', none⟩ = some (.string ⟨q.c.toArray⟩) ∧ W.cell? ⟨b', o' + 1, none⟩ = some (.int .i64 q.day) ∧ W.cell? ⟨b', o' + 2, none⟩ = some (.int .i64 q.num) ∧ W.cell? ⟨b', o' + 3, none⟩ = some (.int .i64 q.den) := by
  have g := h.below hl hb
  have g' := h'.below hl' hb
  exact ⟨hb, g.c0, g.c1, g.c2, g.c3, g'.c0, g'.c1, g'.c2, g'.c3⟩
theorem eqRate_same (r : Rt) (w0 W : World) (hb : Below w0.heap.size w0 W) : Calls Try.prog 62 #[.agg #[.string ⟨r.c.toArray⟩, .int .i64 r.day, .int .i64 r.num, .int .i64 r.den], .agg #[.string ⟨r.c.toArray⟩, .int .i64 r.day, .int .i64 r.num, .int .i64 r.den]] W
    fun e w' => e = .returned (.bool true) ∧ Below w0.heap.size w0 w' := by
  refine (eqRate_l r r W).mono ?_
  rintro e w' ⟨rfl, b1⟩
  exact ⟨by simp, belowGo hb b1⟩

set_option maxHeartbeats 2000000 in
theorem eqRateS_l (A B : Option Addr) (c d : Nat) (rs : List Rt) (w : World) (hx : Rr w A rs) (hy : Rr w B rs) (hn : rs.length ≤ 1000000000) :
    Calls Try.prog 36 #[.slice A rs.length c, .slice B rs.length d] w (Gives w (.bool true)) := by
  go_enter Try.func36, Try.ntmps36
  go_wp2_with fail
  go_loopw [5] (fun i wr => ∃ k : Nat, k ≤ rs.length ∧ i = .int .i64 k ∧ Below w.heap.size w wr) (fun i _ => rs.length - (intOf i).toNat)
  case atStart => exact ⟨0, Nat.zero_le _, rfl, Below.refl _ _⟩
  case round =>
    obtain ⟨k, hk, rfl, hb⟩ := hrel
    by_cases hlt : k < rs.length
    · obtain ⟨b, off, r, rfl, hl, hr, h4⟩ := (hx.below hb).four hlt
      obtain ⟨b', off', q, rfl, hl', hq, h4'⟩ := (hy.below hb).four hlt
      obtain rfl : r = q := by have h1 := hr.out; have h2 := hq.out; rw [h1] at h2; exact Option.some.inj h2
      have HK := Lib.hid (fun W (hW : Below wr.heap.size wr W) => held2 h4 hl h4' hl' hW)
      have HE := Lib.hid (fun W (hW : Below wr.heap.size wr W) => eqRate_same r wr W hW)
      have k0 := HK.out _ ((Below.refl wr.heap.size wr).drew)
      have c0 := h4.c0; have c1 := h4.c1; have c2 := h4.c2; have c3 := h4.c3
      have d0 := h4'.c0; have d1 := h4'.c1; have d2 := h4'.c2; have d3 := h4'.c3
      clear hx hy hr hq h4 h4'
      go_wp2_with fail
      go_region_held3 (fun W => Below wr.heap.size wr W ∧ W.cell? ⟨b, off + k * 4, none⟩ = some (.string ⟨r.c.toArray⟩) ∧ W.cell? ⟨b, off + k * 4 + 1, none⟩ = some (.int .i64 r.day) ∧ W.cell? ⟨b, off + k * 4 + 2, none⟩ = some (.int .i64 r.num) ∧ W.cell? ⟨b, off + k * 4 + 3, none⟩ = some (.int .i64 r.den) ∧
          W.cell? ⟨b', off' + k * 4, none⟩ = some (.string ⟨r.c.toArray⟩) ∧ W.cell? ⟨b', off' + k * 4 + 1, none⟩ = some (.int .i64 r.day) ∧ W.cell? ⟨b', off' + k * 4 + 2, none⟩ = some (.int .i64 r.num) ∧ W.cell? ⟨b', off' + k * 4 + 3, none⟩ = some (.int .i64 r.den))
        (first | exact k0 | assumption | exact HK.out _ (by assumption))
        (first | (go_at_call 62; refine (HE.out _ ?_).mono ?_; (first | assumption | exact (by assumption : _ ∧ _).1); rintro e w1 ⟨rfl, b1⟩))
      all_goals
        go_wp2_with fail
        go_roundw
        case rel => exact ⟨k + 1, by omega, by go_num, belowGo hb (by first | assumption | exact (by assumption : _ ∧ _).1)⟩
        case measure => simp [intOf]; omega
    · clear hx hy
      go_wp2_with fail
      go_ret
      exact ⟨rfl, hb⟩
end Go.Proofs.Ytaehkkcaoniphaa
