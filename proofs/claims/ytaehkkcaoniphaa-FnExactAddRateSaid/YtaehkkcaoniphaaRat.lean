/- RateOn: both sides. -/
import Derived.Test.YtaehkkcaoniphaaRon
import Derived.Test.YtaehkkcaoniphaaDwl
import Derived.Test.YtaehkkcaoniphaaTabs
namespace Go.Proofs.Ytaehkkcaoniphaa
open Go.ChangeShapes Go.WideShapes Go.ChangeAt Go.RowKit
set_option linter.unusedVariables false

def rateR (rs : List Rt) (c : List UInt8) (day : Int) : Int × Int × Int :=
  if ratesC rs day [c] = 0 then ((rateL c day rs).1, (rateL c day rs).2, 0) else (0, 0, ratesC rs day [c])
/-- One rate or an error. -/
theorem rates_one {w : World} {rs : List Rt} {day : Int} {c : List UInt8} {e : Ending} {w' : World} (h : RatesP w rs day [c] e w') :
    (∃ b off q r, e = .returned (.tuple #[.slice (some ⟨b, off, none⟩) 1 q, .int .i64 0]) ∧ ratesC rs day [c] = 0 ∧ Cells4 w' b off r ∧ GoodR rs day c r ∧ Below w.heap.size w w') ∨
    (∃ A n q k, e = .returned (.tuple #[.slice A n q, .int .i64 k]) ∧ ratesC rs day [c] = k ∧ k ≠ 0 ∧ Below w.heap.size w w') := by
  obtain ⟨A, q, ys, rfl, ho, hg, hb⟩ := h
  by_cases hk : ratesC rs day [c] = 0
  · left
    have hg := hg hk
    obtain ⟨r, h1, h2⟩ := hg.2 0 c rfl
    have hl : ys.length = 1 := hg.1
    rw [hl] at ho
    obtain ⟨b, off, r', rfl, _, hr, h4⟩ := ho.rr.four (k := 0) (by omega)
    rw [hr.out] at h1
    obtain rfl := Option.some.inj h1
    refine ⟨b, off, q, r', by rw [hl, hk], hk, by simpa using h4, h2, hb⟩
  · exact .inr ⟨A, _, q, _, rfl, rfl, hk, hb⟩
theorem sr_one (w : World) (c : List UInt8) : Sr (w.alloc (.cells #[.string ⟨c.toArray⟩] 9)) (some ⟨w.heap.size, 0, none⟩) [c] := fun _ =>
  ⟨w.heap.size, 0, rfl, by simp, fun j v hj => by
    rw [Nat.zero_add, cell_of_row _ _ _ _ _ _ (heap_alloc_new _ _)]
    simpa [encStr] using hj⟩

set_option maxRecDepth 100000 in
set_option maxHeartbeats 4000000 in
theorem rateOn_i (A : Option Addr) (d : Nat) (rs : List Rt) (c : List UInt8) (day : Int) (w : World) (h : Tbl w A rs) (hc : c.length ≤ 9223372036854775807) :
    Calls Try.prog 14 #[.slice A rs.length d, .string ⟨c.toArray⟩, .int .i64 day] w (Gives w (.tuple #[.int .i64 (rateR rs c day).1, .int .i64 (rateR rs c day).2.1, .int .i64 (rateR rs c day).2.2])) := by
  have b0 := below_alloc w (.cells #[.string ⟨c.toArray⟩] 9)
  have HR := Lib.hid (ratesOn_i A d rs day (some ⟨w.heap.size, 0, none⟩) 1 [c] _ (h.below b0) (sr_one w c) (by simpa using hc) (by simp))
  have E0 : Hid (∀ (r : Rt), ratesC rs day [c] = 0 → GoodR rs day c r → rateR rs c day = (r.num, r.den, 0)) := Lib.hid fun r h1 h2 => by unfold rateR; rw [if_pos h1, h2.1]
  have E1 : Hid (∀ k, ratesC rs day [c] = k → k ≠ 0 → rateR rs c day = (0, 0, k)) := Lib.hid fun k h1 h2 => by subst h1; unfold rateR; rw [if_neg h2]
  go_enter Try.func14, Try.ntmps14
  go_wp2_with (go_at_call 56; refine HR.out.mono ?_; rintro e w1 hp
               rcases rates_one hp with ⟨b, off, q, r, rfl, hk, h4, hg, b1⟩ | ⟨G, n, q, k, rfl, hk, hk0, b1⟩)
  · have E := Lib.hid (E0.out r hk hg)
    have c2 := h4.c2
    have c3 := h4.c3
    have t1 := belowGo b0 b1
    clear HR E0 E1 hp hk hg h4 h b0 b1
    go_quiet (fail)
    go_wp2_with fail
    go_ret3
    rw [E.out]
    exact ⟨rfl, belowGo t1 (below_drewN _ _)⟩
  · go_ret3
    rw [E1.out k hk hk0]
    exact ⟨rfl, belowGo b0 b1⟩

end Go.Proofs.Ytaehkkcaoniphaa
