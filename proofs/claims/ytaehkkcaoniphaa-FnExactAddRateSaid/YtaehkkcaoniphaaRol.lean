/- spec.RateOn; the law of RateOn. -/
import Derived.Test.YtaehkkcaoniphaaRat
import Derived.Test.YtaehkkcaoniphaaCod
import Derived.Test.YtaehkkcaoniphaaSrt
namespace Go.Proofs.Ytaehkkcaoniphaa
open Go.ChangeShapes Go.WideShapes Go.ChangeAt Go.RowKit
set_option linter.unusedVariables false

theorem rate_nn {rs : List Rt} (ht : tabB rs = true) (c : List UInt8) (day : Int) : 0 ≤ (rateL c day rs).2 := by
  unfold rateL
  split
  · decide
  · split
    · decide
    · rename_i r hr
      obtain ⟨k, hk, _⟩ := lastOn_some hr
      have := Rt.ok_iff.1 (tab_ok ht hk)
      show 0 ≤ r.den
      omega
def cdO (rs : List Rt) (f t : List UInt8) (day : Int) (ba : Bool) : Int := cdB (tabB rs) (codeB f) (codeB t) (inr day 0 36524) ba
theorem cdB_0 {bt bf bc bd ba : Bool} (h : cdB bt bf bc bd ba = 0) : bt = true ∧ bf = true ∧ bc = true ∧ bd = true ∧ ba = true := by
  revert bt bf bc bd ba; decide
theorem ratesC_one {rs : List Rt} {c : List UInt8} {day : Int} : ratesC rs day [c] = if cdO rs c c day true = 0 then (if noRate rs day c = true then 4 else 0) else cdO rs c c day true := by
  unfold ratesC cdO
  simp only [List.all_cons, List.all_nil, List.any_cons, List.any_nil, Bool.and_true, Bool.or_false]
  generalize tabB rs = a
  generalize codeB c = b
  generalize inr day 0 36524 = d
  generalize noRate rs day c = e
  revert a b d e; decide
theorem no_rate {rs : List Rt} (ht : tabB rs = true) {c : List UInt8} {day : Int} : noRate rs day c = true ↔ ¬ 0 < (rateL c day rs).2 := by
  have := rate_nn ht c day
  unfold noRate; rw [beq_iff_eq]; omega
theorem rateR_a {rs : List Rt} {c : List UInt8} {day k : Int} (h : cdO rs c c day true = k) (hk : k ≠ 0) : rateR rs c day = (0, 0, k) := by
  have : ratesC rs day [c] = k := by rw [ratesC_one, h, if_neg hk]
  unfold rateR; rw [this, if_neg hk]
theorem rateR_b {rs : List Rt} {c : List UInt8} {day : Int} (h : cdO rs c c day true = 0) (hd : 0 < (rateL c day rs).2) : rateR rs c day = ((rateL c day rs).1, (rateL c day rs).2, 0) := by
  have h1 : noRate rs day c = false := by
    cases e : noRate rs day c with
    | false => rfl
    | true => exact absurd hd ((no_rate (cdB_0 h).1).1 e)
  have : ratesC rs day [c] = 0 := by rw [ratesC_one, h, if_pos rfl, h1]; rfl
  unfold rateR; rw [if_pos this]
theorem rateR_c {rs : List Rt} {c : List UInt8} {day : Int} (h : cdO rs c c day true = 0) (hd : ¬ 0 < (rateL c day rs).2) : rateR rs c day = (0, 0, 4) := by
  have : ratesC rs day [c] = 4 := by rw [ratesC_one, h, if_pos rfl, (no_rate (cdB_0 h).1).2 hd]; rfl
  unfold rateR; rw [this]; rfl

set_option maxRecDepth 100000 in
set_option maxHeartbeats 4000000 in
theorem rateOn_s (A : Option Addr) (d : Nat) (rs : List Rt) (c : List UInt8) (day : Int) (w : World) (h : Tbl w A rs) (hc : c.length ≤ 9223372036854775807) :
    Calls Try.prog 15 #[.slice A rs.length d, .string ⟨c.toArray⟩, .int .i64 day] w (Gives w (.tuple #[.int .i64 (rateR rs c day).1, .int .i64 (rateR rs c day).2.1, .int .i64 (rateR rs c day).2.2])) := by
  have HC := Lib.hid (l03Code_q (d := d) (amount := 0) h hc hc rfl rfl rfl rfl (show amt 0 = true from rfl) (t := c) (f := c) (day := day))
  have HA := Lib.hid (fun k => @rateR_a rs c day k)
  have HB := Lib.hid (@rateR_b rs c day)
  have HN := Lib.hid (@rateR_c rs c day)
  have HR := Lib.hid (fun w' (hb : Below w.heap.size w w') => l03Rate_s A d rs c day w' (h.below hb))
  rw [show cdB (tabB rs) (codeB c) (codeB c) (inr day 0 36524) true = cdO rs c c day true from rfl] at HC
  generalize cdO rs c c day true = k at *
  generalize rateR rs c day = R at *
  generalize rateL c day rs = p at *
  obtain ⟨n, m⟩ := p
  simp only at HB HN HR
  clear h
  by_cases hk : k = 0
  · subst hk
    by_cases hm : 0 < m
    · have E := Lib.hid (HB.out rfl hm)
      have hm2 : decide (0 < m) = true := by simpa using hm
      rw [hm2] at HR
      clear HA HB HN
      go_enter Try.func15, Try.ntmps15
      go_wp2_with (first
        | (go_at_call 46; refine HC.out.mono ?_; rintro e w1 ⟨rfl, b1⟩)
        | (go_at_call 57; refine (HR.out _ b1).mono ?_; rintro e w' ⟨rfl, rfl⟩))
      go_ret3
      rw [E.out]
      exact ⟨rfl, b1⟩
    · have E := Lib.hid (HN.out rfl hm)
      have hm2 : decide (0 < m) = false := by simpa using hm
      rw [hm2] at HR
      clear HA HB HN
      go_enter Try.func15, Try.ntmps15
      go_wp2_with (first
        | (go_at_call 46; refine HC.out.mono ?_; rintro e w1 ⟨rfl, b1⟩)
        | (go_at_call 57; refine (HR.out _ b1).mono ?_; rintro e w' ⟨rfl, rfl⟩))
      go_ret3
      rw [E.out]
      exact ⟨rfl, b1⟩
  · have E := Lib.hid (HA.out k rfl hk)
    clear HA HB HN HR
    go_enter Try.func15, Try.ntmps15
    go_wp2_with (go_at_call 46; refine HC.out.mono ?_; rintro e w1 ⟨rfl, b1⟩)
    go_ret3
    rw [E.out]
    exact ⟨rfl, b1⟩

end Go.Proofs.Ytaehkkcaoniphaa
