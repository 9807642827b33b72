/- (impl.Event).compareDay, slices.BinarySearchFunc over events. (by gen_evj.py) -/
import Derived.Test.YtifioecofeojpaaEvw
namespace Go.Proofs.Ytifioecofeojpaa
open Go.ChangeShapes Go.WideShapes Go.ChangeAt Go.RowKit
set_option linter.unusedVariables false

theorem plc_eqE2 {rs : List Evt} {d : Int} {p : Nat} (hp : p ≤ rs.length) (h1 : ∀ (i : Nat) (q : Evt), i < p → rs[i]? = some q → q.d ≤ d) (h2 : ∀ (i : Nat) (q : Evt), p ≤ i → rs[i]? = some q → d < q.d) : plcE rs d = p := plc_eqE hp h1 fun q hq => h2 p q (Nat.le_refl _) hq
theorem ordI_negE (x y : Int) : decide (ordI x y < 0) = decide (x < y) := by
  unfold ordI
  by_cases h : x < y
  · simp [h]
  · by_cases h2 : x = y <;> simp [h, h2]
theorem ordI_zeroE (x y : Int) : (ordI x y == 0) = (x == y) := by
  unfold ordI
  by_cases h : x < y
  · have : x ≠ y := by omega
    simp [h, this]
  · by_cases h2 : x = y <;> simp [h, h2]
theorem cmpDay_i (p : Evt) (d : Int) (w : World) : Calls Try.prog 51 #[.agg #[.int .i64 p.d, .int .i64 p.k, .string ⟨p.c.toArray⟩, .int .i64 p.a, .bool p.p, .bool p.v, .bool p.r], .int .i64 d] w (Gives w (.int .i64 (ordI p.d d))) := by
  have B : ∀ o, Hid (Below w.heap.size w (w.alloc o)) := fun o => Lib.hid ((Below.refl _ _).alloc (Nat.le_refl _) _)
  go_enter Try.func51, Try.ntmps51
  go_wp2_with (go_at_call 83; refine (cmpI_i _ _ _).mono ?_; rintro e w' ⟨rfl, rfl⟩)
  go_ret
  exact ⟨rfl, (B _).out⟩
/-- Whether an event is on the day after. -/
def hasE (rs : List Evt) (d : Int) : Bool := match rs[plcE rs d]? with | some q => q.d == d + 1 | none => false
set_option maxRecDepth 100000 in
set_option maxHeartbeats 4000000 in
theorem binE_i (A : Option Addr) (c : Nat) (ps : List Evt) (d : Int) (w : World) (h : EvtR w A ps) (hn : ps.length ≤ 1048576) (hd0 : 0 ≤ d) (hd1 : d ≤ 36524) (ho : logB ps = true) :
    Calls Try.prog 50 #[.slice A ps.length c, .int .i64 (d + 1), .func (.func 51) #[] #[]] w
      (Gives w (.tuple #[.int .i64 (plcE ps d : Int), .bool (hasE ps d)])) := by
  have HP := Lib.hid (fun (p : Nat) (hp : p ≤ ps.length) h1 h2 => plc_eqE2 (rs := ps) (d := d) hp h1 h2)
  have HH := Lib.hid (fun (p : Evt) (hp : ps[plcE ps d]? = some p) => (by unfold hasE; rw [hp] : hasE ps d = (p.d == d + 1)))
  have HX := Lib.hid (fun (hp : plcE ps d = ps.length) => (by unfold hasE; rw [hp, List.getElem?_eq_none (Nat.le_refl _)] : hasE ps d = false))
  have HM := Lib.hid (fun (i j : Nat) (q p : Evt) (hij : i < j) (hq : ps[i]? = some q) (hp : ps[j]? = some p) => (log_before ho (Nat.le_of_lt hij) hq hp : q.d ≤ p.d))
  clear ho
  go_enter Try.func50, Try.ntmps50
  go_wp2_with fail
  go_loopw [9, 10] (fun a b wr => ∃ i j : Nat, a = .int .i64 i ∧ b = .int .i64 j ∧ i ≤ j ∧ j ≤ ps.length ∧ Hid (∀ (k : Nat) (q : Evt), k < i → ps[k]? = some q → q.d ≤ d) ∧ Hid (∀ (k : Nat) (q : Evt), j ≤ k → ps[k]? = some q → d < q.d) ∧ Below w.heap.size w wr) (fun a b _ => (intOf b).toNat - (intOf a).toNat)
  case atStart => exact ⟨0, ps.length, rfl, rfl, by omega, by omega, Lib.hid (fun k q hk => by omega), Lib.hid (fun k q hk hq => by have := (List.getElem?_eq_some_iff.1 hq).1; omega), Below.refl _ _⟩
  case round =>
    obtain ⟨i, j, rfl, rfl, hij, hj, hlo, hhi, hb⟩ := hrel
    by_cases hlt : i < j
    · obtain ⟨m, hmm⟩ : ∃ m, m = (i + j) / 2 := ⟨_, rfl⟩
      have hmi : i ≤ m := by omega
      have hmj : m < j := by omega
      have e1 : ((i : Int) + (j : Int)) / 2 = (m : Int) := by omega
      obtain ⟨b, off, q, rfl, hl, hq, h4⟩ := (h.below hb).at (show m < ps.length by omega)
      have c0 := h4.c0; have c1 := h4.c1; have c2 := h4.c2; have c3 := h4.c3; have c4 := h4.c4; have c5 := h4.c5; have c6 := h4.c6
      have HC := Lib.hid (fun w => cmpDay_i q (d + 1) w)
      have hneg := ordI_negE q.d (d + 1)
      have HY := Lib.hid (fun (hb : q.d ≤ d) (k : Nat) (p : Evt) (hk : k < m + 1) (hp : ps[k]? = some p) => (by
        rcases Nat.lt_or_ge k m with h1 | h1
        · have := HM.out k m p q h1 hp hq.out; omega
        · obtain rfl : k = m := by omega
          rw [hq.out] at hp; obtain rfl := Option.some.inj hp; exact hb : p.d ≤ d))
      have HZ := Lib.hid (fun (hb : d < q.d) (k : Nat) (p : Evt) (hk : m ≤ k) (hp : ps[k]? = some p) => (by
        rcases Nat.lt_or_ge m k with h1 | h1
        · have := HM.out m k q p h1 hq.out hp; omega
        · obtain rfl : k = m := by omega
          rw [hq.out] at hp; obtain rfl := Option.some.inj hp; exact hb : d < p.d))
      by_cases hbe : q.d ≤ d
      · have HX : Hid (∀ (k : Nat) (p : Evt), k < m + 1 → ps[k]? = some p → p.d ≤ d) := Lib.hid (HY.out hbe)
        rw [decide_eq_true (show q.d < d + 1 by omega)] at hneg
        clear h4 h hq hmm HM HP HH HY HZ hbe
        generalize ordI q.d (d + 1) = o at *
        go_wp2_with (go_at_call 51; refine (HC.out _).mono ?_; rintro e w1 ⟨rfl, b1⟩)
        go_roundw
        case rel => exact ⟨m + 1, j, by go_num, rfl, by omega, by omega, HX, hhi, belowGo hb b1⟩
        case measure => simp [intOf]; omega
      · have HX : Hid (∀ (k : Nat) (p : Evt), m ≤ k → ps[k]? = some p → d < p.d) := Lib.hid (HZ.out (by omega))
        rw [decide_eq_false (show ¬ q.d < d + 1 by omega)] at hneg
        clear h4 h hq hmm HM HP HH HY HZ hbe
        generalize ordI q.d (d + 1) = o at *
        go_wp2_with (go_at_call 51; refine (HC.out _).mono ?_; rintro e w1 ⟨rfl, b1⟩)
        go_roundw
        case rel => exact ⟨i, m, rfl, rfl, by omega, by omega, hlo, HX, belowGo hb b1⟩
        case measure => simp [intOf]; omega
    · obtain rfl : i = j := by omega
      have hp := HP.out i hj hlo.out hhi.out
      have HE : Hid (plcE ps d = i) := Lib.hid hp
      by_cases hlen : i < ps.length
      · obtain ⟨b, off, q, rfl, hl, hq, h4⟩ := (h.below hb).at hlen
        have c0 := h4.c0; have c1 := h4.c1; have c2 := h4.c2; have c3 := h4.c3; have c4 := h4.c4; have c5 := h4.c5; have c6 := h4.c6
        have HC := Lib.hid (fun w => cmpDay_i q (d + 1) w)
        have HZ : Hid (hasE ps d = (ordI q.d (d + 1) == 0)) := Lib.hid (by rw [ordI_zeroE]; exact HH.out q (by rw [hp]; exact hq.out))
        clear h4 h hq HM HP HH HX hp hlo hhi
        generalize ordI q.d (d + 1) = o at *
        go_wp2_with (go_at_call 51; refine (HC.out _).mono ?_; rintro e w1 ⟨rfl, b1⟩)
        go_ret2
        exact ⟨by rw [HE.out, HZ.out] <;> rfl, belowGo hb b1⟩
      · have HZ : Hid (hasE ps d = false) := Lib.hid (HX.out (by rw [hp]; omega))
        clear h HM HP HH HX hp hlo hhi
        go_wp2_with fail
        go_ret2
        exact ⟨by rw [HE.out, HZ.out] <;> rfl, hb⟩
end Go.Proofs.Ytifioecofeojpaa
