/- impl: compareYear, the search, EditionFor. -/
import Derived.Test.YtpdkgjmppknbpaaEdi
import Derived.Test.YtpdkgjmppknbpaaCmp
namespace Go.Proofs.Ytpdkgjmppknbpaa
open Go.ChangeShapes Go.WideShapes Go.ChangeAt Go.RowKit
set_option linter.unusedVariables false

theorem ordI_negL (x y : Int) : decide (ordI x y < 0) = decide (x < y) := by
  unfold ordI
  by_cases h : x < y
  · simp [h]
  · by_cases h2 : x = y <;> simp [h, h2]
theorem ordI_zeroL (x y : Int) : (ordI x y == 0) = (x == y) := by
  unfold ordI
  by_cases h : x < y
  · have : x ≠ y := by omega
    simp [h, this]
  · by_cases h2 : x = y <;> simp [h, h2]
theorem cmpYear_i (y : Int) (A : Option Addr) (n c : Nat) (d : Int) (w : World) : Calls Try.prog 85 #[.agg #[.int .i64 y, .slice A n c], .int .i64 d] w (Gives w (.int .i64 (ordI y d))) := by
  have B : ∀ o, Hid (Below w.heap.size w (w.alloc o)) := fun o => Lib.hid ((Below.refl _ _).alloc (Nat.le_refl _) _)
  go_enter Try.func85, Try.ntmps85
  go_wp2_with (go_at_call 106; refine (cmpI_i _ _ _).mono ?_; rintro e w' ⟨rfl, rfl⟩)
  go_ret
  exact ⟨rfl, (B _).out⟩
theorem plc_eqL2 {es : List Edn} {y : Int} {p : Nat} (hp : p ≤ es.length) (h1 : ∀ (i : Nat) (q : Edn), i < p → es[i]? = some q → q.y < y) (h2 : ∀ (i : Nat) (q : Edn), p ≤ i → es[i]? = some q → y ≤ q.y) : plcL es y = p :=
  plc_eqL hp h1 fun q hq => h2 p q (Nat.le_refl _) hq
set_option maxRecDepth 100000 in
set_option maxHeartbeats 4000000 in
theorem binL_i (A : Option Addr) (c : Nat) (ps : List Edn) (d : Int) (w : World) (h : LTbl w A ps) (ho : lbB ps = true) :
    Calls Try.prog 84 #[.slice A ps.length c, .int .i64 d, .func (.func 85) #[] #[]] w
      (Gives w (.tuple #[.int .i64 (plcL ps d : Int), .bool (hasL ps d)])) := by
  have LL := lb_of ho
  have hn := LL.len.2
  have HP := Lib.hid (fun (p : Nat) (hp : p ≤ ps.length) h1 h2 => plc_eqL2 (es := ps) (y := d) hp h1 h2)
  have HH := Lib.hid (fun (p : Edn) (hp : ps[plcL ps d]? = some p) => (by unfold hasL; rw [hp] : hasL ps d = (p.y == d)))
  have HX := Lib.hid (fun (hp : plcL ps d = ps.length) => (by unfold hasL; rw [hp, List.getElem?_eq_none (Nat.le_refl _)] : hasL ps d = false))
  have HM := Lib.hid (fun (i j : Nat) (q p : Edn) (hij : i < j) (hq : ps[i]? = some q) (hp : ps[j]? = some p) => (lb_mono LL hij hq hp : q.y < p.y))
  clear ho LL
  go_enter Try.func84, Try.ntmps84
  go_wp2_with fail
  go_loopw [9, 10] (fun a b wr => ∃ i j : Nat, a = .int .i64 i ∧ b = .int .i64 j ∧ i ≤ j ∧ j ≤ ps.length ∧ Hid (∀ (k : Nat) (q : Edn), k < i → ps[k]? = some q → q.y < d) ∧ Hid (∀ (k : Nat) (q : Edn), j ≤ k → ps[k]? = some q → d ≤ q.y) ∧ Below w.heap.size w wr) (fun a b _ => (intOf b).toNat - (intOf a).toNat)
  case atStart => exact ⟨0, ps.length, rfl, rfl, by omega, by omega, Lib.hid (fun k q hk => by omega), Lib.hid (fun k q hk hq => by have := (List.getElem?_eq_some_iff.1 hq).1; omega), Below.refl _ _⟩
  case round =>
    obtain ⟨i, j, rfl, rfl, hij, hj, hlo, hhi, hb⟩ := hrel
    by_cases hlt : i < j
    · obtain ⟨m, hmm⟩ : ∃ m, m = (i + j) / 2 := ⟨_, rfl⟩
      have hmi : i ≤ m := by omega
      have hmj : m < j := by omega
      have e1 : ((i : Int) + (j : Int)) / 2 = (m : Int) := by omega
      obtain ⟨b, off, q, a, cp, rfl, hl, hq, c0, c1, hct⟩ := (h.below hb).at (show m < ps.length by omega)
      have HC := Lib.hid (fun w => cmpYear_i q.y a q.cs.length cp d w)
      have hneg := ordI_negL q.y d
      have HY := Lib.hid (fun (hb : q.y < d) (k : Nat) (p : Edn) (hk : k < m + 1) (hp : ps[k]? = some p) => (by
        rcases Nat.lt_or_ge k m with h1 | h1
        · have := HM.out k m p q h1 hp hq.out; omega
        · obtain rfl : k = m := by omega
          rw [hq.out] at hp; obtain rfl := Option.some.inj hp; exact hb : p.y < d))
      have HZ := Lib.hid (fun (hb : d ≤ q.y) (k : Nat) (p : Edn) (hk : m ≤ k) (hp : ps[k]? = some p) => (by
        rcases Nat.lt_or_ge m k with h1 | h1
        · have := HM.out m k q p h1 hq.out hp; omega
        · obtain rfl : k = m := by omega
          rw [hq.out] at hp; obtain rfl := Option.some.inj hp; exact hb : d ≤ p.y))
      by_cases hbe : q.y < d
      · have HX : Hid (∀ (k : Nat) (p : Edn), k < m + 1 → ps[k]? = some p → p.y < d) := Lib.hid (HY.out hbe)
        rw [decide_eq_true hbe] at hneg
        clear hct h hq hmm HM HP HH HY HZ hbe
        generalize ordI q.y d = o at *
        go_wp2_with (go_at_call 85; refine (HC.out _).mono ?_; rintro e w1 ⟨rfl, b1⟩)
        go_roundw
        case rel => exact ⟨m + 1, j, by go_num, rfl, by omega, by omega, HX, hhi, belowGo hb b1⟩
        case measure => simp [intOf]; omega
      · have HX : Hid (∀ (k : Nat) (p : Edn), m ≤ k → ps[k]? = some p → d ≤ p.y) := Lib.hid (HZ.out (by omega))
        rw [decide_eq_false hbe] at hneg
        clear hct h hq hmm HM HP HH HY HZ hbe
        generalize ordI q.y d = o at *
        go_wp2_with (go_at_call 85; refine (HC.out _).mono ?_; rintro e w1 ⟨rfl, b1⟩)
        go_roundw
        case rel => exact ⟨i, m, rfl, rfl, by omega, by omega, hlo, HX, belowGo hb b1⟩
        case measure => simp [intOf]; omega
    · obtain rfl : i = j := by omega
      have hp := HP.out i hj hlo.out hhi.out
      have HE : Hid (plcL ps d = i) := Lib.hid hp
      by_cases hlen : i < ps.length
      · obtain ⟨b, off, q, a, cp, rfl, hl, hq, c0, c1, hct⟩ := (h.below hb).at hlen
        have HC := Lib.hid (fun w => cmpYear_i q.y a q.cs.length cp d w)
        have HZ : Hid (hasL ps d = (ordI q.y d == 0)) := Lib.hid (by rw [ordI_zeroL]; exact HH.out q (by rw [hp]; exact hq.out))
        clear hct h hq HM HP HH HX hp hlo hhi
        generalize ordI q.y d = o at *
        go_wp2_with (go_at_call 85; refine (HC.out _).mono ?_; rintro e w1 ⟨rfl, b1⟩)
        go_ret2
        exact ⟨by rw [HE.out, HZ.out] <;> rfl, belowGo hb b1⟩
      · have HZ : Hid (hasL ps d = false) := Lib.hid (HX.out (by rw [hp]; omega))
        clear h HM HP HH HX hp hlo hhi
        go_wp2_with fail
        go_ret2
        exact ⟨by rw [HE.out, HZ.out] <;> rfl, hb⟩
theorem searchL_i (A : Option Addr) (c : Nat) (ps : List Edn) (d : Int) (w : World) (h : LTbl w A ps) (ho : lbB ps = true) :
    Calls Try.prog 55 #[.slice A ps.length c, .int .i64 d] w (Gives w (.tuple #[.int .i64 (plcL ps d : Int), .bool (hasL ps d)])) := by
  go_enter Try.func55, Try.ntmps55
  go_wp2_with fail
  refine (binL_i A c ps d w h ho).mono ?_
  rintro e w1 ⟨rfl, b1⟩
  go_wp2_with fail
  go_ret2
  exact ⟨rfl, b1⟩
set_option maxHeartbeats 2000000 in
theorem ef_i (A : Option Addr) (c : Nat) (es : List Edn) (y : Int) (w : World) (h : LTblC w A c es) :
    Calls Try.prog 18 #[.slice A es.length c, .int .i64 y] w (Gives w (.tuple #[.int .i64 (efR es y).1, .int .i64 (efR es y).2])) := by
  replace h := h.tbl
  rcases Bool.eq_false_or_eq_true (lbB es) with hr | hr
  · have HT := Lib.hid (lbI_q (c := c) h hr)
    have HS := Lib.hid (fun W (b : Below w.heap.size w W) => searchL_i A c es y W (h.below b) hr)
    have E1 := Lib.hid (@efR_has es y hr)
    have E2 := Lib.hid (@efR_bef es y hr)
    obtain ⟨p, hp⟩ : ∃ p, plcL es y = p := ⟨_, rfl⟩
    have hple := plc_leL es y
    have hn := (lb_of hr).len.2
    rw [hp] at HS E1 E2 hple
    cases hh : hasL es y with
    | true =>
      have E := Lib.hid (E1.out hh)
      rw [hh] at HS
      clear h hr hh E1 E2 hp
      go_enter Try.func18, Try.ntmps18
      go_wp2_with (first
        | (go_at_call 15; refine HT.out.mono ?_; rintro e w1 ⟨rfl, b1⟩)
        | (go_at_call 55; refine (HS.out _ b1).mono ?_; rintro e w2 ⟨rfl, b2⟩))
      go_ret2
      exact ⟨by rw [E.out] <;> rfl, belowGo b1 b2⟩
    | false =>
      have E := Lib.hid (E2.out hh)
      rw [hh] at HS
      clear h hr hh E1 E2 hp
      by_cases h0 : p = 0
      · subst h0
        rw [if_pos rfl] at E
        go_enter Try.func18, Try.ntmps18
        go_wp2_with (first
          | (go_at_call 15; refine HT.out.mono ?_; rintro e w1 ⟨rfl, b1⟩)
          | (go_at_call 55; refine (HS.out _ b1).mono ?_; rintro e w2 ⟨rfl, b2⟩))
        go_ret2
        exact ⟨by rw [E.out] <;> rfl, belowGo b1 b2⟩
      · rw [if_neg h0] at E
        have hp1 : 1 ≤ p := by omega
        go_enter Try.func18, Try.ntmps18
        go_wp2_with (first
          | (go_at_call 15; refine HT.out.mono ?_; rintro e w1 ⟨rfl, b1⟩)
          | (go_at_call 55; refine (HS.out _ b1).mono ?_; rintro e w2 ⟨rfl, b2⟩))
        go_ret2
        exact ⟨by rw [E.out] <;> rfl, belowGo b1 b2⟩
  · have HT := Lib.hid (lbI_q (c := c) h hr)
    have E := Lib.hid (@efR_no es y hr)
    clear h hr
    go_enter Try.func18, Try.ntmps18
    go_wp2_with (go_at_call 15; refine HT.out.mono ?_; rintro e w1 ⟨rfl, b1⟩)
    go_ret2
    exact ⟨by rw [E.out] <;> rfl, b1⟩
end Go.Proofs.Ytpdkgjmppknbpaa
