/- impl.IsFairShare and spec.IsFairShare. -/
import Derived.Test.YtgapkkkalandhaaCodes
namespace Go.Proofs.Ytgapkkkalandhaa
open Go.ChangeShapes Go.WideShapes Go.ChangeAt Go.RowKit
set_option linter.unusedVariables false

def fairOk (q r p : Int) : Bool := decide (p = q ∨ (p = q + 1 ∧ 0 < r))
def fairs (t s : Int) : List Int → List Int → Bool
  | p :: ps, x :: xs => fairOk (t * x / s) (t * x % s) p && fairs t s ps xs
  | _, _ => true
theorem fairs_step {t s p x : Int} {ps xs : List Int} {k : Nat} (hp : ps[k]? = some p) (hx : xs[k]? = some x) (h : fairs t s ps xs = fairs t s (ps.drop k) (xs.drop k)) (hf : fairOk (t * x / s) (t * x % s) p = true) :
    fairs t s ps xs = fairs t s (ps.drop (k + 1)) (xs.drop (k + 1)) := by
  rw [h, drop_of hp, drop_of hx]; simp [fairs, hf]
theorem fairs_no {t s p x : Int} {ps xs : List Int} {k : Nat} (hp : ps[k]? = some p) (hx : xs[k]? = some x) (h : fairs t s ps xs = fairs t s (ps.drop k) (xs.drop k)) (hf : fairOk (t * x / s) (t * x % s) p = false) :
    fairs t s ps xs = false := by
  rw [h, drop_of hp, drop_of hx]; simp [fairs, hf]
theorem fairs_end {t s : Int} {ps xs : List Int} {k : Nat} (hk : ¬ k < ps.length) (h : fairs t s ps xs = fairs t s (ps.drop k) (xs.drop k)) : fairs t s ps xs = true := by
  rw [h, List.drop_of_length_le (by omega)]; simp [fairs]

def fairR (t : Int) (xs ps : List Int) : Bool × Int :=
  if amts ps = true then if codeR t xs = 0 then if ps.length = xs.length ∧ isum ps = t then (fairs t (isum xs) ps xs, 0) else (false, 0) else (false, codeR t xs) else (false, 2)
theorem fairR_1 {t : Int} {xs ps : List Int} (h : amts ps = false) : fairR t xs ps = (false, 2) := by simp [fairR, h]
theorem fairR_2 {t : Int} {xs ps : List Int} (h : amts ps = true) (h2 : ¬ codeR t xs = 0) : fairR t xs ps = (false, codeR t xs) := by simp [fairR, h, h2]
theorem fairR_3 {t : Int} {xs ps : List Int} (h : amts ps = true) (h2 : codeR t xs = 0) (h3 : ¬ (ps.length = xs.length ∧ isum ps = t)) : fairR t xs ps = (false, 0) := by
  unfold fairR; rw [if_pos h, if_pos h2, if_neg h3]
theorem fairR_4 {t : Int} {xs ps : List Int} (h : amts ps = true) (h2 : codeR t xs = 0) (h3 : ps.length = xs.length) (h4 : isum ps = t) : fairR t xs ps = (fairs t (isum xs) ps xs, 0) := by
  unfold fairR; rw [if_pos h, if_pos h2, if_pos ⟨h3, h4⟩]
theorem len_lt {α : Type} {xs : List α} {k : Nat} {x : α} (h : xs[k]? = some x) : k < xs.length := by
  rcases Nat.lt_or_ge k xs.length with hk | hk
  · exact hk
  · rw [List.getElem?_eq_none hk] at h; cases h

def Fair (w : World) (r : Bool × Int) (e : Ending) (w' : World) : Prop := e = .returned (.tuple #[.bool r.1, .int .i64 r.2]) ∧ Below w.heap.size w w'

set_option maxHeartbeats 800000 in
theorem fair_i (t : Int) (A B : Option Addr) (c d : Nat) (xs ps : List Int) (w : World) (hx : Ir w A xs) (hp : Ir w B ps) (hn : xs.length ≤ 1048576) (hm : ps.length ≤ 1048576) :
    Calls Try.prog 16 #[.int .i64 t, .slice A xs.length c, .slice B ps.length d] w (Fair w (fairR t xs ps)) := by
  have H1 := Lib.hid (amts_i B d ps w hp (by omega))
  have H2 := Lib.hid (code_i t A c xs w hx hn)
  rcases Bool.eq_false_or_eq_true (amts ps) with h | h
  · by_cases h2 : codeR t xs = 0
    · have h2' : (codeR t xs != 0) = false := by simp [h2]
      have H3 := Lib.hid (sum_i B d ps w hp h hm)
      by_cases hl : ps.length = xs.length
      · have hl' : ((ps.length : Int) != (xs.length : Int)) = false := by simp [hl]
        by_cases h4 : isum ps = t
        · have h4' : (isum ps != t) = false := by simp [h4]
          obtain ⟨⟨t0, t1⟩, l12, ha, s0, s1⟩ := codeR_inv h2
          have HR := Lib.hid (rounded t A c xs w hx l12 ha t0 t1 s0 s1)
          have E := Lib.hid (fairR_4 h h2 hl h4)
          have HL := Lib.hid hl
          have HX := Lib.hid ha
          clear h2 hl h4 H3 ha
          have H3 : Hid (Calls Try.prog 41 #[.slice B ps.length d] w fun e w' => e = .returned (.int .i64 t) ∧ w = w') := Lib.hid (by
            have := sum_i B d ps w hp h hm
            rwa [show isum ps = t from by simpa using h4'] at this)
          clear h4'
          have h5 : ((t : Int) != t) = false := by simp
          go_enter Try.func16, Try.ntmps16
          go_wp2_with (first | (go_at_call 46; refine H1.out.mono ?_; rintro e w' ⟨rfl, rfl⟩) | (go_at_call 39; refine H2.out.mono ?_; rintro e w' ⟨rfl, rfl⟩) | (go_at_call 41; refine H3.out.mono ?_; rintro e w' ⟨rfl, rfl⟩) | (go_at_call 40; refine HR.out.mono ?_; rintro e w1 ⟨D1, D2, d1, d2, rfl, o1, o2, hne, hb⟩))
          have i1 := o1.ir
          have i2 := o2.ir
          have hp1 := hp.below hb
          clear o1 o2 hne H1 H2 H3 HR h h2' hl' h5 hx hp
          go_loopw [42] (fun i wr => ∃ k : Nat, k ≤ ps.length ∧ i = .int .i64 k ∧ Hid (fairs t (isum xs) ps xs = fairs t (isum xs) (ps.drop k) (xs.drop k)) ∧ w1 = wr) (fun i _ => ps.length - (intOf i).toNat)
          case atStart => exact ⟨0, Nat.zero_le _, rfl, Lib.hid rfl, rfl⟩
          case round =>
            obtain ⟨k, hk, rfl, ht, rfl⟩ := hrel
            by_cases hlt : k < ps.length
            · have hxl : k < xs.length := by rw [← HL.out]; exact hlt
              obtain ⟨b, off, p, rfl, hc, hpk⟩ := hp1.at hlt
              obtain ⟨b2, off2, q, rfl, hc2, hqk⟩ := i1.at (k := k) (by simp [downsOf]; omega)
              obtain ⟨b3, off3, r, rfl, hc3, hrk⟩ := i2.at (k := k) (by simp [restsOf]; omega)
              have hxk : Hid (xs[k]? = some xs[k]) := Lib.hid (List.getElem?_eq_getElem hxl)
              generalize xs[k] = x at hxk
              have hxb : 0 ≤ x ∧ x ≤ 1000000000 := amts_at HX.out hxk.out
              have hq : Hid (t * x / isum xs = q) := Lib.hid (by have := hqk.out; simpa [downsOf, hxk.out] using this)
              have hr : Hid (t * x % isum xs = r) := Lib.hid (by have := hrk.out; simpa [restsOf, hxk.out] using this)
              have hq0 : 0 ≤ q ∧ q ≤ 1000000000000000000 := by
                have := (share_bd t0 t1 hxb.1 hxb.2 s0).2.1
                rwa [hq.out] at this
              obtain ⟨q0, q1⟩ := hq0
              have k1 : k < (downsOf t (isum xs) xs).length := by simp [downsOf]; omega
              have k2 : k < (restsOf t (isum xs) xs).length := by simp [restsOf]; omega
              clear hxb
              rcases (by omega : p = q ∨ (p = q + 1 ∧ 0 < r) ∨ (p = q + 1 ∧ r ≤ 0) ∨ (p ≠ q ∧ p ≠ q + 1)) with e | ⟨e, e2⟩ | ⟨e, e2⟩ | ⟨e, e2⟩
              · subst e
                have hf : fairOk p r p = true := decide_eq_true (.inl rfl)
                have g1 : (p == p + 1) = false := beq_eq_false_iff_ne.2 (by omega)
                have g2 : (p != p) = false := by simp
                have HT := Lib.hid (fairs_step hpk.out hxk.out ht.out (by rw [hq.out, hr.out]; exact hf))
                clear ht hf
                go_wp2_with fail
                go_roundw
                case rel => exact ⟨k + 1, by omega, by go_num, HT, trivial⟩
                case measure => simp [intOf]; omega
              · subst e
                have hf : fairOk q r (q + 1) = true := decide_eq_true (.inr ⟨rfl, e2⟩)
                have g1 : (q + 1 == q + 1) = true := by simp
                have g2 : (q + 1 != q) = true := bne_iff_ne.2 (by omega)
                have HT := Lib.hid (fairs_step hpk.out hxk.out ht.out (by rw [hq.out, hr.out]; exact hf))
                clear ht hf
                go_wp2_with fail
                go_roundw
                case rel => exact ⟨k + 1, by omega, by go_num, HT, trivial⟩
                case measure => simp [intOf]; omega
              · subst e
                have hf : fairOk q r (q + 1) = false := decide_eq_false (by omega)
                have g1 : (q + 1 == q + 1) = true := by simp
                have g2 : (q + 1 != q) = true := bne_iff_ne.2 (by omega)
                have g3 : decide (0 < r) = false := by simp; omega
                have HT := Lib.hid (fairs_no hpk.out hxk.out ht.out (by rw [hq.out, hr.out]; exact hf))
                clear ht hf
                go_wp2_with fail
                go_ret2
                exact ⟨by rw [E.out, HT.out] <;> rfl, hb⟩
              · have hf : fairOk q r p = false := decide_eq_false (by omega)
                have g1 : (p == q + 1) = false := by simpa using e2
                have g2 : (p != q) = true := by simpa using e
                clear e e2
                have HT := Lib.hid (fairs_no hpk.out hxk.out ht.out (by rw [hq.out, hr.out]; exact hf))
                clear ht hf
                go_wp2_with fail
                go_ret2
                exact ⟨by rw [E.out, HT.out] <;> rfl, hb⟩
            · have HT := Lib.hid (fairs_end hlt ht.out)
              clear ht
              go_wp2_with fail
              go_ret2
              exact ⟨by rw [E.out, HT.out] <;> rfl, hb⟩
        · have h4' : (isum ps != t) = true := by simpa using h4
          have E := Lib.hid (fairR_3 h h2 (fun hh => h4 hh.2))
          clear h2 hl h4
          go_enter Try.func16, Try.ntmps16
          go_wp2_with (first | (go_at_call 46; refine H1.out.mono ?_; rintro e w' ⟨rfl, rfl⟩) | (go_at_call 39; refine H2.out.mono ?_; rintro e w' ⟨rfl, rfl⟩) | (go_at_call 41; refine H3.out.mono ?_; rintro e w' ⟨rfl, rfl⟩))
          go_ret2
          exact ⟨by rw [E.out] <;> rfl, Below.refl _ _⟩
      · have hl' : ((ps.length : Int) != (xs.length : Int)) = true := by simp; omega
        have E := Lib.hid (fairR_3 h h2 (fun hh => hl hh.1))
        clear h2 hl
        go_enter Try.func16, Try.ntmps16
        go_wp2_with (first | (go_at_call 46; refine H1.out.mono ?_; rintro e w' ⟨rfl, rfl⟩) | (go_at_call 39; refine H2.out.mono ?_; rintro e w' ⟨rfl, rfl⟩) | (go_at_call 41; refine H3.out.mono ?_; rintro e w' ⟨rfl, rfl⟩))
        go_ret2
        exact ⟨by rw [E.out] <;> rfl, Below.refl _ _⟩
    · have h2' : (codeR t xs != 0) = true := by simpa using h2
      have E := Lib.hid (fairR_2 h h2)
      clear h2
      go_enter Try.func16, Try.ntmps16
      go_wp2_with (first | (go_at_call 46; refine H1.out.mono ?_; rintro e w' ⟨rfl, rfl⟩) | (go_at_call 39; refine H2.out.mono ?_; rintro e w' ⟨rfl, rfl⟩))
      go_ret2
      exact ⟨by rw [E.out] <;> rfl, Below.refl _ _⟩
  · have E := Lib.hid (fairR_1 (t := t) (xs := xs) h)
    go_enter Try.func16, Try.ntmps16
    go_wp2_with (go_at_call 46; refine H1.out.mono ?_; rintro e w' ⟨rfl, rfl⟩)
    go_ret2
    exact ⟨by rw [E.out] <;> rfl, Below.refl _ _⟩

set_option maxHeartbeats 800000 in
theorem fair_s (t : Int) (A B : Option Addr) (c d : Nat) (xs ps : List Int) (w : World) (hx : Ir w A xs) (hp : Ir w B ps) (hn : xs.length ≤ 1048576) (hm : ps.length ≤ 1048576) :
    Calls Try.prog 17 #[.int .i64 t, .slice A xs.length c, .slice B ps.length d] w (Fair w (fairR t xs ps)) := by
  have H1 := Lib.hid (amts_s B d ps w hp (by omega))
  have H2 := Lib.hid (code_s t A c xs w hx hn)
  rcases Bool.eq_false_or_eq_true (amts ps) with h | h
  · by_cases h2 : codeR t xs = 0
    · have h2' : (codeR t xs != 0) = false := by simp [h2]
      have H3 := Lib.hid (sum_s B d ps w hp h hm)
      by_cases hl : ps.length = xs.length
      · have hl' : ((ps.length : Int) != (xs.length : Int)) = false := by simp [hl]
        by_cases h4 : isum ps = t
        · obtain ⟨⟨t0, t1⟩, l12, ha, s0, s1⟩ := codeR_inv h2
          have HR := Lib.hid (sum_s A c xs w hx ha hn)
          have E := Lib.hid (fairR_4 h h2 hl h4)
          have HL := Lib.hid hl
          have HX := Lib.hid ha
          clear h2 hl H3 ha
          have H3 : Hid (Calls Try.prog 48 #[.slice B ps.length d] w fun e w' => e = .returned (.int .i64 t) ∧ w = w') := Lib.hid (by
            have := sum_s B d ps w hp h hm
            rwa [h4] at this)
          clear h4
          have h5 : ((t : Int) != t) = false := by simp
          have hSx : ∃ s, s = isum xs := ⟨_, rfl⟩
          obtain ⟨s, hSx⟩ := hSx
          rw [← hSx] at E HR s0 s1
          clear hSx
          go_enter Try.func17, Try.ntmps17
          go_wp2_with (first | (go_at_call 47; refine H1.out.mono ?_; rintro e w' ⟨rfl, rfl⟩) | (go_at_call 43; refine H2.out.mono ?_; rintro e w' ⟨rfl, rfl⟩) | (go_at_call 48; first | ((with_reducible refine H3.out.mono ?_); rintro e w' ⟨rfl, rfl⟩) | ((with_reducible refine HR.out.mono ?_); rintro e w' ⟨rfl, rfl⟩)))
          clear H1 H2 H3 HR h h2' hl' h5
          go_loop [10] (fun i => ∃ k : Nat, k ≤ ps.length ∧ i = .int .i64 k ∧ Hid (fairs t s ps xs = fairs t s (ps.drop k) (xs.drop k))) (fun i => ps.length - (intOf i).toNat)
          case atStart => exact ⟨0, Nat.zero_le _, rfl, Lib.hid rfl⟩
          case round =>
            obtain ⟨k, hk, rfl, ht⟩ := hrel
            by_cases hlt : k < ps.length
            · have hxl : k < xs.length := by rw [← HL.out]; exact hlt
              obtain ⟨b, off, p, rfl, hc, hpk⟩ := hp.at hlt
              obtain ⟨b2, off2, x, rfl, hc2, hxk⟩ := hx.at hxl
              obtain ⟨x0, x1⟩ := amts_at HX.out hxk.out
              obtain ⟨⟨m0, m1⟩, ⟨q0, q1⟩, r0, r1⟩ := share_bd t0 t1 x0 x1 s0
              clear hp hx
              rcases (by omega : p = t * x / s ∨ (p = t * x / s + 1 ∧ 0 < t * x % s) ∨ (p = t * x / s + 1 ∧ t * x % s = 0) ∨ p < t * x / s ∨ t * x / s + 1 < p) with e | ⟨e, e2⟩ | ⟨e, e2⟩ | e | e
              · have hf : fairOk (t * x / s) (t * x % s) p = true := decide_eq_true (.inl e)
                have g1 : decide (p < t * x / s) = false := by simp; omega
                have g2 : decide (t * x / s + 1 < p) = false := by simp; omega
                have g3 : (p != t * x / s) = false := by simp [e]
                clear e
                rcases Bool.eq_false_or_eq_true (t * x % s == 0) with g4 | g4
                all_goals
                  have HT := Lib.hid (fairs_step hpk.out hxk.out ht.out hf)
                  clear ht hf
                  go_wp2_with fail
                  go_round
                  case rel => exact ⟨k + 1, by omega, by go_num, HT⟩
                  case measure => simp [intOf]; omega
              · have hf : fairOk (t * x / s) (t * x % s) p = true := decide_eq_true (.inr ⟨e, e2⟩)
                have g1 : decide (p < t * x / s) = false := by simp; omega
                have g2 : decide (t * x / s + 1 < p) = false := by simp; omega
                have g4 : (t * x % s == 0) = false := beq_eq_false_iff_ne.2 (by omega)
                clear e e2
                have HT := Lib.hid (fairs_step hpk.out hxk.out ht.out hf)
                clear ht hf
                go_wp2_with fail
                go_round
                case rel => exact ⟨k + 1, by omega, by go_num, HT⟩
                case measure => simp [intOf]; omega
              · have hf : fairOk (t * x / s) (t * x % s) p = false := decide_eq_false (by omega)
                have g1 : decide (p < t * x / s) = false := by simp; omega
                have g2 : decide (t * x / s + 1 < p) = false := by simp; omega
                have g3 : (p != t * x / s) = true := bne_iff_ne.2 (by omega)
                have g4 : (t * x % s == 0) = true := beq_iff_eq.2 e2
                clear e e2
                have HT := Lib.hid (fairs_no hpk.out hxk.out ht.out hf)
                clear ht hf
                go_wp2_with fail
                go_ret2
                exact ⟨by rw [E.out, HT.out] <;> rfl, Below.refl _ _⟩
              · have hf : fairOk (t * x / s) (t * x % s) p = false := decide_eq_false (by omega)
                have g1 : decide (p < t * x / s) = true := by simp; omega
                rcases Bool.eq_false_or_eq_true (t * x % s == 0) with g4 | g4
                all_goals
                  have HT := Lib.hid (fairs_no hpk.out hxk.out ht.out hf)
                  clear ht hf
                  go_wp2_with fail
                  go_ret2
                  exact ⟨by rw [E.out, HT.out] <;> rfl, Below.refl _ _⟩
              · have hf : fairOk (t * x / s) (t * x % s) p = false := decide_eq_false (by omega)
                have g1 : decide (p < t * x / s) = false := by simp; omega
                have g2 : decide (t * x / s + 1 < p) = true := by simp; omega
                rcases Bool.eq_false_or_eq_true (t * x % s == 0) with g4 | g4
                all_goals
                  have HT := Lib.hid (fairs_no hpk.out hxk.out ht.out hf)
                  clear ht hf
                  go_wp2_with fail
                  go_ret2
                  exact ⟨by rw [E.out, HT.out] <;> rfl, Below.refl _ _⟩
            · have HT := Lib.hid (fairs_end hlt ht.out)
              clear ht
              go_wp2_with fail
              go_ret2
              exact ⟨by rw [E.out, HT.out] <;> rfl, Below.refl _ _⟩
        · have h4' : (isum ps != t) = true := by simpa using h4
          have E := Lib.hid (fairR_3 h h2 (fun hh => h4 hh.2))
          clear h2 hl h4
          go_enter Try.func17, Try.ntmps17
          go_wp2_with (first | (go_at_call 47; refine H1.out.mono ?_; rintro e w' ⟨rfl, rfl⟩) | (go_at_call 43; refine H2.out.mono ?_; rintro e w' ⟨rfl, rfl⟩) | (go_at_call 48; refine H3.out.mono ?_; rintro e w' ⟨rfl, rfl⟩))
          go_ret2
          exact ⟨by rw [E.out] <;> rfl, Below.refl _ _⟩
      · have hl' : ((ps.length : Int) != (xs.length : Int)) = true := by simp; omega
        have E := Lib.hid (fairR_3 h h2 (fun hh => hl hh.1))
        clear h2 hl
        go_enter Try.func17, Try.ntmps17
        go_wp2_with (first | (go_at_call 47; refine H1.out.mono ?_; rintro e w' ⟨rfl, rfl⟩) | (go_at_call 43; refine H2.out.mono ?_; rintro e w' ⟨rfl, rfl⟩))
        go_ret2
        exact ⟨by rw [E.out] <;> rfl, Below.refl _ _⟩
    · have h2' : (codeR t xs != 0) = true := by simpa using h2
      have E := Lib.hid (fairR_2 h h2)
      clear h2
      go_enter Try.func17, Try.ntmps17
      go_wp2_with (first | (go_at_call 47; refine H1.out.mono ?_; rintro e w' ⟨rfl, rfl⟩) | (go_at_call 43; refine H2.out.mono ?_; rintro e w' ⟨rfl, rfl⟩))
      go_ret2
      exact ⟨by rw [E.out] <;> rfl, Below.refl _ _⟩
  · have E := Lib.hid (fairR_1 (t := t) (xs := xs) h)
    go_enter Try.func17, Try.ntmps17
    go_wp2_with (go_at_call 47; refine H1.out.mono ?_; rintro e w' ⟨rfl, rfl⟩)
    go_ret2
    exact ⟨by rw [E.out] <;> rfl, Below.refl _ _⟩

theorem law_FnExactIsFairShare (t : Int) (A : Option Addr) (c : Nat) (xs : List Int) (B : Option Addr) (d : Nat) (ps : List Int) (w : World) (_ : (Lit.int .i64 t).wf = true)
    (hx : Ir w A xs) (hm : xs.length ≤ maxLen) (_ : ∀ x ∈ xs, (Lit.int .i64 x).wf = true) (hp : Ir w B ps) (hm2 : ps.length ≤ maxLen) (_ : ∀ x ∈ ps, (Lit.int .i64 x).wf = true) :
    Calls Try.prog 7 #[.int .i64 t, .slice A xs.length c, .slice B ps.length d] w fun e w' => e = .returned (.bool true) ∧ Below w.heap.size w w' := by
  unfold maxLen at hm hm2
  by_cases hn : xs.length ≤ 1048576
  · by_cases hn2 : ps.length ≤ 1048576
    · have HI := Lib.hid (fun A B c d w hx hp => fair_i t A B c d xs ps w hx hp hn hn2)
      have HS := Lib.hid (fun A B c d w hx hp => fair_s t A B c d xs ps w hx hp hn hn2)
      generalize fairR t xs ps = r at HI HS
      go_enter Try.func7, Try.ntmps7
      go_wp2_with fail
      refine (copyInts A c xs _ hx hn).mono ?_
      rintro e w1 ⟨B1, c1, rfl, o1, b1⟩
      go_wp2_with fail
      refine (copyInts B d ps _ (hp.below b1) hn2).mono ?_
      rintro e w2 ⟨B2, c2, rfl, o2, b2⟩
      have t2 := belowGo b1 b2
      go_wp2_with fail
      refine (HS.out B1 B2 c1 c2 w2 (o1.below b2).ir o2.ir).mono ?_
      rintro e w3 ⟨rfl, b3⟩
      have t3 := belowGo t2 b3
      go_wp2_with fail
      refine (copyInts A c xs _ (hx.below t3) hn).mono ?_
      rintro e w4 ⟨B4, c4, rfl, o4, b4⟩
      have t4 := belowGo t3 b4
      go_wp2_with fail
      refine (copyInts B d ps _ (hp.below t4) hn2).mono ?_
      rintro e w5 ⟨B5, c5, rfl, o5, b5⟩
      have t5 := belowGo t4 b5
      go_wp2_with fail
      refine (HI.out B4 B5 c4 c5 w5 (o4.below b5).ir o5.ir).mono ?_
      rintro e w6 ⟨rfl, b6⟩
      have t6 := belowGo t5 b6
      go_wp2_with fail
      refine (copyInts A c xs _ (hx.below t6) hn).mono ?_
      rintro e w7 ⟨B7, c7, rfl, o7, b7⟩
      have t7 := belowGo t6 b7
      go_wp2_with fail
      refine (eqInts_same B4 B7 _ _ c4 c7 xs w7 (((o4.below b5).below b6).below b7).ir o7.ir rfl rfl (by omega)).mono ?_
      rintro e w8 ⟨rfl, b8⟩
      have t8 := belowGo t7 b8
      go_wp2_with fail
      refine (copyInts B d ps _ (hp.below t8) hn2).mono ?_
      rintro e w9 ⟨B9, c9, rfl, o9, b9⟩
      have t9 := belowGo t8 b9
      go_wp2_with fail
      refine (eqInts_same B5 B9 _ _ c5 c9 ps w9 ((((o5.below b6).below b7).below b8).below b9).ir o9.ir rfl rfl (by omega)).mono ?_
      rintro e w10 ⟨rfl, b10⟩
      have t10 := belowGo t9 b10
      go_wp2_with fail
      go_ret
      exact ⟨rfl, t10⟩
    · go_enter Try.func7, Try.ntmps7
      go_wp2_with fail
      go_ret
      exact ⟨rfl, Below.refl _ _⟩
  · go_enter Try.func7, Try.ntmps7
    go_wp2_with fail
    go_ret
    exact ⟨rfl, Below.refl _ _⟩
end Go.Proofs.Ytgapkkkalandhaa
