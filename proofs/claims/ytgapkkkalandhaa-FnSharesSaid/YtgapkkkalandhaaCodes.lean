/- impl.checkShares and spec.l01Code give one code; impl.roundedShares. -/
import Derived.Test.YtgapkkkalandhaaSums
namespace Go.Proofs.Ytgapkkkalandhaa
open Go.ChangeShapes Go.WideShapes Go.ChangeAt Go.RowKit
set_option linter.unusedVariables false

def codeR (t : Int) (xs : List Int) : Int := if amt t = true ∧ xs.length ≤ 12 ∧ amts xs = true then if isum xs = 0 then 5 else 0 else 2
theorem codeR_ok {t : Int} {xs : List Int} (h1 : amt t = true) (h2 : xs.length ≤ 12) (h3 : amts xs = true) (h4 : ¬ isum xs = 0) : codeR t xs = 0 := by simp [codeR, h1, h2, h3, h4]
theorem codeR_0 {t : Int} {xs : List Int} (h1 : amt t = true) (h2 : xs.length ≤ 12) (h3 : amts xs = true) (h4 : isum xs = 0) : codeR t xs = 5 := by simp [codeR, h1, h2, h3, h4]
theorem codeR_1 {t : Int} {xs : List Int} (h1 : amt t = false) : codeR t xs = 2 := by simp [codeR, h1]
theorem codeR_2 {t : Int} {xs : List Int} (h1 : 12 < xs.length) : codeR t xs = 2 := by unfold codeR; rw [if_neg (by omega)]
theorem codeR_3 {t : Int} {xs : List Int} (h1 : amts xs = false) : codeR t xs = 2 := by simp [codeR, h1]
theorem codeR_inv {t : Int} {xs : List Int} (h : codeR t xs = 0) : (0 ≤ t ∧ t ≤ 1000000000) ∧ xs.length ≤ 12 ∧ amts xs = true ∧ 1 ≤ isum xs ∧ isum xs ≤ 12000000000 := by
  unfold codeR at h
  split at h
  · rename_i h1
    obtain ⟨a, b, c⟩ := h1
    split at h
    · cases h
    · have := isum_bd c
      exact ⟨amt_iff.1 a, b, c, by omega, by omega⟩
  · cases h

theorem code_i (t : Int) (A : Option Addr) (c : Nat) (xs : List Int) (w : World) (hx : Ir w A xs) (hn : xs.length ≤ 1048576) :
    Calls Try.prog 39 #[.int .i64 t, .slice A xs.length c] w fun e w' => e = .returned (.int .i64 (codeR t xs)) ∧ w = w' := by
  have H1 := Lib.hid (amts_i A c xs w hx (by omega))
  rcases Bool.eq_false_or_eq_true (amt t) with ha | ha
  · by_cases hl : xs.length ≤ 12
    · have hg : decide ((12 : Int) < (xs.length : Int)) = false := by simp; omega
      rcases Bool.eq_false_or_eq_true (amts xs) with h | h
      · have H2 := Lib.hid (sum_i A c xs w hx h hn)
        by_cases h0 : isum xs = 0
        · have E := Lib.hid (codeR_0 ha hl h h0)
          have h0' : (isum xs == 0) = true := by simpa using h0
          clear h0
          go_enter Try.func39, Try.ntmps39
          go_wp2_with (first | (go_at_call 30; refine (isAmount_i _ _).mono ?_; rintro e w' ⟨rfl, rfl⟩) | (go_at_call 46; refine H1.out.mono ?_; rintro e w' ⟨rfl, rfl⟩) | (go_at_call 41; refine H2.out.mono ?_; rintro e w' ⟨rfl, rfl⟩))
          go_ret
          exact ⟨by rw [E.out] <;> rfl, rfl⟩
        · have E := Lib.hid (codeR_ok ha hl h h0)
          have h0' : (isum xs == 0) = false := by simpa using h0
          clear h0
          go_enter Try.func39, Try.ntmps39
          go_wp2_with (first | (go_at_call 30; refine (isAmount_i _ _).mono ?_; rintro e w' ⟨rfl, rfl⟩) | (go_at_call 46; refine H1.out.mono ?_; rintro e w' ⟨rfl, rfl⟩) | (go_at_call 41; refine H2.out.mono ?_; rintro e w' ⟨rfl, rfl⟩))
          go_ret
          exact ⟨by rw [E.out] <;> rfl, rfl⟩
      · have E := Lib.hid (codeR_3 (t := t) h)
        go_enter Try.func39, Try.ntmps39
        go_wp2_with (first | (go_at_call 30; refine (isAmount_i _ _).mono ?_; rintro e w' ⟨rfl, rfl⟩) | (go_at_call 46; refine H1.out.mono ?_; rintro e w' ⟨rfl, rfl⟩))
        go_ret
        exact ⟨by rw [E.out] <;> rfl, rfl⟩
    · have hg : decide ((12 : Int) < (xs.length : Int)) = true := by simp; omega
      have E := Lib.hid (codeR_2 (t := t) (xs := xs) (by omega))
      clear hl
      go_enter Try.func39, Try.ntmps39
      go_wp2_with (first | (go_at_call 30; refine (isAmount_i _ _).mono ?_; rintro e w' ⟨rfl, rfl⟩) | (go_at_call 46; refine H1.out.mono ?_; rintro e w' ⟨rfl, rfl⟩))
      go_ret
      exact ⟨by rw [E.out] <;> rfl, rfl⟩
  · have E := Lib.hid (codeR_1 (xs := xs) ha)
    go_enter Try.func39, Try.ntmps39
    go_wp2_with (go_at_call 30; refine (isAmount_i _ _).mono ?_; rintro e w' ⟨rfl, rfl⟩)
    go_ret
    exact ⟨by rw [E.out] <;> rfl, rfl⟩

theorem code_s (t : Int) (A : Option Addr) (c : Nat) (xs : List Int) (w : World) (hx : Ir w A xs) (hn : xs.length ≤ 1048576) :
    Calls Try.prog 43 #[.int .i64 t, .slice A xs.length c] w fun e w' => e = .returned (.int .i64 (codeR t xs)) ∧ w = w' := by
  have H1 := Lib.hid (amts_s A c xs w hx (by omega))
  rcases Bool.eq_false_or_eq_true (amt t) with ha | ha
  · rcases Bool.eq_false_or_eq_true (amts xs) with h | h
    · by_cases hl : xs.length ≤ 12
      · have hg : decide ((12 : Int) < (xs.length : Int)) = false := by simp; omega
        have H2 := Lib.hid (sum_s A c xs w hx h hn)
        by_cases h0 : isum xs = 0
        · have E := Lib.hid (codeR_0 ha hl h h0)
          have h0' : (isum xs == 0) = true := by simpa using h0
          clear h0
          go_enter Try.func43, Try.ntmps43
          go_wp2_with (first | (go_at_call 31; refine (isAmount_s _ _).mono ?_; rintro e w' ⟨rfl, rfl⟩) | (go_at_call 47; refine H1.out.mono ?_; rintro e w' ⟨rfl, rfl⟩) | (go_at_call 48; refine H2.out.mono ?_; rintro e w' ⟨rfl, rfl⟩))
          go_ret
          exact ⟨by rw [E.out] <;> rfl, rfl⟩
        · have E := Lib.hid (codeR_ok ha hl h h0)
          have h0' : (isum xs == 0) = false := by simpa using h0
          clear h0
          go_enter Try.func43, Try.ntmps43
          go_wp2_with (first | (go_at_call 31; refine (isAmount_s _ _).mono ?_; rintro e w' ⟨rfl, rfl⟩) | (go_at_call 47; refine H1.out.mono ?_; rintro e w' ⟨rfl, rfl⟩) | (go_at_call 48; refine H2.out.mono ?_; rintro e w' ⟨rfl, rfl⟩))
          go_ret
          exact ⟨by rw [E.out] <;> rfl, rfl⟩
      · have hg : decide ((12 : Int) < (xs.length : Int)) = true := by simp; omega
        have E := Lib.hid (codeR_2 (t := t) (xs := xs) (by omega))
        clear hl
        go_enter Try.func43, Try.ntmps43
        go_wp2_with (first | (go_at_call 31; refine (isAmount_s _ _).mono ?_; rintro e w' ⟨rfl, rfl⟩) | (go_at_call 47; refine H1.out.mono ?_; rintro e w' ⟨rfl, rfl⟩))
        go_ret
        exact ⟨by rw [E.out] <;> rfl, rfl⟩
    · have E := Lib.hid (codeR_3 (t := t) h)
      go_enter Try.func43, Try.ntmps43
      go_wp2_with (first | (go_at_call 31; refine (isAmount_s _ _).mono ?_; rintro e w' ⟨rfl, rfl⟩) | (go_at_call 47; refine H1.out.mono ?_; rintro e w' ⟨rfl, rfl⟩))
      go_ret
      exact ⟨by rw [E.out] <;> rfl, rfl⟩
  · have E := Lib.hid (codeR_1 (xs := xs) ha)
    go_enter Try.func43, Try.ntmps43
    go_wp2_with (go_at_call 31; refine (isAmount_s _ _).mono ?_; rintro e w' ⟨rfl, rfl⟩)
    go_ret
    exact ⟨by rw [E.out] <;> rfl, rfl⟩

/-! ### rounded shares -/
theorem share_bd {t x s : Int} (t0 : 0 ≤ t) (t1 : t ≤ 1000000000) (x0 : 0 ≤ x) (x1 : x ≤ 1000000000) (s0 : 1 ≤ s) :
    (0 ≤ t * x ∧ t * x ≤ 1000000000000000000) ∧ (0 ≤ t * x / s ∧ t * x / s ≤ 1000000000000000000) ∧ 0 ≤ t * x % s ∧ t * x % s < s := by
  obtain ⟨m0, m1⟩ := (⟨Int.mul_nonneg t0 x0, by have := Int.mul_le_mul t1 x1 x0 (by omega : (0 : Int) ≤ 1000000000); omega⟩ : 0 ≤ t * x ∧ t * x ≤ 1000000000000000000)
  exact ⟨⟨m0, m1⟩, ⟨Int.ediv_nonneg m0 (by omega), Int.le_trans (Int.ediv_le_self _ m0) m1⟩, Int.emod_nonneg _ (by omega), Int.emod_lt_of_pos _ (by omega)⟩
def downsOf (t s : Int) (xs : List Int) : List Int := xs.map fun x => t * x / s
def restsOf (t s : Int) (xs : List Int) : List Int := xs.map fun x => t * x % s

def NewTwo (w : World) (xs ys : List Int) (e : Ending) (w' : World) : Prop :=
  ∃ A B c d, e = .returned (.tuple #[.slice A xs.length c, .slice B ys.length d]) ∧ Oi w' w.heap.size A xs.length c xs ∧ Oi w' w.heap.size B ys.length d ys ∧
    (Value.slice A xs.length c).ownBlock ≠ (Value.slice B ys.length d).ownBlock ∧ Below w.heap.size w w'

theorem two_stored {w : World} {b1 b2 B : Nat} {e : TypeId} {g1 g2 n c1 c2 : Nat} {xs ys : List Value} (h1 : w.ownsRow b1 e 1 (.slice (some ⟨g1, 0, none⟩) n c1) n xs)
    (h2 : w.ownsRow b2 e 1 (.slice (some ⟨g2, 0, none⟩) n c2) n ys) (hne : g1 ≠ g2) (j : Nat) (hj : j < n) (u v : Value) (hB1 : B ≤ g1) (hB2 : B ≤ g2) (hs : B ≤ w.heap.size) :
    (∃ old, w.cell? ⟨g1, j, none⟩ = some old) ∧ w.frozen? ⟨g1, j, none⟩ = false ∧ (∃ old, (w.setCell ⟨g1, j, none⟩ u).cell? ⟨g2, j, none⟩ = some old) ∧ (w.setCell ⟨g1, j, none⟩ u).frozen? ⟨g2, j, none⟩ = false ∧
    Hid (((w.setCell ⟨g1, j, none⟩ u).setCell ⟨g2, j, none⟩ v).ownsRow b1 e 1 (.slice (some ⟨g1, 0, none⟩) n c1) n (xs.set j u) ∧
      ((w.setCell ⟨g1, j, none⟩ u).setCell ⟨g2, j, none⟩ v).ownsRow b2 e 1 (.slice (some ⟨g2, 0, none⟩) n c2) n (ys.set j v) ∧
      Below B w ((w.setCell ⟨g1, j, none⟩ u).setCell ⟨g2, j, none⟩ v)) := by
  obtain ⟨o1, k1⟩ := h1.stored j u
  have h2' := h2.kept k1 (.inr (by simp [Value.ownBlock]; omega))
  obtain ⟨o2, k2⟩ := h2'.stored j v
  have o1' := o1.kept k2 (.inr (by simp [Value.ownBlock]; omega))
  have l1 : j < xs.length := by have := h1.1; omega
  have l2 : j < ys.length := by have := h2.1; omega
  refine ⟨⟨xs[j], by rw [h1.cellAt j (by omega)]; simp [l1]⟩, h1.frozenAt j, ⟨ys[j], by rw [h2'.cellAt j (by omega)]; simp [l2]⟩, h2'.frozenAt j, Lib.hid ⟨o1', o2, ?_⟩⟩
  exact ((Below.refl _ _).grown k1 hs (by simpa using hB1)).grown k2 (Nat.le_trans hs k1.size) (by simpa using hB2)

set_option maxHeartbeats 800000 in
theorem rounded (t : Int) (A : Option Addr) (c : Nat) (xs : List Int) (w : World) (hx : Ir w A xs) (hn : xs.length ≤ 12) (ha : amts xs = true) (t0 : 0 ≤ t) (t1 : t ≤ 1000000000) (s0 : 1 ≤ isum xs) (s1 : isum xs ≤ 12000000000) :
    Calls Try.prog 40 #[.int .i64 t, .slice A xs.length c] w (NewTwo w (downsOf t (isum xs) xs) (restsOf t (isum xs) xs)) := by
  have HA := Lib.hid ha
  obtain ⟨i0, hi, hz0, hz1, hz2⟩ := info_parts intInfo
  have H2 := Lib.hid (sum_i A c xs w hx ha (by omega))
  have hs : ∃ s, s = isum xs := ⟨_, rfl⟩
  obtain ⟨s, hs⟩ := hs
  rw [← hs] at H2 s0 s1 ⊢
  clear ha hs
  go_enter Try.func40, Try.ntmps40
  go_wp2_with (first | (go_at_call 41; refine H2.out.mono ?_; rintro e w' ⟨rfl, rfl⟩) | (at_make; refine wpList_make_full _ rfl _ _ 24 rfl w.heap.size 2 i0 _ 1 Try.underlying24 hi hz0 hz1 .i64 .i64 _ _ xs.length rfl rfl rfl rfl (by rw [hz2]; omega) (by unfold maxLen; omega) (Nat.le_refl _) ?_; intro w1 hown1 hg1) | (at_make; refine wpList_make_full _ rfl _ _ 24 rfl w1.heap.size 2 i0 _ 1 Try.underlying24 hi hz0 hz1 .i64 .i64 _ _ xs.length rfl rfl rfl rfl (by rw [hz2]; omega) (by unfold maxLen; omega) (Nat.le_refl _) ?_; intro w2 hown2 hg2))
  have hlt12 : w.heap.size < w1.heap.size := (hown1.lt w.heap.size rfl).2
  have hb2 : Below w.heap.size w w2 := ((Below.refl _ _).grown hg1 (Nat.le_refl _) (by simp)).grown hg2 (by omega) (by simp)
  have hown1' := hown1.kept hg2 (.inr (by simp [Value.ownBlock]))
  clear hg1 hg2 hown1 H2
  generalize w1.heap.size = g2 at hlt12 hown2 ⊢
  go_loopw [19] (fun i wr => ∃ (k : Nat) (cs ds : List Value), k ≤ xs.length ∧ i = .int .i64 k ∧
    wr.ownsRow w.heap.size 2 1 (.slice (some ⟨w.heap.size, 0, none⟩) xs.length xs.length) xs.length cs ∧ wr.ownsRow g2 2 1 (.slice (some ⟨g2, 0, none⟩) xs.length xs.length) xs.length ds ∧
    Hid (cs.take k = ((downsOf t s xs).take k).map (Value.int .i64)) ∧ Hid (ds.take k = ((restsOf t s xs).take k).map (Value.int .i64)) ∧ Below w.heap.size w wr) (fun i _ => xs.length - (intOf i).toNat)
  case atStart => exact ⟨0, _, _, Nat.zero_le _, rfl, hown1', hown2, Lib.hid rfl, Lib.hid rfl, hb2⟩
  case round =>
    obtain ⟨k, cs, ds, hk, rfl, ho1, ho2, hc1, hc2, hb⟩ := hrel
    clear hown1' hown2 hb2
    by_cases hlt : k < xs.length
    · obtain ⟨b, off, x, rfl, hc, hxk⟩ := (hx.below hb).at hlt
      obtain ⟨x0, x1⟩ := amts_at HA.out hxk.out
      obtain ⟨⟨m0, m1⟩, ⟨q0, q1⟩, r0, r1⟩ := share_bd t0 t1 x0 x1 s0
      obtain ⟨⟨o1, ho1c⟩, hf1, ⟨o2, ho2c⟩, hf2, HS⟩ := two_stored ho1 ho2 (by omega : w.heap.size ≠ g2) k hlt (.int .i64 (t * x / s)) (.int .i64 (t * x % s)) (Nat.le_refl _) (by omega) hb.size
      have l1 : k < cs.length := by have := ho1.1; omega
      have l2 : k < ds.length := by have := ho2.1; omega
      have HC1 : Hid ((cs.set k (.int .i64 (t * x / s))).take (k + 1) = ((downsOf t s xs).take (k + 1)).map (Value.int .i64)) := Lib.hid (by
        rw [set_take l1, hc1.out, snoc_of (xs := downsOf t s xs) (x := t * x / s) (by simp [downsOf, hxk.out])]; simp)
      have HC2 : Hid ((ds.set k (.int .i64 (t * x % s))).take (k + 1) = ((restsOf t s xs).take (k + 1)).map (Value.int .i64)) := Lib.hid (by
        rw [set_take l2, hc2.out, snoc_of (xs := restsOf t s xs) (x := t * x % s) (by simp [restsOf, hxk.out])]; simp)
      clear hx ho1 ho2 hc1 hc2 hxk
      go_wp2_with fail
      go_roundw
      case rel => exact ⟨k + 1, _, _, by omega, by go_num, HS.out.1, HS.out.2.1, HC1, HC2, hb.trans HS.out.2.2⟩
      case measure => simp [intOf]; omega
    · obtain rfl : k = xs.length := by omega
      have HC1 : Hid (cs = (downsOf t s xs).map (Value.int .i64)) := Lib.hid (by
        have h1 := hc1.out; have h2 := ho1.1
        rwa [List.take_of_length_le (by omega), List.take_of_length_le (by simp [downsOf])] at h1)
      have HC2 : Hid (ds = (restsOf t s xs).map (Value.int .i64)) := Lib.hid (by
        have h1 := hc2.out; have h2 := ho2.1
        rwa [List.take_of_length_le (by omega), List.take_of_length_le (by simp [restsOf])] at h1)
      clear hc1 hc2 hx
      go_wp2_with fail
      go_ret2
      have hl1 : (downsOf t s xs).length = xs.length := by simp [downsOf]
      have hl2 : (restsOf t s xs).length = xs.length := by simp [restsOf]
      refine ⟨some ⟨w.heap.size, 0, none⟩, some ⟨g2, 0, none⟩, xs.length, xs.length, ?_, ?_, ?_, ?_, hb⟩
      · rw [hl1, hl2] <;> rfl
      · rw [hl1]; have := HC1.out; subst this; exact ho1
      · rw [hl2]; have := HC2.out; subst this
        refine ⟨ho2.1, ?_⟩
        rcases ho2.2 with h | ⟨g, cap, cur, h1, h2, h3⟩
        · exact .inl h
        · exact .inr ⟨g, cap, cur, h1, by omega, h3⟩
      · rw [hl1, hl2]; simp [Value.ownBlock]; omega
end Go.Proofs.Ytgapkkkalandhaa
