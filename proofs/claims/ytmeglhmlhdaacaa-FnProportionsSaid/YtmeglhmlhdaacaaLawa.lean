/- laws.FnProportions: a proportion is the nearest integer; what is taken down never exceeds what there is. -/
import Derived.Test.YtmeglhmlhdaacaaDrawa
import Derived.Test.YtmeglhmlhdaacaaProp
import Derived.Test.YtmeglhmlhdaacaaTake
namespace Go.Proofs.Ytmeglhmlhdaacaa
open Go.ChangeShapes Go.WideShapes Go.ChangeAt Go.RowKit
set_option linter.unusedVariables false

theorem big_any (A : Option Addr) (c : Nat) (bs : List Int) (w : World) (h : bs.length ≤ maxLen) :
    Calls Try.prog 15 #[.slice A bs.length c] w fun e w' => e = .returned (.bool (decide (4096 < bs.length))) ∧ w = w' := by
  unfold maxLen at h
  go_enter Try.func15, Try.ntmps15
  go_wp2
  all_goals go_ret
  all_goals exact ⟨congrArg (fun b => Ending.returned (Value.bool b)) (decide_eq_decide.2 (by omega)), rfl⟩

set_option maxHeartbeats 400000 in
theorem like_any (A B : Option Addr) (n m c d : Nat) (xs ys : List Int) (w : World) (hx : Ir w A xs) (hy : Ir w B ys) (hn1 : xs.length = n) (hm1 : ys.length = m) (hn : n ≤ 1000000000) :
    Calls Try.prog 26 #[.slice A n c, .slice B m d] w fun e w' => e = .returned (.bool (decide (xs = ys))) ∧ Below w.heap.size w w' := by
  subst hn1 hm1
  by_cases hl : xs.length = ys.length
  · have hl1 : ((xs.length : Int) != ys.length) = false := by simp [hl]
    have HL := Lib.hid hl; clear hl
    go_enter Try.func26, Try.ntmps26
    go_wp2_with fail
    go_loopw [5] (fun i wr => ∃ k : Nat, k ≤ xs.length ∧ i = .int .i64 k ∧ Hid (xs.take k = ys.take k) ∧ ∃ n, wr = w.drewN n) (fun i _ => xs.length - (intOf i).toNat)
    case atStart => exact ⟨0, Nat.zero_le _, rfl, Lib.hid rfl, 0, rfl⟩
    case round =>
      obtain ⟨k, hk, rfl, ht, n, rfl⟩ := hrel
      by_cases hlt : k < xs.length
      · have hlt2 : k < ys.length := by rw [← HL.out]; exact hlt
        obtain ⟨b, off, x, rfl, hc, hxk⟩ := hx.at hlt
        obtain ⟨b2, off2, y, rfl, hc2, hyk⟩ := hy.at hlt2
        clear hx hy hl1
        by_cases he : x = y
        · subst he
          have HT : Hid (xs.take (k + 1) = ys.take (k + 1)) := Lib.hid (eq_snoc ht.out hxk.out hyk.out)
          clear ht
          go_wp2_with fail
          go_quiet (fail)
          go_wp2_with fail
          go_roundw
          case rel => exact ⟨k + 1, by omega, by go_num, HT, _, rfl⟩
          case measure => simp [intOf]; omega
        · have hne : (x != y) = true := by simpa using he
          have HT : Hid (decide (xs = ys) = false) := Lib.hid (by simpa using eq_not hxk.out hyk.out he)
          clear he ht
          go_wp2_with fail
          go_quiet (fail)
          go_wp2_with fail
          go_ret
          exact ⟨by rw [HT.out] <;> rfl, by rw [World.drewN_drewN]; exact below_drewN _ _⟩
      · have HT : Hid (decide (xs = ys) = true) := Lib.hid (by
          have := ht.out; rw [take_all hk hlt, List.take_of_length_le (by have := HL.out; omega)] at this; simpa using this)
        clear ht
        go_wp2_with fail
        go_ret
        exact ⟨by rw [HT.out] <;> rfl, below_drewN _ _⟩
  · have hl1 : ((xs.length : Int) != ys.length) = true := by simp; omega
    have HT : Hid (decide (xs = ys) = false) := Lib.hid (by simp; rintro rfl; exact hl rfl)
    clear hl
    go_enter Try.func26, Try.ntmps26
    go_wp2_with fail
    go_ret
    exact ⟨by rw [HT.out] <;> rfl, Below.refl _ _⟩
theorem like_same (A B : Option Addr) (n m c d : Nat) (xs : List Int) (w : World) (hx : Ir w A xs) (hy : Ir w B xs) (hn : xs.length = n) (hm : xs.length = m) (hb : n ≤ 1000000000) :
    Calls Try.prog 26 #[.slice A n c, .slice B m d] w fun e w' => e = .returned (.bool true) ∧ Below w.heap.size w w' := by
  refine (like_any A B n m c d xs xs w hx hy hn hm hb).mono ?_
  rintro e w' ⟨rfl, h⟩
  exact ⟨by simp, h⟩

theorem sum_l (A : Option Addr) (c : Nat) (xs : List Int) (w : World) (hx : Ir w A xs) (ha : amts xs = true) (hn : xs.length ≤ 1048576) :
    Calls Try.prog 29 #[.slice A xs.length c] w fun e w' => e = .returned (.int .i64 (isum xs)) ∧ w = w' := by
  have HA := Lib.hid ha; clear ha
  go_enter Try.func29, Try.ntmps29
  go_wp2_with fail
  go_loop [3, 4] (fun s i => ∃ (k : Nat) (t : Int), k ≤ xs.length ∧ i = .int .i64 k ∧ s = .int .i64 t ∧ Hid (isum (xs.take k) = t)) (fun _ i => xs.length - (intOf i).toNat)
  case atStart => exact ⟨0, 0, Nat.zero_le _, rfl, rfl, Lib.hid rfl⟩
  case round =>
    obtain ⟨k, t, hk, rfl, rfl, ht⟩ := hrel
    by_cases hlt : k < xs.length
    · obtain ⟨b, off, x, rfl, hc, hxk⟩ := hx.at hlt
      obtain ⟨h0, h1⟩ := amts_at HA.out hxk.out
      have hb : 0 ≤ t ∧ t ≤ 1000000000 * 1048576 := by
        have h2 := isum_bd (amts_take HA.out k)
        rw [ht.out] at h2
        have h3 : (xs.take k).length ≤ 1048576 := by simp; omega
        exact ⟨h2.1, by omega⟩
      obtain ⟨hb0, hb1⟩ := hb
      have HT : Hid (isum (xs.take (k + 1)) = t + x) := Lib.hid (by rw [snoc_of hxk.out, isum_snoc, ht.out])
      clear ht hx
      go_wp2_with fail
      go_round
      case rel => exact ⟨k + 1, t + x, by omega, by go_num, rfl, HT⟩
      case measure => simp [intOf]; omega
    · have HT : Hid (isum xs = t) := Lib.hid (by have := ht.out; rwa [take_all hk hlt] at this)
      clear ht
      go_wp2_with fail
      go_ret
      exact ⟨by rw [HT.out] <;> rfl, rfl⟩

theorem takeD_amts {a : Int} {xs : List Int} (a0 : 0 ≤ a) (a1 : a ≤ 1000000000) (h : amts xs = true) : amts (takeD a xs) = true := by
  induction xs generalizing a with
  | nil => rfl
  | cons x r ih =>
    simp only [amts, List.all_cons, Bool.and_eq_true] at h
    have hx := amt_iff.1 h.1
    simp only [takeD, amts, List.all_cons, Bool.and_eq_true]
    exact ⟨amt_iff.2 ⟨by omega, by omega⟩, ih (by omega) (by omega) h.2⟩
theorem takeD_sum {a : Int} {xs : List Int} (a0 : 0 ≤ a) (h : amts xs = true) : isum (takeD a xs) ≤ a ∧ (isum (takeD a xs) < a → takeD a xs = xs) := by
  induction xs generalizing a with
  | nil => simp [takeD, isum]; omega
  | cons x r ih =>
    simp only [amts, List.all_cons, Bool.and_eq_true] at h
    have hx := amt_iff.1 h.1
    obtain ⟨h1, h2⟩ := ih (a := a - min a x) (by omega) h.2
    simp only [takeD, isum]
    refine ⟨by omega, fun hlt => ?_⟩
    have hm : min a x = x := by
      rcases Int.lt_or_le a x with hax | hax
      · exfalso
        have e : min a x = a := by omega
        rw [e] at h1 hlt
        have hz : a - a = 0 := by omega
        rw [hz] at hlt h1
        have := (isum_bd (takeD_amts (a := 0) (by omega) (by omega) h.2)).1
        omega
      · omega
    rw [hm] at h2 hlt ⊢
    rw [h2 (by omega)]

theorem takeR_facts {a : Int} {xs : List Int} (h : (takeR a xs).2 = 0) : amts (takeR a xs).1 = true ∧ isum (takeR a xs).1 ≤ a ∧ (isum (takeR a xs).1 < a → (takeR a xs).1 = xs) ∧ 0 ≤ a ∧ a ≤ 1000000000 := by
  unfold takeR at h ⊢
  split at h
  · rename_i hc
    rw [if_pos hc]
    have ha := amt_iff.1 hc.1
    exact ⟨takeD_amts ha.1 ha.2 hc.2.2, (takeD_sum ha.1 hc.2.2).1, (takeD_sum ha.1 hc.2.2).2, ha⟩
  · cases h
theorem nearest_facts {x c : Int} (hc : 1 ≤ c) : 2 * (nearest x c * c - x) ≤ c ∧ 2 * (x - nearest x c * c) < c + 1 := by
  have h1 := Int.emod_add_mul_ediv (2 * x + c) (2 * c)
  have h2 := Int.emod_lt_of_pos (2 * x + c) (by omega : 0 < 2 * c)
  have h3 := Int.emod_nonneg (2 * x + c) (by omega : 2 * c ≠ 0)
  have h4 : 2 * c * ((2 * x + c) / (2 * c)) = 2 * (nearest x c * c) := by unfold nearest; rw [Int.mul_assoc, Int.mul_comm c]
  omega
theorem propR_facts {a b c : Int} (h : (propR a b c).2 = 0) : (0 ≤ a * b ∧ a * b ≤ 1000000000000000000) ∧ (0 ≤ (propR a b c).1 * c ∧ (propR a b c).1 * c ≤ 1000000000000000000) ∧ 1 ≤ c ∧ c ≤ 1000000000 ∧
    2 * ((propR a b c).1 * c - a * b) ≤ c ∧ 2 * (a * b - (propR a b c).1 * c) < c + 1 := by
  unfold propR at h ⊢
  split at h
  · rename_i h1
    rw [if_pos h1]
    split at h
    · cases h
    · rename_i h2
      rw [if_neg h2]
      split at h
      · rename_i h3
        rw [if_pos h3]
        obtain ⟨ha, hb, hc⟩ := amts3 h1
        have ha := amt_iff.1 ha
        have hb := amt_iff.1 hb
        have hc := amt_iff.1 hc
        have hp := amt_iff.1 h3
        have hf := nearest_facts (x := a * b) (c := c) (by omega)
        exact ⟨mul_bd ha.1 ha.2 hb.1 hb.2, mul_bd hp.1 hp.2 hc.1 hc.2, by omega, hc.2, hf.1, hf.2⟩
      · cases h
  · cases h

set_option maxRecDepth 100000 in
set_option maxHeartbeats 2000000 in
theorem law_FnProportions (A : Option Addr) (c : Nat) (bs : List Int) (w : World) (hA : Rw w A (bs.map (Value.int .u8))) (hm : bs.length ≤ maxLen) (hb : ∀ b ∈ bs, 0 ≤ b ∧ b ≤ 255) (hB : bs ≠ [] → Bd A w.heap.size) :
    Calls Try.prog 3 #[.slice A bs.length c] w fun e w' => e = .returned (.bool true) ∧ Below w.heap.size w w' := by
  by_cases hl : 4096 < bs.length
  · have hd : decide (4096 < bs.length) = true := by simpa using hl
    go_enter Try.func3, Try.ntmps3
    go_wp2_with (go_at_call 15; refine (big_any _ _ _ _ hm).mono ?_; rintro e w' ⟨rfl, rfl⟩)
    go_ret
    exact ⟨rfl, Below.refl _ _⟩
  · have hd : decide (4096 < bs.length) = false := by simpa using hl
    have h0 : Code0 w A bs := ⟨hA, hB, hb, by omega⟩
    clear hA hB hb
    go_enter Try.func3, Try.ntmps3
    go_wp2_with (go_at_call 15; refine (big_any _ _ _ _ hm).mono ?_; rintro e w' ⟨rfl, rfl⟩)
    refine (drawProportionOf A c bs _ h0).mono ?_
    rintro e w1 ⟨x, y, z, rfl, b1⟩
    have h1 := h0.below b1
    clear h0
    have HP := Lib.hid (@propR_facts x y z)
    have HI := Lib.hid (prop_i x y z)
    have HS := Lib.hid (prop_s x y z)
    generalize propR x y z = r at HP HI HS
    obtain ⟨p, k⟩ := r
    go_wp2_with fail
    refine (HI.out _).mono ?_
    rintro e w2 ⟨rfl, b2⟩
    go_wp2_with fail
    refine (HS.out _).mono ?_
    rintro e w3 ⟨rfl, b3⟩
    have t3 := belowGo (belowGo b1 b2) b3
    have h3 := (h1.below b2).below b3
    clear h1 HI HS b1 b2 b3
    go_wp2_with fail
    refine (drawTakeDown A c bs _ h3).mono ?_
    rintro e w4 ⟨a, D, d, ys, rfl, ha, yl, yin, yo, b4⟩
    have HT := Lib.hid (@takeR_facts a ys)
    have hTl := takeR_len a ys
    have HI := Lib.hid (fun A c w hx => take_i a A c ys w hx (by omega))
    have HS := Lib.hid (fun A c w hx => take_s a A c ys w hx (by omega))
    generalize takeR a ys = r at HT HI HS hTl
    obtain ⟨l, k2⟩ := r
    simp only at hTl
    go_wp2_with fail
    refine (HI.out D d w4 yo.ir).mono ?_
    rintro e w5 ⟨T5, d5, rfl, o5, b5⟩
    go_wp2_with fail
    refine (HS.out D d w5 (yo.below b5).ir).mono ?_
    rintro e w6 ⟨T6, d6, rfl, o6, b6⟩
    have t6 := belowGo (belowGo (belowGo t3 b4) b5) b6
    have h6 := ((h3.below b4).below b5).below b6
    clear h3 HI HS t3
    go_wp2_with fail
    refine (drawSumAmounts A c bs _ h6).mono ?_
    rintro e w7 ⟨E7, e7, zs, rfl, zl, zin, zo, b7⟩
    go_wp2_with fail
    refine (sums_i E7 e7 zs _ zo.ir (by omega)).mono ?_
    rintro e w' ⟨rfl, rfl⟩
    go_wp2_with fail
    refine (sums_s E7 e7 zs _ zo.ir (by omega)).mono ?_
    rintro e w' ⟨rfl, rfl⟩
    have h7 := h6.below b7
    generalize sumR zs = sr
    go_wp2_with fail
    refine (drawIsAmount A c bs _ h7).mono ?_
    rintro e w8 ⟨n, rfl, n0, n1, b8⟩
    have t8 := belowGo (belowGo t6 b7) b8
    have i5 := ((o5.below b6).below b7).below b8
    have i6 := (o6.below b7).below b8
    have iy := ((((yo.below b5).below b6).below b7).below b8)
    clear h6 h7 o5 o6 yo zo b4 b5 b6 b7 b8 t6
    go_wp2_with fail
    refine (like_same T5 T6 _ _ d5 d6 l w8 i5.ir i6.ir rfl rfl (by omega)).mono ?_
    rintro e w9 ⟨rfl, b9⟩
    have t9 := belowGo t8 b9
    have j5 := (i5.below b9).ir
    have jy := (iy.below b9).ir
    clear i5 i6 iy b9 t8
    go_wp2_with fail
    refine (isAmount_i n _).mono ?_
    rintro e w' ⟨rfl, rfl⟩
    go_wp2_with fail
    refine (isAmount_s n _).mono ?_
    rintro e w' ⟨rfl, rfl⟩
    by_cases hk : k = 0
    · subst hk
      obtain ⟨⟨m0, m1⟩, ⟨q0, q1⟩, z0, z1, d1, d2⟩ := HP.out rfl
      have g1 : decide (2 * (p * z - x * y) ≤ z) = true := by simpa using d1
      have g2 : decide (2 * (x * y - p * z) < z + 1) = true := by simpa using d2
      by_cases hk2 : k2 = 0
      · subst hk2
        obtain ⟨la, ls, leq, a0, a1⟩ := HT.out rfl
        have HL := Lib.hid (sum_l T5 d5 l w9 j5 la (by omega))
        have lsb := isum_bd la
        by_cases hlt : isum l < a
        · have e1 : l = ys := leq hlt
          have f1 : decide (a < isum l) = false := by simp; omega
          have f2 : decide (isum l < a) = true := by simp; omega
          have HK := Lib.hid (like_same T5 D l.length ys.length d5 d l w9 j5 (by rw [e1]; exact jy) rfl (by rw [e1]) (by omega))
          clear e1 leq la lsb
          go_wp2_with (first | (go_at_call 29; refine HL.out.mono ?_; rintro e w' ⟨rfl, rfl⟩) | (go_at_call 26; refine HK.out.mono ?_; rintro e w10 ⟨rfl, b10⟩; have t10 := belowGo t9 b10))
          go_ret
          exact ⟨rfl, t10⟩
        · have f1 : decide (a < isum l) = false := by simp; omega
          have f2 : decide (isum l < a) = false := by simp; omega
          clear leq la lsb
          go_wp2_with (go_at_call 29; refine HL.out.mono ?_; rintro e w' ⟨rfl, rfl⟩)
          go_ret
          exact ⟨rfl, t9⟩
      · have hk2' : (k2 == 0) = false := beq_eq_false_iff_ne.2 hk2
        clear hk2
        go_wp2_with fail
        go_ret
        exact ⟨rfl, t9⟩
    · have hk' : (k != 0) = true := bne_iff_ne.2 hk
      clear hk
      by_cases hk2 : k2 = 0
      · subst hk2
        obtain ⟨la, ls, leq, a0, a1⟩ := HT.out rfl
        have HL := Lib.hid (sum_l T5 d5 l w9 j5 la (by omega))
        have lsb := isum_bd la
        by_cases hlt : isum l < a
        · have e1 : l = ys := leq hlt
          have f1 : decide (a < isum l) = false := by simp; omega
          have f2 : decide (isum l < a) = true := by simp; omega
          have HK := Lib.hid (like_same T5 D l.length ys.length d5 d l w9 j5 (by rw [e1]; exact jy) rfl (by rw [e1]) (by omega))
          clear e1 leq la lsb
          go_wp2_with (first | (go_at_call 29; refine HL.out.mono ?_; rintro e w' ⟨rfl, rfl⟩) | (go_at_call 26; refine HK.out.mono ?_; rintro e w10 ⟨rfl, b10⟩; have t10 := belowGo t9 b10))
          go_ret
          exact ⟨rfl, t10⟩
        · have f1 : decide (a < isum l) = false := by simp; omega
          have f2 : decide (isum l < a) = false := by simp; omega
          clear leq la lsb
          go_wp2_with (go_at_call 29; refine HL.out.mono ?_; rintro e w' ⟨rfl, rfl⟩)
          go_ret
          exact ⟨rfl, t9⟩
      · have hk2' : (k2 == 0) = false := beq_eq_false_iff_ne.2 hk2
        clear hk2
        go_wp2_with fail
        go_ret
        exact ⟨rfl, t9⟩
end Go.Proofs.Ytmeglhmlhdaacaa
