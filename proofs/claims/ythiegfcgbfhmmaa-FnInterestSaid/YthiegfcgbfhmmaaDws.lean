/- spec.DayWhenReached; what both sides answer in plain numbers. -/
import Derived.Test.YthiegfcgbfhmmaaTot
namespace Go.Proofs.Ythiegfcgbfhmmaa
open Go.ChangeShapes Go.WideShapes Go.ChangeAt Go.RowKit
set_option linter.unusedVariables false

/-- The interest to a day is reached. -/
def reaB (rs : List St) (a f i d : Int) : Bool := decide (i ≤ nearest (a * wgt rs f d) 3650000)
/-- The first day from d on, of n days, of which P holds. -/
def seek (P : Int → Bool) (d : Int) : Nat → Int × Int
  | 0 => (0, 4)
  | n + 1 => if P d = true then (d, 0) else seek P (d + 1) n
theorem seek_at {P : Int → Bool} : ∀ (n : Nat) (d h : Int), d ≤ h → h < d + n → (∀ x, d ≤ x → x < h → P x = false) → P h = true → seek P d n = (h, 0) := by
  intro n
  induction n with
  | zero => intro d h h1 h2; omega
  | succ n ih =>
    intro d h h1 h2 hlo hh
    unfold seek
    by_cases e : d = h
    · subst e; rw [if_pos hh]
    · rw [if_neg (by rw [hlo d (Int.le_refl _) (by omega)]; exact Bool.false_ne_true)]
      exact ih (d + 1) h (by omega) (by omega) (fun x hx hx2 => hlo x (by omega) hx2) hh
theorem seek_none {P : Int → Bool} : ∀ (n : Nat) (d : Int), (∀ x, d ≤ x → x < d + n → P x = false) → seek P d n = (0, 4) := by
  intro n
  induction n with
  | zero => intro d _; rfl
  | succ n ih =>
    intro d hlo
    unfold seek
    rw [if_neg (by rw [hlo d (Int.le_refl _) (by omega)]; exact Bool.false_ne_true)]
    exact ih (d + 1) (fun x hx hx2 => hlo x (by omega) (by omega))
def dwrR (rs : List St) (a f i : Int) : Int × Int := if codeR rs a f f = 0 then (if amt i = true then seek (reaB rs a f i) f (36525 - f).toNat else (0, 2)) else (0, codeR rs a f f)
theorem nearest_mono {x y c : Int} (c0 : 1 ≤ c) (h : x ≤ y) : nearest x c ≤ nearest y c := by
  unfold nearest; exact Int.ediv_le_ediv (by omega) (by omega)
theorem wgt_mono {rs : List St} (hs : schB rs = true) {f d e : Int} (h1 : f ≤ d) (h2 : d ≤ e) : wgt rs f d ≤ wgt rs f e := by
  have h := wgt_add hs (m := d) h1 (e - d).toNat
  have hb := wgt_bd hs (f := d) (e - d).toNat
  rw [show d + ((e - d).toNat : Int) = e by omega] at h hb
  omega
theorem rea_mono {rs : List St} (hs : schB rs = true) {a f i d e : Int} (a0 : 0 ≤ a) (h1 : f ≤ d) (h2 : d ≤ e) (h : reaB rs a f i d = true) : reaB rs a f i e = true := by
  unfold reaB at *
  rw [decide_eq_true_eq] at *
  exact Int.le_trans h (nearest_mono (by omega) (Int.mul_le_mul_of_nonneg_left (wgt_mono hs h1 h2) a0))

set_option maxRecDepth 100000 in
set_option maxHeartbeats 4000000 in
theorem reach_s (A : Option Addr) (c : Nat) (rs : List St) (a f i : Int) (w : World) (hR : Rs w A rs) (hn : rs.length ≤ 1048576) : Calls Try.prog 26 #[.slice A rs.length c, .int .i64 a, .int .i64 f, .int .i64 i] w (GivP w (dwrR rs a f i)) := by
  have HC := Lib.hid (code_s A c rs a f f w hR hn)
  have HP : Hid (dwrR rs a f i = if codeR rs a f f = 0 then (if amt i = true then seek (reaB rs a f i) f (36525 - f).toNat else (0, 2)) else (0, codeR rs a f f)) := Lib.hid rfl
  rcases codeR_cases rs a f f with h | h | h
  · rw [h, if_pos rfl] at HP
    rw [h] at HC
    obtain ⟨hs, ⟨a0, a1⟩, ⟨f0, f1⟩, _⟩ := codeR_zero h
    rcases Bool.eq_false_or_eq_true (amt i) with h2 | h2
    · obtain ⟨i0, i1⟩ := amt_iff.1 h2
      rw [if_pos h2] at HP
      clear h
      go_enter Try.func26, Try.ntmps26
      go_wp2_with (first
        | (go_at_call 45; refine HC.out.mono ?_; rintro e w1 ⟨rfl, b1⟩)
        | (go_at_call 54; refine (amtS_q h2 _).mono ?_; rintro e w' ⟨rfl, rfl⟩))
      go_loopw [11, 12] (fun lo hi wr => ∃ L H : Int, lo = .int .i64 L ∧ hi = .int .i64 H ∧ f - 1 ≤ L ∧ L < H ∧ H ≤ 36525 ∧ Hid (∀ x, f ≤ x → x ≤ L → reaB rs a f i x = false) ∧ Hid (H = 36525 ∨ reaB rs a f i H = true) ∧ Below w.heap.size w wr) (fun lo hi _ => (intOf hi - intOf lo).toNat)
      case atStart => exact ⟨f - 1, 36525, rfl, rfl, by omega, by omega, by omega, Lib.hid (fun x h1 h2 => by omega), Lib.hid (.inl rfl), b1⟩
      case round =>
        obtain ⟨L, H, rfl, rfl, hL, hLH, hH, hlo, hhi, hb⟩ := hrel
        by_cases hgap : 1 < H - L
        · have hsum : 0 ≤ L + H := by omega
          have hm0 : L < (L + H) / 2 := by omega
          have hm1 : (L + H) / 2 < H := by omega
          obtain ⟨M, hM⟩ : ∃ M, (L + H) / 2 = M := ⟨_, rfl⟩
          rw [hM] at hm0 hm1
          obtain ⟨g0, g1⟩ := wgt_bd2 hs (f := f) (t := M) f0 (by omega)
          have HW := Lib.hid (fun w h => weight_s A c rs f M w h hs f0 (by omega) (by omega) (by omega))
          have HN := Lib.hid (fun w => interest_s a (wgt rs f M) w a0 a1 g0 g1)
          have HE : Hid (reaB rs a f i M = decide (i ≤ nearest (a * wgt rs f M) 3650000)) := Lib.hid rfl
          have HMo := Lib.hid (fun x hx (hx2 : x ≤ M) (hf : reaB rs a f i M = false) => (show reaB rs a f i x = false from by
            cases hh : reaB rs a f i x with
            | false => rfl
            | true => rw [rea_mono hs a0 hx hx2 hh] at hf; cases hf))
          generalize nearest (a * wgt rs f M) 3650000 = n at *
          generalize wgt rs f M = g at *
          by_cases hr : i ≤ n
          · have HT : Hid (reaB rs a f i M = true) := Lib.hid (by rw [HE.out, decide_eq_true hr])
            clear HMo HE
            go_wp2_with (first
              | (go_at_call 48; rw [hM]; refine (HW.out _ (hR.below hb)).mono ?_; rintro e w2 ⟨rfl, b2⟩; have q2 := belowGo hb b2)
              | (go_at_call 47; refine (HN.out _).mono ?_; rintro e w3 ⟨rfl, n3, rfl⟩; have q3 := q2.trans ((below_drewN _ n3).mono q2.size)))
            go_roundw
            case rel => exact ⟨L, M, rfl, by first | rfl | rw [hM], hL, hm0, by omega, hlo, Lib.hid (.inr HT.out), q3⟩
            case measure => simp [intOf]; omega
          · have HT : Hid (∀ x, f ≤ x → x ≤ M → reaB rs a f i x = false) := Lib.hid (fun x hx hx2 => HMo.out x hx hx2 (by rw [HE.out, decide_eq_false hr]))
            have hr' : n < i := by omega
            clear HMo HE hr
            go_wp2_with (first
              | (go_at_call 48; rw [hM]; refine (HW.out _ (hR.below hb)).mono ?_; rintro e w2 ⟨rfl, b2⟩; have q2 := belowGo hb b2)
              | (go_at_call 47; refine (HN.out _).mono ?_; rintro e w3 ⟨rfl, n3, rfl⟩; have q3 := q2.trans ((below_drewN _ n3).mono q2.size)))
            go_roundw
            case rel => exact ⟨M, H, by first | rfl | rw [hM], rfl, by omega, hm1, hH, HT, hhi, q3⟩
            case measure => simp [intOf]; omega
        · have hLe : L = H - 1 := by omega
          have hg' : H - L ≤ 1 := by omega
          rcases Bool.eq_false_or_eq_true (inr H 0 36524) with h3 | h3
          · have h3' := inr_iff.1 h3
            have HF : Hid (dwrR rs a f i = (H, 0)) := Lib.hid (by
              rw [HP.out]
              refine seek_at _ _ _ (by omega) (by omega) (fun x hx hx2 => hlo.out x hx (by omega)) ?_
              rcases hhi.out with e | e
              · omega
              · exact e)
            clear hgap hlo hhi HP
            go_wp2_with (go_at_call 56; refine (is_q h3 _).mono ?_; rintro e w' ⟨rfl, rfl⟩)
            go_ret2
            exact ⟨by rw [HF.out] <;> rfl, hb⟩
          · have h3' := inr_no.1 h3
            have HF : Hid (dwrR rs a f i = (0, 4)) := Lib.hid (by
              rw [HP.out]
              exact seek_none _ _ (fun x hx hx2 => hlo.out x hx (by omega)))
            clear hgap hlo hhi HP
            go_wp2_with (go_at_call 56; refine (is_q h3 _).mono ?_; rintro e w' ⟨rfl, rfl⟩)
            go_ret2
            exact ⟨by rw [HF.out] <;> rfl, hb⟩
    · rw [if_neg (by rw [h2]; exact Bool.false_ne_true)] at HP
      go_enter Try.func26, Try.ntmps26
      go_wp2_with (first
        | (go_at_call 45; refine HC.out.mono ?_; rintro e w1 ⟨rfl, b1⟩)
        | (go_at_call 54; refine (amtS_q h2 _).mono ?_; rintro e w' ⟨rfl, rfl⟩))
      go_ret2
      exact ⟨by rw [HP.out] <;> rfl, b1⟩
  · rw [h, if_neg (by decide)] at HP
    rw [h] at HC
    go_enter Try.func26, Try.ntmps26
    go_wp2_with (go_at_call 45; refine HC.out.mono ?_; rintro e w1 ⟨rfl, b1⟩)
    go_ret2
    exact ⟨by rw [HP.out] <;> rfl, b1⟩
  · rw [h, if_neg (by decide)] at HP
    rw [h] at HC
    go_enter Try.func26, Try.ntmps26
    go_wp2_with (go_at_call 45; refine HC.out.mono ?_; rintro e w1 ⟨rfl, b1⟩)
    go_ret2
    exact ⟨by rw [HP.out] <;> rfl, b1⟩
end Go.Proofs.Ythiegfcgbfhmmaa
