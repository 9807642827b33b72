/- impl.checkSchedule; PointsOn, WeightOf, InterestBetween on both sides. -/
import Derived.Test.YthiegfcgbfhmmaaWei
import Derived.Test.YthiegfcgbfhmmaaSim
import Derived.Test.YthiegfcgbfhmmaaArd
namespace Go.Proofs.Ythiegfcgbfhmmaa
open Go.ChangeShapes Go.WideShapes Go.ChangeAt Go.RowKit
set_option linter.unusedVariables false

def chkR (rs : List St) (ds : List Int) : Int := if schB rs = true then if daysB ds = true then 0 else 2 else 1

set_option maxRecDepth 100000 in
set_option maxHeartbeats 2000000 in
theorem check_i (A D : Option Addr) (c e : Nat) (rs : List St) (ds : List Int) (w : World) (hR : Rs w A rs) (hD : Ir w D ds) (hn : ds.length ≤ 10) :
    Calls Try.prog 57 #[.slice A rs.length c, .slice D ds.length e] w (Gives w (.int .i64 (chkR rs ds))) := by
  rcases Bool.eq_false_or_eq_true (schB rs) with hs | hs
  · rcases Bool.eq_false_or_eq_true (daysB ds) with hd | hd
    · have HT : Hid (chkR rs ds = 0) := Lib.hid (by unfold chkR; rw [if_pos hs, if_pos hd])
      go_enter Try.func57, Try.ntmps57
      go_wp2_with (first
        | (go_at_call 20; refine (schI_q hs _ hR).mono ?_; rintro e w1 ⟨rfl, b1⟩)
        | (go_at_call 73; refine (areDays_q (hD.below b1) rfl hn hd).mono ?_; rintro e w2 ⟨rfl, rfl⟩))
      go_ret
      exact ⟨by rw [HT.out] <;> rfl, b1⟩
    · have HT : Hid (chkR rs ds = 2) := Lib.hid (by unfold chkR; rw [if_pos hs, if_neg (by rw [hd]; decide)])
      go_enter Try.func57, Try.ntmps57
      go_wp2_with (first
        | (go_at_call 20; refine (schI_q hs _ hR).mono ?_; rintro e w1 ⟨rfl, b1⟩)
        | (go_at_call 73; refine (areDays_q (hD.below b1) rfl hn hd).mono ?_; rintro e w2 ⟨rfl, rfl⟩))
      go_ret
      exact ⟨by rw [HT.out] <;> rfl, b1⟩
  · have HE : Hid (chkR rs ds = 1) := Lib.hid (by unfold chkR; rw [if_neg (by rw [hs]; decide)])
    go_enter Try.func57, Try.ntmps57
    go_wp2_with (go_at_call 20; refine (schI_q hs _ hR).mono ?_; rintro e w1 ⟨rfl, b1⟩)
    go_ret
    exact ⟨by rw [HE.out] <;> rfl, b1⟩
theorem check_iq {A D : Option Addr} {c e : Nat} {rs : List St} {ds : List Int} {n : Nat} {v : Int} {w : World} (hR : Rs w A rs) (hD : Ir w D ds) (hn : ds.length = n) (hn2 : n ≤ 10) (hv : chkR rs ds = v) :
    Calls Try.prog 57 #[.slice A rs.length c, .slice D n e] w (Gives w (.int .i64 v)) := by
  subst hn hv; exact check_i A D c e rs ds w hR hD hn2
theorem chk1 {rs : List St} {d : Int} : chkR rs [d] = codeR rs 0 d d := by
  unfold chkR codeR daysB
  rw [show amt 0 = true from by decide]
  simp
theorem chk2 {rs : List St} {f t : Int} : chkR rs [f, t] = codeR rs 0 f t := by
  unfold chkR codeR daysB
  rw [show amt 0 = true from by decide]
  simp
theorem codeR_cases (rs : List St) (a f t : Int) : codeR rs a f t = 0 ∨ codeR rs a f t = 1 ∨ codeR rs a f t = 2 := by
  unfold codeR; split
  · split
    · exact .inl rfl
    · exact .inr (.inr rfl)
  · exact .inr (.inl rfl)
theorem codeR_zero {rs : List St} {a f t : Int} (h : codeR rs a f t = 0) : schB rs = true ∧ (0 ≤ a ∧ a ≤ 1000000000) ∧ (0 ≤ f ∧ f ≤ 36524) ∧ 0 ≤ t ∧ t ≤ 36524 := by
  have W := cway rs a f t
  rw [h] at W
  cases W with
  | ok h h1 h2 h3 => exact ⟨h, amt_iff.1 h1, inr_iff.1 h2, inr_iff.1 h3⟩

/-! ### PointsOn -/
def ponR (rs : List St) (d : Int) : Int × Int := if codeR rs 0 d d = 0 then (onL rs d, 0) else (0, codeR rs 0 d d)
theorem wgt_one {rs : List St} (hs : schB rs = true) (d : Int) : wgt rs d (d + 1) = onL rs d := by
  rw [wgt_succ hs (Int.le_refl _), wgt_none (Int.le_refl _)]; omega
set_option maxHeartbeats 1000000 in
theorem pointsOn_i (A : Option Addr) (c : Nat) (rs : List St) (d : Int) (w : World) (hR : Rs w A rs) (hcap : rs.length ≤ c) : Calls Try.prog 31 #[.slice A rs.length c, .int .i64 d] w (GivP w (ponR rs d)) := by
  have bA := (below_alloc w (.cells #[.int .i64 d] 2))
  have HC := Lib.hid (@check_iq A (some ⟨w.heap.size, 0, none⟩) c 1 rs [d] 1 _ _ (hR.below bA) (Ir.new1 w d 2) rfl (by omega) chk1)
  rcases codeR_cases rs 0 d d with h | h | h
  · obtain ⟨hs, _, ⟨d0, d1⟩, _⟩ := codeR_zero h
    have HP : Hid (ponR rs d = (wgt rs d (d + 1), 0)) := Lib.hid (by unfold ponR; rw [if_pos h, wgt_one hs])
    rw [h] at HC
    go_enter Try.func31, Try.ntmps31
    go_wp2_with (first
      | (go_at_call 57; refine HC.out.mono ?_; rintro e w1 ⟨rfl, b1⟩; have t1 := belowGo bA b1)
      | (go_at_call 58; refine (weight_i A c rs d (d + 1) _ (hR.below t1) hs hcap d0 (by omega) (by omega)).mono ?_; rintro e w2 ⟨rfl, b2⟩))
    go_ret2
    exact ⟨by rw [HP.out] <;> rfl, belowGo t1 b2⟩
  · have HP : Hid (ponR rs d = (0, 1)) := Lib.hid (by unfold ponR; rw [h]; rfl)
    rw [h] at HC
    go_enter Try.func31, Try.ntmps31
    go_wp2_with (first
      | (go_at_call 57; refine HC.out.mono ?_; rintro e w1 ⟨rfl, b1⟩; have t1 := belowGo bA b1))
    go_ret2
    exact ⟨by rw [HP.out] <;> rfl, t1⟩
  · have HP : Hid (ponR rs d = (0, 2)) := Lib.hid (by unfold ponR; rw [h]; rfl)
    rw [h] at HC
    go_enter Try.func31, Try.ntmps31
    go_wp2_with (first
      | (go_at_call 57; refine HC.out.mono ?_; rintro e w1 ⟨rfl, b1⟩; have t1 := belowGo bA b1))
    go_ret2
    exact ⟨by rw [HP.out] <;> rfl, t1⟩
set_option maxHeartbeats 1000000 in
theorem pointsOn_s (A : Option Addr) (c : Nat) (rs : List St) (d : Int) (w : World) (hR : Rs w A rs) (hn : rs.length ≤ 1048576) : Calls Try.prog 32 #[.slice A rs.length c, .int .i64 d] w (GivP w (ponR rs d)) := by
  have HC := Lib.hid (code_s A c rs 0 d d w hR hn)
  have HP : Hid (ponR rs d = if codeR rs 0 d d = 0 then (onL rs d, 0) else (0, codeR rs 0 d d)) := Lib.hid rfl
  rcases codeR_cases rs 0 d d with h | h | h
  · rw [h, if_pos rfl] at HP
    rw [h] at HC
    go_enter Try.func32, Try.ntmps32
    go_wp2_with (first
      | (go_at_call 45; refine HC.out.mono ?_; rintro e w1 ⟨rfl, b1⟩)
      | (go_at_call 64; refine (on_s A c rs d _ (hR.below b1) hn).mono ?_; rintro e w2 ⟨rfl, b2⟩))
    go_ret2
    exact ⟨by rw [HP.out] <;> rfl, belowGo b1 b2⟩
  · rw [h, if_neg (by decide)] at HP
    rw [h] at HC
    go_enter Try.func32, Try.ntmps32
    go_wp2_with (go_at_call 45; refine HC.out.mono ?_; rintro e w1 ⟨rfl, b1⟩)
    go_ret2
    exact ⟨by rw [HP.out] <;> rfl, b1⟩
  · rw [h, if_neg (by decide)] at HP
    rw [h] at HC
    go_enter Try.func32, Try.ntmps32
    go_wp2_with (go_at_call 45; refine HC.out.mono ?_; rintro e w1 ⟨rfl, b1⟩)
    go_ret2
    exact ⟨by rw [HP.out] <;> rfl, b1⟩

/-! ### WeightOf -/
def wofR (rs : List St) (f t : Int) : Int × Int := if codeR rs 0 f t = 0 then (wgt rs f t, 0) else (0, codeR rs 0 f t)
set_option maxHeartbeats 1000000 in
theorem weightOf_i (A : Option Addr) (c : Nat) (rs : List St) (f t : Int) (w : World) (hR : Rs w A rs) (hcap : rs.length ≤ c) : Calls Try.prog 18 #[.slice A rs.length c, .int .i64 f, .int .i64 t] w (GivP w (wofR rs f t)) := by
  have bA := (below_alloc w (.cells #[.int .i64 f, .int .i64 t] 2))
  have HC := Lib.hid (@check_iq A (some ⟨w.heap.size, 0, none⟩) c 2 rs [f, t] 2 _ _ (hR.below bA) (Ir.new2 w f t 2) rfl (by omega) chk2)
  have HP : Hid (wofR rs f t = if codeR rs 0 f t = 0 then (wgt rs f t, 0) else (0, codeR rs 0 f t)) := Lib.hid rfl
  rcases codeR_cases rs 0 f t with h | h | h
  · obtain ⟨hs, _, ⟨f0, f1⟩, t0, t1⟩ := codeR_zero h
    rw [h, if_pos rfl] at HP
    rw [h] at HC
    go_enter Try.func18, Try.ntmps18
    go_wp2_with (first
      | (go_at_call 57; refine HC.out.mono ?_; rintro e w1 ⟨rfl, b1⟩; have q1 := belowGo bA b1)
      | (go_at_call 58; refine (weight_i A c rs f t _ (hR.below q1) hs hcap f0 (by omega) (by omega)).mono ?_; rintro e w2 ⟨rfl, b2⟩))
    go_ret2
    exact ⟨by rw [HP.out] <;> rfl, belowGo q1 b2⟩
  · rw [h, if_neg (by decide)] at HP
    rw [h] at HC
    go_enter Try.func18, Try.ntmps18
    go_wp2_with (first
      | (go_at_call 57; refine HC.out.mono ?_; rintro e w1 ⟨rfl, b1⟩; have q1 := belowGo bA b1))
    go_ret2
    exact ⟨by rw [HP.out] <;> rfl, q1⟩
  · rw [h, if_neg (by decide)] at HP
    rw [h] at HC
    go_enter Try.func18, Try.ntmps18
    go_wp2_with (first
      | (go_at_call 57; refine HC.out.mono ?_; rintro e w1 ⟨rfl, b1⟩; have q1 := belowGo bA b1))
    go_ret2
    exact ⟨by rw [HP.out] <;> rfl, q1⟩
set_option maxHeartbeats 1000000 in
theorem weightOf_s (A : Option Addr) (c : Nat) (rs : List St) (f t : Int) (w : World) (hR : Rs w A rs) (hn : rs.length ≤ 1048576) : Calls Try.prog 19 #[.slice A rs.length c, .int .i64 f, .int .i64 t] w (GivP w (wofR rs f t)) := by
  have HC := Lib.hid (code_s A c rs 0 f t w hR hn)
  have HP : Hid (wofR rs f t = if codeR rs 0 f t = 0 then (wgt rs f t, 0) else (0, codeR rs 0 f t)) := Lib.hid rfl
  rcases codeR_cases rs 0 f t with h | h | h
  · obtain ⟨hs, _, ⟨f0, f1⟩, t0, t1⟩ := codeR_zero h
    rw [h, if_pos rfl] at HP
    rw [h] at HC
    go_enter Try.func19, Try.ntmps19
    go_wp2_with (first
      | (go_at_call 45; refine HC.out.mono ?_; rintro e w1 ⟨rfl, b1⟩)
      | (go_at_call 48; refine (weight_s A c rs f t _ (hR.below b1) hs f0 (by omega) t0 (by omega)).mono ?_; rintro e w2 ⟨rfl, b2⟩))
    go_ret2
    exact ⟨by rw [HP.out] <;> rfl, belowGo b1 b2⟩
  · rw [h, if_neg (by decide)] at HP
    rw [h] at HC
    go_enter Try.func19, Try.ntmps19
    go_wp2_with (go_at_call 45; refine HC.out.mono ?_; rintro e w1 ⟨rfl, b1⟩)
    go_ret2
    exact ⟨by rw [HP.out] <;> rfl, b1⟩
  · rw [h, if_neg (by decide)] at HP
    rw [h] at HC
    go_enter Try.func19, Try.ntmps19
    go_wp2_with (go_at_call 45; refine HC.out.mono ?_; rintro e w1 ⟨rfl, b1⟩)
    go_ret2
    exact ⟨by rw [HP.out] <;> rfl, b1⟩

/-! ### InterestBetween -/
def ibR (rs : List St) (a f t : Int) : Int × Int := if codeR rs a f t = 0 then nearR a (wgt rs f t) 3650000 else (0, codeR rs a f t)
/-- The ways of InterestBetween: no weight; no amount; both. -/
theorem ib_ways (rs : List St) (a f t : Int) : (∃ v, (v = 1 ∨ v = 2) ∧ wofR rs f t = (0, v) ∧ ibR rs a f t = (0, v)) ∨ (wofR rs f t = (wgt rs f t, 0) ∧ amt a = false ∧ ibR rs a f t = (0, 2)) ∨
    (wofR rs f t = (wgt rs f t, 0) ∧ amt a = true ∧ codeR rs a f t = 0 ∧ ibR rs a f t = nearR a (wgt rs f t) 3650000) := by
  have ha0 : amt 0 = true := by decide
  unfold wofR ibR codeR
  rw [ha0]
  rcases Bool.eq_false_or_eq_true (schB rs) with h | h
  · rcases Bool.eq_false_or_eq_true (inr f 0 36524) with h1 | h1
    · rcases Bool.eq_false_or_eq_true (inr t 0 36524) with h2 | h2
      · rcases Bool.eq_false_or_eq_true (amt a) with h3 | h3
        · right; right; simp [h, h1, h2, h3]
        · right; left; simp [h, h1, h2, h3]
      · left; exact ⟨2, .inr rfl, by simp [h, h1, h2], by simp [h, h1, h2]⟩
    · left; exact ⟨2, .inr rfl, by simp [h, h1], by simp [h, h1]⟩
  · left; exact ⟨1, .inl rfl, by simp [h], by simp [h]⟩
set_option maxHeartbeats 1000000 in
theorem interest_i (A : Option Addr) (c : Nat) (rs : List St) (a f t : Int) (w : World) (hR : Rs w A rs) (hcap : rs.length ≤ c) : Calls Try.prog 12 #[.slice A rs.length c, .int .i64 a, .int .i64 f, .int .i64 t] w (GivP w (ibR rs a f t)) := by
  have HC := Lib.hid (weightOf_i A c rs f t w hR hcap)
  rcases ib_ways rs a f t with ⟨v, hv, e1, e2⟩ | ⟨e1, ha, e2⟩ | ⟨e1, ha, hz, e2⟩
  · rw [e1] at HC
    rw [e2]
    rcases hv with rfl | rfl
    all_goals
      go_enter Try.func12, Try.ntmps12
      go_wp2_with (go_at_call 18; refine HC.out.mono ?_; rintro e w1 ⟨rfl, b1⟩)
      go_ret2
      exact ⟨rfl, b1⟩
  · rw [e1] at HC
    rw [e2]
    go_enter Try.func12, Try.ntmps12
    go_wp2_with (first
      | (go_at_call 18; refine HC.out.mono ?_; rintro e w1 ⟨rfl, b1⟩)
      | (go_at_call 43; refine (amtI_q ha _).mono ?_; rintro e w' ⟨rfl, rfl⟩))
    go_ret2
    exact ⟨rfl, b1⟩
  · rw [e1] at HC
    rw [e2]
    obtain ⟨hs, ⟨a0, a1⟩, ⟨f0, f1⟩, t0, t1⟩ := codeR_zero hz
    obtain ⟨g0, g1⟩ := wgt_bd2 hs (f := f) (t := t) f0 (by omega)
    have HN := Lib.hid (fun w => near_iq a (wgt rs f t) 3650000 w a0 a1 g0 (by omega) (by omega) (by omega))
    generalize nearR a (wgt rs f t) 3650000 = r at *
    generalize wgt rs f t = g at *
    go_enter Try.func12, Try.ntmps12
    go_wp2_with (first
      | (go_at_call 18; refine HC.out.mono ?_; rintro e w1 ⟨rfl, b1⟩)
      | (go_at_call 43; refine (amtI_q ha _).mono ?_; rintro e w' ⟨rfl, rfl⟩)
      | (go_at_call 44; refine (HN.out _).mono ?_; rintro e w2 ⟨rfl, b2⟩))
    go_ret2
    exact ⟨rfl, belowGo b1 b2⟩
set_option maxHeartbeats 1000000 in
theorem interestB_s (A : Option Addr) (c : Nat) (rs : List St) (a f t : Int) (w : World) (hR : Rs w A rs) (hn : rs.length ≤ 1048576) : Calls Try.prog 13 #[.slice A rs.length c, .int .i64 a, .int .i64 f, .int .i64 t] w (GivP w (ibR rs a f t)) := by
  have HC := Lib.hid (code_s A c rs a f t w hR hn)
  have HP : Hid (ibR rs a f t = if codeR rs a f t = 0 then nearR a (wgt rs f t) 3650000 else (0, codeR rs a f t)) := Lib.hid rfl
  rcases codeR_cases rs a f t with h | h | h
  · obtain ⟨hs, ⟨a0, a1⟩, ⟨f0, f1⟩, t0, t1⟩ := codeR_zero h
    rw [h, if_pos rfl, ← resR_near] at HP
    rw [h] at HC
    obtain ⟨g0, g1⟩ := wgt_bd2 hs (f := f) (t := t) f0 (by omega)
    have HN := Lib.hid (fun w => interest_s a (wgt rs f t) w a0 a1 g0 g1)
    have HW := Lib.hid (fun w h => weight_s A c rs f t w h hs f0 (by omega) t0 (by omega))
    generalize nearest (a * wgt rs f t) 3650000 = r at *
    generalize wgt rs f t = g at *
    go_enter Try.func13, Try.ntmps13
    go_wp2_with (first
      | (go_at_call 45; refine HC.out.mono ?_; rintro e w1 ⟨rfl, b1⟩)
      | (go_at_call 48; refine (HW.out _ (hR.below b1)).mono ?_; rintro e w2 ⟨rfl, b2⟩)
      | (go_at_call 47; refine (HN.out _).mono ?_; rintro e w3 ⟨rfl, n, rfl⟩)
      | (go_at_call 46; refine (result_s _ _).mono ?_; rintro e w' ⟨rfl, rfl⟩))
    go_ret2
    exact ⟨by rw [HP.out] <;> rfl, (belowGo b1 b2).trans ((below_drewN _ _).mono (belowGo b1 b2).size)⟩
  · rw [h, if_neg (by decide)] at HP
    rw [h] at HC
    go_enter Try.func13, Try.ntmps13
    go_wp2_with (go_at_call 45; refine HC.out.mono ?_; rintro e w1 ⟨rfl, b1⟩)
    go_ret2
    exact ⟨by rw [HP.out] <;> rfl, b1⟩
  · rw [h, if_neg (by decide)] at HP
    rw [h] at HC
    go_enter Try.func13, Try.ntmps13
    go_wp2_with (go_at_call 45; refine HC.out.mono ?_; rintro e w1 ⟨rfl, b1⟩)
    go_ret2
    exact ⟨by rw [HP.out] <;> rfl, b1⟩
end Go.Proofs.Ythiegfcgbfhmmaa
