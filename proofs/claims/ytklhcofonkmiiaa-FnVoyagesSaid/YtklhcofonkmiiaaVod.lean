/- DaysAtSea and LastDay of both. -/
import Derived.Test.YtklhcofonkmiiaaVoq
namespace Go.Proofs.Ytklhcofonkmiiaa
open Go.ChangeShapes Go.WideShapes Go.ChangeAt Go.RowKit
set_option linter.unusedVariables false

/-! ### DaysAtSea -/
set_option maxRecDepth 100000 in
set_option maxHeartbeats 2000000 in
theorem daysAt_i (A : Option Addr) (c : Nat) (ps : List Sto) (f t : Int) (w : World) (h : VTblC w A c ps) :
    Calls Try.prog 18 #[.slice A ps.length c, .int .i64 f, .int .i64 t] w (Gives w (.tuple #[.int .i64 (dasR ps f t).1, .int .i64 (dasR ps f t).2])) := by
  have HR := Lib.hid h.row
  have h := h.tbl
  have hn := h.len
  rcases Bool.eq_false_or_eq_true (voyB ps) with hv | hv
  · rcases Bool.eq_false_or_eq_true (daysB [f, t]) with hd | hd
    · have E : Hid (dasR ps f t = (dasV f t ps, 0)) := Lib.hid (by unfold dasR; rw [if_pos hv, if_pos hd])
      have hd2 := hd
      rw [daysB_2, Bool.and_eq_true] at hd2
      obtain ⟨hf, ht⟩ := hd2
      have hfb := inr_iff.1 hf
      have htb := inr_iff.1 ht
      obtain ⟨hl1, hl10⟩ := (voy_iff.1 hv).2
      have HV := Lib.hid (fun (k : Nat) (r : Sto) (hr : ps[k]? = some r) => (voy_ok hv hr).2)
      have HG := Lib.hid (fun (k : Nat) (q r : Sto) (hq : ps[k]? = some q) (hr : ps[k + 1]? = some r) => dasV_step (f := f) (t := t) hq hr)
      have HE := Lib.hid (fun (k : Nat) (hk : ps.length ≤ k + 1) => dasV_end (f := f) (t := t) hk)
      have HC := Lib.hid (fun W n hn hR => checkV_2 A c ps f t W n hR (chkV_0 hv hd) hn)
      clear hv hd hf ht
      go_enter Try.func18, Try.ntmps18
      go_wp2_with fail
      refine (HC.out _ _ rfl h).mono ?_
      rintro e w1 ⟨rfl, b1⟩
      clear h HC
      go_wp2_with fail
      go_loopw [9, 10] (fun n i wr => ∃ (k : Nat) (N : Int), 1 ≤ k ∧ k ≤ ps.length ∧ i = .int .i64 (k : Int) ∧ n = .int .i64 N ∧ 0 ≤ N ∧ N ≤ 36525 * (k : Int) ∧ Hid (N + dasV f t (ps.drop (k - 1)) = dasV f t ps) ∧ Below w.heap.size w wr) (fun _ i _ => ps.length - (intOf i).toNat)
      case atStart => exact ⟨1, 0, Nat.le_refl _, hl1, rfl, rfl, by omega, by omega, Lib.hid (by simp), b1⟩
      case round =>
        clear b1
        obtain ⟨k, N, hk1, hk, rfl, rfl, hN0, hN1, hs, hb⟩ := hrel
        by_cases hlt : k < ps.length
        · obtain ⟨b, off, r, rfl, hl, hr, h4⟩ := (HR.out.below hb).at hlt
          obtain ⟨b', off', q, e2, hl', hq, h4'⟩ := (HR.out.below hb).at (k := k - 1) (by omega)
          obtain ⟨rfl, rfl⟩ : b = b' ∧ off = off' := by injection e2 with e2; injection e2 with e3 e4; exact ⟨e3, e4⟩
          have g2 := h4'.c2
          have c1 := h4.c1
          obtain ⟨⟨ri0, ri1⟩, ⟨ro0, ro1⟩, rio⟩ := HV.out k r hr.out
          obtain ⟨⟨qi0, qi1⟩, ⟨qo0, qo1⟩, qio⟩ := HV.out (k - 1) q hq.out
          have HS := Lib.hid (HG.out (k - 1) q r hq.out (by rw [show k - 1 + 1 = k by omega]; exact hr.out))
          have hgb := gapV_bd (q := q) (r := r) hfb.1 htb.2
          have HD : Hid (gapV f t q r = max 0 (min t (r.i - 1) - max f (q.o + 1) + 1)) := Lib.hid rfl
          have HS2 : Hid (N + gapV f t q r + dasV f t (ps.drop (k + 1 - 1)) = dasV f t ps) := Lib.hid (by
            have a := hs.out; rw [HS.out, show k - 1 + 1 = k by omega] at a; rw [show k + 1 - 1 = k by omega]; omega)
          rw [HD.out] at HS2 hgb
          obtain ⟨G, hG⟩ : ∃ G, G = max 0 (min t (r.i - 1) - max f (q.o + 1) + 1) := ⟨_, rfl⟩
          have HS3 : Hid (∀ M, M = N + max 0 (min t (r.i - 1) - max f (q.o + 1) + 1) → M + dasV f t (ps.drop (k + 1 - 1)) = dasV f t ps) := Lib.hid (fun M hM => by rw [hM]; exact HS2.out)
          have hmx1 : max f (q.o + 1) ≤ 36525 := by omega
          have hmx0 : 0 ≤ max f (q.o + 1) := by omega
          have hmn1 : min t (r.i - 1) ≤ 36524 := by omega
          have hmn0 : -1 ≤ min t (r.i - 1) := by omega
          obtain ⟨hg0, hg1⟩ := hgb
          clear hs hr hq h4 h4' e2 HS HD HS2 hG
          go_wp2_with (go_at_call 46; refine (least_i _ _ _).mono ?_; rintro e w2 ⟨rfl, rfl⟩)
          go_roundw
          case rel => exact ⟨k + 1, _, by omega, by omega, by go_num, rfl, by omega, by omega, Lib.hid (HS3.out _ rfl), hb⟩
          case measure => simp [intOf]; omega
        · have HT : Hid (N = dasV f t ps) := Lib.hid (by have a := hs.out; rw [HE.out (k - 1) (by omega)] at a; omega)
          clear hs HR HV HG HE
          go_wp2_with fail
          go_ret2
          exact ⟨by rw [E.out, HT.out] <;> rfl, hb⟩
    · have E : Hid (dasR ps f t = (0, 2)) := Lib.hid (by unfold dasR; rw [if_pos hv, if_neg (by rw [hd]; decide)])
      have HC := Lib.hid (fun W n hn hR => checkV_2 A c ps f t W n hR (chkV_2 hv hd) hn)
      go_enter Try.func18, Try.ntmps18
      go_wp2_with fail
      refine (HC.out _ _ rfl h).mono ?_
      rintro e w1 ⟨rfl, b1⟩
      go_wp2_with fail
      go_ret2
      exact ⟨by rw [E.out] <;> rfl, b1⟩
  · have E : Hid (dasR ps f t = (0, 1)) := Lib.hid (by unfold dasR; rw [if_neg (by rw [hv]; decide)])
    have HC := Lib.hid (fun W n hn hR => checkV_2 A c ps f t W n hR (chkV_1 hv) hn)
    go_enter Try.func18, Try.ntmps18
    go_wp2_with fail
    refine (HC.out _ _ rfl h).mono ?_
    rintro e w1 ⟨rfl, b1⟩
    go_wp2_with fail
    go_ret2
    exact ⟨by rw [E.out] <;> rfl, b1⟩
set_option maxRecDepth 100000 in
set_option maxHeartbeats 2000000 in
theorem daysAt_s (A : Option Addr) (c : Nat) (ps : List Sto) (f t : Int) (w : World) (h : VTblC w A c ps) :
    Calls Try.prog 19 #[.slice A ps.length c, .int .i64 f, .int .i64 t] w (Gives w (.tuple #[.int .i64 (dasR ps f t).1, .int .i64 (dasR ps f t).2])) := by
  have HR := Lib.hid h.row
  have h := h.tbl
  have hn := h.len
  rcases Bool.eq_false_or_eq_true (voyB ps) with hv | hv
  · rcases Bool.eq_false_or_eq_true (daysB [f, t]) with hd | hd
    · have E : Hid (dasR ps f t = (dasV f t ps, 0)) := Lib.hid (by unfold dasR; rw [if_pos hv, if_pos hd])
      have hd2 := hd
      rw [daysB_2, Bool.and_eq_true] at hd2
      obtain ⟨hf, ht⟩ := hd2
      have hfb := inr_iff.1 hf
      have htb := inr_iff.1 ht
      obtain ⟨hl1, hl10⟩ := (voy_iff.1 hv).2
      have HV := Lib.hid (fun (k : Nat) (r : Sto) (hr : ps[k]? = some r) => (voy_ok hv hr).2)
      have HG := Lib.hid (fun (k : Nat) (q r : Sto) (hq : ps[k]? = some q) (hr : ps[k + 1]? = some r) => dasV_step (f := f) (t := t) hq hr)
      have HE := Lib.hid (fun (k : Nat) (hk : ps.length ≤ k + 1) => dasV_end (f := f) (t := t) hk)
      have HC := Lib.hid (voyS_q (c := c) h hv)
      clear hv hd
      go_enter Try.func19, Try.ntmps19
      go_wp2_with fail
      refine HC.out.mono ?_
      rintro e w1 ⟨rfl, b1⟩
      clear h HC
      go_wp2_with (go_at_call 47; refine (is_q (by assumption) _).mono ?_; rintro e w2 ⟨rfl, rfl⟩)
      clear hf ht
      go_loopw [8, 9] (fun n i wr => ∃ (k : Nat) (N : Int), 1 ≤ k ∧ k ≤ ps.length ∧ i = .int .i64 (k : Int) ∧ n = .int .i64 N ∧ 0 ≤ N ∧ N ≤ 36525 * (k : Int) ∧ Hid (N + dasV f t (ps.drop (k - 1)) = dasV f t ps) ∧ Below w.heap.size w wr) (fun _ i _ => ps.length - (intOf i).toNat)
      case atStart => exact ⟨1, 0, Nat.le_refl _, hl1, rfl, rfl, by omega, by omega, Lib.hid (by simp), b1⟩
      case round =>
        clear b1
        obtain ⟨k, N, hk1, hk, rfl, rfl, hN0, hN1, hs, hb⟩ := hrel
        by_cases hlt : k < ps.length
        · obtain ⟨b, off, r, rfl, hl, hr, h4⟩ := (HR.out.below hb).at hlt
          obtain ⟨b', off', q, e2, hl', hq, h4'⟩ := (HR.out.below hb).at (k := k - 1) (by omega)
          obtain ⟨rfl, rfl⟩ : b = b' ∧ off = off' := by injection e2 with e2; injection e2 with e3 e4; exact ⟨e3, e4⟩
          have q2 : ∀ y : Sub (Bel wr), y.w.cell? ⟨b, off + (k - 1) * 3 + 2, none⟩ = some (.int .i64 q.o) := fun y => (h4'.below hl' y.h).c2
          have q1 : ∀ y : Sub (Bel wr), y.w.cell? ⟨b, off + k * 3 + 1, none⟩ = some (.int .i64 r.i) := fun y => (h4.below hl y.h).c1
          have HB := Lib.hid (fun y : Sub (Bel wr) => (belowGo hb y.h : Below w.heap.size w y.w))
          obtain ⟨⟨ri0, ri1⟩, ⟨ro0, ro1⟩, rio⟩ := HV.out k r hr.out
          obtain ⟨⟨qi0, qi1⟩, ⟨qo0, qo1⟩, qio⟩ := HV.out (k - 1) q hq.out
          have HS := Lib.hid (HG.out (k - 1) q r hq.out (by rw [show k - 1 + 1 = k by omega]; exact hr.out))
          have hgb := gapV_bd (q := q) (r := r) hfb.1 htb.2
          have HD : Hid (gapV f t q r = max 0 (min t (r.i - 1) - max f (q.o + 1) + 1)) := Lib.hid rfl
          have HS2 : Hid (N + gapV f t q r + dasV f t (ps.drop (k + 1 - 1)) = dasV f t ps) := Lib.hid (by
            have a := hs.out; rw [HS.out, show k - 1 + 1 = k by omega] at a; rw [show k + 1 - 1 = k by omega]; omega)
          rw [HD.out] at HS2 hgb
          obtain ⟨G, hG⟩ : ∃ G, G = max 0 (min t (r.i - 1) - max f (q.o + 1) + 1) := ⟨_, rfl⟩
          have HS3 : Hid (∀ M, M = N + max 0 (min t (r.i - 1) - max f (q.o + 1) + 1) → M + dasV f t (ps.drop (k + 1 - 1)) = dasV f t ps) := Lib.hid (fun M hM => by rw [hM]; exact HS2.out)
          have hmx1 : max f (q.o + 1) ≤ 36525 := by omega
          have hmx0 : 0 ≤ max f (q.o + 1) := by omega
          have hmn1 : min t (r.i - 1) ≤ 36524 := by omega
          have hmn0 : -1 ≤ min t (r.i - 1) := by omega
          obtain ⟨hg0, hg1⟩ := hgb
          clear hs hr hq h4 h4' e2 HS HD HS2 hG
          go_wp2_with fail
          refine region_held (Bel wr) (by kernel_rfl) (by kernel_rfl) (Bel.drew wr) ?_
          repeat (go_big_quiet_step (rfl))
          refine wpQuiet_nil ?_
          rintro _ ⟨y, rfl⟩
          go_wp2_with fail
          go_roundw
          case rel => exact ⟨k + 1, _, by omega, by omega, by go_num, rfl, by omega, by omega, Lib.hid (HS3.out _ rfl), HB.out y⟩
          case measure => simp [intOf]; omega
        · have HT : Hid (N = dasV f t ps) := Lib.hid (by have a := hs.out; rw [HE.out (k - 1) (by omega)] at a; omega)
          clear hs HR HV HG HE
          go_wp2_with fail
          go_ret2
          exact ⟨by rw [E.out, HT.out] <;> rfl, hb⟩
    · have E : Hid (dasR ps f t = (0, 2)) := Lib.hid (by unfold dasR; rw [if_pos hv, if_neg (by rw [hd]; decide)])
      have HC := Lib.hid (voyS_q (c := c) h hv)
      rw [daysB_2, Bool.and_eq_false_iff] at hd
      rcases Bool.eq_false_or_eq_true (inr f 0 36524) with hf | hf
      · have ht : inr t 0 36524 = false := by
          rcases hd with h | h
          · rw [hf] at h; cases h
          · exact h
        clear hd h hv HR
        go_enter Try.func19, Try.ntmps19
        go_wp2_with fail
        refine HC.out.mono ?_
        rintro e w1 ⟨rfl, b1⟩
        go_wp2_with (go_at_call 47; refine (is_q (by assumption) _).mono ?_; rintro e w2 ⟨rfl, rfl⟩)
        go_ret2
        exact ⟨by rw [E.out] <;> rfl, b1⟩
      · clear hd h hv HR
        go_enter Try.func19, Try.ntmps19
        go_wp2_with fail
        refine HC.out.mono ?_
        rintro e w1 ⟨rfl, b1⟩
        go_wp2_with (go_at_call 47; refine (is_q (by assumption) _).mono ?_; rintro e w2 ⟨rfl, rfl⟩)
        go_ret2
        exact ⟨by rw [E.out] <;> rfl, b1⟩
  · have E : Hid (dasR ps f t = (0, 1)) := Lib.hid (by unfold dasR; rw [if_neg (by rw [hv]; decide)])
    have HC := Lib.hid (voyS_q (c := c) h hv)
    clear h hv HR
    go_enter Try.func19, Try.ntmps19
    go_wp2_with fail
    refine HC.out.mono ?_
    rintro e w1 ⟨rfl, b1⟩
    go_wp2_with fail
    go_ret2
    exact ⟨by rw [E.out] <;> rfl, b1⟩
theorem last_i (A : Option Addr) (c : Nat) (ps : List Sto) (w : World) (h : VTblC w A c ps) :
    Calls Try.prog 27 #[.slice A ps.length c] w (Gives w (.tuple #[.int .i64 (lastR ps).1, .int .i64 (lastR ps).2])) := by
  have HR := Lib.hid h.row
  have h := h.tbl
  rcases Bool.eq_false_or_eq_true (voyB ps) with hv | hv
  · obtain ⟨f, l, _, hlst⟩ := voy_ends hv
    have E := Lib.hid (lastR_ok hv hlst)
    have HL := Lib.hid hlst
    obtain ⟨hl1, hl10⟩ := (voy_iff.1 hv).2
    have HC := Lib.hid (voyI_q (c := c) h hv)
    clear h hv hlst
    go_enter Try.func27, Try.ntmps27
    go_wp2_with fail
    refine HC.out.mono ?_
    rintro e w1 ⟨rfl, b1⟩
    obtain ⟨b, off, q, rfl, hl, hq, h4⟩ := (HR.out.below b1).at (show ps.length - 1 < ps.length by omega)
    obtain rfl : l = q := by have a := HL.out; rw [hq.out] at a; exact (Option.some.inj a).symm
    have c2 := h4.c2
    clear h4 hq HR HC
    go_wp2_with fail
    go_ret2
    exact ⟨by rw [E.out] <;> rfl, b1⟩
  · have E := Lib.hid (lastR_no hv)
    have HC := Lib.hid (voyI_q (c := c) h hv)
    clear h hv HR
    go_enter Try.func27, Try.ntmps27
    go_wp2_with fail
    refine HC.out.mono ?_
    rintro e w1 ⟨rfl, b1⟩
    go_wp2_with fail
    go_ret2
    exact ⟨by rw [E.out] <;> rfl, b1⟩
theorem last_s (A : Option Addr) (c : Nat) (ps : List Sto) (w : World) (h : VTblC w A c ps) :
    Calls Try.prog 28 #[.slice A ps.length c] w (Gives w (.tuple #[.int .i64 (lastR ps).1, .int .i64 (lastR ps).2])) := by
  have HR := Lib.hid h.row
  have h := h.tbl
  rcases Bool.eq_false_or_eq_true (voyB ps) with hv | hv
  · obtain ⟨f, l, _, hlst⟩ := voy_ends hv
    have E := Lib.hid (lastR_ok hv hlst)
    have HL := Lib.hid hlst
    obtain ⟨hl1, hl10⟩ := (voy_iff.1 hv).2
    have HC := Lib.hid (voyS_q (c := c) h hv)
    clear h hv hlst
    go_enter Try.func28, Try.ntmps28
    go_wp2_with fail
    refine HC.out.mono ?_
    rintro e w1 ⟨rfl, b1⟩
    obtain ⟨b, off, q, rfl, hl, hq, h4⟩ := (HR.out.below b1).at (show ps.length - 1 < ps.length by omega)
    obtain rfl : l = q := by have a := HL.out; rw [hq.out] at a; exact (Option.some.inj a).symm
    have c2 := h4.c2
    clear h4 hq HR HC
    go_wp2_with fail
    go_ret2
    exact ⟨by rw [E.out] <;> rfl, b1⟩
  · have E := Lib.hid (lastR_no hv)
    have HC := Lib.hid (voyS_q (c := c) h hv)
    clear h hv HR
    go_enter Try.func28, Try.ntmps28
    go_wp2_with fail
    refine HC.out.mono ?_
    rintro e w1 ⟨rfl, b1⟩
    go_wp2_with fail
    go_ret2
    exact ⟨by rw [E.out] <;> rfl, b1⟩
end Go.Proofs.Ytklhcofonkmiiaa
