/- spec.ReadAmount's walk over a string without a sign. -/
import Derived.Test.YtifioecofeojpaaGreatDoorReadm
namespace Go.Proofs.YtifioecofeojpaaGreatDoor
open Go.ChangeShapes Go.WideShapes Go.ChangeAt Go.RowKit
set_option linter.unusedVariables false
set_option maxHeartbeats 4000000 in
theorem readm_pos (s : List UInt8) (hl : s.length ≤ 1048576) (hh : ∀ r, s ≠ 45 :: r) (w : World) : Calls Tryz.prog 31 #[.string ⟨s.toArray⟩] w (Money2 s w) := by
  have hs := str_len s
  have hS : Hid (Signed s s false) := Lib.hid (.inr ⟨rfl, rfl, hh⟩)
  by_cases h4 : s.length < 4
  · have E := Lib.hid (short_no hS.out h4)
    rcases (by omega : s.length = 0 ∨ 0 < s.length) with h0 | h0
    · go_enter Tryz.func31, Tryz.ntmps31
      go_wp2_with fail
      go_ret2
      exact ⟨_, _, rfl, Below.refl _ _, .inr ⟨rfl, E.out⟩⟩
    · obtain ⟨b0, e0⟩ : ∃ b, s[0]? = some b := ⟨s[0], by simp [h0]⟩
      have hb0 := at_str s 0 b0 e0
      have hne : ¬ b0.toNat = 45 := fun e => by
        cases s with
        | nil => simp at h0
        | cons c r => simp at e0; subst e0; exact hh r (by rw [show c = 45 from UInt8.toNat_inj.1 e])
      clear hh
      go_enter Tryz.func31, Tryz.ntmps31
      go_wp2_with fail
      go_ret2
      exact ⟨_, _, rfl, Below.refl _ _, .inr ⟨rfl, E.out⟩⟩
  · obtain ⟨c, a, b, ec, ea, eb, et⟩ := cut3 (t := s) (by omega)
    obtain ⟨b0, e0⟩ : ∃ b, s[0]? = some b := ⟨s[0]'(by omega), by simp⟩
    have hb0 := at_str s 0 b0 e0
    have hne : ¬ b0.toNat = 45 := fun e => by
      cases s with
      | nil => simp at h4
      | cons c r => simp at e0; subst e0; exact hh r (by rw [show c = 45 from UInt8.toNat_inj.1 e])
    have hbc := at_str s _ c ec
    have hba := at_str s _ a ea
    have hbb := at_str s _ b eb
    obtain ⟨p, hp⟩ : ∃ p, p = s.take (s.length - 3) := ⟨_, rfl⟩
    rw [← hp] at et
    have hpl : p.length ≤ 1048576 := by rw [hp]; simp; omega
    have hex : (⟨s.toArray⟩ : ByteArray).extract 0 (s.length - 3) = ⟨p.toArray⟩ := by rw [str_ext, hp]; simp
    have HV := Lib.hid (fun w => val_s p hpl w)
    rw [← hex] at HV
    obtain ⟨u, ok, hu⟩ : ∃ u ok, valR p = (u, ok) := ⟨_, _, rfl⟩
    rw [hu] at HV
    obtain ⟨x, hx⟩ : ∃ x : Int, (a.toNat : Int) - 48 = x := ⟨_, rfl⟩
    obtain ⟨y, hy⟩ : ∃ y : Int, (b.toNat : Int) - 48 = y := ⟨_, rfl⟩
    have hM := Lib.hid (fun m (hv : isVal m = true) e => money_of hS.out et (m := m) hv e hu hx hy)
    have ha8 : a.toNat < 256 := a.toNat_lt
    have hb8 : b.toNat < 256 := b.toNat_lt
    have HI1 := Lib.hid (fun w => in_s x 0 9 w)
    have HI2 := Lib.hid (fun w => in_s y 0 9 w)
    have hu0 : 0 ≤ u := by have := val_nonneg p; rwa [hu] at this
    have fa : IntKind.i64.wrap ((a.toNat : Int) - 48) = x := by rw [hx]; exact IntWalk.i64_in _ (by omega)
    have fb : IntKind.i64.wrap ((b.toNat : Int) - 48) = y := by rw [hy]; exact IntWalk.i64_in _ (by omega)
    have f1 : IntKind.i64.wrap ((s.length : Int) - 2) = (s.length : Int) - 2 := IntWalk.i64_in _ (by omega)
    have f2 : IntKind.i64.wrap ((s.length : Int) - 1) = (s.length : Int) - 1 := IntWalk.i64_in _ (by omega)
    have f3 : 0 ≤ (s.length : Int) - 2 ∧ (s.length : Int) - 2 < (s.length : Int) := by omega
    have f4 : 0 ≤ (s.length : Int) - 1 ∧ (s.length : Int) - 1 < (s.length : Int) := by omega
    have f5 : 2 ≤ (s.length : Int) ∧ (s.length : Int) - 2 < (s.length : Int) := by omega
    have f6 : 1 ≤ (s.length : Int) ∧ (s.length : Int) - 1 < (s.length : Int) := by omega
    have f7 : ((s.length : Int) - 2).toNat = s.length - 2 := by omega
    have f8 : ((s.length : Int) - 1).toNat = s.length - 1 := by omega
    clear hex hpl hp hh e0 ec ea eb et hu
    have no : Hid (ok = false ∨ inB 0 9 x = false ∨ inB 0 9 y = false ∨ ¬ u ≤ 10000000000 ∨ ¬ c.toNat = 46 → readR s = (0, 6)) := Lib.hid (fun h => read_no fun m hv e => by
      obtain ⟨g1, g2, g3, g4, g5, g6, g7, _⟩ := hM.out m hv e
      rcases h with h | h | h | h | h
      · rw [g2] at h; cases h
      · rw [inB, decide_eq_true ⟨g3, g4⟩] at h; cases h
      · rw [inB, decide_eq_true ⟨g5, g6⟩] at h; cases h
      · exact h g7
      · exact h g1)
    by_cases hc : c.toNat = 46
    · cases ok with
      | false =>
        have E := Lib.hid (no.out (.inl rfl))
        go_enter Tryz.func31, Tryz.ntmps31
        go_wp2_with fail
        refine (HV.out _).mono ?_
        rintro e w1 ⟨rfl, b1⟩
        go_wp2_with fail
        go_region_with fail
        go_wp2_with fail
        all_goals
          go_ret2
          refine ⟨_, _, rfl, ?_, .inr ⟨rfl, E.out⟩⟩
          first | exact b1 | exact below_drewr b1
      | true =>
        cases hX : inB 0 9 x with
        | false =>
          have E := Lib.hid (no.out (.inr (.inl hX)))
          go_enter Tryz.func31, Tryz.ntmps31
          go_wp2_with fail
          refine (HV.out _).mono ?_
          rintro e w1 ⟨rfl, b1⟩
          go_wp2_with fail
          go_region_with fail
          go_wp2_with (go_at_call 47; refine (in_s _ _ _ _).mono ?_; rintro e w' ⟨rfl, rfl⟩)
          all_goals
            go_ret2
            refine ⟨_, _, rfl, ?_, .inr ⟨rfl, E.out⟩⟩
            first | exact b1 | exact below_drewr b1
        | true =>
          cases hY : inB 0 9 y with
          | false =>
            have E := Lib.hid (no.out (.inr (.inr (.inl hY))))
            go_enter Tryz.func31, Tryz.ntmps31
            go_wp2_with fail
            refine (HV.out _).mono ?_
            rintro e w1 ⟨rfl, b1⟩
            go_wp2_with fail
            go_region_with fail
            go_wp2_with (go_at_call 47; refine (in_s _ _ _ _).mono ?_; rintro e w' ⟨rfl, rfl⟩)
            all_goals
              go_ret2
              refine ⟨_, _, rfl, ?_, .inr ⟨rfl, E.out⟩⟩
              first | exact b1 | exact below_drewr b1
          | true =>
            by_cases hU : u ≤ 10000000000
            · have gx : 0 ≤ x ∧ x ≤ 9 := by simpa [inB] using hX
              have gy : 0 ≤ y ∧ y ≤ 9 := by simpa [inB] using hY
              obtain ⟨gx1, gx2⟩ := gx
              obtain ⟨gy1, gy2⟩ := gy
              have d : decide (10000000000 < u) = false := by simp; omega
              obtain ⟨n, hn⟩ : ∃ n, 100 * u + 10 * x + y = n := ⟨_, rfl⟩
              cases hv : isVal n with
              | false =>
                have E : Hid (readR s = (0, 6)) := Lib.hid (read_no fun m hv2 e => by
                  obtain ⟨_, _, _, _, _, _, _, g⟩ := hM.out m hv2 e
                  have g : m = n := by simp at g; omega
                  rw [g, hv] at hv2; cases hv2)
                go_enter Tryz.func31, Tryz.ntmps31
                go_wp2_with fail
                refine (HV.out _).mono ?_
                rintro e w1 ⟨rfl, b1⟩
                go_wp2_with fail
                go_region_with fail
                go_wp2_with (first | (go_at_call 47; refine (in_s _ _ _ _).mono ?_; rintro e w' ⟨rfl, rfl⟩) | (go_at_call 62; refine (isVal_s _ _).mono ?_; rintro e w' ⟨rfl, rfl⟩))
                all_goals
                  go_ret2
                  refine ⟨_, _, rfl, ?_, .inr ⟨rfl, E.out⟩⟩
                  first | exact b1 | exact below_drewr b1
              | true =>
                have HM := Lib.hid (fun w => money_s n hv w)
                have E : Hid (((money n == s) = true ∧ readR s = (n, 0)) ∨ ((money n == s) = false ∧ readR s = (0, 6))) := Lib.hid (by
                  cases he : money n == s with
                  | true => exact .inl ⟨rfl, read_ok hv (by simpa using he)⟩
                  | false => exact .inr ⟨rfl, read_no fun m hv2 e => by
                      obtain ⟨_, _, _, _, _, _, _, g⟩ := hM.out m hv2 e
                      have g : m = n := by simp at g; omega
                      rw [← g, e] at he; simp at he⟩)
                go_enter Tryz.func31, Tryz.ntmps31
                go_wp2_with fail
                refine (HV.out _).mono ?_
                rintro e w1 ⟨rfl, b1⟩
                go_wp2_with fail
                go_region_with fail
                go_wp2_with (first | (go_at_call 47; refine (in_s _ _ _ _).mono ?_; rintro e w' ⟨rfl, rfl⟩) | (go_at_call 62; refine (isVal_s _ _).mono ?_; rintro e w' ⟨rfl, rfl⟩) | (go_at_call 53; refine (HM.out _).mono ?_; rintro e w2 ⟨rfl, b2⟩))
                all_goals
                  go_ret2
                  refine ⟨_, _, rfl, ?_, E.out⟩
                  first | exact belowGo b1 b2 | exact belowGo b1 (below_drewd b2)
            · have E := Lib.hid (no.out (.inr (.inr (.inr (.inl hU)))))
              have d : decide (10000000000 < u) = true := by simp; omega
              go_enter Tryz.func31, Tryz.ntmps31
              go_wp2_with fail
              refine (HV.out _).mono ?_
              rintro e w1 ⟨rfl, b1⟩
              go_wp2_with fail
              go_region_with fail
              go_wp2_with (go_at_call 47; refine (in_s _ _ _ _).mono ?_; rintro e w' ⟨rfl, rfl⟩)
              all_goals
                go_ret2
                refine ⟨_, _, rfl, ?_, .inr ⟨rfl, E.out⟩⟩
                first | exact b1 | exact below_drewr b1
    · have E := Lib.hid (no.out (.inr (.inr (.inr (.inr hc)))))
      have d : ((c.toNat : Int) != 46) = true := by simp; omega
      go_enter Tryz.func31, Tryz.ntmps31
      go_wp2_with fail
      go_ret2
      exact ⟨_, _, rfl, Below.refl _ _, .inr ⟨rfl, E.out⟩⟩
end Go.Proofs.YtifioecofeojpaaGreatDoor
