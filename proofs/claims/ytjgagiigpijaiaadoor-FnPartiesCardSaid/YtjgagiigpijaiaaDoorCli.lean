/- ClientsOf on both sides. -/
import Derived.Test.YtjgagiigpijaiaaDoorPlace
namespace Go.Proofs.YtjgagiigpijaiaaDoor
open Go.ChangeShapes Go.WideShapes Go.ChangeAt Go.RowKit
set_option linter.unusedVariables false

def cliR (ps : List Pty) (s : List UInt8) : List (List UInt8) × Int := if (plcR ps s).2 = 0 then (codesP (fun p => p.a == s) ps, 0) else ([], (plcR ps s).2)
theorem cliR_ok {ps : List Pty} {s : List UInt8} {k : Int} (h : plcR ps s = (k, 0)) : cliR ps s = (codesP (fun p => p.a == s) ps, 0) := by unfold cliR; rw [h, if_pos rfl]
theorem cliR_no {ps : List Pty} {s : List UInt8} {n : Int} (h : plcR ps s = (0, n)) (hn : n ≠ 0) : cliR ps s = ([], n) := by unfold cliR; rw [h, if_neg hn]
theorem cliR_len (ps : List Pty) (s : List UInt8) : (cliR ps s).1.length ≤ ps.length := by
  unfold cliR; split
  · exact codesP_len _ _
  · exact Nat.zero_le _
set_option maxHeartbeats 1000000 in
theorem clients_i (A : Option Addr) (c : Nat) (ps : List Pty) (s : List UInt8) (w : World) (h : PTbl w A ps) (hs : s.length ≤ 9223372036854775807) (hg : Ety w) :
    Calls Tryd.prog 25 #[.slice A ps.length c, .string ⟨s.toArray⟩] w (NewStrsC w (cliR ps s)) := by
  have b0 : Below w.heap.size w (w.alloc (.cells #[.string ⟨s.toArray⟩] 9)) := (Below.refl _ _).alloc (Nat.le_refl _) _
  have hc : (w.alloc (.cells #[.string ⟨s.toArray⟩] 9)).cell? ⟨w.heap.size, 0, none⟩ = some (.string ⟨s.toArray⟩) := by rw [cell_of_row _ _ _ _ _ _ (heap_alloc_new w _)]; rfl
  have hlt : w.heap.size < (w.alloc (.cells #[.string ⟨s.toArray⟩] 9)).heap.size := by simp
  have hn := h.len
  have HP := Lib.hid (fun (w1 : World) (b1 : Below w.heap.size w w1) => place_i A c ps s w1 (h.below b1) hs)
  have hR := h.row
  have HB := Lib.hid b0
  have HC0 := Lib.hid hc
  have HL := Lib.hid hlt
  have W := sway ps s
  have HO := Lib.hid (fun k => @cliR_ok ps s k)
  have HN := Lib.hid (fun n => @cliR_no ps s n)
  clear h b0 hc hlt
  generalize plcR ps s = r at *
  cases W with
  | ok k p h0 h2 h3 h4 h5 hk hp hc =>
    have E := Lib.hid (HO.out _ rfl)
    clear HO HN h3 h4 h5 hc hp
    generalize cliR ps s = q at *
    go_enter Tryd.func25, Tryd.ntmps25
    go_wp2_with fail
    refine (HP.out _ HB.out).mono ?_
    rintro e w1 ⟨v, rfl, hv, b1⟩
    have hv0 : v = .nilIface := by
      rcases hv with ⟨_, hv⟩ | ⟨hv, _⟩
      · exact hv
      · exact absurd rfl hv
    subst hv0
    clear hv
    have B1 := belowGo HB.out b1
    go_wp2_with fail
    refine (where_agent A c ps s w.heap.size w1 (hR.below B1) hn ((b1.cell (p := ⟨w.heap.size, 0, none⟩) HL.out).trans HC0.out) (Nat.lt_of_lt_of_le HL.out b1.size)).mono ?_
    rintro e w2 ⟨O, d, rfl, o2, b2⟩
    go_wp2_with fail
    go_ret2
    rw [E.out]
    exact ⟨O, d, rfl, own_mono o2 B1.size, belowGo B1 b2⟩
  | reg h0 =>
    have E := Lib.hid (HN.out 1 rfl (by decide))
    clear HO HN
    generalize cliR ps s = q at *
    go_enter Tryd.func25, Tryd.ntmps25
    go_wp2_with fail
    refine (HP.out _ HB.out).mono ?_
    rintro e w1 ⟨v, rfl, hv, b1⟩
    have hv1 : ErrV 1 v := by
      rcases hv with ⟨hv, _⟩ | ⟨_, hv⟩
      · exact absurd hv (by decide)
      · exact hv
    have HC := Lib.hid (codeOf_err 1 v w1 hv1 ((hg.below HB.out).below b1))
    clear hv
    rcases errV_cases hv1 with rfl | ⟨t, rfl⟩
    all_goals
      go_wp2_with (go_at_call 50; refine HC.out.mono ?_; rintro e w2 ⟨rfl, b2⟩)
      go_ret2
      rw [E.out]
      exact ⟨none, 0, rfl, Ost.nil _ _, belowGo (belowGo HB.out b1) b2⟩
  | code h0 h2 =>
    have E := Lib.hid (HN.out 1 rfl (by decide))
    clear HO HN
    generalize cliR ps s = q at *
    go_enter Tryd.func25, Tryd.ntmps25
    go_wp2_with fail
    refine (HP.out _ HB.out).mono ?_
    rintro e w1 ⟨v, rfl, hv, b1⟩
    have hv1 : ErrV 1 v := by
      rcases hv with ⟨hv, _⟩ | ⟨_, hv⟩
      · exact absurd hv (by decide)
      · exact hv
    have HC := Lib.hid (codeOf_err 1 v w1 hv1 ((hg.below HB.out).below b1))
    clear hv
    rcases errV_cases hv1 with rfl | ⟨t, rfl⟩
    all_goals
      go_wp2_with (go_at_call 50; refine HC.out.mono ?_; rintro e w2 ⟨rfl, b2⟩)
      go_ret2
      rw [E.out]
      exact ⟨none, 0, rfl, Ost.nil _ _, belowGo (belowGo HB.out b1) b2⟩
  | none h0 h2 h3 h4 =>
    have E := Lib.hid (HN.out 4 rfl (by decide))
    clear HO HN
    generalize cliR ps s = q at *
    go_enter Tryd.func25, Tryd.ntmps25
    go_wp2_with fail
    refine (HP.out _ HB.out).mono ?_
    rintro e w1 ⟨v, rfl, hv, b1⟩
    have hv1 : ErrV 4 v := by
      rcases hv with ⟨hv, _⟩ | ⟨_, hv⟩
      · exact absurd hv (by decide)
      · exact hv
    have HC := Lib.hid (codeOf_err 4 v w1 hv1 ((hg.below HB.out).below b1))
    clear hv
    rcases errV_cases hv1 with rfl | ⟨t, rfl⟩
    all_goals
      go_wp2_with (go_at_call 50; refine HC.out.mono ?_; rintro e w2 ⟨rfl, b2⟩)
      go_ret2
      rw [E.out]
      exact ⟨none, 0, rfl, Ost.nil _ _, belowGo (belowGo HB.out b1) b2⟩
set_option maxRecDepth 100000 in
set_option maxHeartbeats 2000000 in
theorem clients_s (A : Option Addr) (c : Nat) (ps : List Pty) (s : List UInt8) (w : World) (h : PTbl w A ps) (hs : s.length ≤ 9223372036854775807) :
    Calls Tryd.prog 24 #[.slice A ps.length c, .string ⟨s.toArray⟩] w (NewStrsC w (cliR ps s)) := by
  obtain ⟨i0, hi, hz0, hz1, hz2⟩ := info_parts strInfo
  have hn := h.len
  have HC := Lib.hid (code_s A c ps s w h hs)
  have HO := Lib.hid (fun k => @cliR_ok ps s k)
  have HN := Lib.hid (fun n => @cliR_no ps s n)
  have W := sway ps s
  generalize plcR ps s = r at *
  cases W with
  | ok k p h0 h2 h3 h4 h5 hk hp hc =>
    have E := Lib.hid (HO.out _ rfl)
    clear HO HN h3 h4 h5 hc hp
    generalize cliR ps s = q at *
    go_enter Tryd.func24, Tryd.ntmps24
    go_wp2_with fail
    refine HC.out.mono ?_
    rintro e w1 ⟨rfl, b1⟩
    have hR := h.row.below b1
    clear h HC
    go_wp2_with fail
    go_loopw [7, 8] (fun o i wr => ∃ (k : Nat) (ys : List (List UInt8)), k ≤ ps.length ∧ i = .int .i64 k ∧ wr.ownsRow w1.heap.size 9 1 o ys.length (ys.map encStr) ∧ Hid (ys = codesP (fun p => p.a == s) (ps.take k)) ∧ Below w1.heap.size w1 wr) (fun _ i _ => ps.length - (intOf i).toNat)
    case atStart => exact ⟨0, [], Nat.zero_le _, rfl, made0p _ _ _ _ (Nat.le_refl _), Lib.hid rfl, (Below.refl _ _).alloc (Nat.le_refl _) _⟩
    case round =>
      obtain ⟨k, ys, hk, rfl, hown, hys, hb⟩ := hrel
      obtain ⟨O, q, rfl⟩ := own_form hown
      have hyl : ys.length ≤ k := by rw [hys.out]; have := codesP_len (fun p => p.a == s) (ps.take k); rw [List.length_take] at this; omega
      by_cases hlt : k < ps.length
      · obtain ⟨b, off, p, rfl, hl, hp, h4⟩ := (hR.below hb).at hlt
        have c0 := h4.c0; have c1 := h4.c1; have c2 := h4.c2
        have HS := Lib.hid (codesP_snoc (fun p => p.a == s) (ps.take k) p)
        rw [← snoc_of hp.out, ← hys.out] at HS
        clear hR h4 hp hys
        rcases Bool.eq_false_or_eq_true (p.a == s) with he | he
        · have HS2 : Hid (ys ++ [p.c] = codesP (fun p => p.a == s) (ps.take (k + 1))) := Lib.hid (by rw [HS.out]; simp [he])
          clear HS
          have hsz := hb.size
          go_wp2_with (at_builtin; refine wpList_push _ rfl (.tmp 29) (.tmp 35) 41 rfl w1.heap.size 9 i0 _ 1 16 Tryd.underlying41 hi hz0 hz1 hz2 rfl (by decide) _ ys.length _ rfl hown [.string ⟨p.c.toArray⟩] rfl (by simp [Value.oneCell']) rfl (by unfold maxLen; omega) (by omega) hsz ?_; intro v' w' hown' hb')
          go_roundw
          case rel => exact ⟨k + 1, ys ++ [p.c], by omega, by go_num, by simpa [encStr] using hown', HS2, hb.trans hb'⟩
          case measure => simp [intOf]; omega
        · have HS2 : Hid (ys = codesP (fun p => p.a == s) (ps.take (k + 1))) := Lib.hid (by rw [HS.out]; simp [he])
          clear HS
          go_wp2_with fail
          go_roundw
          case rel => exact ⟨k + 1, ys, by omega, by go_num, hown, HS2, hb⟩
          case measure => simp [intOf]; omega
      · have HY : Hid (codesP (fun p => p.a == s) ps = ys) := Lib.hid (by rw [hys.out, take_all hk hlt])
        clear hys hR
        go_wp2_with fail
        go_ret2
        rw [E.out, HY.out]
        exact ⟨O, q, rfl, own_mono hown b1.size, belowGo b1 hb⟩
  | reg h0 =>
    have E := Lib.hid (HN.out 1 rfl (by decide))
    clear HO HN
    generalize cliR ps s = q at *
    go_enter Tryd.func24, Tryd.ntmps24
    go_wp2_with (go_at_call 47; refine HC.out.mono ?_; rintro e w1 ⟨rfl, b1⟩)
    go_ret2
    rw [E.out]
    exact ⟨none, 0, rfl, Ost.nil _ _, b1⟩
  | code h0 h2 =>
    have E := Lib.hid (HN.out 1 rfl (by decide))
    clear HO HN
    generalize cliR ps s = q at *
    go_enter Tryd.func24, Tryd.ntmps24
    go_wp2_with (go_at_call 47; refine HC.out.mono ?_; rintro e w1 ⟨rfl, b1⟩)
    go_ret2
    rw [E.out]
    exact ⟨none, 0, rfl, Ost.nil _ _, b1⟩
  | none h0 h2 h3 h4 =>
    have E := Lib.hid (HN.out 4 rfl (by decide))
    clear HO HN
    generalize cliR ps s = q at *
    go_enter Tryd.func24, Tryd.ntmps24
    go_wp2_with (go_at_call 47; refine HC.out.mono ?_; rintro e w1 ⟨rfl, b1⟩)
    go_ret2
    rw [E.out]
    exact ⟨none, 0, rfl, Ost.nil _ _, b1⟩
end Go.Proofs.YtjgagiigpijaiaaDoor
