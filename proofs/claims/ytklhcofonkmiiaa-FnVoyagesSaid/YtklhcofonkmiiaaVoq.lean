/- l07Code, l07Port, PortOn, LegOn of spec. -/
import Derived.Test.YtklhcofonkmiiaaVop
import Derived.Test.YtklhcofonkmiiaaVos
namespace Go.Proofs.Ytklhcofonkmiiaa
open Go.ChangeShapes Go.WideShapes Go.ChangeAt Go.RowKit
set_option linter.unusedVariables false

set_option maxHeartbeats 2000000 in
theorem codeV_s (A : Option Addr) (c : Nat) (ps : List Sto) (d : Int) (w : World) (h : VTbl w A ps) :
    Calls Try.prog 43 #[.slice A ps.length c, .int .i64 d] w (Gives w (.int .i64 (plR ps d).2)) := by
  have W := pway ps d
  have HR := Lib.hid h.row
  generalize plR ps d = u at *
  cases W with
  | bad h0 =>
    have HC := Lib.hid (voyS_q (c := c) h h0)
    clear h0 h HR
    go_enter Try.func43, Try.ntmps43
    go_wp2_with (go_at_call 31; refine HC.out.mono ?_; rintro e w1 ⟨rfl, b1⟩)
    go_ret
    exact ⟨rfl, b1⟩
  | day h0 h1 =>
    have HC := Lib.hid (voyS_q (c := c) h h0)
    clear h0 h HR
    go_enter Try.func43, Try.ntmps43
    go_wp2_with (first | (go_at_call 31; refine HC.out.mono ?_; rintro e w1 ⟨rfl, b1⟩) | (go_at_call 47; refine (is_q h1 _).mono ?_; rintro e w2 ⟨rfl, rfl⟩))
    go_ret
    exact ⟨rfl, b1⟩
  | early f l h0 h1 hf hlst h2 =>
    have HC := Lib.hid (voyS_q (c := c) h h0)
    have hn := (voy_iff.1 h0).2
    have HF := Lib.hid hf
    clear h0 h hf hlst
    go_enter Try.func43, Try.ntmps43
    go_wp2_with fail
    refine HC.out.mono ?_
    rintro e w1 ⟨rfl, b1⟩
    obtain ⟨b, off, q, rfl, hl, hq, h4⟩ := (HR.out.below b1).at (show 0 < ps.length by omega)
    obtain rfl : f = q := by have a := HF.out; rw [hq.out] at a; exact (Option.some.inj a).symm
    have c0 := h4.c0; have c1 := h4.c1; have c2 := h4.c2
    simp only [Nat.zero_mul, Nat.add_zero] at c0 c1 c2
    clear h4 hq HR HC
    go_wp2_with (go_at_call 47; refine (is_q h1 _).mono ?_; rintro e w2 ⟨rfl, rfl⟩)
    go_ret
    exact ⟨rfl, b1⟩
  | late f l h0 h1 hf hlst h2 h3 hlo =>
    have HC := Lib.hid (voyS_q (c := c) h h0)
    have hn := (voy_iff.1 h0).2
    have HF := Lib.hid hf
    have HL := Lib.hid hlst
    clear h0 h hf hlst h3
    go_enter Try.func43, Try.ntmps43
    go_wp2_with fail
    refine HC.out.mono ?_
    rintro e w1 ⟨rfl, b1⟩
    obtain ⟨b, off, q, rfl, hl, hq, h4⟩ := (HR.out.below b1).at (show 0 < ps.length by omega)
    obtain rfl : f = q := by have a := HF.out; rw [hq.out] at a; exact (Option.some.inj a).symm
    have c0 := h4.c0; have c1 := h4.c1; have c2 := h4.c2
    simp only [Nat.zero_mul, Nat.add_zero] at c0 c1 c2
    obtain ⟨b', off', q', e2, hl', hq', h4'⟩ := (HR.out.below b1).at (show ps.length - 1 < ps.length by omega)
    obtain ⟨rfl, rfl⟩ : b = b' ∧ off = off' := by injection e2 with e2; injection e2 with e3 e4; exact ⟨e3, e4⟩
    obtain rfl : l = q' := by have a := HL.out; rw [hq'.out] at a; exact (Option.some.inj a).symm
    have g2 := h4'.c2
    have d1 : decide (d < f.i) = false := decide_eq_false (by omega)
    have d2 : decide (l.o < d) = true := decide_eq_true hlo
    clear h4 hq HR HC h4' hq' e2
    go_wp2_with (go_at_call 47; refine (is_q h1 _).mono ?_; rintro e w2 ⟨rfl, rfl⟩)
    go_ret
    exact ⟨rfl, b1⟩
  | ok f l r h0 h1 hf hlst h2 hk hr h3 hlo =>
    have HC := Lib.hid (voyS_q (c := c) h h0)
    have hn := (voy_iff.1 h0).2
    have HF := Lib.hid hf
    have HL := Lib.hid hlst
    clear h0 h hf hlst h3 hr hk
    go_enter Try.func43, Try.ntmps43
    go_wp2_with fail
    refine HC.out.mono ?_
    rintro e w1 ⟨rfl, b1⟩
    obtain ⟨b, off, q, rfl, hl, hq, h4⟩ := (HR.out.below b1).at (show 0 < ps.length by omega)
    obtain rfl : f = q := by have a := HF.out; rw [hq.out] at a; exact (Option.some.inj a).symm
    have c0 := h4.c0; have c1 := h4.c1; have c2 := h4.c2
    simp only [Nat.zero_mul, Nat.add_zero] at c0 c1 c2
    obtain ⟨b', off', q', e2, hl', hq', h4'⟩ := (HR.out.below b1).at (show ps.length - 1 < ps.length by omega)
    obtain ⟨rfl, rfl⟩ : b = b' ∧ off = off' := by injection e2 with e2; injection e2 with e3 e4; exact ⟨e3, e4⟩
    obtain rfl : l = q' := by have a := HL.out; rw [hq'.out] at a; exact (Option.some.inj a).symm
    have g2 := h4'.c2
    have d1 : decide (d < f.i) = false := decide_eq_false (by omega)
    have d2 : decide (l.o < d) = false := decide_eq_false (by omega)
    clear h4 hq HR HC h4' hq' e2
    go_wp2_with (go_at_call 47; refine (is_q h1 _).mono ?_; rintro e w2 ⟨rfl, rfl⟩)
    go_ret
    exact ⟨rfl, b1⟩
theorem codeV_q {w : World} {A : Option Addr} {c : Nat} {ps : List Sto} {d : Int} {u : Nat × Int} (h : VTbl w A ps) (hu : plR ps d = u) :
    Calls Try.prog 43 #[.slice A ps.length c, .int .i64 d] w (Gives w (.int .i64 u.2)) := by subst hu; exact codeV_s A c ps d w h
theorem inrS_y {S : World → Prop} {n lo hi : Int} {b : Bool} (h : inr n lo hi = b) (y : Sub S) : Calls Try.prog 54 #[.int .i64 n, .int .i64 lo, .int .i64 hi] y.w fun e w' => e = .returned (.bool b) ∧ ∃ z : Sub S, w' = z.w :=
  (inn_q h y.w).mono fun e w' k => ⟨k.1, y, k.2.symm⟩
set_option maxRecDepth 100000 in
set_option maxHeartbeats 2000000 in
theorem portI_s (A : Option Addr) (c : Nat) (ps : List Sto) (d : Int) (w : World) (hR : StoR w A ps) (hn : ps.length ≤ 1000000000) :
    Calls Try.prog 44 #[.slice A ps.length c, .int .i64 d] w (Gives w (.int .i64 (prtI ps d))) := by
  go_enter Try.func44, Try.ntmps44
  go_wp2_with fail
  go_loopw [5] (fun i wr => ∃ k : Nat, k ≤ ps.length ∧ i = .int .i64 k ∧ Hid (∀ (j : Nat) (q : Sto), j < k → ps[j]? = some q → inr d q.i q.o = false) ∧ Below w.heap.size w wr) (fun i _ => ps.length - (intOf i).toNat)
  case atStart => exact ⟨0, Nat.zero_le _, rfl, Lib.hid fun j q hj => by omega, Below.refl _ _⟩
  case round =>
    obtain ⟨k, hk, rfl, hno, hb⟩ := hrel
    by_cases hlt : k < ps.length
    · obtain ⟨b, off, p, rfl, hl, hp, h4⟩ := (hR.below hb).at hlt
      have q1 : ∀ y : Sub (Bel wr), y.w.cell? ⟨b, off + k * 3 + 1, none⟩ = some (.int .i64 p.i) := fun y => (h4.below hl y.h).c1
      have q2 : ∀ y : Sub (Bel wr), y.w.cell? ⟨b, off + k * 3 + 2, none⟩ = some (.int .i64 p.o) := fun y => (h4.below hl y.h).c2
      have HB := Lib.hid (fun y : Sub (Bel wr) => (belowGo hb y.h : Below w.heap.size w y.w))
      rcases Bool.eq_false_or_eq_true (inr d p.i p.o) with he | he
      · have E : Hid (prtI ps d = (k : Int)) := Lib.hid (prt_some hp.out he hno.out)
        clear hp hno h4 hR
        go_wp2_with fail
        refine region_held (Bel wr) (by kernel_rfl) (by kernel_rfl) (Bel.drew wr) ?_
        repeat (go_big_quiet_step ((first | rfl | (go_at_call 54; exact inrS_y (by assumption) _))))
        refine wpQuiet_nil ?_
        rintro _ ⟨y, rfl⟩
        go_wp2_with fail
        go_ret
        exact ⟨by rw [E.out] <;> rfl, HB.out y⟩
      · have HN : Hid (∀ (j : Nat) (q : Sto), j < k + 1 → ps[j]? = some q → inr d q.i q.o = false) := Lib.hid fun j q hj hq => by
          rcases Nat.lt_or_ge j k with h1 | h1
          · exact hno.out j q h1 hq
          · obtain rfl : j = k := by omega
            rw [hp.out] at hq; rw [← Option.some.inj hq]; exact he
        clear hp hno h4 hR
        go_wp2_with fail
        refine region_held (Bel wr) (by kernel_rfl) (by kernel_rfl) (Bel.drew wr) ?_
        repeat (go_big_quiet_step ((first | rfl | (go_at_call 54; exact inrS_y (by assumption) _))))
        refine wpQuiet_nil ?_
        rintro _ ⟨y, rfl⟩
        go_wp2_with fail
        go_roundw
        case rel => exact ⟨k + 1, by omega, by go_num, HN, HB.out y⟩
        case measure => simp [intOf]; omega
    · have E : Hid (prtI ps d = -1) := Lib.hid (prt_none fun j q hq => hno.out j q (by have := (List.getElem?_eq_some_iff.1 hq).1; omega) hq)
      clear hno hR
      go_wp2_with fail
      go_ret
      exact ⟨by rw [E.out] <;> rfl, hb⟩
theorem portI_q {w : World} {A : Option Addr} {c : Nat} {ps : List Sto} {d n : Int} (hR : StoR w A ps) (hn : ps.length ≤ 1000000000) (h : prtI ps d = n) :
    Calls Try.prog 44 #[.slice A ps.length c, .int .i64 d] w (Gives w (.int .i64 n)) := by subst h; exact portI_s A c ps d w hR hn
set_option maxHeartbeats 1000000 in
theorem portOn_s (A : Option Addr) (c : Nat) (ps : List Sto) (d : Int) (w : World) (h : VTblC w A c ps) :
    Calls Try.prog 14 #[.slice A ps.length c, .int .i64 d] w (Gives w (.tuple #[.string ⟨(portR ps d).1.toArray⟩, .int .i64 (portR ps d).2])) := by
  have W := qway ps d
  have HR := Lib.hid h.row
  have h := h.tbl
  have hn := h.len
  obtain ⟨u, hu⟩ : ∃ u, u = plR ps d := ⟨_, rfl⟩
  rw [← hu] at W
  generalize portR ps d = P at *
  generalize legR ps d = L at *
  have HP := Lib.hid (codeV_q (c := c) h hu.symm)
  cases W with
  | no n hn' h' =>
    have hne : (n != 0) = true := by simpa using hn'
    clear h hu h' HR
    go_enter Try.func14, Try.ntmps14
    go_wp2_with fail
    refine HP.out.mono ?_
    rintro e w1 ⟨rfl, b1⟩
    go_wp2_with fail
    go_ret2
    exact ⟨rfl, b1⟩
  | port k r h' hv hk he hr hi =>
    have HF := Lib.hid hr
    have HQ := Lib.hid (by rw [prt_in (d := d) (by rw [he]; exact hr) hi, he] : prtI ps d = (k : Int))
    clear h hu h' hv he hr
    go_enter Try.func14, Try.ntmps14
    go_wp2_with fail
    refine HP.out.mono ?_
    rintro e w1 ⟨rfl, b1⟩
    go_wp2_with fail
    refine (portI_q (HR.out.below b1) (by omega) HQ.out).mono ?_
    rintro e w2 ⟨rfl, b2⟩
    have t2 := belowGo b1 b2
    obtain ⟨b, off, q, rfl, hl, hq, h4⟩ := (HR.out.below t2).at hk
    obtain rfl : r = q := by have a := HF.out; rw [hq.out] at a; exact (Option.some.inj a).symm
    have c0 := h4.c0; have c1 := h4.c1; have c2 := h4.c2
    clear h4 hq HR HP
    go_wp2_with fail
    go_ret2
    exact ⟨rfl, t2⟩
  | sea k r h' hv hk he hr hi =>
    have HQ := Lib.hid (prt_sea hv (by rw [he]; exact hr) hi)
    clear h hu h' hv he hr
    go_enter Try.func14, Try.ntmps14
    go_wp2_with fail
    refine HP.out.mono ?_
    rintro e w1 ⟨rfl, b1⟩
    go_wp2_with fail
    refine (portI_q (HR.out.below b1) (by omega) HQ.out).mono ?_
    rintro e w2 ⟨rfl, b2⟩
    have t2 := belowGo b1 b2
    clear HR HP
    go_wp2_with fail
    go_ret2
    exact ⟨rfl, t2⟩
set_option maxRecDepth 100000 in
set_option maxHeartbeats 2000000 in
theorem legOn_s (A : Option Addr) (c : Nat) (ps : List Sto) (d : Int) (w : World) (h : VTblC w A c ps) :
    Calls Try.prog 16 #[.slice A ps.length c, .int .i64 d] w (Gives w (.tuple #[.int .i64 (legR ps d).1, .int .i64 (legR ps d).2])) := by
  have W := qway ps d
  have HR := Lib.hid h.row
  have h := h.tbl
  have hn := h.len
  obtain ⟨u, hu⟩ : ∃ u, u = plR ps d := ⟨_, rfl⟩
  rw [← hu] at W
  generalize portR ps d = P at *
  generalize legR ps d = L at *
  have HP := Lib.hid (codeV_q (c := c) h hu.symm)
  cases W with
  | no n hn' h' =>
    have hne : (n != 0) = true := by simpa using hn'
    have hne2 : (n == 0) = false := by simpa using hn'
    clear h hu h' HR
    go_enter Try.func16, Try.ntmps16
    go_wp2_with fail
    refine HP.out.mono ?_
    rintro e w1 ⟨rfl, b1⟩
    go_wp2_with fail
    go_ret2
    exact ⟨rfl, b1⟩
  | port k r h' hv hk he hr hi =>
    have HQ := Lib.hid (by rw [prt_in (d := d) (by rw [he]; exact hr) hi, he] : prtI ps d = (k : Int))
    clear h hu h' hv he hr
    go_enter Try.func16, Try.ntmps16
    go_wp2_with fail
    refine HP.out.mono ?_
    rintro e w1 ⟨rfl, b1⟩
    go_wp2_with fail
    refine (portI_q (HR.out.below b1) (by omega) HQ.out).mono ?_
    rintro e w2 ⟨rfl, b2⟩
    have t2 := belowGo b1 b2
    clear HR HP
    go_wp2_with fail
    go_ret2
    exact ⟨rfl, t2⟩
  | sea k r h' hv hk he hr hi =>
    have HQ := Lib.hid (prt_sea hv (by rw [he]; exact hr) hi)
    have HN := Lib.hid (cntO_plc hv d)
    rw [he] at HN
    have HC := Lib.hid (fun (j : Nat) => cntO_le (ps.take j) d)
    clear h hu h' hv he hr
    go_enter Try.func16, Try.ntmps16
    go_wp2_with fail
    refine HP.out.mono ?_
    rintro e w1 ⟨rfl, b1⟩
    go_wp2_with fail
    refine (portI_q (HR.out.below b1) (by omega) HQ.out).mono ?_
    rintro e w2 ⟨rfl, b2⟩
    have t2 := belowGo b1 b2
    clear HP HQ b1 b2
    go_wp2_with fail
    go_loopw [7, 8] (fun n i wr => ∃ (j m : Nat), j ≤ ps.length ∧ m ≤ ps.length ∧ i = .int .i64 j ∧ n = .int .i64 ((m : Int) - 1) ∧ Hid (m = cntO (ps.take j) d) ∧ Below w.heap.size w wr) (fun _ i _ => ps.length - (intOf i).toNat)
    case atStart => exact ⟨0, 0, Nat.zero_le _, Nat.zero_le _, rfl, rfl, Lib.hid rfl, t2⟩
    case round =>
      clear t2
      obtain ⟨j, m, hj, hm, rfl, rfl, hs, hb⟩ := hrel
      by_cases hlt : j < ps.length
      · obtain ⟨b, off, p, rfl, hl, hp, h4⟩ := (HR.out.below hb).at hlt
        have c0 := h4.c0; have c1 := h4.c1; have c2 := h4.c2
        have HS := Lib.hid (cntO_snoc (ps.take j) d p)
        rw [← snoc_of hp.out, ← hs.out] at HS
        have hle := HC.out (j + 1)
        rw [HS.out, List.length_take] at hle
        by_cases ho : p.o < d
        · have d0 : decide (p.o < d) = true := decide_eq_true ho
          rw [if_pos ho] at HS hle
          have hm2 : m + 1 ≤ ps.length := by omega
          clear hs hp h4 hle
          go_wp2_with fail
          go_roundw
          case rel => exact ⟨j + 1, m + 1, by omega, hm2, by go_num, by go_num, Lib.hid HS.out.symm, hb⟩
          case measure => simp [intOf]; omega
        · have d0 : decide (p.o < d) = false := decide_eq_false ho
          rw [if_neg ho] at HS
          clear hs hp h4 hle
          go_wp2_with fail
          go_roundw
          case rel => exact ⟨j + 1, m, by omega, hm, by go_num, by go_num, Lib.hid HS.out.symm, hb⟩
          case measure => simp [intOf]; omega
      · have E : Hid (m = k) := Lib.hid (by
          have a := hs.out
          have b := HN.out j hj
          rw [← a] at b
          omega)
        clear hs HN HC HR
        go_wp2_with fail
        go_ret2
        exact ⟨by rw [E.out] <;> rfl, hb⟩
end Go.Proofs.Ytklhcofonkmiiaa
