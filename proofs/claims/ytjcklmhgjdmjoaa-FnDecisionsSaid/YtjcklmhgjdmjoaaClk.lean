/- spec.IsRulebook. -/
import Derived.Test.YtjcklmhgjdmjoaaClr
namespace Go.Proofs.Ytjcklmhgjdmjoaa
open Go.ChangeShapes Go.WideShapes Go.ChangeAt Go.RowKit
set_option linter.unusedVariables false

theorem ilen_no {n : Nat} (h : ¬(1 ≤ n ∧ n ≤ 12)) : inr (n : Int) 1 12 = false := by unfold inr; rw [decide_eq_false_iff_not]; omega
theorem ilen_ok {n : Nat} (h : 1 ≤ n ∧ n ≤ 12) : inr (n : Int) 1 12 = true := by unfold inr; rw [decide_eq_true_eq]; omega
theorem rb_of_no {ps : List Cls} (A : Option Addr) (c : Nat) (w : World) (h : ¬(1 ≤ ps.length ∧ ps.length ≤ 12)) :
    Calls Try.prog 71 #[.slice A ps.length c] w (Gives w (.bool (rbB ps))) := by
  have E := Lib.hid (rb_len h)
  have HI := Lib.hid (ilen_no h)
  clear h
  go_enter Try.func71, Try.ntmps71
  go_wp2_with (go_at_call 84; refine (innC_q HI.out _).mono ?_; rintro e w' ⟨rfl, rfl⟩)
  go_ret
  exact ⟨by rw [E.out] <;> rfl, Below.refl _ _⟩
set_option maxRecDepth 100000 in
set_option maxHeartbeats 8000000 in
theorem isRb_s_ok (A : Option Addr) (c m : Nat) (ps : List Cls) (w : World) (h : CTbl w A ps) (hm : ps.length = m + 1) (h12 : m + 1 ≤ 12) :
    Calls Try.prog 71 #[.slice A (m + 1) c] w (Gives w (.bool (rbB ps))) := by
  have HR := Lib.hid h.row
  have HS := Lib.hid h.txt
  have HM := Lib.hid hm
  have HI : Hid (inr ((m + 1 : Nat) : Int) 1 12 = true) := Lib.hid (ilen_ok (by omega))
  have HFN : Hid (∀ s W, Below w.heap.size w W → Calls Try.prog 88 #[.slice A (m + 1) c, .string ⟨(s : List UInt8).toArray⟩] W fun e w' => e = .returned (.int .i64 (fndIC ps s)) ∧ W = w') := Lib.hid (fun s W hb => by
    rw [← HM.out]; exact find_sC A c ps s W (HR.out.below hb) (by rw [HM.out]; omega))
  clear h hm
  go_enter Try.func71, Try.ntmps71
  go_wp2_with (go_at_call 84; refine (innC_q (by simpa using HI.out) _).mono ?_; rintro e w' ⟨rfl, rfl⟩)
  go_loopw [3] (fun i wr => ∃ k : Nat, k ≤ m + 1 ∧ i = .int .i64 k ∧ Hid (rbTo ps k = true) ∧ Below w.heap.size w wr) (fun i _ => m + 1 - (intOf i).toNat)
  case atStart => exact ⟨0, Nat.zero_le _, rfl, Lib.hid rfl, Below.refl _ _⟩
  case round =>
    obtain ⟨k, hk, rfl, hok, hb⟩ := hrel
    by_cases hlt : k < m + 1
    · obtain ⟨b, off, p, rfl, hl, hp, h4⟩ := (HR.out.below hb).at (k := k) (by rw [HM.out]; omega)
      obtain ⟨hpc, hpt⟩ := sz_c (HS.out p (List.mem_of_getElem? hp.out))
      have c0 := h4.c0; have c1 := h4.c1; have c2 := h4.c2; have c3 := h4.c3; have c4 := h4.c4; have c5 := h4.c5; have c6 := h4.c6
      have kb := KeepC.new wr p
      have HV := Lib.hid (fun W => cvalid_s p W hpc hpt)
      have E := Lib.hid (rbAt_some hp.out)
      have HNO := Lib.hid (fun h => rb_no (ps := ps) (k := k) (by rw [HM.out]; omega) h)
      clear hp h4 hpc hpt
      rcases Bool.eq_false_or_eq_true p.ok with hv | hv
      · rw [hv] at HV E
        obtain ⟨f1, hf1⟩ : ∃ f1, fndIC ps p.c = f1 := ⟨_, rfl⟩
        obtain ⟨f2, hf2⟩ : ∃ f2, fndIC ps p.t = f2 := ⟨_, rfl⟩
        rw [hf1, hf2] at E
        by_cases hf : f1 = (k : Int)
        · subst hf
          have z1 : ((k : Int) != (k : Int)) = false := by simp
          rcases Bool.eq_false_or_eq_true (p.e == 3) with he | he
          · rw [he] at E
            by_cases hl2 : f2 ≤ (k : Int)
            · have EN := Lib.hid (HNO.out (by rw [E.out, decide_eq_false (show ¬(k : Int) < f2 by omega)]; simp))
              have z2 : decide (f2 ≤ (k : Int)) = true := decide_eq_true hl2
              clear E HNO hv
              go_wp2_with (first
                | (go_at_call 118; refine (HV.out _).mono ?_; rintro e w1 ⟨rfl, b1⟩; have kb1 := kb.step b1; have t1 := belowGo hb kb1.bel; have d0 := kb1.cells.c0; have d5 := kb1.cells.c5; have d6 := kb1.cells.c6)
                | (go_at_call 88; refine (HFN.out _ _ t1).mono ?_; rintro e w' ⟨rfl, rfl⟩))
              go_ret
              exact ⟨by rw [EN.out] <;> rfl, t1⟩
            · have EK : Hid (rbTo ps (k + 1) = true) := Lib.hid (by rw [rbTo_succ, hok.out, E.out, decide_eq_true (show (k : Int) < f2 by omega)]; simp)
              have z2 : decide (f2 ≤ (k : Int)) = false := decide_eq_false hl2
              clear E HNO hv hok
              go_wp2_with (first
                | (go_at_call 118; refine (HV.out _).mono ?_; rintro e w1 ⟨rfl, b1⟩; have kb1 := kb.step b1; have t1 := belowGo hb kb1.bel; have d0 := kb1.cells.c0; have d5 := kb1.cells.c5; have d6 := kb1.cells.c6)
                | (go_at_call 88; refine (HFN.out _ _ t1).mono ?_; rintro e w' ⟨rfl, rfl⟩))
              go_roundw
              case rel => exact ⟨k + 1, by omega, by go_num, EK, t1⟩
              case measure => simp [intOf]; omega
          · have EK : Hid (rbTo ps (k + 1) = true) := Lib.hid (by rw [rbTo_succ, hok.out, E.out, he]; simp)
            clear E HNO hv hok
            go_wp2_with (first
              | (go_at_call 118; refine (HV.out _).mono ?_; rintro e w1 ⟨rfl, b1⟩; have kb1 := kb.step b1; have t1 := belowGo hb kb1.bel; have d0 := kb1.cells.c0; have d5 := kb1.cells.c5; have d6 := kb1.cells.c6)
              | (go_at_call 88; refine (HFN.out _ _ t1).mono ?_; rintro e w' ⟨rfl, rfl⟩))
            go_roundw
            case rel => exact ⟨k + 1, by omega, by go_num, EK, t1⟩
            case measure => simp [intOf]; omega
        · have z1 : (f1 != (k : Int)) = true := bne_iff_ne.2 hf
          have EN := Lib.hid (HNO.out (by rw [E.out, beq_eq_false_iff_ne.2 hf]; simp))
          clear E HNO hv
          go_wp2_with (first
            | (go_at_call 118; refine (HV.out _).mono ?_; rintro e w1 ⟨rfl, b1⟩; have kb1 := kb.step b1; have t1 := belowGo hb kb1.bel; have d0 := kb1.cells.c0; have d5 := kb1.cells.c5; have d6 := kb1.cells.c6)
            | (go_at_call 88; refine (HFN.out _ _ t1).mono ?_; rintro e w' ⟨rfl, rfl⟩))
          go_ret
          exact ⟨by rw [EN.out] <;> rfl, t1⟩
      · rw [hv] at HV E
        have EN := Lib.hid (HNO.out (by rw [E.out]; rfl))
        clear E HNO hv
        go_wp2_with (go_at_call 118; refine (HV.out _).mono ?_; rintro e w1 ⟨rfl, b1⟩; have t1 := belowGo hb (kb.step b1).bel)
        go_ret
        exact ⟨by rw [EN.out] <;> rfl, t1⟩
    · have hkm : Hid (rbTo ps ps.length = true) := Lib.hid (by have := hok.out; rwa [show k = ps.length by rw [HM.out]; omega] at this)
      obtain ⟨b, off, p, rfl, hl, hp, h4⟩ := (HR.out.below hb).at (k := m) (by rw [HM.out]; omega)
      have c0 := h4.c0; have c1 := h4.c1; have c2 := h4.c2; have c3 := h4.c3; have c4 := h4.c4; have c5 := h4.c5; have c6 := h4.c6
      have E : Hid (rbB ps = endB p) := Lib.hid (rb_end (by rw [HM.out]; omega) hkm.out (by rw [HM.out]; exact hp.out))
      have E2 : Hid (endB p = (p.k == -1 && (p.p == 0 && (p.v == 0 && (p.r == 0 && p.e != 3))))) := Lib.hid rfl
      have hbx := Lib.hid (belowGo hb (KeepC.new wr p).bel)
      clear hp h4 hok
      rcases Bool.eq_false_or_eq_true (p.k == -1) with h0 | h0 <;> rcases Bool.eq_false_or_eq_true (p.p == 0) with h1 | h1 <;> rcases Bool.eq_false_or_eq_true (p.v == 0) with h2 | h2 <;> rcases Bool.eq_false_or_eq_true (p.r == 0) with h3 | h3
      all_goals
        rw [h0, h1, h2, h3] at E2
        go_wp2_with fail
        go_ret
        exact ⟨by rw [E.out, E2.out] <;> simp, hbx.out⟩
theorem isRb_s (A : Option Addr) (c : Nat) (ps : List Cls) (w : World) (h : CTbl w A ps) :
    Calls Try.prog 71 #[.slice A ps.length c] w (Gives w (.bool (rbB ps))) := by
  by_cases hn : 1 ≤ ps.length ∧ ps.length ≤ 12
  · obtain ⟨m, hm⟩ : ∃ m, ps.length = m + 1 := ⟨ps.length - 1, by omega⟩
    rw [hm]
    exact isRb_s_ok A c m ps w h hm (by omega)
  · exact rb_of_no A c w hn
theorem rbS_q {w : World} {A : Option Addr} {c : Nat} {ps : List Cls} {b : Bool} (h : CTbl w A ps) (hb : rbB ps = b) : Calls Try.prog 71 #[.slice A ps.length c] w (Gives w (.bool b)) := by
  rw [← hb]; exact isRb_s A c ps w h
end Go.Proofs.Ytjcklmhgjdmjoaa
