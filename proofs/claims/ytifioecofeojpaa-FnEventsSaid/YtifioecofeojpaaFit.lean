/- DoesFit of both sides. -/
import Derived.Test.YtifioecofeojpaaMEvl
import Derived.Test.YtifioecofeojpaaMMani
namespace Go.Proofs.Ytifioecofeojpaa
open Go.ChangeShapes Go.WideShapes Go.ChangeAt Go.RowKit
set_option linter.unusedVariables false

def fitsB (ps : List Evt) (ms : List Ist) : Bool := ps.all (fun p => hasPM ms p.c)
theorem fits_no {ps : List Evt} {ms : List Ist} {k : Nat} {p : Evt} (h : ps[k]? = some p) (hn : hasPM ms p.c = false) : fitsB ps ms = false := by
  unfold fitsB; rw [List.all_eq_false]; exact ⟨p, List.mem_of_getElem? h, by simp [hn]⟩
theorem fits_next {ps : List Evt} {ms : List Ist} {k : Nat} {p : Evt} (h : ps[k]? = some p) (ht : fitsB (ps.take k) ms = true) (hn : hasPM ms p.c = true) : fitsB (ps.take (k + 1)) ms = true := by
  rw [snoc_of h]; unfold fitsB at *; rw [List.all_append, ht]; simp [hn]
def fitR (ps : List Evt) (ms : List Ist) : Bool × Int := if logB ps = true ∧ manB ms = true then (fitsB ps ms, 0) else (false, 1)
theorem fitR_no {ps : List Evt} {ms : List Ist} (h : logB ps = false ∨ manB ms = false) : fitR ps ms = (false, 1) := by
  unfold fitR; rw [if_neg]; rintro ⟨a, b⟩; rcases h with h | h <;> simp_all
theorem fitR_ok {ps : List Evt} {ms : List Ist} (h : logB ps = true) (h1 : manB ms = true) : fitR ps ms = (fitsB ps ms, 0) := by unfold fitR; rw [if_pos ⟨h, h1⟩]
theorem fndIM_neg (ms : List Ist) (s : List UInt8) : decide (fndIM ms s < 0) = !hasPM ms s := by
  unfold fndIM hasPM
  cases fndM ms s with
  | none => rfl
  | some k => simp

set_option maxRecDepth 100000 in
set_option maxHeartbeats 2000000 in
theorem fits_s (A B : Option Addr) (c d : Nat) (ps : List Evt) (ms : List Ist) (w : World) (h : ETbl w A ps) (hM : ITbl w B ms) :
    Calls Try.prog 68 #[.slice A ps.length c, .slice B ms.length d] w (Gives w (.bool (fitsB ps ms))) := by
  have hn := h.len
  have HR := Lib.hid h.row
  have HM := Lib.hid hM.row
  have hmn := hM.len
  clear h hM
  go_enter Try.func68, Try.ntmps68
  go_wp2_with fail
  go_loopw [5] (fun i wr => ∃ k : Nat, k ≤ ps.length ∧ i = .int .i64 k ∧ Hid (fitsB (ps.take k) ms = true) ∧ Below w.heap.size w wr) (fun i _ => ps.length - (intOf i).toNat)
  case atStart => exact ⟨0, Nat.zero_le _, rfl, Lib.hid rfl, Below.refl _ _⟩
  case round =>
    obtain ⟨k, hk, rfl, hok, hb⟩ := hrel
    by_cases hlt : k < ps.length
    · obtain ⟨b, off, p, rfl, hl, hp, h4⟩ := (HR.out.below hb).at hlt
      have c0 := h4.c0; have c1 := h4.c1; have c2 := h4.c2; have c3 := h4.c3; have c4 := h4.c4; have c5 := h4.c5; have c6 := h4.c6
      have HF := Lib.hid (find_sM B d ms p.c wr (HM.out.below hb) (by omega))
      have hneg := fndIM_neg ms p.c
      have HN := Lib.hid (fun hn => fits_next (ms := ms) hp.out hok.out hn)
      have HX := Lib.hid (fun hn => fits_no (ms := ms) hp.out hn)
      clear h4 hp hok
      generalize fndIM ms p.c = f at *
      rcases Bool.eq_false_or_eq_true (hasPM ms p.c) with he | he
      · have HT := Lib.hid (HN.out he)
        rw [he] at hneg
        clear HN HX he
        go_wp2_with (go_at_call 88; refine HF.out.mono ?_; rintro e w1 ⟨rfl, rfl⟩)
        go_roundw
        case rel => exact ⟨k + 1, by omega, by go_num, HT, hb⟩
        case measure => simp [intOf]; omega
      · have HT := Lib.hid (HX.out he)
        rw [he] at hneg
        clear HN HX he
        go_wp2_with (go_at_call 88; refine HF.out.mono ?_; rintro e w1 ⟨rfl, rfl⟩)
        go_ret
        exact ⟨by rw [HT.out] <;> rfl, hb⟩
    · have HT : Hid (fitsB ps ms = true) := Lib.hid (by have := hok.out; rwa [take_all hk hlt] at this)
      clear hok
      go_wp2_with fail
      go_ret
      exact ⟨by rw [HT.out] <;> rfl, hb⟩
set_option maxHeartbeats 1000000 in
theorem fit_s (A B : Option Addr) (c d : Nat) (ps : List Evt) (ms : List Ist) (w : World) (h : ETbl w A ps) (hM : ITbl w B ms) :
    Calls Try.prog 26 #[.slice A ps.length c, .slice B ms.length d] w (Gives w (.tuple #[.bool (fitR ps ms).1, .int .i64 (fitR ps ms).2])) := by
  have HL := Lib.hid (fun v (hv : logB ps = v) => logS_q (c := c) h hv)
  have HH := Lib.hid h
  have HM := Lib.hid hM
  rcases Bool.eq_false_or_eq_true (logB ps) with hr | hr
  · have HL := Lib.hid (HL.out _ hr)
    rcases Bool.eq_false_or_eq_true (manB ms) with hm | hm
    · have E := Lib.hid (fitR_ok hr hm)
      go_enter Try.func26, Try.ntmps26
      go_wp2_with (first
        | (go_at_call 36; refine HL.out.mono ?_; rintro e w1 ⟨rfl, b1⟩)
        | (go_at_call 67; refine (manS_q (HM.out.below b1) hm).mono ?_; rintro e w2 ⟨rfl, b2⟩)
        | (go_at_call 68; refine (fits_s A B c d ps ms _ ((HH.out.below b1).below b2) ((HM.out.below b1).below b2)).mono ?_; rintro e w3 ⟨rfl, b3⟩))
      go_ret2
      rw [E.out]
      exact ⟨rfl, belowGo (belowGo b1 b2) b3⟩
    · have E := Lib.hid (fitR_no (ps := ps) (.inr hm))
      go_enter Try.func26, Try.ntmps26
      go_wp2_with (first
        | (go_at_call 36; refine HL.out.mono ?_; rintro e w1 ⟨rfl, b1⟩)
        | (go_at_call 67; refine (manS_q (HM.out.below b1) hm).mono ?_; rintro e w2 ⟨rfl, b2⟩))
      go_ret2
      rw [E.out]
      exact ⟨rfl, belowGo b1 b2⟩
  · have HL := Lib.hid (HL.out _ hr)
    have E := Lib.hid (fitR_no (ms := ms) (.inl hr))
    go_enter Try.func26, Try.ntmps26
    go_wp2_with (go_at_call 36; refine HL.out.mono ?_; rintro e w1 ⟨rfl, b1⟩)
    go_ret2
    rw [E.out]
    exact ⟨rfl, b1⟩
set_option maxRecDepth 100000 in
set_option maxHeartbeats 2000000 in
theorem fit_i (A B : Option Addr) (c d : Nat) (ps : List Evt) (ms : List Ist) (w : World) (h : ETbl w A ps) (hM : ITbl w B ms) :
    Calls Try.prog 25 #[.slice A ps.length c, .slice B ms.length d] w (Gives w (.tuple #[.bool (fitR ps ms).1, .int .i64 (fitR ps ms).2])) := by
  have HL := Lib.hid (fun v (hv : logB ps = v) => logI_q (c := c) h hv)
  have HR := Lib.hid h.row
  have HM := Lib.hid hM
  have hn := h.len
  have hmn := hM.len
  clear h hM
  rcases Bool.eq_false_or_eq_true (logB ps) with hr | hr
  · have HL := Lib.hid (HL.out _ hr)
    rcases Bool.eq_false_or_eq_true (manB ms) with hm | hm
    · have E := Lib.hid (fitR_ok hr hm)
      have HO := Lib.hid (ordM_nat hm)
      clear hr
      go_enter Try.func25, Try.ntmps25
      go_wp2_with (first
        | (go_at_call 29; refine HL.out.mono ?_; rintro e w1 ⟨rfl, b1⟩)
        | (go_at_call 65; refine (manI_q (HM.out.below b1) hm).mono ?_; rintro e w2 ⟨rfl, b2⟩))
      have b0 := belowGo b1 b2
      clear hm HL b1 b2
      go_loopw [20] (fun i wr => ∃ k : Nat, k ≤ ps.length ∧ i = .int .i64 k ∧ Hid (fitsB (ps.take k) ms = true) ∧ Below w.heap.size w wr) (fun i _ => ps.length - (intOf i).toNat)
      case atStart => exact ⟨0, Nat.zero_le _, rfl, Lib.hid rfl, b0⟩
      case round =>
        clear b0
        obtain ⟨k, hk, rfl, hok, hb⟩ := hrel
        by_cases hlt : k < ps.length
        · obtain ⟨b, off, p, rfl, hl, hp, h4⟩ := (HR.out.below hb).at hlt
          have c0 := h4.c0; have c1 := h4.c1; have c2 := h4.c2; have c3 := h4.c3; have c4 := h4.c4; have c5 := h4.c5; have c6 := h4.c6
          have kn := KeepE.new wr p
          have hbx := Lib.hid (belowGo hb kn.bel)
          have HF := Lib.hid (search_iM B d ms p.c _ ((HM.out.row.below hb).below kn.bel) (by omega) HO.out)
          have HN := Lib.hid (fun hn => fits_next (ms := ms) hp.out hok.out hn)
          have HX := Lib.hid (fun hn => fits_no (ms := ms) hp.out hn)
          clear h4 hp hok kn
          rcases Bool.eq_false_or_eq_true (hasPM ms p.c) with he | he
          · have HT := Lib.hid (HN.out he)
            rw [he] at HF
            clear HN HX he
            go_wp2_with fail
            refine HF.out.mono ?_
            rintro e w3 ⟨rfl, b3⟩
            go_wp2_with fail
            go_roundw
            case rel => exact ⟨k + 1, by omega, by go_num, HT, belowGo hbx.out b3⟩
            case measure => simp [intOf]; omega
          · have HT := Lib.hid (HX.out he)
            rw [he] at HF
            clear HN HX he
            go_wp2_with fail
            refine HF.out.mono ?_
            rintro e w3 ⟨rfl, b3⟩
            go_wp2_with fail
            go_ret2
            rw [E.out, HT.out]
            exact ⟨rfl, belowGo hbx.out b3⟩
        · have HT : Hid (fitsB ps ms = true) := Lib.hid (by have := hok.out; rwa [take_all hk hlt] at this)
          clear hok
          go_wp2_with fail
          go_ret2
          rw [E.out, HT.out]
          exact ⟨rfl, hb⟩
    · have E := Lib.hid (fitR_no (ps := ps) (.inr hm))
      go_enter Try.func25, Try.ntmps25
      go_wp2_with (first
        | (go_at_call 29; refine HL.out.mono ?_; rintro e w1 ⟨rfl, b1⟩)
        | (go_at_call 65; refine (manI_q (HM.out.below b1) hm).mono ?_; rintro e w2 ⟨rfl, b2⟩))
      go_ret2
      rw [E.out]
      exact ⟨rfl, belowGo b1 b2⟩
  · have HL := Lib.hid (HL.out _ hr)
    have E := Lib.hid (fitR_no (ms := ms) (.inl hr))
    go_enter Try.func25, Try.ntmps25
    go_wp2_with (go_at_call 29; refine HL.out.mono ?_; rintro e w1 ⟨rfl, b1⟩)
    go_ret2
    rw [E.out]
    exact ⟨rfl, b1⟩
end Go.Proofs.Ytifioecofeojpaa
