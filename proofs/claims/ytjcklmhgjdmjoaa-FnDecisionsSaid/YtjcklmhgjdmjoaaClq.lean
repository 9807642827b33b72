/- spec.IsReachable. -/
import Derived.Test.YtjcklmhgjdmjoaaClo
namespace Go.Proofs.Ytjcklmhgjdmjoaa
open Go.ChangeShapes Go.WideShapes Go.ChangeAt Go.RowKit
set_option linter.unusedVariables false

theorem chainL_len (ps : List Cls) (e : Evt) : (chainL ps e).length ≤ 13 := chain_len ps e 13 0
set_option maxRecDepth 100000 in
set_option maxHeartbeats 8000000 in
theorem ir_s_ok (A : Option Addr) (c : Nat) (ps : List Cls) (s : List UInt8) (w : World) (h : CTbl w A ps) (hr : rbB ps = true) (hf : ¬ fndIC ps s < 0) :
    Calls Try.prog 35 #[.slice A ps.length c, .string ⟨s.toArray⟩] w (Gives w (.tuple #[.bool (irR ps s).1, .int .i64 (irR ps s).2])) := by
  have hn := h.len
  have HT := Lib.hid (rbS_q (c := c) h hr)
  have HF := Lib.hid (fun W (hb : Below w.heap.size w W) => find_sC A c ps s W (h.row.below hb) (by omega))
  have HC := Lib.hid (fun k j W (hb : Below w.heap.size w W) => chain_s A c ps (evtC k j) W (h.below hb) (rb_of hr))
  have HL := Lib.hid (fun k j => chainL_len ps (evtC k j))
  have E := Lib.hid (irR_ok hr hf)
  clear h hr
  have HH : Hid (∀ k j, hitC ps (fndIC ps s) k j = (chainL ps (evtC k j)).contains (fndIC ps s)) := Lib.hid fun _ _ => rfl
  generalize fndIC ps s = f at *
  go_enter Try.func35, Try.ntmps35
  go_wp2_with (first | (go_at_call 71; refine HT.out.mono ?_; rintro e w1 ⟨rfl, b1⟩) | (go_at_call 88; refine (HF.out _ b1).mono ?_; rintro e w2 ⟨rfl, rfl⟩))
  clear HT HF
  go_loopw [7] (fun i wr => ∃ k : Nat, k ≤ 7 ∧ i = .int .i64 (k : Int) ∧ Hid (anyHit ps f k = false) ∧ Below w.heap.size w wr) (fun i _ => 7 - (intOf i).toNat)
  case atStart => exact ⟨0, by omega, rfl, Lib.hid rfl, b1⟩
  case round =>
    clear b1
    obtain ⟨k, hk, rfl, hno, hb⟩ := hrel
    by_cases hlt : k < 7
    · have hk6 : decide ((k : Int) ≤ 6) = true := by simp; omega
      go_wp2_with fail
      go_loopw [8] (fun i wr => ∃ j : Nat, j ≤ 8 ∧ i = .int .i64 (j : Int) ∧ Hid (rowHit ps f k j = false) ∧ Below w.heap.size w wr) (fun i _ => 8 - (intOf i).toNat)
      case atStart => exact ⟨0, by omega, rfl, Lib.hid rfl, hb⟩
      case round =>
        clear hb
        obtain ⟨j, hj, rfl, hrow, hb⟩ := hrel
        by_cases hlt2 : j < 8
        · have HCW := Lib.hid (HC.out k j)
          have HLJ := Lib.hid (HL.out k j)
          have HHJ := Lib.hid (HH.out k j)
          have HS := Lib.hid (rowHit_succ ps f k j)
          have HX := Lib.hid (@any_hit ps f k j hlt hlt2)
          have hev : evtC k j = ⟨0, (k : Int), [], 0, (j : Int) % 2 == 1, (j : Int) / 2 % 2 == 1, (j : Int) / 4 == 1⟩ := rfl
          rw [hev] at HCW HLJ HHJ
          clear hev
          obtain ⟨hit, hh⟩ : ∃ b, hitC ps f k j = b := ⟨_, rfl⟩
          have HB := Lib.hid (HHJ.out.symm.trans hh)
          rw [hh] at HS HX
          clear hh HHJ
          go_wp2_with fail
          refine (HCW.out _ (belowGo hb (below_alloc _ _))).mono ?_
          rintro e w1 ⟨C, cc, rfl, o1, b1⟩
          have t1 := belowGo (belowGo hb (below_alloc _ _)) b1
          have HA := Lib.hid (has_s C cc _ f w1 o1.ir (by have := HLJ.out; omega) HB.out)
          clear o1 b1 hb
          cases hit
          · have HR : Hid (rowHit ps f k (j + 1) = false) := Lib.hid (HS.out.trans (by rw [hrow.out]; rfl))
            clear HS HX
            go_wp2_with (go_at_call 89; refine HA.out.mono ?_; rintro e w2 ⟨rfl, rfl⟩)
            go_roundw
            case rel => exact ⟨j + 1, by omega, by go_num, HR, t1⟩
            case measure => simp [intOf]; omega
          · have HR := Lib.hid (HX.out rfl)
            clear HS HX
            go_wp2_with (go_at_call 89; refine HA.out.mono ?_; rintro e w2 ⟨rfl, rfl⟩)
            go_ret2
            exact ⟨by rw [E.out, HR.out] <;> rfl, t1⟩
        · have EK : Hid (anyHit ps f (k + 1) = false) := Lib.hid (by
            rw [anyHit_succ, hno.out, ← show j = 8 by omega, hrow.out]; rfl)
          clear hno hrow
          go_wp2_with fail
          go_roundw
          case rel => exact ⟨k + 1, by omega, by go_num, EK, hb⟩
          case measure => simp [intOf]; omega
    · have E7 : Hid (anyHit ps f 7 = false) := Lib.hid (by
        rw [← show k = 7 by omega]; exact hno.out)
      clear hno
      go_wp2_with fail
      go_ret2
      exact ⟨by rw [E.out, E7.out] <;> rfl, hb⟩
set_option maxHeartbeats 1000000 in
theorem ir_s (A : Option Addr) (c : Nat) (ps : List Cls) (s : List UInt8) (w : World) (h : CTbl w A ps) :
    Calls Try.prog 35 #[.slice A ps.length c, .string ⟨s.toArray⟩] w (Gives w (.tuple #[.bool (irR ps s).1, .int .i64 (irR ps s).2])) := by
  have hn := h.len
  rcases Bool.eq_false_or_eq_true (rbB ps) with hr | hr
  · by_cases hf : fndIC ps s < 0
    · have HT := Lib.hid (rbS_q (c := c) h hr)
      have HF := Lib.hid (fun W (hb : Below w.heap.size w W) => find_sC A c ps s W (h.row.below hb) (by omega))
      have E := Lib.hid (irR_none hr hf)
      clear h hr
      generalize fndIC ps s = f at *
      go_enter Try.func35, Try.ntmps35
      go_wp2_with (first | (go_at_call 71; refine HT.out.mono ?_; rintro e w1 ⟨rfl, b1⟩) | (go_at_call 88; refine (HF.out _ b1).mono ?_; rintro e w2 ⟨rfl, rfl⟩))
      go_ret2
      exact ⟨by rw [E.out] <;> rfl, b1⟩
    · exact ir_s_ok A c ps s w h hr hf
  · have HT := Lib.hid (rbS_q (c := c) h hr)
    have E := Lib.hid (@irR_no ps s hr)
    clear h hr
    go_enter Try.func35, Try.ntmps35
    go_wp2_with (go_at_call 71; refine HT.out.mono ?_; rintro e w1 ⟨rfl, b1⟩)
    go_ret2
    exact ⟨by rw [E.out] <;> rfl, b1⟩
end Go.Proofs.Ytjcklmhgjdmjoaa
