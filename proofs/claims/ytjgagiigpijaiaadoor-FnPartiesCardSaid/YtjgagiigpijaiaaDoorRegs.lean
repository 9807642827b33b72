/- spec.IsRegister; the law of IsRegister. -/
import Derived.Test.YtjgagiigpijaiaaDoorRegi
namespace Go.Proofs.YtjgagiigpijaiaaDoor
open Go.ChangeShapes Go.WideShapes Go.ChangeAt Go.RowKit
set_option linter.unusedVariables false

theorem reg_end {ps : List Pty} (h1 : ordTo ps ps.length = true) (h2 : agTo ps ps.length = true) : regB ps = decide ((ps.length : Int) ≤ 12) := by
  unfold regB; rw [h1, h2, Bool.and_self, Bool.and_true]
theorem agB_fnd {ps : List Pty} {s : List UInt8} : (fndI ps s < 0 ∧ agB ps s = false) ∨ ∃ (k : Nat) (q : Pty), fndI ps s = k ∧ ps[k]? = some q ∧ agB ps s = (q.a == []) ∧ k < ps.length := by
  cases hf : fnd ps s with
  | none => left; unfold fndI agB; rw [hf]; exact ⟨by decide, rfl⟩
  | some k =>
    right
    obtain ⟨q, hq, _⟩ := fnd_at hf
    refine ⟨k, q, by unfold fndI; rw [hf], hq, by unfold agB; rw [hf]; simp [hq], fnd_lt hf⟩

set_option maxRecDepth 100000 in
set_option maxHeartbeats 4000000 in
theorem isReg_s (A : Option Addr) (c : Nat) (ps : List Pty) (w : World) (h : PTbl w A ps) :
    Calls Tryd.prog 51 #[.slice A ps.length c] w (Gives w (.bool (regB ps))) := by
  have hR := h.row
  have hs := h.txt
  have hn := h.len
  clear h
  go_enter Tryd.func51, Tryd.ntmps51
  go_wp2_with fail
  go_loopw [3] (fun i wr => ∃ k : Nat, k ≤ ps.length ∧ i = .int .i64 k ∧ Hid (ordTo ps k = true) ∧ Hid (agTo ps k = true) ∧ Below w.heap.size w wr) (fun i _ => ps.length - (intOf i).toNat)
  case atStart => exact ⟨0, Nat.zero_le _, rfl, Lib.hid rfl, Lib.hid rfl, Below.refl _ _⟩
  case round =>
    obtain ⟨k, hk, rfl, hok, hak, hb⟩ := hrel
    by_cases hlt : k < ps.length
    · obtain ⟨b, off, p, rfl, hl, hp, h4⟩ := (hR.below hb).at hlt
      obtain ⟨hpc, hpa⟩ := sz_c (hs p (List.mem_of_getElem? hp.out))
      have k0 := (KeepP.new wr p).drew
      have HV := Lib.hid (fun y : Sub (KeepP wr p) => (pvalid_s p y.w hpc hpa).mono fun e w' h => (⟨h.1, ⟨w', y.h.step h.2⟩, rfl⟩ : e = .returned (.bool p.ok) ∧ ∃ z : Sub (KeepP wr p), w' = z.w))
      have q0 : ∀ y : Sub (KeepP wr p), y.w.cell? ⟨wr.heap.size, 0, none⟩ = some (.string ⟨p.c.toArray⟩) := fun y => y.h.cells.c0
      have q1 : ∀ y : Sub (KeepP wr p), y.w.cell? ⟨wr.heap.size, 1, none⟩ = some (.int .i64 p.k) := fun y => y.h.cells.c1
      have q2 : ∀ y : Sub (KeepP wr p), y.w.cell? ⟨wr.heap.size, 2, none⟩ = some (.string ⟨p.a.toArray⟩) := fun y => y.h.cells.c2
      have HB := Lib.hid (fun y : Sub (KeepP wr p) => (belowGo hb y.h.bel : Below w.heap.size w y.w))
      have c0 := h4.c0; have c1 := h4.c1; have c2 := h4.c2
      rcases Bool.eq_false_or_eq_true (ordAt ps k) with ho | ho
      · -- as described, behind the one before
        have hv : p.ok = true := by
          unfold ordAt at ho; rw [hp.out] at ho; simp only [Bool.and_eq_true] at ho; exact ho.1
        rw [hv] at HV
        have HT : Hid (ordTo ps (k + 1) = true) := Lib.hid (by rw [ordTo_succ, hok.out, ho]; rfl)
        have hag := agAt_eq hp.out
        have HA := Lib.hid (agTo_succ ps k)
        rw [hak.out, Bool.true_and, hag] at HA
        have E := Lib.hid (fun h : (p.a == [] || agB ps p.a) = false => reg_no2 hlt (hag.trans h))
        have HF := Lib.hid (fun y : Sub (KeepP wr p) => find_s (some ⟨b, off, none⟩) c ps p.a y.w ((hR.below hb).below y.h.bel) (by omega))
        have HQ := Lib.hid (fun (y : Sub (KeepP wr p)) (j : Nat) (hj : j < ps.length) => ((hR.below hb).below y.h.bel).at hj)
        have HG := @agB_fnd ps p.a
        by_cases hk0 : 0 < k
        · obtain ⟨b', off', q, e2, hl', hq, h4'⟩ := (hR.below hb).at (k := k - 1) (by omega)
          obtain ⟨rfl, rfl⟩ : b = b' ∧ off = off' := by injection e2 with e2; injection e2 with e3 e4; exact ⟨e3, e4⟩
          have p0 : ∀ y : Sub (KeepP wr p), y.w.cell? ⟨b, off + (k - 1) * 3, none⟩ = some (.string ⟨q.c.toArray⟩) := fun y => (h4'.below hl' y.h.bel).c0
          have hbl : Op.bytesLess q.c p.c = true := by
            obtain ⟨j, rfl⟩ : ∃ j, k = j + 1 := ⟨k - 1, by omega⟩
            rw [ordAt_s hp.out (by simpa using hq.out), hv, Bool.true_and] at ho; exact ho
          clear hR hs hp hok hak hv hq h4' h4 e2 ho hag
          rcases Bool.eq_false_or_eq_true (p.a == []) with ha | ha
          · have HT2 : Hid (agTo ps (k + 1) = true) := Lib.hid (by rw [HA.out, ha]; rfl)
            have hne : (p.a != []) = false := by simpa using ha
            clear HA E HF HQ HG
            go_wp2_with fail
            refine region_held (KeepP wr p) (by kernel_rfl) (by kernel_rfl) k0 ?_
            repeat (go_big_quiet_step ((first | rfl | (go_at_call 52; exact HV.out _))))
            refine wpQuiet_nil ?_
            rintro _ ⟨y, rfl⟩
            have c2 := q2 y
            go_wp2_with fail
            go_roundw
            case rel => exact ⟨k + 1, by omega, by go_num, HT, HT2, HB.out y⟩
            case measure => simp [intOf]; omega
          · have hne : (p.a != []) = true := by simpa using ha
            rw [ha, Bool.false_or] at HA E
            go_wp2_with fail
            refine region_held (KeepP wr p) (by kernel_rfl) (by kernel_rfl) k0 ?_
            repeat (go_big_quiet_step ((first | rfl | (go_at_call 52; exact HV.out _))))
            refine wpQuiet_nil ?_
            rintro _ ⟨y, rfl⟩
            have c2 := q2 y
            have HF2 := Lib.hid (HF.out y)
            rcases HG with ⟨hneg, hg⟩ | ⟨j, q', hj, hq', hg, hjl⟩
            · rw [hg] at HA E
              have E3 := Lib.hid (E.out rfl)
              generalize fndI ps p.a = fi at *
              clear HA E HF HQ hg
              go_wp2_with (go_at_call 48; refine HF2.out.mono ?_; rintro e w1 ⟨rfl, rfl⟩)
              go_ret
              exact ⟨by rw [E3.out] <;> rfl, HB.out y⟩
            · rw [hg] at HA E
              rw [hj] at HF2
              obtain ⟨b5, off5, q5, e5, hl5, hq5, h5⟩ := HQ.out y j hjl
              obtain ⟨rfl, rfl⟩ : b = b5 ∧ off = off5 := by injection e5 with e5; injection e5 with e3 e4; exact ⟨e3, e4⟩
              obtain rfl : q' = q5 := by have h2 := hq5.out; rw [hq'] at h2; exact Option.some.inj h2
              have d0 := h5.c0; have d1 := h5.c1; have d2 := h5.c2
              clear HF HQ hg hq' hq5 h5 e5 hj
              rcases Bool.eq_false_or_eq_true (q'.a == []) with hqa | hqa
              · have HT2 : Hid (agTo ps (k + 1) = true) := Lib.hid (by rw [HA.out, hqa])
                have hqn : (q'.a != []) = false := by simpa using hqa
                clear HA E
                go_wp2_with (go_at_call 48; refine HF2.out.mono ?_; rintro e w1 ⟨rfl, rfl⟩)
                go_roundw
                case rel => exact ⟨k + 1, by omega, by go_num, HT, HT2, HB.out y⟩
                case measure => simp [intOf]; omega
              · have E3 := Lib.hid (E.out hqa)
                have hqn : (q'.a != []) = true := by simpa using hqa
                clear HA E
                go_wp2_with (go_at_call 48; refine HF2.out.mono ?_; rintro e w1 ⟨rfl, rfl⟩)
                go_ret
                exact ⟨by rw [E3.out] <;> rfl, HB.out y⟩
        · have hd : decide (0 < (k : Int)) = false := by simp; omega
          clear hR hs hp hok hak hv h4 ho hag
          rcases Bool.eq_false_or_eq_true (p.a == []) with ha | ha
          · have HT2 : Hid (agTo ps (k + 1) = true) := Lib.hid (by rw [HA.out, ha]; rfl)
            have hne : (p.a != []) = false := by simpa using ha
            clear HA E HF HQ HG
            go_wp2_with fail
            refine region_held (KeepP wr p) (by kernel_rfl) (by kernel_rfl) k0 ?_
            repeat (go_big_quiet_step ((first | rfl | (go_at_call 52; exact HV.out _))))
            refine wpQuiet_nil ?_
            rintro _ ⟨y, rfl⟩
            have c2 := q2 y
            go_wp2_with fail
            go_roundw
            case rel => exact ⟨k + 1, by omega, by go_num, HT, HT2, HB.out y⟩
            case measure => simp [intOf]; omega
          · have hne : (p.a != []) = true := by simpa using ha
            rw [ha, Bool.false_or] at HA E
            go_wp2_with fail
            refine region_held (KeepP wr p) (by kernel_rfl) (by kernel_rfl) k0 ?_
            repeat (go_big_quiet_step ((first | rfl | (go_at_call 52; exact HV.out _))))
            refine wpQuiet_nil ?_
            rintro _ ⟨y, rfl⟩
            have c2 := q2 y
            have HF2 := Lib.hid (HF.out y)
            rcases HG with ⟨hneg, hg⟩ | ⟨j, q', hj, hq', hg, hjl⟩
            · rw [hg] at HA E
              have E3 := Lib.hid (E.out rfl)
              generalize fndI ps p.a = fi at *
              clear HA E HF HQ hg
              go_wp2_with (go_at_call 48; refine HF2.out.mono ?_; rintro e w1 ⟨rfl, rfl⟩)
              go_ret
              exact ⟨by rw [E3.out] <;> rfl, HB.out y⟩
            · rw [hg] at HA E
              rw [hj] at HF2
              obtain ⟨b5, off5, q5, e5, hl5, hq5, h5⟩ := HQ.out y j hjl
              obtain ⟨rfl, rfl⟩ : b = b5 ∧ off = off5 := by injection e5 with e5; injection e5 with e3 e4; exact ⟨e3, e4⟩
              obtain rfl : q' = q5 := by have h2 := hq5.out; rw [hq'] at h2; exact Option.some.inj h2
              have d0 := h5.c0; have d1 := h5.c1; have d2 := h5.c2
              clear HF HQ hg hq' hq5 h5 e5 hj
              rcases Bool.eq_false_or_eq_true (q'.a == []) with hqa | hqa
              · have HT2 : Hid (agTo ps (k + 1) = true) := Lib.hid (by rw [HA.out, hqa])
                have hqn : (q'.a != []) = false := by simpa using hqa
                clear HA E
                go_wp2_with (go_at_call 48; refine HF2.out.mono ?_; rintro e w1 ⟨rfl, rfl⟩)
                go_roundw
                case rel => exact ⟨k + 1, by omega, by go_num, HT, HT2, HB.out y⟩
                case measure => simp [intOf]; omega
              · have E3 := Lib.hid (E.out hqa)
                have hqn : (q'.a != []) = true := by simpa using hqa
                clear HA E
                go_wp2_with (go_at_call 48; refine HF2.out.mono ?_; rintro e w1 ⟨rfl, rfl⟩)
                go_ret
                exact ⟨by rw [E3.out] <;> rfl, HB.out y⟩
      · have E3 := Lib.hid (reg_no1 hlt ho)
        rcases Bool.eq_false_or_eq_true p.ok with hv | hv
        · rw [hv] at HV
          have hk0 : 0 < k := by
            rcases Nat.eq_zero_or_pos k with rfl | h
            · rw [ordAt_0 hp.out, hv] at ho; cases ho
            · exact h
          obtain ⟨b', off', q, e2, hl', hq, h4'⟩ := (hR.below hb).at (k := k - 1) (by omega)
          obtain ⟨rfl, rfl⟩ : b = b' ∧ off = off' := by injection e2 with e2; injection e2 with e3 e4; exact ⟨e3, e4⟩
          have p0 : ∀ y : Sub (KeepP wr p), y.w.cell? ⟨b, off + (k - 1) * 3, none⟩ = some (.string ⟨q.c.toArray⟩) := fun y => (h4'.below hl' y.h.bel).c0
          have hbl : Op.bytesLess q.c p.c = false := by
            obtain ⟨j, rfl⟩ : ∃ j, k = j + 1 := ⟨k - 1, by omega⟩
            rw [ordAt_s hp.out (by simpa using hq.out), hv, Bool.true_and] at ho; exact ho
          clear hR hs hp hok hak hv hq h4' h4 e2 ho
          go_wp2_with fail
          refine region_held (KeepP wr p) (by kernel_rfl) (by kernel_rfl) k0 ?_
          repeat (go_big_quiet_step ((first | rfl | (go_at_call 52; exact HV.out _))))
          refine wpQuiet_nil ?_
          rintro _ ⟨y, rfl⟩
          go_wp2_with fail
          go_ret
          exact ⟨by rw [E3.out] <;> rfl, HB.out y⟩
        · rw [hv] at HV
          clear hR hs hp hok hak hv h4 ho
          go_wp2_with fail
          refine region_held (KeepP wr p) (by kernel_rfl) (by kernel_rfl) k0 ?_
          repeat (go_big_quiet_step ((first | rfl | (go_at_call 52; exact HV.out _))))
          refine wpQuiet_nil ?_
          rintro _ ⟨y, rfl⟩
          go_wp2_with fail
          go_ret
          exact ⟨by rw [E3.out] <;> rfl, HB.out y⟩
    · have E := Lib.hid (by obtain rfl : k = ps.length := by omega
                            exact reg_end hok.out hak.out)
      clear hR hs hok hak
      go_wp2_with fail
      go_ret
      exact ⟨by rw [E.out] <;> rfl, hb⟩
end Go.Proofs.YtjgagiigpijaiaaDoor
