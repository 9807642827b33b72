/- spec.IsEvent, spec.IsLog. (by gen_ev.py) -/
import Derived.Test.YtjcklmhgjdmjoaaEvl
namespace Go.Proofs.Ytjcklmhgjdmjoaa
open Go.ChangeShapes Go.WideShapes Go.ChangeAt Go.RowKit
set_option linter.unusedVariables false

set_option maxRecDepth 100000 in
set_option maxHeartbeats 4000000 in
theorem evalid_s (p : Evt) (w : World) (hc : p.c.length ≤ 9223372036854775807) : Calls Try.prog 72 #[.agg #[.int .i64 p.d, .int .i64 p.k, .string ⟨p.c.toArray⟩, .int .i64 p.a, .bool p.p, .bool p.v, .bool p.r]] w (Gives w (.bool p.ok)) := by
  have B : ∀ o, Hid (Below w.heap.size w (w.alloc o)) := fun o => Lib.hid ((Below.refl _ _).alloc (Nat.le_refl _) _)
  have W := eway p
  obtain ⟨b, hb⟩ : ∃ b, b = p.ok := ⟨_, rfl⟩
  rw [← hb] at W
  rw [← hb]
  clear hb
  cases W
  all_goals
    go_enter Try.func72, Try.ntmps72
    go_wp2_with (first
      | (go_at_call 119; refine (is_q (by assumption) _).mono ?_; rintro e w' ⟨rfl, rfl⟩)
      | (go_at_call 84; refine (innE_q (by assumption) _).mono ?_; rintro e w' ⟨rfl, rfl⟩)
      | (go_at_call 120; refine (pcodeS_qE (by assumption) (by assumption) _).mono ?_; rintro e w' ⟨rfl, rfl⟩)
      | (go_at_call 121; refine (amtS_qE (by assumption) _).mono ?_; rintro e w' ⟨rfl, rfl⟩))
    go_ret
    exact ⟨by first | rfl | simp_all, (B _).out⟩
set_option maxRecDepth 100000 in
set_option maxHeartbeats 4000000 in
theorem isLog_s (A : Option Addr) (c : Nat) (ps : List Evt) (w : World) (h : ETbl w A ps) :
    Calls Try.prog 76 #[.slice A ps.length c] w (Gives w (.bool (logB ps))) := by
  have hR := h.row
  have hs := h.txt
  have hn := h.len
  clear h
  go_enter Try.func76, Try.ntmps76
  go_wp2_with fail
  go_loopw [3] (fun i wr => ∃ k : Nat, k ≤ ps.length ∧ i = .int .i64 k ∧ Hid (lTo ps k = true) ∧ Below w.heap.size w wr) (fun i _ => ps.length - (intOf i).toNat)
  case atStart => exact ⟨0, Nat.zero_le _, rfl, Lib.hid rfl, Below.refl _ _⟩
  case round =>
    obtain ⟨k, hk, rfl, hok, hb⟩ := hrel
    by_cases hlt : k < ps.length
    · obtain ⟨b, off, p, rfl, hl, hp, h4⟩ := (hR.below hb).at hlt
      have hpc := sz_e (hs p (List.mem_of_getElem? hp.out))
      have k0 := Bel.drew wr
      have HV := Lib.hid (fun y : Sub (Bel wr) => (evalid_s p y.w hpc).mono fun e w' h => (⟨h.1, ⟨w', Bel.step y h.2⟩, rfl⟩ : e = .returned (.bool p.ok) ∧ ∃ z : Sub (Bel wr), w' = z.w))
      have q0 : ∀ y : Sub (Bel wr), y.w.cell? ⟨b, off + k * 7, none⟩ = some (.int .i64 p.d) := fun y => (h4.below hl y.h).c0
      have q1 : ∀ y : Sub (Bel wr), y.w.cell? ⟨b, off + k * 7 + 1, none⟩ = some (.int .i64 p.k) := fun y => (h4.below hl y.h).c1
      have q2 : ∀ y : Sub (Bel wr), y.w.cell? ⟨b, off + k * 7 + 2, none⟩ = some (.string ⟨p.c.toArray⟩) := fun y => (h4.below hl y.h).c2
      have q3 : ∀ y : Sub (Bel wr), y.w.cell? ⟨b, off + k * 7 + 3, none⟩ = some (.int .i64 p.a) := fun y => (h4.below hl y.h).c3
      have q4 : ∀ y : Sub (Bel wr), y.w.cell? ⟨b, off + k * 7 + 4, none⟩ = some (.bool p.p) := fun y => (h4.below hl y.h).c4
      have q5 : ∀ y : Sub (Bel wr), y.w.cell? ⟨b, off + k * 7 + 5, none⟩ = some (.bool p.v) := fun y => (h4.below hl y.h).c5
      have q6 : ∀ y : Sub (Bel wr), y.w.cell? ⟨b, off + k * 7 + 6, none⟩ = some (.bool p.r) := fun y => (h4.below hl y.h).c6
      have HB := Lib.hid (fun y : Sub (Bel wr) => (belowGo hb y.h : Below w.heap.size w y.w))
      rcases Bool.eq_false_or_eq_true p.ok with hv | hv
      · rw [hv] at HV
        by_cases hk0 : 0 < k
        · obtain ⟨b', off', q, e2, hl', hq, h4'⟩ := (hR.below hb).at (k := k - 1) (by omega)
          obtain ⟨rfl, rfl⟩ : b = b' ∧ off = off' := by injection e2 with e2; injection e2 with e3 e4; exact ⟨e3, e4⟩
          have p0 : ∀ y : Sub (Bel wr), y.w.cell? ⟨b, off + (k - 1) * 7, none⟩ = some (.int .i64 q.d) := fun y => (h4'.below hl' y.h).c0
          have ho : lAt ps k = decide (q.d ≤ p.d) := by
            obtain ⟨j, rfl⟩ : ∃ j, k = j + 1 := ⟨k - 1, by omega⟩
            rw [lAt_s hp.out (by simpa using hq.out), hv, Bool.true_and]
          have HT := Lib.hid (lTo_succ ps k)
          rw [hok.out, Bool.true_and, ho] at HT
          have E := Lib.hid (fun h : decide (q.d ≤ p.d) = false => log_no hlt (ho.trans h))
          clear hR hs hp hok hv hq h4' h4 e2 ho
          by_cases hqr : q.d ≤ p.d
          · rw [decide_eq_true hqr] at HT
            clear E
            have dd : decide (p.d < q.d) = false := decide_eq_false (by omega)
            go_wp2_with fail
            refine region_held (Bel wr) (by kernel_rfl) (by kernel_rfl) (Bel.drew wr) ?_
            repeat (go_big_quiet_step ((first | rfl | (go_at_call 72; exact HV.out _))))
            refine wpQuiet_nil ?_
            rintro _ ⟨y, rfl⟩
            go_wp2_with fail
            go_roundw
            case rel => exact ⟨k + 1, by omega, by go_num, HT, HB.out y⟩
            case measure => simp [intOf]; omega
          · have E3 : Hid (logB ps = false) := Lib.hid (E.out (decide_eq_false hqr))
            have hqr : p.d < q.d := by omega
            clear E HT
            go_wp2_with fail
            refine region_held (Bel wr) (by kernel_rfl) (by kernel_rfl) (Bel.drew wr) ?_
            repeat (go_big_quiet_step ((first | rfl | (go_at_call 72; exact HV.out _))))
            refine wpQuiet_nil ?_
            rintro _ ⟨y, rfl⟩
            go_wp2_with fail
            go_ret
            exact ⟨by rw [E3.out] <;> rfl, HB.out y⟩
        · have HT : Hid (lTo ps (k + 1) = true) := Lib.hid (by
            rw [lTo_succ, hok.out, Bool.true_and]
            obtain rfl : k = 0 := by omega
            rw [lAt_0 hp.out, hv])
          have hd : decide (0 < (k : Int)) = false := by simp; omega
          clear hR hs hp hok hv h4
          go_wp2_with fail
          refine region_held (Bel wr) (by kernel_rfl) (by kernel_rfl) (Bel.drew wr) ?_
          repeat (go_big_quiet_step ((first | rfl | (go_at_call 72; exact HV.out _))))
          refine wpQuiet_nil ?_
          rintro _ ⟨y, rfl⟩
          go_wp2_with fail
          go_roundw
          case rel => exact ⟨k + 1, by omega, by go_num, HT, HB.out y⟩
          case measure => simp [intOf]; omega
      · rw [hv] at HV
        have E3 : Hid (logB ps = false) := Lib.hid (log_no hlt (lAt_no hp.out hv))
        clear hR hs hp hok hv h4
        go_wp2_with fail
        refine region_held (Bel wr) (by kernel_rfl) (by kernel_rfl) (Bel.drew wr) ?_
        repeat (go_big_quiet_step ((first | rfl | (go_at_call 72; exact HV.out _))))
        refine wpQuiet_nil ?_
        rintro _ ⟨y, rfl⟩
        go_wp2_with fail
        go_ret
        exact ⟨by rw [E3.out] <;> rfl, HB.out y⟩
    · have E := Lib.hid (log_all (by obtain rfl : k = ps.length := by omega
                                     exact hok.out))
      clear hok hR hs
      go_wp2_with fail
      go_ret
      exact ⟨by rw [E.out] <;> rfl, hb⟩
theorem logS_q {w : World} {A : Option Addr} {c : Nat} {ps : List Evt} {b : Bool} (h : ETbl w A ps) (hb : logB ps = b) : Calls Try.prog 76 #[.slice A ps.length c] w (Gives w (.bool b)) := by
  subst hb; exact isLog_s A c ps w h
end Go.Proofs.Ytjcklmhgjdmjoaa
