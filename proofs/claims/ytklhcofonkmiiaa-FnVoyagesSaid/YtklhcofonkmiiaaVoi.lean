/- (impl.Stop).isValid, impl.IsVoyage. -/
import Derived.Test.YtklhcofonkmiiaaVol
namespace Go.Proofs.Ytklhcofonkmiiaa
open Go.ChangeShapes Go.WideShapes Go.ChangeAt Go.RowKit
set_option linter.unusedVariables false

set_option maxHeartbeats 2000000 in
theorem svalid_i (p : Sto) (w : World) (hc : p.p.length ≤ 9223372036854775807) : Calls Try.prog 56 #[.agg #[.string ⟨p.p.toArray⟩, .int .i64 p.i, .int .i64 p.o]] w (Gives w (.bool p.ok)) := by
  have B : ∀ o, Hid (Below w.heap.size w (w.alloc o)) := fun o => Lib.hid ((Below.refl _ _).alloc (Nat.le_refl _) _)
  have B2 : ∀ o q, Hid (Below w.heap.size w ((w.alloc o).alloc q)) := fun o q => Lib.hid (((Below.refl _ _).alloc (Nat.le_refl _) _).alloc (by simp) _)
  have W := vway p
  obtain ⟨b, hb⟩ : ∃ b, b = p.ok := ⟨_, rfl⟩
  rw [← hb] at W
  rw [← hb]
  clear hb
  cases W
  all_goals
    go_enter Try.func56, Try.ntmps56
    go_wp2_with (first
      | (go_at_call 65; refine (pcodeI_qV (by assumption) (by assumption) _).mono ?_; rintro e w' ⟨rfl, rfl⟩)
      | (go_at_call 62; refine (areDays_two _ _ _ _ (by assumption) (by simp)).mono ?_; rintro e w' ⟨rfl, rfl⟩))
    go_ret
    exact ⟨by first | rfl | simp_all, by first | exact (B _).out | exact (B2 _ _).out⟩

set_option maxRecDepth 100000 in
set_option maxHeartbeats 4000000 in
theorem isVoy_i (A : Option Addr) (c : Nat) (ps : List Sto) (w : World) (h : VTbl w A ps) :
    Calls Try.prog 33 #[.slice A ps.length c] w (Gives w (.bool (voyB ps))) := by
  have hR := h.row
  have hs := h.txt
  have hn := h.len
  clear h
  by_cases h0 : ps.length = 0
  · have E : Hid (voyB ps = false) := Lib.hid (voy_nil h0)
    go_enter Try.func33, Try.ntmps33
    go_wp2_with fail
    go_ret
    exact ⟨by rw [E.out] <;> rfl, Below.refl _ _⟩
  by_cases h12 : 10 < ps.length
  · have E : Hid (voyB ps = false) := Lib.hid (voy_long h12)
    have e0 : ((ps.length : Int) == 0) = false := by simpa using h0
    go_enter Try.func33, Try.ntmps33
    go_wp2_with fail
    go_ret
    exact ⟨by rw [E.out] <;> rfl, Below.refl _ _⟩
  · have e0 : ((ps.length : Int) == 0) = false := by simpa using h0
    have e1 : decide (10 < (ps.length : Int)) = false := by simp; omega
    go_enter Try.func33, Try.ntmps33
    go_wp2_with fail
    go_loopw [15] (fun i wr => ∃ k : Nat, k ≤ ps.length ∧ i = .int .i64 k ∧ Hid (vTo ps k = true) ∧ Below w.heap.size w wr) (fun i _ => ps.length - (intOf i).toNat)
    case atStart => exact ⟨0, Nat.zero_le _, rfl, Lib.hid rfl, Below.refl _ _⟩
    case round =>
      obtain ⟨k, hk, rfl, hok, hb⟩ := hrel
      by_cases hlt : k < ps.length
      · obtain ⟨b, off, p, rfl, hl, hp, h4⟩ := (hR.below hb).at hlt
        have hpc := sz_v (hs p (List.mem_of_getElem? hp.out))
        have k0 := (KeepV.new wr p).drew
        have HV := Lib.hid (fun y : Sub (KeepV wr p) => (svalid_i p y.w hpc).mono fun e w' h => (⟨h.1, ⟨w', y.h.step h.2⟩, rfl⟩ : e = .returned (.bool p.ok) ∧ ∃ z : Sub (KeepV wr p), w' = z.w))
        have q0 : ∀ y : Sub (KeepV wr p), y.w.cell? ⟨wr.heap.size, 0, none⟩ = some (.string ⟨p.p.toArray⟩) := fun y => y.h.cells.c0
        have q1 : ∀ y : Sub (KeepV wr p), y.w.cell? ⟨wr.heap.size, 1, none⟩ = some (.int .i64 p.i) := fun y => y.h.cells.c1
        have q2 : ∀ y : Sub (KeepV wr p), y.w.cell? ⟨wr.heap.size, 2, none⟩ = some (.int .i64 p.o) := fun y => y.h.cells.c2
        have HB := Lib.hid (fun y : Sub (KeepV wr p) => (belowGo hb y.h.bel : Below w.heap.size w y.w))
        have c0 := h4.c0; have c1 := h4.c1; have c2 := h4.c2
        rcases Bool.eq_false_or_eq_true p.ok with hv | hv
        · rw [hv] at HV
          by_cases hk0 : 0 < k
          · obtain ⟨b', off', q, e2, hl', hq, h4'⟩ := (hR.below hb).at (k := k - 1) (by omega)
            obtain ⟨rfl, rfl⟩ : b = b' ∧ off = off' := by injection e2 with e2; injection e2 with e3 e4; exact ⟨e3, e4⟩
            have p0 : ∀ y : Sub (KeepV wr p), y.w.cell? ⟨b, off + (k - 1) * 3 + 2, none⟩ = some (.int .i64 q.o) := fun y => (h4'.below hl' y.h.bel).c2
            have ho : vAt ps k = decide (q.o < p.i) := by
              obtain ⟨j, rfl⟩ : ∃ j, k = j + 1 := ⟨k - 1, by omega⟩
              rw [vAt_s hp.out (by simpa using hq.out), hv, Bool.true_and]
            have HT := Lib.hid (vTo_succ ps k)
            rw [hok.out, Bool.true_and, ho] at HT
            have E := Lib.hid (fun h : decide (q.o < p.i) = false => voy_no hlt (ho.trans h))
            clear hR hs hp hok hv hq h4' h4 e2 ho
            by_cases hqr : q.o < p.i
            · rw [decide_eq_true hqr] at HT
              clear E
              go_wp2_with fail
              refine region_held (KeepV wr p) (by kernel_rfl) (by kernel_rfl) k0 ?_
              repeat (go_big_quiet_step ((first | rfl | (go_at_call 56; exact HV.out _))))
              refine wpQuiet_nil ?_
              rintro _ ⟨y, rfl⟩
              go_wp2_with fail
              go_roundw
              case rel => exact ⟨k + 1, by omega, by go_num, HT, HB.out y⟩
              case measure => simp [intOf]; omega
            · have E3 : Hid (voyB ps = false) := Lib.hid (E.out (decide_eq_false hqr))
              have hqr : p.i ≤ q.o := by omega
              clear E HT
              go_wp2_with fail
              refine region_held (KeepV wr p) (by kernel_rfl) (by kernel_rfl) k0 ?_
              repeat (go_big_quiet_step ((first | rfl | (go_at_call 56; exact HV.out _))))
              refine wpQuiet_nil ?_
              rintro _ ⟨y, rfl⟩
              go_wp2_with fail
              go_ret
              exact ⟨by rw [E3.out] <;> rfl, HB.out y⟩
          · have HT : Hid (vTo ps (k + 1) = true) := Lib.hid (by
              rw [vTo_succ, hok.out, Bool.true_and]
              obtain rfl : k = 0 := by omega
              rw [vAt_0 hp.out, hv])
            have hd : decide (0 < (k : Int)) = false := by simp; omega
            clear hR hs hp hok hv h4
            go_wp2_with fail
            refine region_held (KeepV wr p) (by kernel_rfl) (by kernel_rfl) k0 ?_
            repeat (go_big_quiet_step ((first | rfl | (go_at_call 56; exact HV.out _))))
            refine wpQuiet_nil ?_
            rintro _ ⟨y, rfl⟩
            go_wp2_with fail
            go_roundw
            case rel => exact ⟨k + 1, by omega, by go_num, HT, HB.out y⟩
            case measure => simp [intOf]; omega
        · rw [hv] at HV
          have E3 : Hid (voyB ps = false) := Lib.hid (voy_no hlt (vAt_no hp.out hv))
          clear hR hs hp hok hv h4
          go_wp2_with fail
          refine region_held (KeepV wr p) (by kernel_rfl) (by kernel_rfl) k0 ?_
          repeat (go_big_quiet_step ((first | rfl | (go_at_call 56; exact HV.out _))))
          refine wpQuiet_nil ?_
          rintro _ ⟨y, rfl⟩
          go_wp2_with fail
          go_ret
          exact ⟨by rw [E3.out] <;> rfl, HB.out y⟩
      · have hkl : k = ps.length := by omega
        subst hkl
        have E : Hid (voyB ps = true) := Lib.hid (voy_iff.2 ⟨hok.out, by omega, by omega⟩)
        clear hok hR hs
        go_wp2_with fail
        go_ret
        exact ⟨by rw [E.out] <;> rfl, hb⟩
theorem voyI_q {w : World} {A : Option Addr} {c : Nat} {ps : List Sto} {b : Bool} (h : VTbl w A ps) (hb : voyB ps = b) : Calls Try.prog 33 #[.slice A ps.length c] w (Gives w (.bool b)) := by
  subst hb; exact isVoy_i A c ps w h
end Go.Proofs.Ytklhcofonkmiiaa
