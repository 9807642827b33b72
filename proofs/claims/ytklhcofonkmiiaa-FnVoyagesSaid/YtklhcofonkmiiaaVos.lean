/- spec.IsVoyage. -/
import Derived.Test.YtklhcofonkmiiaaVol
namespace Go.Proofs.Ytklhcofonkmiiaa
open Go.ChangeShapes Go.WideShapes Go.ChangeAt Go.RowKit
set_option linter.unusedVariables false

theorem isVs_y {S : World → Prop} {n : Int} {b : Bool} (h : inr n 0 36524 = b) (y : Sub S) : Calls Try.prog 47 #[.int .i64 n] y.w fun e w' => e = .returned (.bool b) ∧ ∃ z : Sub S, w' = z.w :=
  (is_q h y.w).mono fun e w' k => ⟨k.1, y, k.2.symm⟩
theorem pcVs_y {S : World → Prop} {s : List UInt8} {b : Bool} (h : pcode s = b) (hl : s.length ≤ 9223372036854775807) (y : Sub S) : Calls Try.prog 55 #[.string ⟨s.toArray⟩] y.w fun e w' => e = .returned (.bool b) ∧ ∃ z : Sub S, w' = z.w :=
  (pcodeS_qV h hl y.w).mono fun e w' k => ⟨k.1, y, k.2.symm⟩
set_option maxRecDepth 100000 in
set_option maxHeartbeats 4000000 in
theorem isVoy_s (A : Option Addr) (c : Nat) (ps : List Sto) (w : World) (h : VTbl w A ps) :
    Calls Try.prog 31 #[.slice A ps.length c] w (Gives w (.bool (voyB ps))) := by
  have hR := h.row
  have hs := h.txt
  have hn := h.len
  clear h
  go_enter Try.func31, Try.ntmps31
  go_wp2_with fail
  go_loopw [3] (fun i wr => ∃ k : Nat, k ≤ ps.length ∧ i = .int .i64 k ∧ Hid (vTo ps k = true) ∧ Below w.heap.size w wr) (fun i _ => ps.length - (intOf i).toNat)
  case atStart => exact ⟨0, Nat.zero_le _, rfl, Lib.hid rfl, Below.refl _ _⟩
  case round =>
    obtain ⟨k, hk, rfl, hok, hb⟩ := hrel
    by_cases hlt : k < ps.length
    · obtain ⟨b, off, p, rfl, hl, hp, h4⟩ := (hR.below hb).at hlt
      have hpc := sz_v (hs p (List.mem_of_getElem? hp.out))
      have k0 := (KeepV.new wr p).drew
      have q0 : ∀ y : Sub (KeepV wr p), y.w.cell? ⟨wr.heap.size, 0, none⟩ = some (.string ⟨p.p.toArray⟩) := fun y => y.h.cells.c0
      have q1 : ∀ y : Sub (KeepV wr p), y.w.cell? ⟨wr.heap.size, 1, none⟩ = some (.int .i64 p.i) := fun y => y.h.cells.c1
      have q2 : ∀ y : Sub (KeepV wr p), y.w.cell? ⟨wr.heap.size, 2, none⟩ = some (.int .i64 p.o) := fun y => y.h.cells.c2
      have HB := Lib.hid (fun y : Sub (KeepV wr p) => (belowGo hb y.h.bel : Below w.heap.size w y.w))
      have c0 := h4.c0; have c1 := h4.c1; have c2 := h4.c2
      have W := vway p
      obtain ⟨v, hv⟩ : ∃ v, v = p.ok := ⟨_, rfl⟩
      rw [← hv] at W
      cases v with
      | true =>
        cases W with
        | ok g0 g1 g2 g3 g4 =>
        have d0 : decide (p.o < p.i) = false := decide_eq_false (by omega)
        by_cases hk0 : 0 < k
        · obtain ⟨b', off', q, e2, hl', hq, h4'⟩ := (hR.below hb).at (k := k - 1) (by omega)
          obtain ⟨rfl, rfl⟩ : b = b' ∧ off = off' := by injection e2 with e2; injection e2 with e3 e4; exact ⟨e3, e4⟩
          have p0 : ∀ y : Sub (KeepV wr p), y.w.cell? ⟨b, off + (k - 1) * 3 + 2, none⟩ = some (.int .i64 q.o) := fun y => (h4'.below hl' y.h.bel).c2
          have ho : vAt ps k = decide (q.o < p.i) := by
            obtain ⟨j, rfl⟩ : ∃ j, k = j + 1 := ⟨k - 1, by omega⟩
            rw [vAt_s hp.out (by simpa using hq.out), ← hv, Bool.true_and]
          have HT := Lib.hid (vTo_succ ps k)
          rw [hok.out, Bool.true_and, ho] at HT
          have E := Lib.hid (fun h : decide (q.o < p.i) = false => voy_no hlt (ho.trans h))
          clear hR hs hp hok hv hq h4' h4 e2 ho
          by_cases hqr : q.o < p.i
          · rw [decide_eq_true hqr] at HT
            clear E
            go_wp2_with fail
            refine region_held (KeepV wr p) (by kernel_rfl) (by kernel_rfl) k0 ?_
            repeat (go_big_quiet_step ((first | rfl | (go_at_call 47; exact isVs_y (by assumption) _) | (go_at_call 55; exact pcVs_y (by assumption) (by assumption) _))))
            refine wpQuiet_nil ?_
            rintro _ ⟨y, rfl⟩
            go_wp2_with fail
            go_roundw
            case rel => exact ⟨k + 1, by omega, by go_num, HT, HB.out y⟩
            case measure => simp [intOf]; omega
          · have E3 : Hid (voyB ps = false) := Lib.hid (E.out (decide_eq_false hqr))
            have hqr : p.i ≤ q.o := by omega
            clear E HT
            go_wp2_with fail
            refine region_held (KeepV wr p) (by kernel_rfl) (by kernel_rfl) k0 ?_
            repeat (go_big_quiet_step ((first | rfl | (go_at_call 47; exact isVs_y (by assumption) _) | (go_at_call 55; exact pcVs_y (by assumption) (by assumption) _))))
            refine wpQuiet_nil ?_
            rintro _ ⟨y, rfl⟩
            go_wp2_with fail
            go_ret
            exact ⟨by rw [E3.out] <;> rfl, HB.out y⟩
        · have HT : Hid (vTo ps (k + 1) = true) := Lib.hid (by
            rw [vTo_succ, hok.out, Bool.true_and]
            obtain rfl : k = 0 := by omega
            rw [vAt_0 hp.out, ← hv])
          have hd : decide (0 < (k : Int)) = false := by simp; omega
          clear hR hs hp hok hv h4
          go_wp2_with fail
          refine region_held (KeepV wr p) (by kernel_rfl) (by kernel_rfl) k0 ?_
          repeat (go_big_quiet_step ((first | rfl | (go_at_call 47; exact isVs_y (by assumption) _) | (go_at_call 55; exact pcVs_y (by assumption) (by assumption) _))))
          refine wpQuiet_nil ?_
          rintro _ ⟨y, rfl⟩
          go_wp2_with fail
          go_roundw
          case rel => exact ⟨k + 1, by omega, by go_num, HT, HB.out y⟩
          case measure => simp [intOf]; omega
      | false =>
        have E := Lib.hid (voy_no hlt (vAt_no hp.out hv.symm))
        clear hR hs hp hok hv h4
        cases W
        all_goals
          go_wp2_with fail
          refine region_held (KeepV wr p) (by kernel_rfl) (by kernel_rfl) k0 ?_
          repeat (go_big_quiet_step ((first | rfl | (go_at_call 47; exact isVs_y (by assumption) _) | (go_at_call 55; exact pcVs_y (by assumption) (by assumption) _))))
          refine wpQuiet_nil ?_
          rintro _ ⟨y, rfl⟩
          go_wp2_with fail
          go_ret
          exact ⟨by rw [E.out] <;> rfl, HB.out y⟩
    · have E := Lib.hid (voy_all (by obtain rfl : k = ps.length := by omega
                                     exact hok.out))
      clear hR hs hok
      go_wp2_with (go_at_call 54; refine (inr_s _ _ _ _).mono ?_; rintro e w' ⟨rfl, rfl⟩)
      go_ret
      exact ⟨by rw [E.out] <;> rfl, hb⟩
theorem voyS_q {w : World} {A : Option Addr} {c : Nat} {ps : List Sto} {b : Bool} (h : VTbl w A ps) (hb : voyB ps = b) : Calls Try.prog 31 #[.slice A ps.length c] w (Gives w (.bool b)) := by
  subst hb; exact isVoy_s A c ps w h
end Go.Proofs.Ytklhcofonkmiiaa
