/- spec.IsTable; the law of IsTable. -/
import Derived.Test.YtaehkkcaoniphaaTab
namespace Go.Proofs.Ytaehkkcaoniphaa
open Go.ChangeShapes Go.WideShapes Go.ChangeAt Go.RowKit
set_option linter.unusedVariables false

theorem inn_y {S : World → Prop} {n lo hi : Int} {b : Bool} (h : inr n lo hi = b) (y : Sub S) : Calls Try.prog 72 #[.int .i64 n, .int .i64 lo, .int .i64 hi] y.w fun e w' => e = .returned (.bool b) ∧ ∃ z : Sub S, w' = z.w :=
  (inn_q h y.w).mono fun e w' k => ⟨k.1, y, k.2.symm⟩
theorem is_y {S : World → Prop} {n : Int} {b : Bool} (h : inr n 0 36524 = b) (y : Sub S) : Calls Try.prog 71 #[.int .i64 n] y.w fun e w' => e = .returned (.bool b) ∧ ∃ z : Sub S, w' = z.w :=
  (is_q h y.w).mono fun e w' k => ⟨k.1, y, k.2.symm⟩
theorem codeS_y {S : World → Prop} {s : List UInt8} {b : Bool} (h : codeB s = b) (hl : s.length ≤ 9223372036854775807) (y : Sub S) : Calls Try.prog 31 #[.string ⟨s.toArray⟩] y.w fun e w' => e = .returned (.bool b) ∧ ∃ z : Sub S, w' = z.w :=
  (codeS_q h hl y.w).mono fun e w' k => ⟨k.1, y, k.2.symm⟩
theorem tab_all {rs : List Rt} (h : okTo rs rs.length = true) : tabB rs = decide ((rs.length : Int) ≤ 20) := by unfold tabB; rw [h, Bool.true_and]

set_option maxRecDepth 100000 in
set_option maxHeartbeats 4000000 in
theorem isTable_s (A : Option Addr) (c : Nat) (rs : List Rt) (w : World) (hR : Rr w A rs) (hs : ∀ r ∈ rs, r.c.length ≤ 1048576) (hn : rs.length ≤ 1048576) :
    Calls Try.prog 54 #[.slice A rs.length c] w (Gives w (.bool (tabB rs))) := by
  go_enter Try.func54, Try.ntmps54
  go_wp2_with fail
  go_loopw [3] (fun i wr => ∃ k : Nat, k ≤ rs.length ∧ i = .int .i64 k ∧ Hid (okTo rs k = true) ∧ Below w.heap.size w wr) (fun i _ => rs.length - (intOf i).toNat)
  case atStart => exact ⟨0, Nat.zero_le _, rfl, Lib.hid rfl, Below.refl _ _⟩
  case round =>
    obtain ⟨k, hk, rfl, hok, hb⟩ := hrel
    by_cases hlt : k < rs.length
    · obtain ⟨b, off, r, rfl, hl, hr, h4⟩ := (hR.below hb).four hlt
      have hrl : r.c.length ≤ 9223372036854775807 := by have := hs r (List.mem_of_getElem? hr.out); omega
      obtain ⟨S, hS⟩ : ∃ S : World → Prop, ∀ W, S W ↔ KeepB wr #[.string ⟨r.c.toArray⟩, .int .i64 r.day, .int .i64 r.num, .int .i64 r.den] 30 W := ⟨_, fun _ => Iff.rfl⟩
      have k0 : S (wr.alloc (.cells #[.string ⟨r.c.toArray⟩, .int .i64 r.day, .int .i64 r.num, .int .i64 r.den] 30)).drew := (hS _).2 (KeepB.new wr _ _).drew
      have q0 : ∀ y : Sub S, y.w.cell? ⟨wr.heap.size, 0, none⟩ = some (.string ⟨r.c.toArray⟩) := fun y => ((hS _).1 y.h).all.1
      have q1 : ∀ y : Sub S, y.w.cell? ⟨wr.heap.size, 1, none⟩ = some (.int .i64 r.day) := fun y => ((hS _).1 y.h).all.2.1
      have q2 : ∀ y : Sub S, y.w.cell? ⟨wr.heap.size, 2, none⟩ = some (.int .i64 r.num) := fun y => ((hS _).1 y.h).all.2.2.1
      have q3 : ∀ y : Sub S, y.w.cell? ⟨wr.heap.size, 3, none⟩ = some (.int .i64 r.den) := fun y => ((hS _).1 y.h).all.2.2.2.1
      have HB := Lib.hid (fun y : Sub S => (belowGo hb ((hS _).1 y.h).bel : Below w.heap.size w y.w))
      have c0 := h4.c0; have c1 := h4.c1; have c2 := h4.c2; have c3 := h4.c3
      clear h4
      have W := way r
      obtain ⟨v, hv⟩ : ∃ v, v = r.ok := ⟨_, rfl⟩
      rw [← hv] at W
      cases v with
      | true =>
        cases W with
        | ok g0 g1 g2 g3 g4 =>
        by_cases hk0 : 0 < k
        · obtain ⟨b', off', q, e2, hl', hq, h4'⟩ := (hR.below hb).four (k := k - 1) (by omega)
          obtain ⟨rfl, rfl⟩ : b = b' ∧ off = off' := by injection e2 with e2; injection e2 with e3 e4; exact ⟨e3, e4⟩
          have hql := hs q (List.mem_of_getElem? hq.out)
          have HC := Lib.hid (fun y : Sub S => (before_s q r y.w).mono fun e w' h => (⟨h.1, ⟨w', (hS _).2 (((hS _).1 y.h).step h.2)⟩, rfl⟩ : e = .returned (.bool (bef q r)) ∧ ∃ z : Sub S, w' = z.w))
          have p0 : ∀ y : Sub S, y.w.cell? ⟨b, off + (k - 1) * 4, none⟩ = some (.string ⟨q.c.toArray⟩) := fun y => (h4'.below hl' ((hS _).1 y.h).bel).c0
          have p1 : ∀ y : Sub S, y.w.cell? ⟨b, off + (k - 1) * 4 + 1, none⟩ = some (.int .i64 q.day) := fun y => (h4'.below hl' ((hS _).1 y.h).bel).c1
          have p2 : ∀ y : Sub S, y.w.cell? ⟨b, off + (k - 1) * 4 + 2, none⟩ = some (.int .i64 q.num) := fun y => (h4'.below hl' ((hS _).1 y.h).bel).c2
          have p3 : ∀ y : Sub S, y.w.cell? ⟨b, off + (k - 1) * 4 + 3, none⟩ = some (.int .i64 q.den) := fun y => (h4'.below hl' ((hS _).1 y.h).bel).c3
          have ho : okAt rs k = bef q r := by
            obtain ⟨j, rfl⟩ : ∃ j, k = j + 1 := ⟨k - 1, by omega⟩
            rw [okAt_s hr.out (by simpa using hq.out), ← hv, Bool.true_and]
          have HT := Lib.hid (okTo_succ rs k)
          rw [hok.out, Bool.true_and, ho] at HT
          have E := Lib.hid (fun h : bef q r = false => tab_no hlt (ho.trans h))
          clear hS hR hs hr hok hv hq h4' e2 ho
          generalize bef q r = be at *
          cases be
          · have E3 := Lib.hid (E.out rfl)
            clear HT E
            go_wp2_with fail
            refine region_held S (by kernel_rfl) (by kernel_rfl) k0 ?_
            repeat (go_big_quiet_step ((first | rfl | (go_at_call 31; exact codeS_y (by assumption) hrl _) | (go_at_call 71; exact is_y (by assumption) _) | (go_at_call 72; exact inn_y (by assumption) _) | (go_at_call 55; exact HC.out _))))
            refine wpQuiet_nil ?_
            rintro _ ⟨y, rfl⟩
            go_wp2_with fail
            go_ret
            exact ⟨by rw [E3.out] <;> rfl, HB.out y⟩
          · clear E
            go_wp2_with fail
            refine region_held S (by kernel_rfl) (by kernel_rfl) k0 ?_
            repeat (go_big_quiet_step ((first | rfl | (go_at_call 31; exact codeS_y (by assumption) hrl _) | (go_at_call 71; exact is_y (by assumption) _) | (go_at_call 72; exact inn_y (by assumption) _) | (go_at_call 55; exact HC.out _))))
            refine wpQuiet_nil ?_
            rintro _ ⟨y, rfl⟩
            go_wp2_with fail
            go_roundw
            case rel => exact ⟨k + 1, by omega, by go_num, HT, HB.out y⟩
            case measure => simp [intOf]; omega
        · have HT : Hid (okTo rs (k + 1) = true) := Lib.hid (by
            rw [okTo_succ, hok.out, Bool.true_and]
            obtain rfl : k = 0 := by omega
            rw [okAt_0 hr.out, ← hv])
          have hd : decide (0 < (k : Int)) = false := by simp; omega
          clear hS hR hs hr hok hv
          go_wp2_with fail
          refine region_held S (by kernel_rfl) (by kernel_rfl) k0 ?_
          repeat (go_big_quiet_step ((first | rfl | (go_at_call 31; exact codeS_y (by assumption) hrl _) | (go_at_call 71; exact is_y (by assumption) _) | (go_at_call 72; exact inn_y (by assumption) _))))
          refine wpQuiet_nil ?_
          rintro _ ⟨y, rfl⟩
          go_wp2_with fail
          go_roundw
          case rel => exact ⟨k + 1, by omega, by go_num, HT, HB.out y⟩
          case measure => simp [intOf]; omega
      | false =>
        have E := Lib.hid (tab_no hlt (okAt_no hr.out hv.symm))
        clear hS hR hs hr hok hv
        cases W
        all_goals
          go_wp2_with fail
          refine region_held S (by kernel_rfl) (by kernel_rfl) k0 ?_
          repeat (go_big_quiet_step ((first | rfl | (go_at_call 31; exact codeS_y (by assumption) hrl _) | (go_at_call 71; exact is_y (by assumption) _) | (go_at_call 72; exact inn_y (by assumption) _))))
          refine wpQuiet_nil ?_
          rintro _ ⟨y, rfl⟩
          go_wp2_with fail
          go_ret
          exact ⟨by rw [E.out] <;> rfl, HB.out y⟩
    · have E := Lib.hid (tab_all (by obtain rfl : k = rs.length := by omega
                                     exact hok.out))
      clear hR hs hok
      go_wp2_with fail
      go_ret
      exact ⟨by rw [E.out] <;> rfl, hb⟩
end Go.Proofs.Ytaehkkcaoniphaa
