/- Tables: (impl.Rate).isValid, impl.IsTable. -/
import Derived.Test.YtaehkkcaoniphaaCmp
import Derived.Test.YtaehkkcaoniphaaHeld
namespace Go.Proofs.Ytaehkkcaoniphaa
open Go.ChangeShapes Go.WideShapes Go.ChangeAt Go.RowKit
set_option linter.unusedVariables false

theorem codeI_q {s : List UInt8} {b : Bool} (h : codeB s = b) (hl : s.length ≤ 9223372036854775807) (w : World) : Calls Try.prog 30 #[.string ⟨s.toArray⟩] w fun e w' => e = .returned (.bool b) ∧ w = w' :=
  (isCode_i s w hl).mono fun e w' k => ⟨by rw [← h]; exact k.1, k.2⟩
theorem codeS_q {s : List UInt8} {b : Bool} (h : codeB s = b) (hl : s.length ≤ 9223372036854775807) (w : World) : Calls Try.prog 31 #[.string ⟨s.toArray⟩] w fun e w' => e = .returned (.bool b) ∧ w = w' :=
  (isCode_s s w hl).mono fun e w' k => ⟨by rw [← h]; exact k.1, k.2⟩
/-- The ways through the conditions on a rate. -/
inductive Way (r : Rt) : Bool → Prop where
  | code (h : codeB r.c = false) : Way r false
  | xdr (h : codeB r.c = true) (h1 : (r.c == [88, 68, 82]) = true) : Way r false
  | day (h : codeB r.c = true) (h1 : (r.c == [88, 68, 82]) = false) (h2 : inr r.day 0 36524 = false) : Way r false
  | num (h : codeB r.c = true) (h1 : (r.c == [88, 68, 82]) = false) (h2 : inr r.day 0 36524 = true) (h3 : inr r.num 1 1000000 = false) : Way r false
  | den (h : codeB r.c = true) (h1 : (r.c == [88, 68, 82]) = false) (h2 : inr r.day 0 36524 = true) (h3 : inr r.num 1 1000000 = true) (h4 : inr r.den 1 1000000 = false) : Way r false
  | ok (h : codeB r.c = true) (h1 : (r.c == [88, 68, 82]) = false) (h2 : inr r.day 0 36524 = true) (h3 : inr r.num 1 1000000 = true) (h4 : inr r.den 1 1000000 = true) : Way r true
theorem way (r : Rt) : Way r r.ok := by
  have e : r.ok = (codeB r.c && !(r.c == [88, 68, 82]) && inr r.day 0 36524 && inr r.num 1 1000000 && inr r.den 1 1000000) := rfl
  rw [e]
  rcases Bool.eq_false_or_eq_true (codeB r.c) with h | h
  · rcases Bool.eq_false_or_eq_true (r.c == [88, 68, 82]) with h1 | h1
    · rw [h, h1]; exact .xdr h h1
    · rcases Bool.eq_false_or_eq_true (inr r.day 0 36524) with h2 | h2
      · rcases Bool.eq_false_or_eq_true (inr r.num 1 1000000) with h3 | h3
        · rcases Bool.eq_false_or_eq_true (inr r.den 1 1000000) with h4 | h4
          · rw [h, h1, h2, h3, h4]; exact .ok h h1 h2 h3 h4
          · rw [h, h1, h2, h3, h4]; exact .den h h1 h2 h3 h4
        · rw [h, h1, h2, h3]; exact .num h h1 h2 h3
      · rw [h, h1, h2]; exact .day h h1 h2
  · rw [h]; exact .code h
theorem valid_i (r : Rt) (w : World) (hl : r.c.length ≤ 9223372036854775807) : Calls Try.prog 58 #[.agg #[.string ⟨r.c.toArray⟩, .int .i64 r.day, .int .i64 r.num, .int .i64 r.den]] w (Gives w (.bool r.ok)) := by
  have B : ∀ o, Hid (Below w.heap.size w (w.alloc o)) := fun o => Lib.hid ((Below.refl _ _).alloc (Nat.le_refl _) _)
  have W := way r
  obtain ⟨b, hb⟩ : ∃ b, b = r.ok := ⟨_, rfl⟩
  rw [← hb] at W ⊢
  clear hb
  cases W
  all_goals
    go_enter Try.func58, Try.ntmps58
    go_wp2_with (first
      | (go_at_call 30; refine (codeI_q (by assumption) hl _).mono ?_; rintro e w' ⟨rfl, rfl⟩)
      | (go_at_call 78; refine (isDay_q (by assumption) _).mono ?_; rintro e w' ⟨rfl, rfl⟩)
      | (go_at_call 81; refine (within_q (by assumption) _).mono ?_; rintro e w' ⟨rfl, rfl⟩))
    go_ret
    exact ⟨rfl, (B _).out⟩

/-- A box stands as it was laid; nothing below is written. -/
structure KeepB (w0 : World) (x : Array Value) (t : TypeId) (W : World) : Prop where
  a : W.heap[w0.heap.size]? = some (.cells x t (0, 0))
  bel : Below w0.heap.size w0 W
theorem KeepB.step {w0 W w' : World} {x : Array Value} {t : TypeId} (k : KeepB w0 x t W) (b : Below W.heap.size W w') : KeepB w0 x t w' := ⟨(b.block _ (lt_some k.a)).trans k.a, belowGo k.bel b⟩
theorem KeepB.drew {w0 W : World} {x : Array Value} {t : TypeId} (k : KeepB w0 x t W) : KeepB w0 x t W.drew := ⟨k.a, k.bel.drew⟩
theorem KeepB.new (w : World) (x : Array Value) (t : TypeId) : KeepB w x t (w.alloc (.cells x t)) := ⟨heap_alloc_new _ _, (Below.refl _ _).alloc (Nat.le_refl _) _⟩
theorem KeepB.all {w0 W : World} {a b c d : Value} {t : TypeId} (k : KeepB w0 #[a, b, c, d] t W) :
    W.cell? ⟨w0.heap.size, 0, none⟩ = some a ∧ W.cell? ⟨w0.heap.size, 1, none⟩ = some b ∧ W.cell? ⟨w0.heap.size, 2, none⟩ = some c ∧ W.cell? ⟨w0.heap.size, 3, none⟩ = some d ∧ KeepB w0 #[a, b, c, d] t W :=
  ⟨by rw [cell_of_row _ _ _ _ _ _ k.a]; rfl, by rw [cell_of_row _ _ _ _ _ _ k.a]; rfl, by rw [cell_of_row _ _ _ _ _ _ k.a]; rfl, by rw [cell_of_row _ _ _ _ _ _ k.a]; rfl, k⟩
theorem KeepB.both {w0 W : World} {a b c d : Value} {t : TypeId} {g o : Nat} {q : Rt} (h : Cells4 w0 g o q) (hl : g < w0.heap.size) (k : KeepB w0 #[a, b, c, d] t W) :
    W.cell? ⟨w0.heap.size, 0, none⟩ = some a ∧ W.cell? ⟨w0.heap.size, 1, none⟩ = some b ∧ W.cell? ⟨w0.heap.size, 2, none⟩ = some c ∧ W.cell? ⟨w0.heap.size, 3, none⟩ = some d ∧
    W.cell? ⟨g, o, none⟩ = some (.string ⟨q.c.toArray⟩) ∧ W.cell? ⟨g, o + 1, none⟩ = some (.int .i64 q.day) ∧ W.cell? ⟨g, o + 2, none⟩ = some (.int .i64 q.num) ∧ W.cell? ⟨g, o + 3, none⟩ = some (.int .i64 q.den) ∧ KeepB w0 #[a, b, c, d] t W := by
  obtain ⟨c0, c1, c2, c3, _⟩ := k.all
  have h := h.below hl k.bel
  exact ⟨c0, c1, c2, c3, h.c0, h.c1, h.c2, h.c3, k⟩
theorem okAt_0 {rs : List Rt} {r : Rt} (h : rs[0]? = some r) : okAt rs 0 = r.ok := by unfold okAt; simp [h]
theorem okAt_s {rs : List Rt} {k : Nat} {q r : Rt} (h : rs[k + 1]? = some r) (hq : rs[k]? = some q) : okAt rs (k + 1) = (r.ok && bef q r) := by unfold okAt; simp [h, hq]
theorem okAt_no {rs : List Rt} {k : Nat} {r : Rt} (h : rs[k]? = some r) (hr : r.ok = false) : okAt rs k = false := by unfold okAt; simp [h, hr]
theorem tab_no {rs : List Rt} {k : Nat} (hk : k < rs.length) (h : okAt rs k = false) : tabB rs = false := by unfold tabB; rw [okTo_no h hk, Bool.false_and]
theorem tab_long {rs : List Rt} (h : 20 < rs.length) : tabB rs = false := by
  unfold tabB; rw [Bool.and_eq_false_iff]; right; rw [decide_eq_false_iff_not]; omega
theorem tab_short {rs : List Rt} (h : ¬ 20 < rs.length) (hk : okTo rs rs.length = true) : tabB rs = true := tabB_iff.2 ⟨hk, by omega⟩

set_option maxRecDepth 100000 in
set_option maxHeartbeats 2000000 in
theorem isTable_i (A : Option Addr) (c : Nat) (rs : List Rt) (w : World) (hR : Rr w A rs) (hs : ∀ r ∈ rs, r.c.length ≤ 1048576) :
    Calls Try.prog 17 #[.slice A rs.length c] w (Gives w (.bool (tabB rs))) := by
  by_cases h20 : 20 < rs.length
  · have E := Lib.hid (tab_long h20)
    go_enter Try.func17, Try.ntmps17
    go_wp2_with fail
    go_ret
    exact ⟨by rw [E.out] <;> rfl, Below.refl _ _⟩
  · go_enter Try.func17, Try.ntmps17
    go_wp2_with fail
    go_loopw [10] (fun i wr => ∃ k : Nat, k ≤ rs.length ∧ i = .int .i64 k ∧ Hid (okTo rs k = true) ∧ Below w.heap.size w wr) (fun i _ => rs.length - (intOf i).toNat)
    case atStart => exact ⟨0, Nat.zero_le _, rfl, Lib.hid rfl, Below.refl _ _⟩
    case round =>
      obtain ⟨k, hk, rfl, hok, hb⟩ := hrel
      by_cases hlt : k < rs.length
      · obtain ⟨b, off, r, rfl, hl, hr, h4⟩ := (hR.below hb).four hlt
        have hrl := hs r (List.mem_of_getElem? hr.out)
        obtain ⟨S, hS⟩ : ∃ S : World → Prop, ∀ W, S W ↔ KeepB wr #[.string ⟨r.c.toArray⟩, .int .i64 r.day, .int .i64 r.num, .int .i64 r.den] 30 W := ⟨_, fun _ => Iff.rfl⟩
        have HV := Lib.hid (fun y : Sub S => (valid_i r y.w (by omega)).mono fun e w' h => (⟨h.1, ⟨w', (hS _).2 (((hS _).1 y.h).step h.2)⟩, rfl⟩ : e = .returned (.bool r.ok) ∧ ∃ z : Sub S, w' = z.w))
        have k0 : S (wr.alloc (.cells #[.string ⟨r.c.toArray⟩, .int .i64 r.day, .int .i64 r.num, .int .i64 r.den] 30)).drew := (hS _).2 (KeepB.new wr _ _).drew
        have q0 : ∀ y : Sub S, y.w.cell? ⟨wr.heap.size, 0, none⟩ = some (.string ⟨r.c.toArray⟩) := fun y => ((hS _).1 y.h).all.1
        have q1 : ∀ y : Sub S, y.w.cell? ⟨wr.heap.size, 1, none⟩ = some (.int .i64 r.day) := fun y => ((hS _).1 y.h).all.2.1
        have q2 : ∀ y : Sub S, y.w.cell? ⟨wr.heap.size, 2, none⟩ = some (.int .i64 r.num) := fun y => ((hS _).1 y.h).all.2.2.1
        have q3 : ∀ y : Sub S, y.w.cell? ⟨wr.heap.size, 3, none⟩ = some (.int .i64 r.den) := fun y => ((hS _).1 y.h).all.2.2.2.1
        have HB := Lib.hid (fun y : Sub S => (belowGo hb ((hS _).1 y.h).bel : Below w.heap.size w y.w))
        have c0 := h4.c0; have c1 := h4.c1; have c2 := h4.c2; have c3 := h4.c3
        clear h4
        rcases Bool.eq_false_or_eq_true r.ok with hv | hv
        · rw [hv] at HV
          by_cases hk0 : 0 < k
          · obtain ⟨b', off', q, e2, hl', hq, h4'⟩ := (hR.below hb).four (k := k - 1) (by omega)
            obtain ⟨rfl, rfl⟩ : b = b' ∧ off = off' := by injection e2 with e2; injection e2 with e3 e4; exact ⟨e3, e4⟩
            have hql := hs q (List.mem_of_getElem? hq.out)
            have HC := Lib.hid (fun y : Sub S => (cmpR_i q r y.w).mono fun e w' h => (⟨h.1, ⟨w', (hS _).2 (((hS _).1 y.h).step h.2)⟩, rfl⟩ : e = .returned (.int .i64 (ordR q r)) ∧ ∃ z : Sub S, w' = z.w))
            have p0 : ∀ y : Sub S, y.w.cell? ⟨b, off + (k - 1) * 4, none⟩ = some (.string ⟨q.c.toArray⟩) := fun y => (h4'.below hl' ((hS _).1 y.h).bel).c0
            have p1 : ∀ y : Sub S, y.w.cell? ⟨b, off + (k - 1) * 4 + 1, none⟩ = some (.int .i64 q.day) := fun y => (h4'.below hl' ((hS _).1 y.h).bel).c1
            have p2 : ∀ y : Sub S, y.w.cell? ⟨b, off + (k - 1) * 4 + 2, none⟩ = some (.int .i64 q.num) := fun y => (h4'.below hl' ((hS _).1 y.h).bel).c2
            have p3 : ∀ y : Sub S, y.w.cell? ⟨b, off + (k - 1) * 4 + 3, none⟩ = some (.int .i64 q.den) := fun y => (h4'.below hl' ((hS _).1 y.h).bel).c3
            have ho : okAt rs k = bef q r := by
              obtain ⟨j, rfl⟩ : ∃ j, k = j + 1 := ⟨k - 1, by omega⟩
              rw [okAt_s hr.out (by simpa using hq.out), hv, Bool.true_and]
            have hn := ordR_neg q r
            have HT := Lib.hid (okTo_succ rs k)
            rw [hok.out, Bool.true_and, ho] at HT
            have E := Lib.hid (fun h : bef q r = false => tab_no hlt (ho.trans h))
            clear hS hR hs hr hok hv hq h4' e2 ho
            generalize bef q r = be at *
            generalize ordR q r = o at *
            cases be
            · have h0 : 0 ≤ o := by simpa using hn
              have E3 := Lib.hid (E.out rfl)
              clear hn HT E
              go_wp2_with fail
              refine region_held S (by kernel_rfl) (by kernel_rfl) k0 ?_
              repeat (go_big_quiet_step ((first | rfl | (go_at_call 58; exact HV.out _) | (go_at_call 52; exact HC.out _))))
              refine wpQuiet_nil ?_
              rintro _ ⟨y, rfl⟩
              go_wp2_with fail
              go_ret
              exact ⟨by rw [E3.out] <;> rfl, HB.out y⟩
            · have h0 : o < 0 := by simpa using hn
              clear hn E
              go_wp2_with fail
              refine region_held S (by kernel_rfl) (by kernel_rfl) k0 ?_
              repeat (go_big_quiet_step ((first | rfl | (go_at_call 58; exact HV.out _) | (go_at_call 52; exact HC.out _))))
              refine wpQuiet_nil ?_
              rintro _ ⟨y, rfl⟩
              go_wp2_with fail
              go_roundw
              case rel => exact ⟨k + 1, by omega, by go_num, HT, HB.out y⟩
              case measure => simp [intOf]; omega
          · have HT : Hid (okTo rs (k + 1) = true) := Lib.hid (by
              rw [okTo_succ, hok.out, Bool.true_and]
              obtain rfl : k = 0 := by omega
              rw [okAt_0 hr.out, hv])
            have hd : decide (0 < (k : Int)) = false := by simp; omega
            clear hS hR hs hr hok hv
            go_wp2_with fail
            refine region_held S (by kernel_rfl) (by kernel_rfl) k0 ?_
            repeat (go_big_quiet_step ((first | rfl | (go_at_call 58; exact HV.out _))))
            refine wpQuiet_nil ?_
            rintro _ ⟨y, rfl⟩
            go_wp2_with fail
            go_roundw
            case rel => exact ⟨k + 1, by omega, by go_num, HT, HB.out y⟩
            case measure => simp [intOf]; omega
        · rw [hv] at HV
          have E := Lib.hid (tab_no hlt (okAt_no hr.out hv))
          clear hS hR hs hr hok hv
          go_wp2_with fail
          refine region_held S (by kernel_rfl) (by kernel_rfl) k0 ?_
          repeat (go_big_quiet_step ((first | rfl | (go_at_call 58; exact HV.out _))))
          refine wpQuiet_nil ?_
          rintro _ ⟨y, rfl⟩
          go_wp2_with fail
          go_ret
          exact ⟨by rw [E.out] <;> rfl, HB.out y⟩
      · have E := Lib.hid (tab_short h20 (by obtain rfl : k = rs.length := by omega
                                             exact hok.out))
        clear hR hs hok
        go_wp2_with fail
        go_ret
        exact ⟨by rw [E.out] <;> rfl, hb⟩
end Go.Proofs.Ytaehkkcaoniphaa
