import Derived.Test.YtaehkkcaoniphaaPb
import Derived.Lib.ItoaNum
import Derived.Laws.IdiomStrings
import Derived.DeepKeys2
import Derived.ChangeKeysEq
import Derived.Maps.RangeWalk
import Derived.Maps.OwnSet
import Derived.Maps.Views
/- Tables: (impl.Rate).isValid, impl.IsTable. -/
namespace Go.Proofs.Ytaehkkcaoniphaa
open Go.ChangeShapes Go.WideShapes Go.ChangeAt Go.RowKit
set_option linter.unusedVariables false

theorem codeI_q {s : List UInt8} {b : Bool} (h : codeB s = b) (hl : s.length ≤ 9223372036854775807) (w : World) : Calls Try.prog 30 #[.string ⟨s.toArray⟩] w fun e w' => e = .returned (.bool b) ∧ w = w' :=
  (isCode_i s w hl).mono fun e w' k => ⟨by rw [← h]; exact k.1, k.2⟩
theorem codeS_q {s : List UInt8} {b : Bool} (h : codeB s = b) (hl : s.length ≤ 9223372036854775807) (w : World) : Calls Try.prog 31 #[.string ⟨s.toArray⟩] w fun e w' => e = .returned (.bool b) ∧ w = w' :=
  (isCode_s s w hl).mono fun e w' k => ⟨by rw [← h]; exact k.1, k.2⟩
/-- The ways through the conditions on a rate. -/
inductive Way (r : Rt) : Bool → Prop where
  | code (h : codeB r.c = false) : Way r false
  | xdr (h : codeB r.c = true) (h1 : (r.c == [88, 68, 82]) = true) : Way r false
  | day (h : codeB r.c = true) (h1 : (r.c == [88, 68, 82]) = false) (h2 : inr r.day 0 36524 = false) : Way r false
  | num (h : codeB r.c = true) (h1 : (r.c == [88, 68, 82]) = false) (h2 : inr r.day 0 36524 = true) (h3 : inr r.num 1 1000000 = false) : Way r false
  | den (h : codeB r.c = true) (h1 : (r.c == [88, 68, 82]) = false) (h2 : inr r.day 0 36524 = true) (h3 : inr r.num 1 1000000 = true) (h4 : inr r.den 1 1000000 = false) : Way r false
  | ok (h : codeB r.c = true) (h1 : (r.c == [88, 68, 82]) = false) (h2 : inr r.day 0 36524 = true) (h3 : inr r.num 1 1000000 = true) (h4 : inr r.den 1 1000000 = true) : Way r true
theorem way (r : Rt) : Way r r.ok := by
  have e : r.ok = (codeB r.c && !(r.c == [88, 68, 82]) && inr r.day 0 36524 && inr r.num 1 1000000 && inr r.den 1 1000000) := rfl
  rw [e]
  rcases Bool.eq_false_or_eq_true (codeB r.c) with h | h
  · rcases Bool.eq_false_or_eq_true (r.c == [88, 68, 82]) with h1 | h1
    · rw [h, h1]; exact .xdr h h1
    · rcases Bool.eq_false_or_eq_true (inr r.day 0 36524) with h2 | h2
      · rcases Bool.eq_false_or_eq_true (inr r.num 1 1000000) with h3 | h3
        · rcases Bool.eq_false_or_eq_true (inr r.den 1 1000000) with h4 | h4
          · rw [h, h1, h2, h3, h4]; exact .ok h h1 h2 h3 h4
          · rw [h, h1, h2, h3, h4]; exact .den h h1 h2 h3 h4
        · rw [h, h1, h2, h3]; exact .num h h1 h2 h3
      · rw [h, h1, h2]; exact .day h h1 h2
  · rw [h]; exact .code h
theorem valid_i (r : Rt) (w : World) (hl : r.c.length ≤ 9223372036854775807) : Calls Try.prog 58 #[.agg #[.string ⟨r.c.toArray⟩, .int .i64 r.day, .int .i64 r.num, .int .i64 r.den]] w (Gives w (.bool r.ok)) := by
  have B : ∀ o, Hid (Below w.heap.size w (w.alloc o)) := fun o => Lib.hid ((Below.refl _ _).alloc (Nat.le_refl _) _)
  have W := way r
  obtain ⟨b, hb⟩ : ∃ b, b = r.ok := ⟨_, rfl⟩
  rw [← hb] at W ⊢
  clear hb
  cases W
  all_goals
    go_enter Try.func58, Try.ntmps58
    go_wp2_with (first
      | (go_at_call 30; refine (codeI_q (by assumption) hl _).mono ?_; rintro e w' ⟨rfl, rfl⟩)
      | (go_at_call 78; refine (isDay_q (by assumption) _).mono ?_; rintro e w' ⟨rfl, rfl⟩)
      | (go_at_call 81; refine (within_q (by assumption) _).mono ?_; rintro e w' ⟨rfl, rfl⟩))
    go_ret
    exact ⟨rfl, (B _).out⟩

/-- A box stands as it was laid; nothing below is written. -/
structure KeepB (w0 : World) (x : Array Value) (t : TypeId) (W : World) : Prop where
  a : W.heap[w0.heap.size]? = some (.cells x t (0, 0))
  bel : Below w0.heap.size w0 W
theorem KeepB.step {w0 W w' : World} {x : Array Value} {t : TypeId} (k : KeepB w0 x t W) (b : Below W.heap.size W w') : KeepB w0 x t w' := ⟨(b.block _ (lt_some k.a)).trans k.a, belowGo k.bel b⟩
theorem KeepB.drew {w0 W : World} {x : Array Value} {t : TypeId} (k : KeepB w0 x t W) : KeepB w0 x t W.drew := ⟨k.a, k.bel.drew⟩
theorem KeepB.new (w : World) (x : Array Value) (t : TypeId) : KeepB w x t (w.alloc (.cells x t)) := ⟨heap_alloc_new _ _, (Below.refl _ _).alloc (Nat.le_refl _) _⟩
theorem KeepB.all {w0 W : World} {a b c d : Value} {t : TypeId} (k : KeepB w0 #[a, b, c, d] t W) :
    W.cell? ⟨w0.heap.size, 0, none⟩ = some a ∧ W.cell? ⟨w0.heap.size, 1, none⟩ = some b ∧ W.cell? ⟨w0.heap.size, 2, none⟩ = some c ∧ W.cell? ⟨w0.heap.size, 3, none⟩ = some d ∧ KeepB w0 #[a, b, c, d] t W :=
  ⟨by rw [cell_of_row _ _ _ _ _ _ k.a]; rfl, by rw [cell_of_row _ _ _ _ _ _ k.a]; rfl, by rw [cell_of_row _ _ _ _ _ _ k.a]; rfl, by rw [cell_of_row _ _ _ _ _ _ k.a]; rfl, k⟩
theorem KeepB.both {w0 W : World} {a b c d : Value} {t : TypeId} {g o : Nat} {q : Rt} (h : Cells4 w0 g o q) (hl : g < w0.heap.size) (k : KeepB w0 #[a, b, c, d] t W) :
    W.cell? ⟨w0.heap.size, 0, none⟩ = some a ∧ W.cell? ⟨w0.heap.size, 1, none⟩ = some b ∧ W.cell? ⟨w0.heap.size, 2, none⟩ = some c ∧ W.cell? ⟨w0.heap.size, 3, none⟩ = some d ∧
    W.cell? ⟨g, o, none⟩ = some (.string ⟨q.c.toArray⟩) ∧ W.cell? ⟨g, o + 1, none⟩ = some (.int .i64 q.day) ∧ W.cell? ⟨g, o + 2, none⟩ = some (.int .i64 q.num) ∧ W.cell? ⟨g, o + 3, none⟩ = some (.int .i64 q.den) ∧ KeepB w0 #[a, b, c, d] t W := by
  obtain ⟨c0, c1, c2, c3, _⟩ := k.all
  have h := h.below hl k.bel
  exact ⟨c0, c1, c2, c3, h.c0, h.c1, h.c2, h.c3, k⟩
theorem okAt_0 {rs : List Rt} {r : Rt} (h : rs[0]? = some r) : okAt rs 0 = r.ok := by unfold okAt; simp [h]
theorem okAt_s {rs : List Rt} {k : Nat} {q r : Rt} (h : rs[k + 1]? = some r) (hq : rs[k]? = some q) : okAt rs (k + 1) = (r.ok && bef q r) := by unfold okAt; simp [h, hq]
theorem okAt_no {rs : List Rt} {k : Nat} {r : Rt} (h : rs[k]? = some r) (hr : r.ok = false) : okAt rs k = false := by unfold okAt; simp [h, hr]
theorem tab_no {rs : List Rt} {k : Nat} (hk : k < rs.length) (h : okAt rs k = false) : tabB rs = false := by unfold tabB; rw [okTo_no h hk, Bool.false_and]
theorem tab_long {rs : List Rt} (h : 20 < rs.length) : tabB rs = false := by
  unfold tabB; rw [Bool.and_eq_false_iff]; right; rw [decide_eq_false_iff_not]; omega
theorem tab_short {rs : List Rt} (h : ¬ 20 < rs.length) (hk : okTo rs rs.length = true) : tabB rs = true := tabB_iff.2 ⟨hk, by omega⟩

set_option maxRecDepth 100000 in
set_option maxHeartbeats 2000000 in
theorem isTable_i (A : Option Addr) (c : Nat) (rs : List Rt) (w : World) (hR : Rr w A rs) (hs : ∀ r ∈ rs, r.c.length ≤ 1048576) :
    Calls Try.prog 17 #[.slice A rs.length c] w (Gives w (.bool (tabB rs))) := by
  by_cases h20 : 20 < rs.length
  · have E := Lib.hid (tab_long h20)
    go_enter Try.func17, Try.ntmps17
    go_wp2_with fail
    go_ret
    exact ⟨by rw [E.out] <;> rfl, Below.refl _ _⟩
  · go_enter Try.func17, Try.ntmps17
    go_wp2_with fail
    go_loopw [10] (fun i wr => ∃ k : Nat, k ≤ rs.length ∧ i = .int .i64 k ∧ Hid (okTo rs k = true) ∧ Below w.heap.size w wr) (fun i _ => rs.length - (intOf i).toNat)
    case atStart => exact ⟨0, Nat.zero_le _, rfl, Lib.hid rfl, Below.refl _ _⟩
    case round =>
      obtain ⟨k, hk, rfl, hok, hb⟩ := hrel
      by_cases hlt : k < rs.length
      · obtain ⟨b, off, r, rfl, hl, hr, h4⟩ := (hR.below hb).four hlt
        have hrl := hs r (List.mem_of_getElem? hr.out)
        obtain ⟨S, hS⟩ : ∃ S : World → Prop, ∀ W, S W ↔ KeepB wr #[.string ⟨r.c.toArray⟩, .int .i64 r.day, .int .i64 r.num, .int .i64 r.den] 30 W := ⟨_, fun _ => Iff.rfl⟩
        have HV := Lib.hid (fun y : Sub S => (valid_i r y.w (by omega)).mono fun e w' h => (⟨h.1, ⟨w', (hS _).2 (((hS _).1 y.h).step h.2)⟩, rfl⟩ : e = .returned (.bool r.ok) ∧ ∃ z : Sub S, w' = z.w))
        have k0 : S (wr.alloc (.cells #[.string ⟨r.c.toArray⟩, .int .i64 r.day, .int .i64 r.num, .int .i64 r.den] 30)).drew := (hS _).2 (KeepB.new wr _ _).drew
        have q0 : ∀ y : Sub S, y.w.cell? ⟨wr.heap.size, 0, none⟩ = some (.string ⟨r.c.toArray⟩) := fun y => ((hS _).1 y.h).all.1
        have q1 : ∀ y : Sub S, y.w.cell? ⟨wr.heap.size, 1, none⟩ = some (.int .i64 r.day) := fun y => ((hS _).1 y.h).all.2.1
        have q2 : ∀ y : Sub S, y.w.cell? ⟨wr.heap.size, 2, none⟩ = some (.int .i64 r.num) := fun y => ((hS _).1 y.h).all.2.2.1
        have q3 : ∀ y : Sub S, y.w.cell? ⟨wr.heap.size, 3, none⟩ = some (.int .i64 r.den) := fun y => ((hS _).1 y.h).all.2.2.2.1
        have HB := Lib.hid (fun y : Sub S => (belowGo hb ((hS _).1 y.h).bel : Below w.heap.size w y.w))
        have c0 := h4.c0; have c1 := h4.c1; have c2 := h4.c2; have c3 := h4.c3
        clear h4
        rcases Bool.eq_false_or_eq_true r.ok with hv | hv
        · rw [hv] at HV
          by_cases hk0 : 0 < k
          · obtain ⟨b', off', q, e2, hl', hq, h4'⟩ := (hR.below hb).four (k := k - 1) (by omega)
            obtain ⟨rfl, rfl⟩ : b = b' ∧ off = off' := by injection e2 with e2; injection e2 with e3 e4; exact ⟨e3, e4⟩
            have hql := hs q (List.mem_of_getElem? hq.out)
            have HC := Lib.hid (fun y : Sub S => (cmpR_i q r y.w).mono fun e w' h => (⟨h.1, ⟨w', (hS _).2 (((hS _).1 y.h).step h.2)⟩, rfl⟩ : e = .returned (.int .i64 (ordR q r)) ∧ ∃ z : Sub S, w' = z.w))
            have p0 : ∀ y : Sub S, y.w.cell? ⟨b, off + (k - 1) * 4, none⟩ = some (.string ⟨q.c.toArray⟩) := fun y => (h4'.below hl' ((hS _).1 y.h).bel).c0
            have p1 : ∀ y : Sub S, y.w.cell? ⟨b, off + (k - 1) * 4 + 1, none⟩ = some (.int .i64 q.day) := fun y => (h4'.below hl' ((hS _).1 y.h).bel).c1
            have p2 : ∀ y : Sub S, y.w.cell? ⟨b, off + (k - 1) * 4 + 2, none⟩ = some (.int .i64 q.num) := fun y => (h4'.below hl' ((hS _).1 y.h).bel).c2
            have p3 : ∀ y : Sub S, y.w.cell? ⟨b, off + (k - 1) * 4 + 3, none⟩ = some (.int .i64 q.den) := fun y => (h4'.below hl' ((hS _).1 y.h).bel).c3
            have ho : okAt rs k = bef q r := by
              obtain ⟨j, rfl⟩ : ∃ j, k = j + 1 := ⟨k - 1, by omega⟩
              rw [okAt_s hr.out (by simpa using hq.out), hv, Bool.true_and]
            have hn := ordR_neg q r
            have HT := Lib.hid (okTo_succ rs k)
            rw [hok.out, Bool.true_and, ho] at HT
            have E := Lib.hid (fun h : bef q r = false => tab_no hlt (ho.trans h))
            clear hS hR hs hr hok hv hq h4' e2 ho
            generalize bef q r = be at *
            generalize ordR q r = o at *
            cases be
            · have h0 : 0 ≤ o := by simpa using hn
              have E3 := Lib.hid (E.out rfl)
              clear hn HT E
              go_wp2_with fail
              refine region_held S (by kernel_rfl) (by kernel_rfl) k0 ?_
              repeat (go_big_quiet_step ((first | rfl | (go_at_call 58; exact HV.out _) | (go_at_call 52; exact HC.out _))))
              refine wpQuiet_nil ?_
              rintro _ ⟨y, rfl⟩
              go_wp2_with fail
              go_ret
              exact ⟨by rw [E3.out] <;> rfl, HB.out y⟩
            · have h0 : o < 0 := by simpa using hn
              clear hn E
              go_wp2_with fail
              refine region_held S (by kernel_rfl) (by kernel_rfl) k0 ?_
              repeat (go_big_quiet_step ((first | rfl | (go_at_call 58; exact HV.out _) | (go_at_call 52; exact HC.out _))))
              refine wpQuiet_nil ?_
              rintro _ ⟨y, rfl⟩
              go_wp2_with fail
              go_roundw
              case rel => exact ⟨k + 1, by omega, by go_num, HT, HB.out y⟩
              case measure => simp [intOf]; omega
          · have HT : Hid (okTo rs (k + 1) = true) := Lib.hid (by
              rw [okTo_succ, hok.out, Bool.true_and]
              obtain rfl : k = 0 := by omega
              rw [okAt_0 hr.out, hv])
            have hd : decide (0 < (k : Int)) = false := by simp; omega
            clear hS hR hs hr hok hv
            go_wp2_with fail
            refine region_held S (by kernel_rfl) (by kernel_rfl) k0 ?_
            repeat (go_big_quiet_step ((first | rfl | (go_at_call 58; exact HV.out _))))
            refine wpQuiet_nil ?_
            rintro _ ⟨y, rfl⟩
            go_wp2_with fail
            go_roundw
            case rel => exact ⟨k + 1, by omega, by go_num, HT, HB.out y⟩
            case measure => simp [intOf]; omega
        · rw [hv] at HV
          have E := Lib.hid (tab_no hlt (okAt_no hr.out hv))
          clear hS hR hs hr hok hv
          go_wp2_with fail
          refine region_held S (by kernel_rfl) (by kernel_rfl) k0 ?_
          repeat (go_big_quiet_step ((first | rfl | (go_at_call 58; exact HV.out _))))
          refine wpQuiet_nil ?_
          rintro _ ⟨y, rfl⟩
          go_wp2_with fail
          go_ret
          exact ⟨by rw [E.out] <;> rfl, HB.out y⟩
      · have E := Lib.hid (tab_short h20 (by obtain rfl : k = rs.length := by omega
                                             exact hok.out))
        clear hR hs hok
        go_wp2_with fail
        go_ret
        exact ⟨by rw [E.out] <;> rfl, hb⟩
end Go.Proofs.Ytaehkkcaoniphaa

/- spec.IsTable; the law of IsTable. -/
namespace Go.Proofs.Ytaehkkcaoniphaa
open Go.ChangeShapes Go.WideShapes Go.ChangeAt Go.RowKit
set_option linter.unusedVariables false

theorem inn_y {S : World → Prop} {n lo hi : Int} {b : Bool} (h : inr n lo hi = b) (y : Sub S) : Calls Try.prog 72 #[.int .i64 n, .int .i64 lo, .int .i64 hi] y.w fun e w' => e = .returned (.bool b) ∧ ∃ z : Sub S, w' = z.w :=
  (inn_q h y.w).mono fun e w' k => ⟨k.1, y, k.2.symm⟩
theorem is_y {S : World → Prop} {n : Int} {b : Bool} (h : inr n 0 36524 = b) (y : Sub S) : Calls Try.prog 71 #[.int .i64 n] y.w fun e w' => e = .returned (.bool b) ∧ ∃ z : Sub S, w' = z.w :=
  (is_q h y.w).mono fun e w' k => ⟨k.1, y, k.2.symm⟩
theorem codeS_y {S : World → Prop} {s : List UInt8} {b : Bool} (h : codeB s = b) (hl : s.length ≤ 9223372036854775807) (y : Sub S) : Calls Try.prog 31 #[.string ⟨s.toArray⟩] y.w fun e w' => e = .returned (.bool b) ∧ ∃ z : Sub S, w' = z.w :=
  (codeS_q h hl y.w).mono fun e w' k => ⟨k.1, y, k.2.symm⟩
theorem tab_all {rs : List Rt} (h : okTo rs rs.length = true) : tabB rs = decide ((rs.length : Int) ≤ 20) := by unfold tabB; rw [h, Bool.true_and]

set_option maxRecDepth 100000 in
set_option maxHeartbeats 4000000 in
theorem isTable_s (A : Option Addr) (c : Nat) (rs : List Rt) (w : World) (hR : Rr w A rs) (hs : ∀ r ∈ rs, r.c.length ≤ 1048576) (hn : rs.length ≤ 1048576) :
    Calls Try.prog 54 #[.slice A rs.length c] w (Gives w (.bool (tabB rs))) := by
  go_enter Try.func54, Try.ntmps54
  go_wp2_with fail
  go_loopw [3] (fun i wr => ∃ k : Nat, k ≤ rs.length ∧ i = .int .i64 k ∧ Hid (okTo rs k = true) ∧ Below w.heap.size w wr) (fun i _ => rs.length - (intOf i).toNat)
  case atStart => exact ⟨0, Nat.zero_le _, rfl, Lib.hid rfl, Below.refl _ _⟩
  case round =>
    obtain ⟨k, hk, rfl, hok, hb⟩ := hrel
    by_cases hlt : k < rs.length
    · obtain ⟨b, off, r, rfl, hl, hr, h4⟩ := (hR.below hb).four hlt
      have hrl : r.c.length ≤ 9223372036854775807 := by have := hs r (List.mem_of_getElem? hr.out); omega
      obtain ⟨S, hS⟩ : ∃ S : World → Prop, ∀ W, S W ↔ KeepB wr #[.string ⟨r.c.toArray⟩, .int .i64 r.day, .int .i64 r.num, .int .i64 r.den] 30 W := ⟨_, fun _ => Iff.rfl⟩
      have k0 : S (wr.alloc (.cells #[.string ⟨r.c.toArray⟩, .int .i64 r.day, .int .i64 r.num, .int .i64 r.den] 30)).drew := (hS _).2 (KeepB.new wr _ _).drew
      have q0 : ∀ y : Sub S, y.w.cell? ⟨wr.heap.size, 0, none⟩ = some (.string ⟨r.c.toArray⟩) := fun y => ((hS _).1 y.h).all.1
      have q1 : ∀ y : Sub S, y.w.cell? ⟨wr.heap.size, 1, none⟩ = some (.int .i64 r.day) := fun y => ((hS _).1 y.h).all.2.1
      have q2 : ∀ y : Sub S, y.w.cell? ⟨wr.heap.size, 2, none⟩ = some (.int .i64 r.num) := fun y => ((hS _).1 y.h).all.2.2.1
      have q3 : ∀ y : Sub S, y.w.cell? ⟨wr.heap.size, 3, none⟩ = some (.int .i64 r.den) := fun y => ((hS _).1 y.h).all.2.2.2.1
      have HB := Lib.hid (fun y : Sub S => (belowGo hb ((hS _).1 y.h).bel : Below w.heap.size w y.w))
      have c0 := h4.c0; have c1 := h4.c1; have c2 := h4.c2; have c3 := h4.c3
      clear h4
      have W := way r
      obtain ⟨v, hv⟩ : ∃ v, v = r.ok := ⟨_, rfl⟩
      rw [← hv] at W
      cases v with
      | true =>
        cases W with
        | ok g0 g1 g2 g3 g4 =>
        by_cases hk0 : 0 < k
        · obtain ⟨b', off', q, e2, hl', hq, h4'⟩ := (hR.below hb).four (k := k - 1) (by omega)
          obtain ⟨rfl, rfl⟩ : b = b' ∧ off = off' := by injection e2 with e2; injection e2 with e3 e4; exact ⟨e3, e4⟩
          have hql := hs q (List.mem_of_getElem? hq.out)
          have HC := Lib.hid (fun y : Sub S => (before_s q r y.w).mono fun e w' h => (⟨h.1, ⟨w', (hS _).2 (((hS _).1 y.h).step h.2)⟩, rfl⟩ : e = .returned (.bool (bef q r)) ∧ ∃ z : Sub S, w' = z.w))
          have p0 : ∀ y : Sub S, y.w.cell? ⟨b, off + (k - 1) * 4, none⟩ = some (.string ⟨q.c.toArray⟩) := fun y => (h4'.below hl' ((hS _).1 y.h).bel).c0
          have p1 : ∀ y : Sub S, y.w.cell? ⟨b, off + (k - 1) * 4 + 1, none⟩ = some (.int .i64 q.day) := fun y => (h4'.below hl' ((hS _).1 y.h).bel).c1
          have p2 : ∀ y : Sub S, y.w.cell? ⟨b, off + (k - 1) * 4 + 2, none⟩ = some (.int .i64 q.num) := fun y => (h4'.below hl' ((hS _).1 y.h).bel).c2
          have p3 : ∀ y : Sub S, y.w.cell? ⟨b, off + (k - 1) * 4 + 3, none⟩ = some (.int .i64 q.den) := fun y => (h4'.below hl' ((hS _).1 y.h).bel).c3
          have ho : okAt rs k = bef q r := by
            obtain ⟨j, rfl⟩ : ∃ j, k = j + 1 := ⟨k - 1, by omega⟩
            rw [okAt_s hr.out (by simpa using hq.out), ← hv, Bool.true_and]
          have HT := Lib.hid (okTo_succ rs k)
          rw [hok.out, Bool.true_and, ho] at HT
          have E := Lib.hid (fun h : bef q r = false => tab_no hlt (ho.trans h))
          clear hS hR hs hr hok hv hq h4' e2 ho
          generalize bef q r = be at *
          cases be
          · have E3 := Lib.hid (E.out rfl)
            clear HT E
            go_wp2_with fail
            refine region_held S (by kernel_rfl) (by kernel_rfl) k0 ?_
            repeat (go_big_quiet_step ((first | rfl | (go_at_call 31; exact codeS_y (by assumption) hrl _) | (go_at_call 71; exact is_y (by assumption) _) | (go_at_call 72; exact inn_y (by assumption) _) | (go_at_call 55; exact HC.out _))))
            refine wpQuiet_nil ?_
            rintro _ ⟨y, rfl⟩
            go_wp2_with fail
            go_ret
            exact ⟨by rw [E3.out] <;> rfl, HB.out y⟩
          · clear E
            go_wp2_with fail
            refine region_held S (by kernel_rfl) (by kernel_rfl) k0 ?_
            repeat (go_big_quiet_step ((first | rfl | (go_at_call 31; exact codeS_y (by assumption) hrl _) | (go_at_call 71; exact is_y (by assumption) _) | (go_at_call 72; exact inn_y (by assumption) _) | (go_at_call 55; exact HC.out _))))
            refine wpQuiet_nil ?_
            rintro _ ⟨y, rfl⟩
            go_wp2_with fail
            go_roundw
            case rel => exact ⟨k + 1, by omega, by go_num, HT, HB.out y⟩
            case measure => simp [intOf]; omega
        · have HT : Hid (okTo rs (k + 1) = true) := Lib.hid (by
            rw [okTo_succ, hok.out, Bool.true_and]
            obtain rfl : k = 0 := by omega
            rw [okAt_0 hr.out, ← hv])
          have hd : decide (0 < (k : Int)) = false := by simp; omega
          clear hS hR hs hr hok hv
          go_wp2_with fail
          refine region_held S (by kernel_rfl) (by kernel_rfl) k0 ?_
          repeat (go_big_quiet_step ((first | rfl | (go_at_call 31; exact codeS_y (by assumption) hrl _) | (go_at_call 71; exact is_y (by assumption) _) | (go_at_call 72; exact inn_y (by assumption) _))))
          refine wpQuiet_nil ?_
          rintro _ ⟨y, rfl⟩
          go_wp2_with fail
          go_roundw
          case rel => exact ⟨k + 1, by omega, by go_num, HT, HB.out y⟩
          case measure => simp [intOf]; omega
      | false =>
        have E := Lib.hid (tab_no hlt (okAt_no hr.out hv.symm))
        clear hS hR hs hr hok hv
        cases W
        all_goals
          go_wp2_with fail
          refine region_held S (by kernel_rfl) (by kernel_rfl) k0 ?_
          repeat (go_big_quiet_step ((first | rfl | (go_at_call 31; exact codeS_y (by assumption) hrl _) | (go_at_call 71; exact is_y (by assumption) _) | (go_at_call 72; exact inn_y (by assumption) _))))
          refine wpQuiet_nil ?_
          rintro _ ⟨y, rfl⟩
          go_wp2_with fail
          go_ret
          exact ⟨by rw [E.out] <;> rfl, HB.out y⟩
    · have E := Lib.hid (tab_all (by obtain rfl : k = rs.length := by omega
                                     exact hok.out))
      clear hR hs hok
      go_wp2_with fail
      go_ret
      exact ⟨by rw [E.out] <;> rfl, hb⟩
end Go.Proofs.Ytaehkkcaoniphaa

/- The law of IsTable. -/
namespace Go.Proofs.Ytaehkkcaoniphaa
open Go.ChangeShapes Go.WideShapes Go.ChangeAt Go.RowKit
set_option linter.unusedVariables false

/-- What the size says of rates that came in. -/
theorem szT_ok {rs : List Rt} (h : ¬ szT rs 1048576 < 0) : rs.length ≤ 1048576 ∧ ∀ r ∈ rs, r.c.length ≤ 1048576 := by
  obtain ⟨_, h1, h2⟩ := szT_bd (by omega : 0 ≤ szT rs 1048576)
  exact ⟨by omega, fun r hr => by have := h2 r hr; omega⟩
theorem rok_of {rs : List Rt} (h : ∀ r ∈ rs, r.wf) : Rok rs := fun r hr => (h r hr).1
end Go.Proofs.Ytaehkkcaoniphaa

/- laws.markText; markRateS, heldRateS. -/
namespace Go.Proofs.Ytaehkkcaoniphaa
open Go.ChangeShapes Go.WideShapes Go.ChangeAt Go.RowKit
set_option linter.unusedVariables false

theorem mconv_at (W : World) (a : Addr) (x : Int) (h : W.cell? a = some (.int .u8 x)) :
    (convert 22 9 (.slice (some a) 1 1)).run Try.prog W = .ok (.string ⟨#[UInt8.ofNat x.toNat]⟩) W := by
  rw [run_convert_bytes_string W 22 9 5 (some a) 1 1 Try.underlying22 Try.underlying5 Try.underlying9]
  have hl := run_loadCells_list (P := Try.prog) W a ([x].map (Value.int .u8)) (fun j v hj => by
    cases j with
    | zero => simp at hj; subst hj; simpa [Addr.add] using h
    | succ j => simp at hj)
  rw [run_bytesToString W a 1 1 [x] hl]
  rfl
theorem mconv_new (W : World) (x : Int) (t : TypeId) :
    (convert 22 9 (.slice (some ⟨W.heap.size, 0, none⟩) 1 1)).run Try.prog (W.alloc (.cells #[.int .u8 x] t)) = .ok (.string ⟨#[UInt8.ofNat x.toNat]⟩) (W.alloc (.cells #[.int .u8 x] t)) :=
  mconv_at _ _ x (by rw [cell_of_row _ _ _ _ _ _ (heap_alloc_new W _)]; rfl)
/-- What is still to be written of a number, ahead of what is written. -/
def mk0 (k : Nat) (l : List UInt8) : List UInt8 := if k = 0 then l else Lib.decDigits k ++ l
/-- The text of a mark. -/
def mkT (k : Nat) : List UInt8 := 109 :: Lib.decDigits k
theorem mk0_step {k : Nat} (hk : 0 < k) (l : List UInt8) : mk0 (k / 10) (UInt8.ofNat (48 + k % 10) :: l) = mk0 k l := by
  unfold mk0
  rw [if_neg (by omega : ¬ k = 0)]
  by_cases h : k < 10
  · rw [if_pos (by omega), Lib.decDigits_one h, Nat.mod_eq_of_lt h]; rfl
  · rw [if_neg (by omega)]
    conv => rhs; rw [Lib.decDigits, dif_neg h]
    simp
theorem mdec_len (k : Nat) : ∀ n, n < 10 ^ k → (Lib.decDigits n).length ≤ k + 1 := by
  induction k with
  | zero => intro n h; rw [Lib.decDigits_one (by simp at h; omega)]; simp
  | succ k ih =>
    intro n h
    by_cases hn : n < 10
    · rw [Lib.decDigits_one hn]; simp
    · have e : Lib.decDigits n = Lib.decDigits (n / 10) ++ [UInt8.ofNat (48 + n % 10)] := by
        conv => lhs; rw [Lib.decDigits, dif_neg hn]
      rw [e]
      have := ih (n / 10) (by rw [Nat.pow_succ] at h; omega)
      simp; omega
theorem mk0_len {k : Nat} {l m : List UInt8} (h : mk0 k l = m) : l.length ≤ m.length := by
  subst h; unfold mk0; split
  · exact Nat.le_refl _
  · rw [List.length_append]; omega
theorem str1 (b : UInt8) (l : List UInt8) : (⟨#[b]⟩ ++ ⟨l.toArray⟩ : ByteArray) = ⟨(b :: l).toArray⟩ := by
  apply ByteArray.ext
  simp [ByteArray.data_append]

set_option maxHeartbeats 1000000 in
theorem markText_l (k : Nat) (w : World) (h0 : 0 < k) (h1 : k ≤ 1000000000000) : Calls Try.prog 63 #[.int .i64 k] w (Gives w (.string ⟨(mkT k).toArray⟩)) := by
  have E : Hid (mkT k = 109 :: mk0 k []) := Lib.hid (by unfold mkT mk0; rw [if_neg (by omega)]; simp)
  have hL : (mk0 k []).length ≤ 19 := by
    unfold mk0; rw [if_neg (by omega), List.append_nil]; exact mdec_len 18 k (by omega)
  obtain ⟨T, hT⟩ : ∃ T, mk0 k [] = T := ⟨_, rfl⟩
  rw [hT] at E hL
  have H0 := Lib.hid hT
  clear hT
  go_enter Try.func63, Try.ntmps63
  go_wp2_with fail
  go_loopw [0, 3] (fun k' o wr => ∃ (j : Nat) (l : List UInt8), j ≤ k ∧ k' = .int .i64 j ∧ o = .string ⟨l.toArray⟩ ∧ Hid (mk0 j l = T) ∧ Below w.heap.size w wr) (fun k' _ _ => (intOf k').toNat)
  case atStart => exact ⟨k, [], Nat.le_refl _, rfl, rfl, H0, Below.refl _ _⟩
  case round =>
    obtain ⟨j, l, hj, rfl, rfl, ht, hb⟩ := hrel
    have hll := mk0_len ht.out
    by_cases hj0 : 0 < j
    · have HT : Hid (mk0 (j / 10) (UInt8.ofNat (48 + j % 10) :: l) = T) := Lib.hid (by rw [mk0_step hj0, ht.out])
      have q1 : IntKind.i64.wrap ((j : Int) / 10) = (j : Int) / 10 := IntWalk.i64_in _ (by omega)
      have q2 : (j : Int).tmod 10 = (j : Int) % 10 := Int.tmod_eq_emod_of_nonneg (by omega)
      have q3 : IntKind.i64.wrap (48 + (j : Int) % 10) = 48 + (j : Int) % 10 := IntWalk.i64_in _ (by omega)
      have q4 : IntKind.u8.wrap (48 + (j : Int) % 10) = 48 + (j : Int) % 10 := IntWalk.u8_in _ (by omega)
      have hcv := fun W => mconv_new W (48 + (j : Int) % 10) 5
      have hnn : (48 + (j : Int) % 10).toNat = 48 + j % 10 := by omega
      have hs : Hid ((⟨#[48 + UInt8.ofNat (j % 10)]⟩ ++ ⟨l.toArray⟩ : ByteArray) = ⟨(UInt8.ofNat (48 + j % 10) :: l).toArray⟩) := Lib.hid (by rw [← str1, UInt8.ofNat_add]; rfl)
      clear ht
      go_wp2_with fail
      go_roundw
      case rel => exact ⟨j / 10, UInt8.ofNat (48 + j % 10) :: l, by omega, by go_num, congrArg Value.string hs.out, HT, hb.trans ((Below.refl _ _).alloc hb.size _)⟩
      case measure => simp [intOf]; omega
    · obtain rfl : j = 0 := by omega
      have HT : Hid (l = T) := Lib.hid (by have := ht.out; unfold mk0 at this; simpa using this)
      have hs := Lib.hid (str1 109 l)
      clear ht
      go_wp2_with fail
      go_ret
      exact ⟨by rw [E.out, ← HT.out, ← hs.out] <;> rfl, hb⟩

/-! ### rows of rates -/
def markR (k : Nat) : Rt := ⟨mkT k, (k : Int) + 1, (k : Int) + 2, (k : Int) + 3⟩
def marksR (k : Nat) (n : Nat) : List Rt := (List.range n).map fun j => markR (k + 4 * j)
theorem marksR_len (k : Nat) (n : Nat) : (marksR k n).length = n := by simp [marksR]
theorem marksR_at {k : Nat} {n j : Nat} (h : j < n) : (marksR k n)[j]? = some (markR (k + 4 * j)) := by simp [marksR, h]
theorem marksR_succ (k : Nat) (n : Nat) : marksR k (n + 1) = marksR k n ++ [markR (k + 4 * n)] := by simp [marksR, List.range_succ]
def MarkedR (w : World) (base : Nat) (A : Option Addr) (n c : Nat) (k : Nat) (e : Ending) (w' : World) : Prop :=
  e = .returned (.int .i64 ((k + 4 * n : Nat) : Int)) ∧ Or w' base A n c (marksR k n) ∧ w.grownBy w' (Value.slice A n c).ownBlock
theorem grown_below' {w wr w' : World} {g : Option Nat} (h : w.grownBy wr g) (hb : Below w.heap.size wr w') : w.grownBy w' g :=
  ⟨hb.os.trans h.os, hb.tape.trans h.tape, hb.output.trans h.output, Nat.le_trans h.size hb.size, fun k hk hn => (hb.block k hk).trans (h.block k hk hn)⟩

set_option maxRecDepth 100000 in
set_option maxHeartbeats 1000000 in
theorem markRateS_l (A : Option Addr) (n c : Nat) (k0 : Nat) (rs : List Rt) (base : Nat) (w : World) (hx : Or w base A n c rs) (hn : n ≤ 1048576) (h0 : 0 < k0) (h1 : k0 ≤ 1000000000) :
    Calls Try.prog 37 #[.slice A n c, .int .i64 k0] w (MarkedR w base A n c k0) := by
  by_cases hz : n = 0
  · have HO : Hid (Or w base A n c (marksR k0 n)) := Lib.hid (by
      have h := hx.len; subst hz
      have : rs = [] := List.eq_nil_of_length_eq_zero h
      subst this; exact hx)
    subst hz
    go_enter Try.func37, Try.ntmps37
    go_wp2_with fail
    go_loop [1, 5] (fun k i => k = .int .i64 k0 ∧ i = .int .i64 0) (fun _ _ => 0)
    case atStart => exact ⟨rfl, rfl⟩
    case round =>
      obtain ⟨rfl, rfl⟩ := hrel
      go_wp2_with fail
      go_ret
      exact ⟨by simp, HO.out, World.grownBy.refl w _⟩
  · obtain ⟨g, hA⟩ : ∃ g, A = some ⟨g, 0, none⟩ := by
      rcases hx.2 with ⟨_, h⟩ | ⟨g, _, _, h, _⟩
      · exact absurd h hz
      · injection h with h; exact ⟨g, h⟩
    subst hA
    go_enter Try.func37, Try.ntmps37
    go_wp2_with fail
    go_loopw [1, 5] (fun k i wr => ∃ (j : Nat) (ys : List Value), j ≤ n ∧ i = .int .i64 j ∧ k = .int .i64 ((k0 + 4 * j : Nat) : Int) ∧ wr.ownsRow base 30 4 (.slice (some ⟨g, 0, none⟩) n c) n ys ∧
      Hid (ys.take (j * 4) = (marksR k0 j).flatMap Rt.cells) ∧ w.grownBy wr (some g)) (fun _ i _ => n - (intOf i).toNat)
    case atStart => exact ⟨0, _, Nat.zero_le _, rfl, by simp, hx, Lib.hid (by simp [marksR]), World.grownBy.refl w _⟩
    case round =>
      obtain ⟨j, ys, hj, rfl, rfl, hown, ht, hg⟩ := hrel
      clear hx
      by_cases hlt : j < n
      · have HO := Lib.hid hown
        have hyl : j * 4 + 3 < ys.length := by have := hown.1; omega
        have HM := Lib.hid (markText_l (k0 + 4 * j) wr (by omega) (by omega))
        have HT : Hid ((((((ys.set (j * 4) (.string ⟨(mkT (k0 + 4 * j)).toArray⟩)).set (j * 4 + 1) (.int .i64 (((k0 + 4 * j : Nat) : Int) + 1))).set (j * 4 + 2) (.int .i64 (((k0 + 4 * j : Nat) : Int) + 2))).set (j * 4 + 3) (.int .i64 (((k0 + 4 * j : Nat) : Int) + 3)))).take ((j + 1) * 4) = (marksR k0 (j + 1)).flatMap Rt.cells) := Lib.hid (by
          rw [set4 hyl ht.out, marksR_succ, List.flatMap_append]; simp [Rt.cells, markR])
        generalize hK : k0 + 4 * j = K at *
        have hK1 : k0 + 4 * (j + 1) = K + 4 := by omega
        have HK := Lib.hid hK1
        have hKb : K ≤ 1010000000 := by omega
        clear ht hown hK hK1
        go_wp2_with fail
        refine HM.out.mono ?_
        rintro e w1 ⟨rfl, b1⟩
        have hown := own_below HO.out b1
        clear HO HM
        have hg2 := grown_below' hg (b1.mono hg.size)
        obtain ⟨o0, k0'⟩ := own_at hown (j * 4) (by omega)
        obtain ⟨o1, k1⟩ := own_at hown (j * 4 + 1) (by omega)
        obtain ⟨o2, k2⟩ := own_at hown (j * 4 + 2) (by omega)
        obtain ⟨o3, k3⟩ := own_at hown (j * 4 + 3) (by omega)
        have f0 := hown.frozenAt (j * 4)
        have f1 := hown.frozenAt (j * 4 + 1)
        have f2 := hown.frozenAt (j * 4 + 2)
        have f3 := hown.frozenAt (j * 4 + 3)
        have HS := Lib.hid (stored4 hown (j * 4) (.string ⟨(mkT K).toArray⟩) (.int .i64 ((K : Int) + 1)) (.int .i64 ((K : Int) + 2)) (.int .i64 ((K : Int) + 3)))
        clear hown
        go_wp2_with fail
        go_roundw
        case rel => exact ⟨j + 1, _, by omega, by go_num, by rw [HK.out]; go_num, HS.out.1, HT, hg2.trans HS.out.2⟩
        case measure => simp [intOf]; omega
      · obtain rfl : j = n := by omega
        have HT : Hid (ys = (marksR k0 j).flatMap Rt.cells) := Lib.hid (by
          have h1 := ht.out; have h2 := hown.1
          rwa [List.take_of_length_le (by omega)] at h1)
        clear ht
        go_wp2_with fail
        go_ret
        exact ⟨rfl, by have := HT.out; subst this; exact hown, hg⟩

set_option maxRecDepth 100000 in
set_option maxHeartbeats 1000000 in
theorem heldRateS_l (A : Option Addr) (n c : Nat) (k0 : Nat) (w : World) (hx : Rr w A (marksR k0 n)) (hn : n ≤ 1048576) (h0 : 0 < k0) (h1 : k0 ≤ 1000000000) :
    Calls Try.prog 38 #[.slice A n c, .int .i64 k0] w (Gives w (.int .i64 ((k0 + 4 * n : Nat) : Int))) := by
  go_enter Try.func38, Try.ntmps38
  go_wp2_with fail
  go_loopw [1, 5] (fun k i wr => ∃ j : Nat, j ≤ n ∧ i = .int .i64 j ∧ k = .int .i64 ((k0 + 4 * j : Nat) : Int) ∧ Below w.heap.size w wr) (fun _ i _ => n - (intOf i).toNat)
  case atStart => exact ⟨0, Nat.zero_le _, rfl, by simp, Below.refl _ _⟩
  case round =>
    obtain ⟨j, hj, rfl, rfl, hb⟩ := hrel
    by_cases hlt : j < n
    · obtain ⟨b, off, r, rfl, hl, hr, h4⟩ := (hx.below hb).four (k := j) (by rw [marksR_len]; exact hlt)
      obtain rfl : markR (k0 + 4 * j) = r := by have := hr.out; rw [marksR_at hlt] at this; exact Option.some.inj this
      generalize hK : k0 + 4 * j = K at *
      have HK : Hid (k0 + 4 * (j + 1) = K + 4) := Lib.hid (by omega)
      have hKb : K ≤ 1010000000 := by omega
      have hK0 : 0 < K := by omega
      have HM := Lib.hid (fun y : Sub (Bel wr) => (markText_l K y.w hK0 (by omega)).mono fun e w' h => (⟨h.1, ⟨w', Bel.step y h.2⟩, rfl⟩ : e = .returned (.string ⟨(mkT K).toArray⟩) ∧ ∃ z : Sub (Bel wr), w' = z.w))
      have HF := Lib.hid (fun y : Sub (Bel wr) => h4.below hl y.h)
      have q0 : ∀ y : Sub (Bel wr), y.w.cell? ⟨b, off + j * 4, none⟩ = some (.string ⟨(mkT K).toArray⟩) := fun y => (h4.below hl y.h).c0
      have HB := Lib.hid (fun y : Sub (Bel wr) => (belowGo hb y.h : Below w.heap.size w y.w))
      clear hx hr hK h4
      go_wp2_with fail
      refine region_held (Bel wr) (by kernel_rfl) (by kernel_rfl) (Bel.drew wr) ?_
      repeat (go_big_quiet_step ((first | rfl | (go_at_call 63; exact HM.out _))))
      refine wpQuiet_nil ?_
      rintro _ ⟨y, rfl⟩
      have c1 : y.w.cell? ⟨b, off + j * 4 + 1, none⟩ = some (.int .i64 ((K : Int) + 1)) := (HF.out y).c1
      have c2 : y.w.cell? ⟨b, off + j * 4 + 2, none⟩ = some (.int .i64 ((K : Int) + 2)) := (HF.out y).c2
      have c3 : y.w.cell? ⟨b, off + j * 4 + 3, none⟩ = some (.int .i64 ((K : Int) + 3)) := (HF.out y).c3
      have d1 : (((K : Int) + 1) != (K : Int) + 1) = false := by simp
      have d2 : (((K : Int) + 2) != (K : Int) + 2) = false := by simp
      have d3 : (((K : Int) + 3) != (K : Int) + 3) = false := by simp
      clear HF HM q0
      go_wp2_with fail
      go_roundw
      case rel => exact ⟨j + 1, by omega, by go_num, by rw [HK.out]; go_num, HB.out y⟩
      case measure => simp [intOf]; omega
    · obtain rfl : j = n := by omega
      clear hx
      go_wp2_with fail
      go_ret
      exact ⟨rfl, hb⟩
end Go.Proofs.Ytaehkkcaoniphaa

/- laws.eqInt64S, spec.l01Amounts, impl.areAmounts .. over slices that read as lists. -/
namespace Go.Proofs.Ytaehkkcaoniphaa
open Go.ChangeShapes Go.WideShapes Go.ChangeAt Go.RowKit
set_option linter.unusedVariables false

theorem eq_snoc {xs ys : List Int} {k : Nat} {x : Int} (h : xs.take k = ys.take k) (hx : xs[k]? = some x) (hy : ys[k]? = some x) : xs.take (k + 1) = ys.take (k + 1) := by
  rw [snoc_of hx, snoc_of hy, h]
theorem eq_not {xs ys : List Int} {k : Nat} {x y : Int} (hx : xs[k]? = some x) (hy : ys[k]? = some y) (h : x ≠ y) : xs ≠ ys := by
  rintro rfl; exact h (Option.some.inj (hx.symm.trans hy))

theorem isAmount_i (n : Int) (w : World) : Calls Try.prog 44 #[.int .i64 n] w fun e w' => e = .returned (.bool (amt n)) ∧ w = w' := by
  rcases (by omega : (0 ≤ n ∧ n ≤ 1000000000) ∨ n < 0 ∨ (0 ≤ n ∧ 1000000000 < n)) with ⟨a, b⟩ | a | ⟨a, b⟩
  · have E : Hid (amt n = true) := Lib.hid (amt_iff.2 ⟨a, b⟩)
    go_enter Try.func44, Try.ntmps44
    go_wp2
    go_ret
    exact ⟨by rw [E.out] <;> rfl, rfl⟩
  · have E : Hid (amt n = false) := Lib.hid (amt_no.2 (.inl a))
    go_enter Try.func44, Try.ntmps44
    go_wp2
    go_ret
    exact ⟨by rw [E.out] <;> rfl, rfl⟩
  · have E : Hid (amt n = false) := Lib.hid (amt_no.2 (.inr b))
    have d : decide (n ≤ 1000000000) = false := by simp; omega
    go_enter Try.func44, Try.ntmps44
    go_wp2
    go_ret
    exact ⟨by rw [E.out] <;> rfl, rfl⟩
theorem isAmount_s (n : Int) (w : World) : Calls Try.prog 49 #[.int .i64 n] w fun e w' => e = .returned (.bool (amt n)) ∧ w = w' := by
  rcases (by omega : (0 ≤ n ∧ n ≤ 1000000000) ∨ n < 0 ∨ (0 ≤ n ∧ 1000000000 < n)) with ⟨a, b⟩ | a | ⟨a, b⟩
  · have E : Hid (amt n = true) := Lib.hid (amt_iff.2 ⟨a, b⟩)
    go_enter Try.func49, Try.ntmps49
    go_wp2
    go_ret
    exact ⟨by rw [E.out] <;> rfl, rfl⟩
  · have E : Hid (amt n = false) := Lib.hid (amt_no.2 (.inl a))
    go_enter Try.func49, Try.ntmps49
    go_wp2
    go_ret
    exact ⟨by rw [E.out] <;> rfl, rfl⟩
  · have E : Hid (amt n = false) := Lib.hid (amt_no.2 (.inr b))
    have d : decide (n ≤ 1000000000) = false := by simp; omega
    go_enter Try.func49, Try.ntmps49
    go_wp2
    go_ret
    exact ⟨by rw [E.out] <;> rfl, rfl⟩

end Go.Proofs.Ytaehkkcaoniphaa

/- laws.toInt64S copies; laws.markInt64S numbers the cells; laws.heldInt64S finds the numbers. -/
namespace Go.Proofs.Ytaehkkcaoniphaa
open Go.ChangeShapes Go.WideShapes Go.ChangeAt Go.RowKit
set_option linter.unusedVariables false

theorem intInfo : (Try.prog.info? 2).map (fun i => (i.zero, i.size, i.bytes)) = some (some (.int .i64 0), 1, 8) := by kernel_rfl

theorem set_take {ys : List Value} {k : Nat} {v : Value} (hk : k < ys.length) : (ys.set k v).take (k + 1) = ys.take k ++ [v] := by
  rw [List.take_add_one, List.take_set_of_le (Nat.le_refl k)]
  simp [hk]

/-- The numbers k, k + 1, .. of n cells. -/
def marks (k : Int) (n : Nat) : List Int := (List.range n).map fun j : Nat => k + (j : Int)
theorem marks_len (k : Int) (n : Nat) : (marks k n).length = n := by simp [marks]
theorem marks_at {k : Int} {n j : Nat} (h : j < n) : (marks k n)[j]? = some (k + j) := by simp [marks, h]
theorem marks_succ (k : Int) (n : Nat) : marks k (n + 1) = marks k n ++ [k + n] := by simp [marks, List.range_succ]

def Marked (w : World) (base : Nat) (A : Option Addr) (n c : Nat) (k : Int) (e : Ending) (w' : World) : Prop :=
  e = .returned (.int .i64 (k + n)) ∧ Oi w' base A n c (marks k n) ∧ w.grownBy w' (Value.slice A n c).ownBlock

end Go.Proofs.Ytaehkkcaoniphaa

/- DaysWithRate. -/
namespace Go.Proofs.Ytaehkkcaoniphaa
open Go.ChangeShapes Go.WideShapes Go.ChangeAt Go.RowKit
set_option linter.unusedVariables false

/-- A table as the functions of the chapter take it. -/
structure Tbl (w : World) (A : Option Addr) (rs : List Rt) : Prop where
  row : Rr w A rs
  txt : ∀ r ∈ rs, r.c.length ≤ 1048576
  len : rs.length ≤ 1048576
theorem Tbl.below {w w' : World} {A : Option Addr} {rs : List Rt} (h : Tbl w A rs) (hb : Below w.heap.size w w') : Tbl w' A rs := ⟨h.row.below hb, h.txt, h.len⟩
theorem tabI_q {w : World} {A : Option Addr} {c : Nat} {rs : List Rt} {b : Bool} (h : Tbl w A rs) (hb : tabB rs = b) : Calls Try.prog 17 #[.slice A rs.length c] w (Gives w (.bool b)) := by
  subst hb; exact isTable_i A c rs w h.row h.txt
theorem tabS_q {w : World} {A : Option Addr} {c : Nat} {rs : List Rt} {b : Bool} (h : Tbl w A rs) (hb : tabB rs = b) : Calls Try.prog 54 #[.slice A rs.length c] w (Gives w (.bool b)) := by
  subst hb; exact isTable_s A c rs w h.row h.txt h.len
def daysOf (c : List UInt8) (rs : List Rt) : List Int := (rs.filter fun r => r.c == c).map Rt.day
def daysR (rs : List Rt) (c : List UInt8) : List Int × Int := if tabB rs = true ∧ codeB c = true then (if daysOf c rs = [] then ([], 4) else (daysOf c rs, 0)) else ([], 1)
theorem daysR_no {rs : List Rt} {c : List UInt8} (h : tabB rs = false ∨ codeB c = false) : daysR rs c = ([], 1) := by
  unfold daysR; rw [if_neg]; rintro ⟨h1, h2⟩; rcases h with h | h <;> simp_all
theorem daysR_nil {rs : List Rt} {c : List UInt8} (h : tabB rs = true) (h2 : codeB c = true) (h3 : daysOf c rs = []) : daysR rs c = ([], 4) := by
  unfold daysR; rw [if_pos ⟨h, h2⟩, if_pos h3]
theorem daysR_ok {rs : List Rt} {c : List UInt8} (h : tabB rs = true) (h2 : codeB c = true) (h3 : daysOf c rs ≠ []) : daysR rs c = (daysOf c rs, 0) := by
  unfold daysR; rw [if_pos ⟨h, h2⟩, if_neg h3]
theorem daysOf_snoc (c : List UInt8) (rs : List Rt) (r : Rt) : daysOf c (rs ++ [r]) = daysOf c rs ++ (if (r.c == c) = true then [r.day] else []) := by
  unfold daysOf; rw [List.filter_append, List.map_append]; by_cases h : (r.c == c) = true <;> simp [List.filter_cons, h]
theorem daysOf_len (c : List UInt8) (rs : List Rt) : (daysOf c rs).length ≤ rs.length := by
  unfold daysOf; rw [List.length_map]; exact List.length_filter_le _ _
theorem made0 (w : World) (base : Nat) (e : TypeId) (size : Nat) (hb : base ≤ w.heap.size) : (w.alloc (Obj.cells #[] e)).ownsRow base e size (.slice (some ⟨w.heap.size, 0, none⟩) 0 0) 0 [] :=
  World.ownsRow_made w #[] 0 hb (by decide) (by simp)

set_option maxRecDepth 100000 in
set_option maxHeartbeats 2000000 in
theorem days_i (A : Option Addr) (d : Nat) (rs : List Rt) (c : List UInt8) (w : World) (h : Tbl w A rs) (hc : c.length ≤ 9223372036854775807) :
    Calls Try.prog 25 #[.slice A rs.length d, .string ⟨c.toArray⟩] w (NewIntsC w (daysR rs c)) := by
  obtain ⟨i0, hi, hz0, hz1, hz2⟩ := info_parts intInfo
  rcases Bool.eq_false_or_eq_true (tabB rs) with ht | ht
  · rcases Bool.eq_false_or_eq_true (codeB c) with hcd | hcd
    · have HT := Lib.hid (tabI_q (c := d) h ht)
      have HE0 := Lib.hid (fun h3 => daysR_nil ht hcd h3)
      have HE1 := Lib.hid (fun h3 => daysR_ok ht hcd h3)
      have hn := h.len
      clear ht
      go_enter Try.func25, Try.ntmps25
      go_wp2_with (first | (go_at_call 17; refine HT.out.mono ?_; rintro e w1 ⟨rfl, b1⟩) | (go_at_call 30; refine (codeI_q (by assumption) hc _).mono ?_; rintro e w' ⟨rfl, rfl⟩))
      go_loopw [6, 20] (fun o i wr => ∃ (k : Nat) (ys : List Int), k ≤ rs.length ∧ i = .int .i64 k ∧ wr.ownsRow w.heap.size 2 1 o ys.length (ys.map (Value.int .i64)) ∧ Hid (ys = daysOf c (rs.take k)) ∧ Below w.heap.size w wr) (fun _ i _ => rs.length - (intOf i).toNat)
      case atStart => exact ⟨0, [], Nat.zero_le _, rfl, made0 _ _ _ _ b1.size, Lib.hid rfl, b1.alloc b1.size _⟩
      case round =>
        obtain ⟨k, ys, hk, rfl, hown, hys, hb⟩ := hrel
        obtain ⟨O, q, rfl⟩ := own_form hown
        have hyl : ys.length ≤ k := by rw [hys.out]; have := daysOf_len c (rs.take k); rw [List.length_take] at this; omega
        by_cases hlt : k < rs.length
        · obtain ⟨b, off, r, rfl, hl, hr, h4⟩ := (h.row.below hb).four hlt
          have c0 := h4.c0; have c1 := h4.c1; have c2 := h4.c2; have c3 := h4.c3
          have HS := Lib.hid (daysOf_snoc c (rs.take k) r)
          rw [← snoc_of hr.out, ← hys.out] at HS
          clear h h4 hr hys
          rcases Bool.eq_false_or_eq_true (r.c == c) with he | he
          · have HS2 : Hid (ys ++ [r.day] = daysOf c (rs.take (k + 1))) := Lib.hid (by rw [HS.out, if_pos he])
            clear HS
            have hown2 := hown.alloc (.cells #[.string ⟨r.c.toArray⟩, .int .i64 r.day, .int .i64 r.num, .int .i64 r.den] 30)
            have hsz : w.heap.size ≤ (wr.alloc (.cells #[.string ⟨r.c.toArray⟩, .int .i64 r.day, .int .i64 r.num, .int .i64 r.den] 30)).heap.size := Nat.le_trans hb.size (by simp)
            have hsz := Lib.hid hsz
            have hzz : Hid (wr.heap.size + 1 = (wr.alloc (.cells #[.string ⟨r.c.toArray⟩, .int .i64 r.day, .int .i64 r.num, .int .i64 r.den] 30)).heap.size) := Lib.hid (by simp)
            clear hown
            go_wp2_with (at_builtin; refine wpList_push _ rfl (.tmp 28) (.tmp 31) 50 rfl w.heap.size 2 i0 _ 1 8 Try.underlying50 hi hz0 hz1 hz2 rfl (by decide) _ ys.length _ rfl hown2 [.int .i64 r.day] rfl (by simp [Value.oneCell']) (congrArg (fun n => Value.slice (some ⟨n, 0, none⟩) 1 1) hzz.out) (by unfold maxLen; omega) (by omega) hsz.out ?_; intro v' w' hown' hb')
            go_roundw
            case rel => exact ⟨k + 1, ys ++ [r.day], by omega, by go_num, by simpa using hown', HS2, (hb.alloc hb.size _).trans hb'⟩
            case measure => simp [intOf]; omega
          · have HS2 : Hid (ys = daysOf c (rs.take (k + 1))) := Lib.hid (by rw [HS.out, if_neg (by simp [he]), List.append_nil])
            clear HS
            have hown2 := hown.alloc (.cells #[.string ⟨r.c.toArray⟩, .int .i64 r.day, .int .i64 r.num, .int .i64 r.den] 30)
            clear hown
            go_wp2_with fail
            go_roundw
            case rel => exact ⟨k + 1, ys, by omega, by go_num, hown2, HS2, hb.alloc hb.size _⟩
            case measure => simp [intOf]; omega
        · have HY : Hid (ys = daysOf c rs) := Lib.hid (by rw [hys.out, take_all hk hlt])
          clear hys h
          by_cases h0 : ys = []
          · subst h0
            have E := Lib.hid (HE0.out HY.out.symm)
            go_wp2_with fail
            go_ret2
            rw [E.out]
            exact ⟨none, 0, rfl, Oi.nil _ _, hb⟩
          · have E := Lib.hid (HE1.out (by rw [← HY.out]; exact h0))
            have hpos : ((ys.length : Int) == 0) = false := by rw [beq_eq_false_iff_ne]; have : 0 < ys.length := List.length_pos_iff.2 h0; omega
            clear h0
            go_wp2_with fail
            go_ret2
            rw [E.out, ← HY.out]
            exact ⟨O, q, rfl, hown, hb⟩
    · have E := Lib.hid (daysR_no (rs := rs) (c := c) (.inr hcd))
      have HT := Lib.hid (tabI_q (c := d) h ht)
      clear ht
      go_enter Try.func25, Try.ntmps25
      go_wp2_with (first | (go_at_call 17; refine HT.out.mono ?_; rintro e w1 ⟨rfl, b1⟩) | (go_at_call 30; refine (codeI_q (by assumption) hc _).mono ?_; rintro e w' ⟨rfl, rfl⟩))
      go_ret2
      rw [E.out]
      exact ⟨none, 0, rfl, Oi.nil _ _, b1⟩
  · have E := Lib.hid (daysR_no (rs := rs) (c := c) (.inl ht))
    have HT := Lib.hid (tabI_q (c := d) h ht)
    clear ht
    go_enter Try.func25, Try.ntmps25
    go_wp2_with (first | (go_at_call 17; refine HT.out.mono ?_; rintro e w1 ⟨rfl, b1⟩))
    go_ret2
    rw [E.out]
    exact ⟨none, 0, rfl, Oi.nil _ _, b1⟩
set_option maxRecDepth 100000 in
set_option maxHeartbeats 2000000 in
theorem days_s (A : Option Addr) (d : Nat) (rs : List Rt) (c : List UInt8) (w : World) (h : Tbl w A rs) (hc : c.length ≤ 9223372036854775807) :
    Calls Try.prog 26 #[.slice A rs.length d, .string ⟨c.toArray⟩] w (NewIntsC w (daysR rs c)) := by
  obtain ⟨i0, hi, hz0, hz1, hz2⟩ := info_parts intInfo
  rcases Bool.eq_false_or_eq_true (tabB rs) with ht | ht
  · rcases Bool.eq_false_or_eq_true (codeB c) with hcd | hcd
    · have HT := Lib.hid (tabS_q (c := d) h ht)
      have HE0 := Lib.hid (fun h3 => daysR_nil ht hcd h3)
      have HE1 := Lib.hid (fun h3 => daysR_ok ht hcd h3)
      have hn := h.len
      clear ht
      go_enter Try.func26, Try.ntmps26
      go_wp2_with (first | (go_at_call 54; refine HT.out.mono ?_; rintro e w1 ⟨rfl, b1⟩) | (go_at_call 31; refine (codeS_q (by assumption) hc _).mono ?_; rintro e w' ⟨rfl, rfl⟩))
      go_loopw [6, 7] (fun o i wr => ∃ (k : Nat) (ys : List Int), k ≤ rs.length ∧ i = .int .i64 k ∧ wr.ownsRow w.heap.size 2 1 o ys.length (ys.map (Value.int .i64)) ∧ Hid (ys = daysOf c (rs.take k)) ∧ Below w.heap.size w wr) (fun _ i _ => rs.length - (intOf i).toNat)
      case atStart => exact ⟨0, [], Nat.zero_le _, rfl, made0 _ _ _ _ b1.size, Lib.hid rfl, b1.alloc b1.size _⟩
      case round =>
        obtain ⟨k, ys, hk, rfl, hown, hys, hb⟩ := hrel
        obtain ⟨O, q, rfl⟩ := own_form hown
        have hyl : ys.length ≤ k := by rw [hys.out]; have := daysOf_len c (rs.take k); rw [List.length_take] at this; omega
        by_cases hlt : k < rs.length
        · obtain ⟨b, off, r, rfl, hl, hr, h4⟩ := (h.row.below hb).four hlt
          have c0 := h4.c0; have c1 := h4.c1; have c2 := h4.c2; have c3 := h4.c3
          have HS := Lib.hid (daysOf_snoc c (rs.take k) r)
          rw [← snoc_of hr.out, ← hys.out] at HS
          clear h h4 hr hys
          rcases Bool.eq_false_or_eq_true (r.c == c) with he | he
          · have HS2 : Hid (ys ++ [r.day] = daysOf c (rs.take (k + 1))) := Lib.hid (by rw [HS.out, if_pos he])
            clear HS
            go_wp2_with (at_builtin; refine wpList_push _ rfl (.tmp 30) (.tmp 36) 50 rfl w.heap.size 2 i0 _ 1 8 Try.underlying50 hi hz0 hz1 hz2 rfl (by decide) _ ys.length _ rfl hown [.int .i64 r.day] rfl (by simp [Value.oneCell']) rfl (by unfold maxLen; omega) (by omega) hb.size ?_; intro v' w' hown' hb')
            go_roundw
            case rel => exact ⟨k + 1, ys ++ [r.day], by omega, by go_num, by simpa using hown', HS2, hb.trans hb'⟩
            case measure => simp [intOf]; omega
          · have HS2 : Hid (ys = daysOf c (rs.take (k + 1))) := Lib.hid (by rw [HS.out, if_neg (by simp [he]), List.append_nil])
            clear HS
            go_wp2_with fail
            go_roundw
            case rel => exact ⟨k + 1, ys, by omega, by go_num, hown, HS2, hb⟩
            case measure => simp [intOf]; omega
        · have HY : Hid (ys = daysOf c rs) := Lib.hid (by rw [hys.out, take_all hk hlt])
          clear hys h
          by_cases h0 : ys = []
          · subst h0
            have E := Lib.hid (HE0.out HY.out.symm)
            go_wp2_with fail
            go_ret2
            rw [E.out]
            exact ⟨none, 0, rfl, Oi.nil _ _, hb⟩
          · have E := Lib.hid (HE1.out (by rw [← HY.out]; exact h0))
            have hpos : ((ys.length : Int) == 0) = false := by rw [beq_eq_false_iff_ne]; have : 0 < ys.length := List.length_pos_iff.2 h0; omega
            clear h0
            go_wp2_with fail
            go_ret2
            rw [E.out, ← HY.out]
            exact ⟨O, q, rfl, hown, hb⟩
    · have E := Lib.hid (daysR_no (rs := rs) (c := c) (.inr hcd))
      have HT := Lib.hid (tabS_q (c := d) h ht)
      clear ht
      go_enter Try.func26, Try.ntmps26
      go_wp2_with (first | (go_at_call 54; refine HT.out.mono ?_; rintro e w1 ⟨rfl, b1⟩) | (go_at_call 31; refine (codeS_q (by assumption) hc _).mono ?_; rintro e w' ⟨rfl, rfl⟩))
      go_ret2
      rw [E.out]
      exact ⟨none, 0, rfl, Oi.nil _ _, b1⟩
  · have E := Lib.hid (daysR_no (rs := rs) (c := c) (.inl ht))
    have HT := Lib.hid (tabS_q (c := d) h ht)
    clear ht
    go_enter Try.func26, Try.ntmps26
    go_wp2_with (first | (go_at_call 54; refine HT.out.mono ?_; rintro e w1 ⟨rfl, b1⟩))
    go_ret2
    rw [E.out]
    exact ⟨none, 0, rfl, Oi.nil _ _, b1⟩
end Go.Proofs.Ytaehkkcaoniphaa

/- The book of rates: impl.bookOf. -/
namespace Go.Proofs.Ytaehkkcaoniphaa
open Go.ChangeShapes Go.WideShapes Go.ChangeAt Go.RowKit
set_option linter.unusedVariables false

theorem wpList_insert_own {H : Type} {P : Program} (w : World) {ops : Array Oper} {rest : List Oper} {o : Oper} {a : Act} {Q : Exit → Act → World → Prop}
    (hg : o.guard = none) (m x v : Operand) (t : TypeId) (hop : o.op = Op.insert t m x v)
    (k e : TypeId) (K : Maps.Keyed P k) (ht : P.underlying t = some (.map k e)) (R : Value → Option (DataW H × List MemPlace)) (b n : Nat) (D : DataW H)
    (hm : a.eval m = .map (some b)) (hown : w.ownsMap P k R b n D) (hn : n < maxLen) (key val : Value) (kl : Lit) (hx : a.eval x = key) (hv : a.eval v = val) (hkey : keyOf P k key = some kl)
    (d : DataW H) (ps : List MemPlace) (hval : R val = some (d, ps))
    (hK : ∀ w', w'.ownsMap P k R b (n + 1) (D.put kl d) → w.grownBy w' (some b) → wpList P ops Q rest (a.put o.dst undef) w') :
    wpList P ops Q (o :: rest) a w := by
  refine wpList_plain hg fun K' hK' => ?_
  obtain ⟨w', hrun, r1, r2⟩ := hown.update K ht hn hkey hval
  unfold Oper.wp
  simp [execOp, hop, hm, hx, hv, hrun, Result.andThen]
  exact hK' _ _ (hK w' r1 r2)

/-! ### the key's law -/
theorem arrKey : WideMaps.ArrKey Try.prog 116 2 2 := ⟨Try.underlying116, by kernel_rfl, by kernel_rfl, by kernel_rfl⟩
theorem keyLaw : Maps.Keyed Try.prog 116 := Maps.Keyed.of_law arrKey.law
theorem some_types : ∃ m, Try.prog.types.size = m + 1 := ⟨Try.prog.types.size - 1, by have : 0 < Try.prog.types.size := of_decide_eq_true (by kernel_rfl); omega⟩
def kv (x : Int × Int) : Value := .agg #[.int .i64 x.1, .int .i64 x.2]
def kl (x : Int × Int) : Lit := .string (keyBytes [.int .i64 x.1, .int .i64 x.2])
def Wf (x : Int × Int) : Prop := (Lit.int .i64 x.1).wf = true ∧ (Lit.int .i64 x.2).wf = true
theorem key_of {x : Int × Int} (h : Wf x) : keyOf Try.prog 116 (kv x) = some (kl x) := WideMaps.keyOf_pair arrKey Try.underlying2 some_types h.1 h.2
theorem key_inv' {P : Program} {k e : TypeId} (A : WideMaps.ArrKey P k e 2) (he : P.underlying e = some (.int .i64)) {v : Value} {l : Lit} (h : keyOf P k v = some l) : ∃ x, v = kv x ∧ l = kl x ∧ Wf x := by
  obtain ⟨xs, L, rfl, hl, rfl⟩ := keyOf_top A.wide h
  unfold Program.keyLits at hl
  simp only [A.hu] at hl
  split at hl
  · rename_i hc
    rw [A.size] at hc
    obtain ⟨cs⟩ := xs
    match cs, hc with
    | [c0, c1], _ =>
      rw [show List.range 2 = [0, 1] from rfl, List.mapM_cons, List.mapM_cons, List.mapM_nil] at hl
      simp only [bind, Option.bind_eq_some_iff, Option.map_eq_some_iff, pure, Option.some.injEq, A.one] at hl
      obtain ⟨_, ⟨l0, h0, _, ⟨l1, h1, _, rfl, rfl⟩, rfl⟩, rfl⟩ := hl
      have g0 := keyLits_wf h0
      have g1 := keyLits_wf h1
      obtain ⟨a, ea, rfl⟩ := keyLits_int' he h0
      obtain ⟨b, eb, rfl⟩ := keyLits_int' he h1
      simp at ea eb
      subst ea; subst eb
      exact ⟨(a, b), rfl, rfl, g0 _ (List.mem_singleton.2 rfl), g1 _ (List.mem_singleton.2 rfl)⟩
  · cases hl
theorem key_inv {v : Value} {l : Lit} (h : keyOf Try.prog 116 v = some l) : ∃ x, v = kv x ∧ l = kl x ∧ Wf x := key_inv' arrKey Try.underlying2 h
theorem kl_inj {x y : Int × Int} (hx : Wf x) (hy : Wf y) (h : kl x = kl y) : x = y := by
  have := keyLaw.inj (key_of hx) ((key_of hy).trans (by rw [h]))
  unfold kv at this
  simp at this
  exact Prod.ext this.1 this.2
theorem kl_key {x : Int × Int} (hx : Wf x) : WideAt.IsKeyLit (kl x) := keyLaw.key (key_of hx)

/-! ### what the book has -/
def Rt.val (r : Rt) : Value := .agg #[.string ⟨r.c.toArray⟩, .int .i64 r.day, .int .i64 r.num, .int .i64 r.den]
def rV (v : Value) : Option (DataW Value × List MemPlace) := some (.held v, [])
structure Bkd (D : DataW Value) (f : Int × Int → Option Rt) : Prop where
  map : Maps.IsMap D
  has : ∀ x, Wf x → Maps.has D (kl x) = (f x).isSome
  at_ : ∀ x r, Wf x → f x = some r → ∀ z, D.atKey (kl x) z = .held r.val
def upd (f : Int × Int → Option Rt) (x : Int × Int) (r : Rt) : Int × Int → Option Rt := fun y => if y = x then some r else f y
theorem Bkd.put {D : DataW Value} {f : Int × Int → Option Rt} (h : Bkd D f) {x : Int × Int} (hx : Wf x) (r : Rt) : Bkd (D.put (kl x) (.held r.val)) (upd f x r) := by
  refine ⟨h.map.put _ _, fun y hy => ?_, fun y q hy hq z => ?_⟩
  · unfold upd
    by_cases e : y = x
    · subst e; rw [Maps.has_put_same h.map (kl_key hy), if_pos rfl]; rfl
    · rw [Maps.has_put_other (fun e2 => e (kl_inj hy hx e2)), if_neg e]; exact h.has y hy
  · unfold upd at hq
    by_cases e : y = x
    · subst e; rw [if_pos rfl] at hq; obtain rfl := Option.some.inj hq; exact Maps.atKey_put_same h.map (kl_key hy) _ _
    · rw [if_neg e] at hq; rw [Maps.atKey_put_other (fun e2 => e (kl_inj hy hx e2))]; exact h.at_ y q hy hq z
def one : Rt := ⟨[], 0, 1, 1⟩
def bookF (rs : List Rt) : Int × Int → Option Rt := rs.foldl (fun f r => upd f (keyN r.c, r.day) r) (upd (fun _ => none) (keyN xdr, 0) one)
theorem bookF_snoc (rs : List Rt) (r : Rt) : bookF (rs ++ [r]) = upd (bookF rs) (keyN r.c, r.day) r := by simp [bookF, List.foldl_append]
theorem bd_0 : Bkd (DataW.map [] : DataW Value) (fun _ => none) := ⟨Maps.isMap_empty, fun _ _ => rfl, fun _ _ _ h => by cases h⟩
theorem wf_of {a b : Int} (ha : -9223372036854775808 ≤ a) (ha2 : a ≤ 9223372036854775807) (hb : -9223372036854775808 ≤ b) (hb2 : b ≤ 9223372036854775807) : Wf (a, b) := by
  have g : ∀ {n : Int}, -9223372036854775808 ≤ n → n ≤ 9223372036854775807 → (Lit.int .i64 n).wf = true := fun {n} h1 h2 => by
    show (decide (IntKind.i64.min ≤ n) && decide (n ≤ IntKind.i64.max)) = true
    rw [show IntKind.i64.min = -9223372036854775808 from rfl, show IntKind.i64.max = 9223372036854775807 from rfl, decide_eq_true h1, decide_eq_true h2]; rfl
  exact ⟨g ha ha2, g hb hb2⟩
theorem wf_key {c : List UInt8} {d : Int} (h : codeB c = true) (hd : -1 ≤ d) (hd2 : d ≤ 36524) : Wf (keyN c, d) := by
  have := keyN_bd h
  exact wf_of (by omega) (by omega) (by omega) (by omega)
theorem grown_of {w w' : World} (h : Below w.heap.size w w') : w.grownBy w' none := ⟨h.os, h.tape, h.output, h.size, fun i hi _ => h.block i hi⟩
end Go.Proofs.Ytaehkkcaoniphaa

