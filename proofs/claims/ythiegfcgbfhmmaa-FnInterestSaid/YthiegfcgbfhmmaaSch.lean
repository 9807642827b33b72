/- Schedules in plain lists; impl.arePoints, spec.l04Points, impl.IsSchedule, spec.IsSchedule. -/
import Derived.Test.YthiegfcgbfhmmaaStp
import Derived.Test.YthiegfcgbfhmmaaDayp
import Derived.Test.YthiegfcgbfhmmaaDayw
namespace Go.Proofs.Ythiegfcgbfhmmaa
open Go.ChangeShapes Go.WideShapes Go.ChangeAt Go.RowKit
set_option linter.unusedVariables false

/-! ### points -/
theorem pts_i (n : Int) (w : World) : Calls Try.prog 52 #[.int .i64 n] w fun e w' => e = .returned (.bool (inr n 0 10000)) ∧ w = w' := by
  go_enter Try.func52, Try.ntmps52
  go_wp2_with (go_at_call 53; refine (within_i _ _ _ _).mono ?_; rintro e w' ⟨rfl, rfl⟩)
  go_ret
  exact ⟨rfl, rfl⟩
theorem pts_s (n : Int) (w : World) : Calls Try.prog 55 #[.int .i64 n] w fun e w' => e = .returned (.bool (inr n 0 10000)) ∧ w = w' := by
  go_enter Try.func55, Try.ntmps55
  go_wp2_with (go_at_call 60; refine (inr_s _ _ _ _).mono ?_; rintro e w' ⟨rfl, rfl⟩)
  go_ret
  exact ⟨rfl, rfl⟩
theorem pts_iq {n : Int} {b : Bool} (h : inr n 0 10000 = b) (w : World) : Calls Try.prog 52 #[.int .i64 n] w fun e w' => e = .returned (.bool b) ∧ w = w' := h ▸ pts_i n w
theorem pts_sq {n : Int} {b : Bool} (h : inr n 0 10000 = b) (w : World) : Calls Try.prog 55 #[.int .i64 n] w fun e w' => e = .returned (.bool b) ∧ w = w' := h ▸ pts_s n w

/-! ### schedules in plain lists -/
def St.ok (r : St) : Bool := inr r.day 0 36524 && inr r.pts 0 10000
def sAt (rs : List St) (i : Nat) : Bool :=
  match rs[i]? with
  | none => true
  | some r => r.ok && (match i with | 0 => true | j + 1 => match rs[j]? with | none => true | some q => decide (q.day < r.day))
def sTo (rs : List St) (k : Nat) : Bool := (List.range k).all (sAt rs)
theorem sTo_succ (rs : List St) (k : Nat) : sTo rs (k + 1) = (sTo rs k && sAt rs k) := by simp [sTo, List.range_succ]
theorem sTo_no {rs : List St} {k n : Nat} (h : sAt rs k = false) (hk : k < n) : sTo rs n = false := by
  unfold sTo; rw [List.all_eq_false]; exact ⟨k, by simpa using hk, by simp [h]⟩
theorem sTo_at {rs : List St} {k n : Nat} (h : sTo rs n = true) (hk : k < n) : sAt rs k = true := by
  unfold sTo at h; rw [List.all_eq_true] at h; exact h k (by simpa using hk)
def schB (rs : List St) : Bool := sTo rs rs.length && inr (rs.length : Nat) 1 12
theorem sAt_0 {rs : List St} {r : St} (h : rs[0]? = some r) : sAt rs 0 = r.ok := by unfold sAt; simp [h]
theorem sAt_s {rs : List St} {k : Nat} {q r : St} (h : rs[k + 1]? = some r) (hq : rs[k]? = some q) : sAt rs (k + 1) = (r.ok && decide (q.day < r.day)) := by unfold sAt; simp [h, hq]
theorem sAt_no {rs : List St} {k : Nat} {r : St} (h : rs[k]? = some r) (hr : r.ok = false) : sAt rs k = false := by unfold sAt; simp [h, hr]
theorem sch_no {rs : List St} {k : Nat} (hk : k < rs.length) (h : sAt rs k = false) : schB rs = false := by unfold schB; rw [sTo_no h hk, Bool.false_and]
theorem sch_long {rs : List St} (h : 12 < rs.length) : schB rs = false := by
  unfold schB; rw [Bool.and_eq_false_iff]; right; rw [inr_no]; omega
theorem sch_nil {rs : List St} (h : rs.length = 0) : schB rs = false := by
  unfold schB; rw [Bool.and_eq_false_iff]; right; rw [inr_no]; omega
theorem sch_iff {rs : List St} : schB rs = true ↔ sTo rs rs.length = true ∧ 1 ≤ rs.length ∧ rs.length ≤ 12 := by
  unfold schB; rw [Bool.and_eq_true, inr_iff]
  exact ⟨fun ⟨h, h1, h2⟩ => ⟨h, by omega, by omega⟩, fun ⟨h, h1, h2⟩ => ⟨h, by omega, by omega⟩⟩
theorem sch_all {rs : List St} (h : sTo rs rs.length = true) : schB rs = inr (rs.length : Nat) 1 12 := by unfold schB; rw [h, Bool.true_and]
theorem sch_ok {rs : List St} (h : schB rs = true) {k : Nat} {r : St} (hr : rs[k]? = some r) : (0 ≤ r.day ∧ r.day ≤ 36524) ∧ 0 ≤ r.pts ∧ r.pts ≤ 10000 := by
  have := sTo_at (sch_iff.1 h).1 (List.getElem?_eq_some_iff.1 hr).1
  unfold sAt at this
  rw [hr] at this
  simp only [Bool.and_eq_true] at this
  have := this.1
  unfold St.ok at this
  rw [Bool.and_eq_true, inr_iff, inr_iff] at this
  exact this
theorem sch_lt {rs : List St} (h : schB rs = true) {k : Nat} {q r : St} (hq : rs[k]? = some q) (hr : rs[k + 1]? = some r) : q.day < r.day := by
  have := sTo_at (sch_iff.1 h).1 (List.getElem?_eq_some_iff.1 hr).1
  rw [sAt_s hr hq, Bool.and_eq_true, decide_eq_true_eq] at this
  exact this.2
theorem sch_before {rs : List St} (h : schB rs = true) : ∀ {i j : Nat} {q r : St}, i < j → rs[i]? = some q → rs[j]? = some r → q.day < r.day := by
  intro i j
  induction j with
  | zero => intro q r hij; omega
  | succ j ih =>
    intro q r hij hq hr
    rcases Nat.lt_or_ge i j with h1 | h1
    · have hj : j < rs.length := by have := (List.getElem?_eq_some_iff.1 hr).1; omega
      exact Int.lt_trans (ih h1 hq (List.getElem?_eq_getElem hj)) (sch_lt h (List.getElem?_eq_getElem hj) hr)
    · obtain rfl : i = j := by omega
      exact sch_lt h hq hr
/-- The ways through the conditions on a step. -/
inductive SWay (r : St) : Bool → Prop where
  | day (h : inr r.day 0 36524 = false) : SWay r false
  | pts (h : inr r.day 0 36524 = true) (h1 : inr r.pts 0 10000 = false) : SWay r false
  | ok (h : inr r.day 0 36524 = true) (h1 : inr r.pts 0 10000 = true) : SWay r true
theorem sway (r : St) : SWay r r.ok := by
  unfold St.ok
  rcases Bool.eq_false_or_eq_true (inr r.day 0 36524) with h | h
  · rcases Bool.eq_false_or_eq_true (inr r.pts 0 10000) with h1 | h1
    · rw [h, h1]; exact .ok h h1
    · rw [h, h1]; exact .pts h h1
  · rw [h]; exact .day h

/-- A box of two cells stands as it was laid; nothing below is written. -/
structure KeepP (w0 : World) (a b : Value) (t : TypeId) (W : World) : Prop where
  a : W.heap[w0.heap.size]? = some (.cells #[a, b] t (0, 0))
  bel : Below w0.heap.size w0 W
theorem KeepP.drew {w0 W : World} {a b : Value} {t : TypeId} (k : KeepP w0 a b t W) : KeepP w0 a b t W.drew := ⟨k.a, k.bel.drew⟩
theorem KeepP.new (w : World) (a b : Value) (t : TypeId) : KeepP w a b t (w.alloc (.cells #[a, b] t)) := ⟨heap_alloc_new _ _, (Below.refl _ _).alloc (Nat.le_refl _) _⟩
theorem KeepP.c0 {w0 W : World} {a b : Value} {t : TypeId} (k : KeepP w0 a b t W) : W.cell? ⟨w0.heap.size, 0, none⟩ = some a := by rw [cell_of_row _ _ _ _ _ _ k.a]; rfl
theorem KeepP.c1 {w0 W : World} {a b : Value} {t : TypeId} (k : KeepP w0 a b t W) : W.cell? ⟨w0.heap.size, 1, none⟩ = some b := by rw [cell_of_row _ _ _ _ _ _ k.a]; rfl
theorem isDay_y {S : World → Prop} {n : Int} {b : Bool} (h : inr n 0 36524 = b) (y : Sub S) : Calls Try.prog 59 #[.int .i64 n] y.w fun e w' => e = .returned (.bool b) ∧ ∃ z : Sub S, w' = z.w :=
  (isDay_q h y.w).mono fun e w' k => ⟨k.1, y, k.2.symm⟩
theorem ptsI_y {S : World → Prop} {n : Int} {b : Bool} (h : inr n 0 10000 = b) (y : Sub S) : Calls Try.prog 52 #[.int .i64 n] y.w fun e w' => e = .returned (.bool b) ∧ ∃ z : Sub S, w' = z.w :=
  (pts_iq h y.w).mono fun e w' k => ⟨k.1, y, k.2.symm⟩
theorem isS_y {S : World → Prop} {n : Int} {b : Bool} (h : inr n 0 36524 = b) (y : Sub S) : Calls Try.prog 56 #[.int .i64 n] y.w fun e w' => e = .returned (.bool b) ∧ ∃ z : Sub S, w' = z.w :=
  (is_q h y.w).mono fun e w' k => ⟨k.1, y, k.2.symm⟩
theorem ptsS_y {S : World → Prop} {n : Int} {b : Bool} (h : inr n 0 10000 = b) (y : Sub S) : Calls Try.prog 55 #[.int .i64 n] y.w fun e w' => e = .returned (.bool b) ∧ ∃ z : Sub S, w' = z.w :=
  (pts_sq h y.w).mono fun e w' k => ⟨k.1, y, k.2.symm⟩

set_option maxRecDepth 100000 in
set_option maxHeartbeats 2000000 in
theorem sch_i (A : Option Addr) (c : Nat) (rs : List St) (w : World) (hR : Rs w A rs) :
    Calls Try.prog 20 #[.slice A rs.length c] w (Gives w (.bool (schB rs))) := by
  by_cases h0 : rs.length = 0
  · have E := Lib.hid (sch_nil h0)
    go_enter Try.func20, Try.ntmps20
    go_wp2_with fail
    go_ret
    exact ⟨by rw [E.out] <;> rfl, Below.refl _ _⟩
  · by_cases h12 : 12 < rs.length
    · have E := Lib.hid (sch_long h12)
      go_enter Try.func20, Try.ntmps20
      go_wp2_with fail
      go_ret
      exact ⟨by rw [E.out] <;> rfl, Below.refl _ _⟩
    · have e0 : ((rs.length : Int) == 0) = false := by simpa using h0
      have e1 : decide (12 < (rs.length : Int)) = false := by simp; omega
      go_enter Try.func20, Try.ntmps20
      go_wp2_with fail
      go_loopw [15] (fun i wr => ∃ k : Nat, k ≤ rs.length ∧ i = .int .i64 k ∧ Hid (sTo rs k = true) ∧ Below w.heap.size w wr) (fun i _ => rs.length - (intOf i).toNat)
      case atStart => exact ⟨0, Nat.zero_le _, rfl, Lib.hid rfl, Below.refl _ _⟩
      case round =>
        obtain ⟨k, hk, rfl, hok, hb⟩ := hrel
        by_cases hlt : k < rs.length
        · obtain ⟨b, off, r, rfl, hl, hr, c0, c1⟩ := (hR.below hb).at hlt
          obtain ⟨S, hS⟩ : ∃ S : World → Prop, ∀ W, S W ↔ KeepP wr (.int .i64 r.day) (.int .i64 r.pts) 37 W := ⟨_, fun _ => Iff.rfl⟩
          have k0 : S (wr.alloc (.cells #[.int .i64 r.day, .int .i64 r.pts] 37)).drew := (hS _).2 (KeepP.new wr _ _ _).drew
          have q0 : ∀ y : Sub S, y.w.cell? ⟨wr.heap.size, 0, none⟩ = some (.int .i64 r.day) := fun y => ((hS _).1 y.h).c0
          have q1 : ∀ y : Sub S, y.w.cell? ⟨wr.heap.size, 1, none⟩ = some (.int .i64 r.pts) := fun y => ((hS _).1 y.h).c1
          have HB := Lib.hid (fun y : Sub S => (belowGo hb ((hS _).1 y.h).bel : Below w.heap.size w y.w))
          have W := sway r
          obtain ⟨v, hv⟩ : ∃ v, v = r.ok := ⟨_, rfl⟩
          rw [← hv] at W
          cases v with
          | true =>
            cases W with
            | ok g0 g1 =>
            by_cases hk0 : 0 < k
            · obtain ⟨b', off', q, e2, hl', hq, d0, d1⟩ := (hR.below hb).at (k := k - 1) (by omega)
              obtain ⟨rfl, rfl⟩ : b = b' ∧ off = off' := by injection e2 with e2; injection e2 with e3 e4; exact ⟨e3, e4⟩
              have p0 : ∀ y : Sub S, y.w.cell? ⟨b, off + (k - 1) * 2, none⟩ = some (.int .i64 q.day) := fun y => (((hS _).1 y.h).bel.cell (p := ⟨b, off + (k - 1) * 2, none⟩) hl').trans d0
              have ho : sAt rs k = decide (q.day < r.day) := by
                obtain ⟨j, rfl⟩ : ∃ j, k = j + 1 := ⟨k - 1, by omega⟩
                rw [sAt_s hr.out (by simpa using hq.out), ← hv, Bool.true_and]
              have HT := Lib.hid (sTo_succ rs k)
              rw [hok.out, Bool.true_and, ho] at HT
              have E := Lib.hid (fun h : decide (q.day < r.day) = false => sch_no hlt (ho.trans h))
              clear hS hR hr hok hv hq e2 ho
              by_cases hqr : q.day < r.day
              · rw [decide_eq_true hqr] at HT
                clear E
                go_wp2_with fail
                refine region_held S (by kernel_rfl) (by kernel_rfl) k0 ?_
                repeat (go_big_quiet_step ((first | rfl | (go_at_call 59; exact isDay_y (by assumption) _) | (go_at_call 52; exact ptsI_y (by assumption) _))))
                refine wpQuiet_nil ?_
                rintro _ ⟨y, rfl⟩
                go_wp2_with fail
                go_roundw
                case rel => exact ⟨k + 1, by omega, by go_num, HT, HB.out y⟩
                case measure => simp [intOf]; omega
              · have E3 := Lib.hid (E.out (decide_eq_false hqr))
                have hqr : r.day ≤ q.day := by omega
                clear HT E
                go_wp2_with fail
                refine region_held S (by kernel_rfl) (by kernel_rfl) k0 ?_
                repeat (go_big_quiet_step ((first | rfl | (go_at_call 59; exact isDay_y (by assumption) _) | (go_at_call 52; exact ptsI_y (by assumption) _))))
                refine wpQuiet_nil ?_
                rintro _ ⟨y, rfl⟩
                go_wp2_with fail
                go_ret
                exact ⟨by rw [E3.out] <;> rfl, HB.out y⟩
            · have HT : Hid (sTo rs (k + 1) = true) := Lib.hid (by
                rw [sTo_succ, hok.out, Bool.true_and]
                obtain rfl : k = 0 := by omega
                rw [sAt_0 hr.out, ← hv])
              have hd : decide (0 < (k : Int)) = false := by simp; omega
              clear hS hR hr hok hv
              go_wp2_with fail
              refine region_held S (by kernel_rfl) (by kernel_rfl) k0 ?_
              repeat (go_big_quiet_step ((first | rfl | (go_at_call 59; exact isDay_y (by assumption) _) | (go_at_call 52; exact ptsI_y (by assumption) _))))
              refine wpQuiet_nil ?_
              rintro _ ⟨y, rfl⟩
              go_wp2_with fail
              go_roundw
              case rel => exact ⟨k + 1, by omega, by go_num, HT, HB.out y⟩
              case measure => simp [intOf]; omega
          | false =>
            have E := Lib.hid (sch_no hlt (sAt_no hr.out hv.symm))
            clear hS hR hr hok hv
            cases W
            all_goals
              go_wp2_with fail
              refine region_held S (by kernel_rfl) (by kernel_rfl) k0 ?_
              repeat (go_big_quiet_step ((first | rfl | (go_at_call 59; exact isDay_y (by assumption) _) | (go_at_call 52; exact ptsI_y (by assumption) _))))
              refine wpQuiet_nil ?_
              rintro _ ⟨y, rfl⟩
              go_wp2_with fail
              go_ret
              exact ⟨by rw [E.out] <;> rfl, HB.out y⟩
        · have E := Lib.hid (sch_iff.2 ⟨by obtain rfl : k = rs.length := by omega
                                           exact hok.out, by omega, by omega⟩)
          clear hR hok
          go_wp2_with fail
          go_ret
          exact ⟨by rw [E.out] <;> rfl, hb⟩

set_option maxRecDepth 100000 in
set_option maxHeartbeats 2000000 in
theorem sch_s (A : Option Addr) (c : Nat) (rs : List St) (w : World) (hR : Rs w A rs) (hn : rs.length ≤ 1048576) :
    Calls Try.prog 21 #[.slice A rs.length c] w (Gives w (.bool (schB rs))) := by
  go_enter Try.func21, Try.ntmps21
  go_wp2_with fail
  go_loopw [3] (fun i wr => ∃ k : Nat, k ≤ rs.length ∧ i = .int .i64 k ∧ Hid (sTo rs k = true) ∧ Below w.heap.size w wr) (fun i _ => rs.length - (intOf i).toNat)
  case atStart => exact ⟨0, Nat.zero_le _, rfl, Lib.hid rfl, Below.refl _ _⟩
  case round =>
    obtain ⟨k, hk, rfl, hok, hb⟩ := hrel
    by_cases hlt : k < rs.length
    · obtain ⟨b, off, r, rfl, hl, hr, c0, c1⟩ := (hR.below hb).at hlt
      have q0 : ∀ y : Sub (Bel wr), y.w.cell? ⟨b, off + k * 2, none⟩ = some (.int .i64 r.day) := fun y => (y.h.cell (p := ⟨b, off + k * 2, none⟩) hl).trans c0
      have q1 : ∀ y : Sub (Bel wr), y.w.cell? ⟨b, off + k * 2 + 1, none⟩ = some (.int .i64 r.pts) := fun y => (y.h.cell (p := ⟨b, off + k * 2 + 1, none⟩) hl).trans c1
      have HB := Lib.hid (fun y : Sub (Bel wr) => (belowGo hb y.h : Below w.heap.size w y.w))
      have W := sway r
      obtain ⟨v, hv⟩ : ∃ v, v = r.ok := ⟨_, rfl⟩
      rw [← hv] at W
      cases v with
      | true =>
        cases W with
        | ok g0 g1 =>
        by_cases hk0 : 0 < k
        · obtain ⟨b', off', q, e2, hl', hq, d0, d1⟩ := (hR.below hb).at (k := k - 1) (by omega)
          obtain ⟨rfl, rfl⟩ : b = b' ∧ off = off' := by injection e2 with e2; injection e2 with e3 e4; exact ⟨e3, e4⟩
          have p0 : ∀ y : Sub (Bel wr), y.w.cell? ⟨b, off + (k - 1) * 2, none⟩ = some (.int .i64 q.day) := fun y => (y.h.cell (p := ⟨b, off + (k - 1) * 2, none⟩) hl').trans d0
          have ho : sAt rs k = decide (q.day < r.day) := by
            obtain ⟨j, rfl⟩ : ∃ j, k = j + 1 := ⟨k - 1, by omega⟩
            rw [sAt_s hr.out (by simpa using hq.out), ← hv, Bool.true_and]
          have HT := Lib.hid (sTo_succ rs k)
          rw [hok.out, Bool.true_and, ho] at HT
          have E := Lib.hid (fun h : decide (q.day < r.day) = false => sch_no hlt (ho.trans h))
          clear hR hr hok hv hq e2 ho
          by_cases hqr : q.day < r.day
          · rw [decide_eq_true hqr] at HT
            clear E
            go_wp2_with fail
            refine region_held (Bel wr) (by kernel_rfl) (by kernel_rfl) (Bel.drew wr) ?_
            repeat (go_big_quiet_step ((first | rfl | (go_at_call 56; exact isS_y (by assumption) _) | (go_at_call 55; exact ptsS_y (by assumption) _))))
            refine wpQuiet_nil ?_
            rintro _ ⟨y, rfl⟩
            go_wp2_with fail
            go_roundw
            case rel => exact ⟨k + 1, by omega, by go_num, HT, HB.out y⟩
            case measure => simp [intOf]; omega
          · have E3 := Lib.hid (E.out (decide_eq_false hqr))
            have hqr : r.day ≤ q.day := by omega
            clear HT E
            go_wp2_with fail
            refine region_held (Bel wr) (by kernel_rfl) (by kernel_rfl) (Bel.drew wr) ?_
            repeat (go_big_quiet_step ((first | rfl | (go_at_call 56; exact isS_y (by assumption) _) | (go_at_call 55; exact ptsS_y (by assumption) _))))
            refine wpQuiet_nil ?_
            rintro _ ⟨y, rfl⟩
            go_wp2_with fail
            go_ret
            exact ⟨by rw [E3.out] <;> rfl, HB.out y⟩
        · have HT : Hid (sTo rs (k + 1) = true) := Lib.hid (by
            rw [sTo_succ, hok.out, Bool.true_and]
            obtain rfl : k = 0 := by omega
            rw [sAt_0 hr.out, ← hv])
          have hd : decide (0 < (k : Int)) = false := by simp; omega
          clear hR hr hok hv
          go_wp2_with fail
          refine region_held (Bel wr) (by kernel_rfl) (by kernel_rfl) (Bel.drew wr) ?_
          repeat (go_big_quiet_step ((first | rfl | (go_at_call 56; exact isS_y (by assumption) _) | (go_at_call 55; exact ptsS_y (by assumption) _))))
          refine wpQuiet_nil ?_
          rintro _ ⟨y, rfl⟩
          go_wp2_with fail
          go_roundw
          case rel => exact ⟨k + 1, by omega, by go_num, HT, HB.out y⟩
          case measure => simp [intOf]; omega
      | false =>
        have E := Lib.hid (sch_no hlt (sAt_no hr.out hv.symm))
        clear hR hr hok hv
        cases W
        all_goals
          go_wp2_with fail
          refine region_held (Bel wr) (by kernel_rfl) (by kernel_rfl) (Bel.drew wr) ?_
          repeat (go_big_quiet_step ((first | rfl | (go_at_call 56; exact isS_y (by assumption) _) | (go_at_call 55; exact ptsS_y (by assumption) _))))
          refine wpQuiet_nil ?_
          rintro _ ⟨y, rfl⟩
          go_wp2_with fail
          go_ret
          exact ⟨by rw [E.out] <;> rfl, HB.out y⟩
    · have E := Lib.hid (sch_all (by obtain rfl : k = rs.length := by omega
                                     exact hok.out))
      clear hR hok
      go_wp2_with (go_at_call 60; refine (inr_s _ _ _ _).mono ?_; rintro e w' ⟨rfl, rfl⟩)
      go_ret
      exact ⟨by rw [E.out] <;> rfl, hb⟩
end Go.Proofs.Ythiegfcgbfhmmaa
