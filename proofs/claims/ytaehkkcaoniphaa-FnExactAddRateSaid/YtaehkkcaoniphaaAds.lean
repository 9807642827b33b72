/- spec.AddRate. -/
import Derived.Test.YtaehkkcaoniphaaRol
namespace Go.Proofs.Ytaehkkcaoniphaa
open Go.ChangeShapes Go.WideShapes Go.ChangeAt Go.RowKit
set_option linter.unusedVariables false

def sameR (q r : Rt) : Bool := (q.c == r.c) && (q.day == r.day)
def stepA (r : Rt) (s : List Rt × Bool) (q : Rt) : List Rt × Bool :=
  ((if sameR q r = true then (if (!s.2 && (sameR q r || bef r q)) = true then s.1 ++ [r] else s.1) else (if (!s.2 && (sameR q r || bef r q)) = true then s.1 ++ [r] else s.1) ++ [q]), s.2 || (sameR q r || bef r q))
def addS (r : Rt) (rs : List Rt) : List Rt × Bool := rs.foldl (stepA r) ([], false)
theorem addS_snoc (r : Rt) (rs : List Rt) (q : Rt) : addS r (rs ++ [q]) = stepA r (addS r rs) q := by simp [addS, List.foldl_append]
def addL (rs : List Rt) (r : Rt) : List Rt := if (addS r rs).2 = true then (addS r rs).1 else (addS r rs).1 ++ [r]
def addR (rs : List Rt) (r : Rt) : List Rt × Int := if tabB rs = true then (if tabB (addL rs r) = true then (addL rs r, 0) else ([], 1)) else ([], 1)
theorem addR_no {rs : List Rt} {r : Rt} (h : tabB rs = false) : addR rs r = ([], 1) := by unfold addR; rw [if_neg (by rw [h]; exact Bool.false_ne_true)]
theorem addR_1 {rs : List Rt} {r : Rt} (h : tabB rs = true) (h2 : tabB (addL rs r) = false) : addR rs r = ([], 1) := by unfold addR; rw [if_pos h, if_neg (by rw [h2]; exact Bool.false_ne_true)]
theorem addR_0 {rs : List Rt} {r : Rt} (h : tabB rs = true) (h2 : tabB (addL rs r) = true) : addR rs r = (addL rs r, 0) := by unfold addR; rw [if_pos h, if_pos h2]
theorem addS_all {r : Rt} {P : Rt → Prop} (hr : P r) (rs : List Rt) : (∀ q ∈ rs, P q) → ∀ q ∈ (addS r rs).1, P q := by
  refine rev_ind (P := fun rs => (∀ q ∈ rs, P q) → ∀ q ∈ (addS r rs).1, P q) ?_ ?_ rs
  · intro _ q hq; cases hq
  · intro rs x ih h
    have ih := ih fun q hq => h q (by simp [hq])
    have hx := h x (by simp)
    rw [addS_snoc]
    unfold stepA
    intro q hq
    simp only at hq
    have key : ∀ q ∈ (if (!(addS r rs).2 && (sameR x r || bef r x)) = true then (addS r rs).1 ++ [r] else (addS r rs).1), P q := by
      intro q hq
      split at hq
      · rcases List.mem_append.1 hq with h1 | h1
        · exact ih q h1
        · simp at h1; subst h1; exact hr
      · exact ih q hq
    split at hq
    · exact key q hq
    · rcases List.mem_append.1 hq with h1 | h1
      · exact key q h1
      · simp at h1; subst h1; exact hx
theorem addS_len (r : Rt) (rs : List Rt) : (addS r rs).1.length ≤ 2 * rs.length := by
  refine rev_ind (P := fun rs => (addS r rs).1.length ≤ 2 * rs.length) ?_ ?_ rs
  · simp [addS]
  · intro rs x ih
    rw [addS_snoc]
    unfold stepA
    simp only [List.length_append, List.length_singleton]
    (repeat' split) <;> (try simp only [List.length_append, List.length_singleton]) <;> omega
/-- What a function leaves that hands back new rates and a code. -/
def NewRatesC (w : World) (p : List Rt × Int) (e : Ending) (w' : World) : Prop :=
  ∃ A c, e = .returned (.tuple #[.slice A p.1.length c, .int .i64 p.2]) ∧ Or w' w.heap.size A p.1.length c p.1 ∧ Below w.heap.size w w'
theorem ways3 (q r : Rt) : (sameR q r = true ∧ (q.c == r.c) = true ∧ (q.day == r.day) = true) ∨ (sameR q r = false ∧ (q.c == r.c) = true ∧ (q.day == r.day) = false) ∨ (sameR q r = false ∧ (q.c == r.c) = false) := by
  unfold sameR
  cases q.c == r.c <;> cases q.day == r.day <;> simp

set_option maxRecDepth 100000 in
set_option maxHeartbeats 8000000 in
theorem addRate_s (A : Option Addr) (d : Nat) (rs : List Rt) (r : Rt) (w : World) (h : Tbl w A rs) (hrl : r.c.length ≤ 1048576) :
    Calls Try.prog 12 #[.slice A rs.length d, .agg #[.string ⟨r.c.toArray⟩, .int .i64 r.day, .int .i64 r.num, .int .i64 r.den]] w (NewRatesC w (addR rs r)) := by
  obtain ⟨i0, hi, hz0, hz1, hz2⟩ := info_parts rateInfo
  have kb := KeepB.new w #[.string ⟨r.c.toArray⟩, .int .i64 r.day, .int .i64 r.num, .int .i64 r.den] 30
  have h0 := h.below kb.bel
  rcases Bool.eq_false_or_eq_true (tabB rs) with ht | ht
  · have HT := Lib.hid (tabS_q (c := d) h0 ht)
    have H1 := Lib.hid (fun h2 => @addR_1 rs r ht h2)
    have H0 := Lib.hid (fun h2 => @addR_0 rs r ht h2)
    have hn : rs.length ≤ 20 := (tabB_iff.1 ht).2
    clear ht h
    go_enter Try.func12, Try.ntmps12
    go_wp2_with (go_at_call 54; refine HT.out.mono ?_; rintro e w1 ⟨rfl, b1⟩)
    have kb1 := kb.step b1
    have h1 := h0.below b1
    have hw1 : w.heap.size < w1.heap.size := lt_some kb1.a
    clear HT kb h0 b1
    go_loopw [6, 7, 8] (fun o dn i wr => ∃ (k : Nat) (ys : List Rt) (b : Bool), k ≤ rs.length ∧ i = .int .i64 k ∧ dn = .bool b ∧ wr.ownsRow w1.heap.size 30 4 o ys.length (ys.flatMap Rt.cells) ∧ Hid (addS r (rs.take k) = (ys, b)) ∧ Below w1.heap.size w1 wr) (fun _ _ i _ => rs.length - (intOf i).toNat)
    case atStart => exact ⟨0, [], false, Nat.zero_le _, rfl, rfl, made0 _ _ _ _ (Nat.le_refl _), Lib.hid rfl, below_alloc _ _⟩
    case round =>
      obtain ⟨k, ys, b, hk, rfl, rfl, hown, hys, hb⟩ := hrel
      obtain ⟨O, c, rfl⟩ := own_form hown
      have hyl : ys.length ≤ 40 := by have := addS_len r (rs.take k); rw [hys.out, List.length_take] at this; simp only at this; omega
      by_cases hlt : k < rs.length
      · obtain ⟨bb, off, q, rfl, hl0, hq, h40⟩ := h1.row.four hlt
        have h4 := h40.below hl0 hb
        have hl : bb < wr.heap.size := Nat.lt_of_lt_of_le hl0 hb.size
        have HQ := Lib.hid (fun W (hW : Below w1.heap.size w1 W) => h40.below hl0 hW)
        clear h40
        have kr := (kb1.step hb).all
        have e0 := kr.1; have e1 := kr.2.1; have e2 := kr.2.2.1; have e3 := kr.2.2.2.1
        have c0 := h4.c0; have c1 := h4.c1; have c2 := h4.c2; have c3 := h4.c3
        have HS : Hid (addS r (rs.take (k + 1)) = stepA r (ys, b) q) := Lib.hid (by rw [snoc_of hq.out, addS_snoc, hys.out])
        obtain ⟨S, hS⟩ : ∃ S : World → Prop, ∀ W, S W ↔ Below wr.heap.size wr W := ⟨_, fun _ => Iff.rfl⟩
        have HD := Lib.hid (fun n => (hS (wr.drewN n).drew).2 (below_drewN wr n).drew)
        have f0 : ∀ y : Sub S, y.w.cell? ⟨w.heap.size, 0, none⟩ = some (.string ⟨r.c.toArray⟩) := fun y => (((kb1.step hb).step ((hS _).1 y.h)).all).1
        have f1 : ∀ y : Sub S, y.w.cell? ⟨w.heap.size, 1, none⟩ = some (.int .i64 r.day) := fun y => (((kb1.step hb).step ((hS _).1 y.h)).all).2.1
        have f2 : ∀ y : Sub S, y.w.cell? ⟨w.heap.size, 2, none⟩ = some (.int .i64 r.num) := fun y => (((kb1.step hb).step ((hS _).1 y.h)).all).2.2.1
        have f3 : ∀ y : Sub S, y.w.cell? ⟨w.heap.size, 3, none⟩ = some (.int .i64 r.den) := fun y => (((kb1.step hb).step ((hS _).1 y.h)).all).2.2.2.1
        have g0 : ∀ y : Sub S, y.w.cell? ⟨bb, off + k * 4, none⟩ = some (.string ⟨q.c.toArray⟩) := fun y => (h4.below hl ((hS _).1 y.h)).c0
        have g1 : ∀ y : Sub S, y.w.cell? ⟨bb, off + k * 4 + 1, none⟩ = some (.int .i64 q.day) := fun y => (h4.below hl ((hS _).1 y.h)).c1
        have g2 : ∀ y : Sub S, y.w.cell? ⟨bb, off + k * 4 + 2, none⟩ = some (.int .i64 q.num) := fun y => (h4.below hl ((hS _).1 y.h)).c2
        have g3 : ∀ y : Sub S, y.w.cell? ⟨bb, off + k * 4 + 3, none⟩ = some (.int .i64 q.den) := fun y => (h4.below hl ((hS _).1 y.h)).c3
        have HB := Lib.hid (fun y : Sub S => (hb.trans (((hS _).1 y.h).mono hb.size) : Below w1.heap.size w1 y.w))
        have HO := Lib.hid (fun y : Sub S => own_below hown ((hS _).1 y.h))
        have HC := Lib.hid (fun y : Sub S => (before_s r q y.w).mono fun e w' h => (⟨h.1, ⟨w', (hS _).2 (belowGo ((hS _).1 y.h) h.2)⟩, rfl⟩ : e = .returned (.bool (bef r q)) ∧ ∃ z : Sub S, w' = z.w))
        clear h4 kr hq hys hS
        rcases ways3 q r with ⟨hs, t1, t2⟩ | ⟨hs, t1, t2⟩ | ⟨hs, t1⟩
        · cases b
          · have HN : Hid (addS r (rs.take (k + 1)) = (ys ++ [r], true)) := Lib.hid (by rw [HS.out]; unfold stepA; simp [hs])
            clear HS HC
            go_wp2_with fail
            go_quiet (fail)
            go_wp2_with fail
            refine region_held S (by kernel_rfl) (by kernel_rfl) (HD.out _) ?_
            repeat (go_big_quiet_step ((first | rfl)))
            refine wpQuiet_nil ?_
            rintro _ ⟨y, rfl⟩
            have hown2 := HO.out y
            have hby := HB.out y
            have hsz := hby.size
            have e0 := f0 y; have e1 := f1 y; have e2 := f2 y; have e3 := f3 y
            have c0 := g0 y; have c1 := g1 y; have c2 := g2 y; have c3 := g3 y
            go_wp2_with (at_builtin; refine wpList_push _ rfl (.tmp 51) (.tmp 53) 24 rfl w1.heap.size 30 i0 _ 4 40 Try.underlying24 hi hz0 hz1 hz2 rfl (by decide) _ (ys.length) _ rfl hown2 [.string ⟨r.c.toArray⟩, .int .i64 r.day, .int .i64 r.num, .int .i64 r.den] rfl (by simp [Value.oneCell']) rfl (by unfold maxLen; omega) (by omega) hsz ?_; intro v3 w3 hown3 hb3)
            go_roundw
            case rel => exact ⟨k + 1, ys ++ [r], true, by omega, by go_num, rfl, by simpa [Rt.cells] using hown3, HN, hby.trans hb3⟩
            case measure => simp [intOf]; omega
          · have HN : Hid (addS r (rs.take (k + 1)) = (ys, true)) := Lib.hid (by rw [HS.out]; unfold stepA; simp [hs])
            clear HS HC
            go_wp2_with fail
            go_quiet (fail)
            go_wp2_with fail
            refine region_held S (by kernel_rfl) (by kernel_rfl) (HD.out _) ?_
            repeat (go_big_quiet_step ((first | rfl)))
            refine wpQuiet_nil ?_
            rintro _ ⟨y, rfl⟩
            have hown2 := HO.out y
            have hby := HB.out y
            have hsz := hby.size
            have e0 := f0 y; have e1 := f1 y; have e2 := f2 y; have e3 := f3 y
            have c0 := g0 y; have c1 := g1 y; have c2 := g2 y; have c3 := g3 y
            go_wp2_with fail
            go_roundw
            case rel => exact ⟨k + 1, ys, true, by omega, by go_num, rfl, hown2, HN, hby⟩
            case measure => simp [intOf]; omega
        · cases b
          · rcases Bool.eq_false_or_eq_true (bef r q) with hbf | hbf
            · rw [hbf] at HC
              have HN : Hid (addS r (rs.take (k + 1)) = (ys ++ [r] ++ [q], true)) := Lib.hid (by rw [HS.out]; unfold stepA; simp [hs, hbf])
              clear HS
              go_wp2_with fail
              go_quiet (fail)
              go_wp2_with fail
              refine region_held S (by kernel_rfl) (by kernel_rfl) (HD.out _) ?_
              repeat (go_big_quiet_step ((first | rfl | (go_at_call 55; exact HC.out _))))
              refine wpQuiet_nil ?_
              rintro _ ⟨y, rfl⟩
              have hown2 := HO.out y
              have hby := HB.out y
              have hsz := hby.size
              have e0 := f0 y; have e1 := f1 y; have e2 := f2 y; have e3 := f3 y
              have c0 := g0 y; have c1 := g1 y; have c2 := g2 y; have c3 := g3 y
              go_wp2_with (first | (at_builtin; refine wpList_push _ rfl (.tmp 51) (.tmp 53) 24 rfl w1.heap.size 30 i0 _ 4 40 Try.underlying24 hi hz0 hz1 hz2 rfl (by decide) _ (ys.length) _ rfl hown2 [.string ⟨r.c.toArray⟩, .int .i64 r.day, .int .i64 r.num, .int .i64 r.den] rfl (by simp [Value.oneCell']) rfl (by unfold maxLen; omega) (by omega) hsz ?_; intro v3 w3 hown3 hb3; have hb4 := hby.trans hb3; have hsz4 := hb4.size; have c0 := (HQ.out _ hb4).c0; have c1 := (HQ.out _ hb4).c1; have c2 := (HQ.out _ hb4).c2; have c3 := (HQ.out _ hb4).c3) | (at_builtin; refine wpList_push _ rfl (.tmp 57) (.tmp 62) 24 rfl w1.heap.size 30 i0 _ 4 40 Try.underlying24 hi hz0 hz1 hz2 rfl (by decide) _ (ys.length + 1) _ rfl hown3 [.string ⟨q.c.toArray⟩, .int .i64 q.day, .int .i64 q.num, .int .i64 q.den] rfl (by simp [Value.oneCell']) rfl (by unfold maxLen; omega) (by omega) hsz4 ?_; intro v5 w5 hown5 hb5))
              go_roundw
              case rel => exact ⟨k + 1, ys ++ [r] ++ [q], true, by omega, by go_num, rfl, by simpa [Rt.cells, Nat.add_assoc] using hown5, HN, hb4.trans hb5⟩
              case measure => simp [intOf]; omega
            · rw [hbf] at HC
              have HN : Hid (addS r (rs.take (k + 1)) = (ys ++ [q], false)) := Lib.hid (by rw [HS.out]; unfold stepA; simp [hs, hbf])
              clear HS
              go_wp2_with fail
              go_quiet (fail)
              go_wp2_with fail
              refine region_held S (by kernel_rfl) (by kernel_rfl) (HD.out _) ?_
              repeat (go_big_quiet_step ((first | rfl | (go_at_call 55; exact HC.out _))))
              refine wpQuiet_nil ?_
              rintro _ ⟨y, rfl⟩
              have hown2 := HO.out y
              have hby := HB.out y
              have hsz := hby.size
              have e0 := f0 y; have e1 := f1 y; have e2 := f2 y; have e3 := f3 y
              have c0 := g0 y; have c1 := g1 y; have c2 := g2 y; have c3 := g3 y
              go_wp2_with (at_builtin; refine wpList_push _ rfl (.tmp 57) (.tmp 62) 24 rfl w1.heap.size 30 i0 _ 4 40 Try.underlying24 hi hz0 hz1 hz2 rfl (by decide) _ (ys.length) _ rfl hown2 [.string ⟨q.c.toArray⟩, .int .i64 q.day, .int .i64 q.num, .int .i64 q.den] rfl (by simp [Value.oneCell']) rfl (by unfold maxLen; omega) (by omega) hsz ?_; intro v3 w3 hown3 hb3)
              go_roundw
              case rel => exact ⟨k + 1, ys ++ [q], false, by omega, by go_num, rfl, by simpa [Rt.cells] using hown3, HN, hby.trans hb3⟩
              case measure => simp [intOf]; omega
          · have HN : Hid (addS r (rs.take (k + 1)) = (ys ++ [q], true)) := Lib.hid (by rw [HS.out]; unfold stepA; simp [hs])
            clear HS HC
            go_wp2_with fail
            go_quiet (fail)
            go_wp2_with fail
            refine region_held S (by kernel_rfl) (by kernel_rfl) (HD.out _) ?_
            repeat (go_big_quiet_step ((first | rfl)))
            refine wpQuiet_nil ?_
            rintro _ ⟨y, rfl⟩
            have hown2 := HO.out y
            have hby := HB.out y
            have hsz := hby.size
            have e0 := f0 y; have e1 := f1 y; have e2 := f2 y; have e3 := f3 y
            have c0 := g0 y; have c1 := g1 y; have c2 := g2 y; have c3 := g3 y
            go_wp2_with (at_builtin; refine wpList_push _ rfl (.tmp 57) (.tmp 62) 24 rfl w1.heap.size 30 i0 _ 4 40 Try.underlying24 hi hz0 hz1 hz2 rfl (by decide) _ (ys.length) _ rfl hown2 [.string ⟨q.c.toArray⟩, .int .i64 q.day, .int .i64 q.num, .int .i64 q.den] rfl (by simp [Value.oneCell']) rfl (by unfold maxLen; omega) (by omega) hsz ?_; intro v3 w3 hown3 hb3)
            go_roundw
            case rel => exact ⟨k + 1, ys ++ [q], true, by omega, by go_num, rfl, by simpa [Rt.cells] using hown3, HN, hby.trans hb3⟩
            case measure => simp [intOf]; omega
        · cases b
          · rcases Bool.eq_false_or_eq_true (bef r q) with hbf | hbf
            · rw [hbf] at HC
              have HN : Hid (addS r (rs.take (k + 1)) = (ys ++ [r] ++ [q], true)) := Lib.hid (by rw [HS.out]; unfold stepA; simp [hs, hbf])
              clear HS
              go_wp2_with fail
              go_quiet (fail)
              go_wp2_with fail
              refine region_held S (by kernel_rfl) (by kernel_rfl) (HD.out _) ?_
              repeat (go_big_quiet_step ((first | rfl | (go_at_call 55; exact HC.out _))))
              refine wpQuiet_nil ?_
              rintro _ ⟨y, rfl⟩
              have hown2 := HO.out y
              have hby := HB.out y
              have hsz := hby.size
              have e0 := f0 y; have e1 := f1 y; have e2 := f2 y; have e3 := f3 y
              have c0 := g0 y; have c1 := g1 y; have c2 := g2 y; have c3 := g3 y
              go_wp2_with (first | (at_builtin; refine wpList_push _ rfl (.tmp 51) (.tmp 53) 24 rfl w1.heap.size 30 i0 _ 4 40 Try.underlying24 hi hz0 hz1 hz2 rfl (by decide) _ (ys.length) _ rfl hown2 [.string ⟨r.c.toArray⟩, .int .i64 r.day, .int .i64 r.num, .int .i64 r.den] rfl (by simp [Value.oneCell']) rfl (by unfold maxLen; omega) (by omega) hsz ?_; intro v3 w3 hown3 hb3; have hb4 := hby.trans hb3; have hsz4 := hb4.size; have c0 := (HQ.out _ hb4).c0; have c1 := (HQ.out _ hb4).c1; have c2 := (HQ.out _ hb4).c2; have c3 := (HQ.out _ hb4).c3) | (at_builtin; refine wpList_push _ rfl (.tmp 57) (.tmp 62) 24 rfl w1.heap.size 30 i0 _ 4 40 Try.underlying24 hi hz0 hz1 hz2 rfl (by decide) _ (ys.length + 1) _ rfl hown3 [.string ⟨q.c.toArray⟩, .int .i64 q.day, .int .i64 q.num, .int .i64 q.den] rfl (by simp [Value.oneCell']) rfl (by unfold maxLen; omega) (by omega) hsz4 ?_; intro v5 w5 hown5 hb5))
              go_roundw
              case rel => exact ⟨k + 1, ys ++ [r] ++ [q], true, by omega, by go_num, rfl, by simpa [Rt.cells, Nat.add_assoc] using hown5, HN, hb4.trans hb5⟩
              case measure => simp [intOf]; omega
            · rw [hbf] at HC
              have HN : Hid (addS r (rs.take (k + 1)) = (ys ++ [q], false)) := Lib.hid (by rw [HS.out]; unfold stepA; simp [hs, hbf])
              clear HS
              go_wp2_with fail
              go_quiet (fail)
              go_wp2_with fail
              refine region_held S (by kernel_rfl) (by kernel_rfl) (HD.out _) ?_
              repeat (go_big_quiet_step ((first | rfl | (go_at_call 55; exact HC.out _))))
              refine wpQuiet_nil ?_
              rintro _ ⟨y, rfl⟩
              have hown2 := HO.out y
              have hby := HB.out y
              have hsz := hby.size
              have e0 := f0 y; have e1 := f1 y; have e2 := f2 y; have e3 := f3 y
              have c0 := g0 y; have c1 := g1 y; have c2 := g2 y; have c3 := g3 y
              go_wp2_with (at_builtin; refine wpList_push _ rfl (.tmp 57) (.tmp 62) 24 rfl w1.heap.size 30 i0 _ 4 40 Try.underlying24 hi hz0 hz1 hz2 rfl (by decide) _ (ys.length) _ rfl hown2 [.string ⟨q.c.toArray⟩, .int .i64 q.day, .int .i64 q.num, .int .i64 q.den] rfl (by simp [Value.oneCell']) rfl (by unfold maxLen; omega) (by omega) hsz ?_; intro v3 w3 hown3 hb3)
              go_roundw
              case rel => exact ⟨k + 1, ys ++ [q], false, by omega, by go_num, rfl, by simpa [Rt.cells] using hown3, HN, hby.trans hb3⟩
              case measure => simp [intOf]; omega
          · have HN : Hid (addS r (rs.take (k + 1)) = (ys ++ [q], true)) := Lib.hid (by rw [HS.out]; unfold stepA; simp [hs])
            clear HS HC
            go_wp2_with fail
            go_quiet (fail)
            go_wp2_with fail
            refine region_held S (by kernel_rfl) (by kernel_rfl) (HD.out _) ?_
            repeat (go_big_quiet_step ((first | rfl)))
            refine wpQuiet_nil ?_
            rintro _ ⟨y, rfl⟩
            have hown2 := HO.out y
            have hby := HB.out y
            have hsz := hby.size
            have e0 := f0 y; have e1 := f1 y; have e2 := f2 y; have e3 := f3 y
            have c0 := g0 y; have c1 := g1 y; have c2 := g2 y; have c3 := g3 y
            go_wp2_with (at_builtin; refine wpList_push _ rfl (.tmp 57) (.tmp 62) 24 rfl w1.heap.size 30 i0 _ 4 40 Try.underlying24 hi hz0 hz1 hz2 rfl (by decide) _ (ys.length) _ rfl hown2 [.string ⟨q.c.toArray⟩, .int .i64 q.day, .int .i64 q.num, .int .i64 q.den] rfl (by simp [Value.oneCell']) rfl (by unfold maxLen; omega) (by omega) hsz ?_; intro v3 w3 hown3 hb3)
            go_roundw
            case rel => exact ⟨k + 1, ys ++ [q], true, by omega, by go_num, rfl, by simpa [Rt.cells] using hown3, HN, hby.trans hb3⟩
            case measure => simp [intOf]; omega
      · have HA : Hid (addS r rs = (ys, b)) := Lib.hid (by have := hys.out; rwa [take_all hk hlt] at this)
        have htx : ∀ x ∈ ys, x.c.length ≤ 1048576 := fun x hx => addS_all (P := fun x => x.c.length ≤ 1048576) hrl rs h1.txt x (by rw [HA.out]; exact hx)
        have kr := (kb1.step hb).all
        have e0 := kr.1; have e1 := kr.2.1; have e2 := kr.2.2.1; have e3 := kr.2.2.2.1
        have hw : w.heap.size ≤ w1.heap.size := Nat.le_of_lt hw1
        have hwb : Below w.heap.size w wr := (kb1.step hb).bel
        clear hys kr kb1
        cases b
        · have hL : addL rs r = ys ++ [r] := by unfold addL; rw [HA.out]; rfl
          rw [hL] at H0 H1
          have htx2 : ∀ x ∈ ys ++ [r], x.c.length ≤ 1048576 := fun x hx => by
            rcases List.mem_append.1 hx with hx | hx
            · exact htx x hx
            · simp at hx; subst hx; exact hrl
          have hl2 : (ys ++ [r]).length = ys.length + 1 := by simp
          rcases Bool.eq_false_or_eq_true (tabB (ys ++ [r])) with hb2 | hb2
          · have E := Lib.hid (H0.out hb2)
            clear H0 H1 HA
            go_wp2_with (first
              | (at_builtin; refine wpList_push _ rfl (.tmp 66) (.tmp 68) 24 rfl w1.heap.size 30 i0 _ 4 40 Try.underlying24 hi hz0 hz1 hz2 rfl (by decide) _ ys.length _ rfl hown [.string ⟨r.c.toArray⟩, .int .i64 r.day, .int .i64 r.num, .int .i64 r.den] rfl (by simp [Value.oneCell']) rfl (by unfold maxLen; omega) (by omega) hb.size ?_; intro v3 w3 hown3 hb3; obtain ⟨O3, c3, rfl⟩ := own_form hown3)
              | (go_at_call 54; rw [← hl2]; refine (tabS_q (rs := ys ++ [r]) ⟨(show Or w3 w1.heap.size O3 (ys ++ [r]).length c3 (ys ++ [r]) by unfold Or; rw [hl2]; simpa [Rt.cells] using hown3).rr, htx2, by rw [hl2]; omega⟩ hb2).mono ?_; rintro e w4 ⟨rfl, b4⟩))
            go_ret2
            unfold NewRatesC
            rw [E.out]
            exact ⟨O3, c3, by show Ending.returned (.tuple #[.slice O3 (ys.length + 1) c3, .int .i64 0]) = _; rw [← hl2], by
              have h5 : Or w3 w1.heap.size O3 (ys ++ [r]).length c3 (ys ++ [r]) := by unfold Or; rw [hl2]; simpa [Rt.cells] using hown3
              exact (h5.below b4).mono hw, (hwb.trans (hb3.mono hw)).trans (b4.mono (hwb.trans (hb3.mono hw)).size)⟩
          · have E := Lib.hid (H1.out hb2)
            clear H0 H1 HA
            go_wp2_with (first
              | (at_builtin; refine wpList_push _ rfl (.tmp 66) (.tmp 68) 24 rfl w1.heap.size 30 i0 _ 4 40 Try.underlying24 hi hz0 hz1 hz2 rfl (by decide) _ ys.length _ rfl hown [.string ⟨r.c.toArray⟩, .int .i64 r.day, .int .i64 r.num, .int .i64 r.den] rfl (by simp [Value.oneCell']) rfl (by unfold maxLen; omega) (by omega) hb.size ?_; intro v3 w3 hown3 hb3; obtain ⟨O3, c3, rfl⟩ := own_form hown3)
              | (go_at_call 54; rw [← hl2]; refine (tabS_q (rs := ys ++ [r]) ⟨(show Or w3 w1.heap.size O3 (ys ++ [r]).length c3 (ys ++ [r]) by unfold Or; rw [hl2]; simpa [Rt.cells] using hown3).rr, htx2, by rw [hl2]; omega⟩ hb2).mono ?_; rintro e w4 ⟨rfl, b4⟩))
            go_ret2
            unfold NewRatesC
            rw [E.out]
            exact ⟨none, 0, rfl, Or.nil _ _, (hwb.trans (hb3.mono hw)).trans (b4.mono (hwb.trans (hb3.mono hw)).size)⟩
        · have hL : addL rs r = ys := by unfold addL; rw [HA.out]; rfl
          rw [hL] at H0 H1
          have hrow : Tbl wr O ys := ⟨Or.rr (c := c) hown, htx, by omega⟩
          rcases Bool.eq_false_or_eq_true (tabB ys) with hb2 | hb2
          · have E := Lib.hid (H0.out hb2)
            clear H0 H1 HA
            go_wp2_with (go_at_call 54; refine (tabS_q hrow hb2).mono ?_; rintro e w4 ⟨rfl, b4⟩)
            go_ret2
            unfold NewRatesC
            rw [E.out]
            exact ⟨O, c, rfl, (Or.below (c := c) hown b4).mono hw, hwb.trans (b4.mono hwb.size)⟩
          · have E := Lib.hid (H1.out hb2)
            clear H0 H1 HA
            go_wp2_with (go_at_call 54; refine (tabS_q hrow hb2).mono ?_; rintro e w4 ⟨rfl, b4⟩)
            go_ret2
            unfold NewRatesC
            rw [E.out]
            exact ⟨none, 0, rfl, Or.nil _ _, hwb.trans (b4.mono hwb.size)⟩
  · have HT := Lib.hid (tabS_q (c := d) h0 ht)
    have E := Lib.hid (@addR_no rs r ht)
    clear ht h
    go_enter Try.func12, Try.ntmps12
    go_wp2_with (go_at_call 54; refine HT.out.mono ?_; rintro e w1 ⟨rfl, b1⟩)
    go_ret2
    unfold NewRatesC
    rw [E.out]
    exact ⟨none, 0, rfl, Or.nil _ _, belowGo kb.bel b1⟩
end Go.Proofs.Ytaehkkcaoniphaa
