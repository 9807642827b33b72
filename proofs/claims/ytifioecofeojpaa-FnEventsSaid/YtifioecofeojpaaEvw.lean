/- impl.eventsWhere over its closures; EventsBetween, EventsOf of both sides. (by gen_ew.py) -/
import Derived.Test.YtifioecofeojpaaMEvl
import Derived.Test.YtifioecofeojpaaArd
import Derived.Test.YtifioecofeojpaaCopy
namespace Go.Proofs.Ytifioecofeojpaa
open Go.ChangeShapes Go.WideShapes Go.ChangeAt Go.RowKit
set_option linter.unusedVariables false

theorem made0e (w : World) (base : Nat) (e : TypeId) (size : Nat) (hb : base ≤ w.heap.size) : (w.alloc (Obj.cells #[] e)).ownsRow base e size (.slice (some ⟨w.heap.size, 0, none⟩) 0 0) 0 [] :=
  World.ownsRow_made w #[] 0 hb (by decide) (by simp)
theorem own_monoE {w : World} {base base' : Nat} {e : TypeId} {size n : Nat} {v : Value} {xs : List Value} (h : w.ownsRow base e size v n xs) (hb : base' ≤ base) : w.ownsRow base' e size v n xs := by
  refine ⟨h.1, h.2.imp id ?_⟩
  rintro ⟨g, cap, cur, h1, h2, h3⟩
  exact ⟨g, cap, cur, h1, by omega, h3⟩

theorem clo_bet (p : Evt) (f : Int) (t : Int) (g0 g1 : Nat) (w : World) (hc0 : w.cell? ⟨g0, 0, none⟩ = some (.int .i64 f)) (hg0 : g0 < w.heap.size) (hc1 : w.cell? ⟨g1, 0, none⟩ = some (.int .i64 t)) (hg1 : g1 < w.heap.size) :
    Calls Try.prog 56 #[.agg #[.int .i64 p.d, .int .i64 p.k, .string ⟨p.c.toArray⟩, .int .i64 p.a, .bool p.p, .bool p.v, .bool p.r], .pointer (some ⟨g0, 0, none⟩), .pointer (some ⟨g1, 0, none⟩)] w (Gives w (.bool (inr p.d f t))) := by
  have B : ∀ o, Hid (Below w.heap.size w (w.alloc o)) := fun o => Lib.hid ((Below.refl _ _).alloc (Nat.le_refl _) _)
  have hd0 : ∀ o, (w.alloc o).cell? ⟨g0, 0, none⟩ = some (.int .i64 f) := fun o => ((B o).out.cell (p := ⟨g0, 0, none⟩) hg0).trans hc0
  have hd1 : ∀ o, (w.alloc o).cell? ⟨g1, 0, none⟩ = some (.int .i64 t) := fun o => ((B o).out.cell (p := ⟨g1, 0, none⟩) hg1).trans hc1
  go_enter Try.func56, Try.ntmps56
  go_wp2_with (go_at_call 57; refine (within_i _ _ _ _).mono ?_; rintro e w' ⟨rfl, rfl⟩)
  go_ret
  exact ⟨rfl, (B _).out⟩
set_option maxRecDepth 100000 in
set_option maxHeartbeats 2000000 in
theorem where_bet (A : Option Addr) (c : Nat) (ps : List Evt) (f : Int) (t : Int) (g0 g1 : Nat) (w : World) (hR : EvtR w A ps) (hn : ps.length ≤ 1048590) (hc0 : w.cell? ⟨g0, 0, none⟩ = some (.int .i64 f)) (hg0 : g0 < w.heap.size) (hc1 : w.cell? ⟨g1, 0, none⟩ = some (.int .i64 t)) (hg1 : g1 < w.heap.size) :
    Calls Try.prog 55 #[.slice A ps.length c, .func (.func 56) #[] #[.pointer (some ⟨g0, 0, none⟩), .pointer (some ⟨g1, 0, none⟩)]] w fun e w' => ∃ O d, e = .returned (.slice O (ixs (fun p => inr p.d f t) ps).length d) ∧ Oi w' w.heap.size O (ixs (fun p => inr p.d f t) ps).length d (ixs (fun p => inr p.d f t) ps) ∧ Below w.heap.size w w' := by
  obtain ⟨i0, hi, hz0, hz1, hz2⟩ := info_parts intInfo
  go_enter Try.func55, Try.ntmps55
  go_wp2_with fail
  go_loopw [5, 11] (fun o i wr => ∃ (k : Nat) (ys : List Int), k ≤ ps.length ∧ i = .int .i64 k ∧ wr.ownsRow w.heap.size 2 1 o ys.length (ys.map (Value.int .i64)) ∧ Hid (ys = ixs (fun p => inr p.d f t) (ps.take k)) ∧ Below w.heap.size w wr) (fun _ i _ => ps.length - (intOf i).toNat)
  case atStart => exact ⟨0, [], Nat.zero_le _, rfl, made0e _ _ _ _ (Nat.le_refl _), Lib.hid rfl, (Below.refl _ _).alloc (Nat.le_refl _) _⟩
  case round =>
    obtain ⟨k, ys, hk, rfl, hown, hys, hb⟩ := hrel
    obtain ⟨O, q, rfl⟩ := own_form hown
    have hyl : ys.length ≤ k := by rw [hys.out]; have := ixs_len (fun p => inr p.d f t) (ps.take k); rw [List.length_take] at this; omega
    by_cases hlt : k < ps.length
    · obtain ⟨b, off, p, rfl, hl, hp, h4⟩ := (hR.below hb).at hlt
      have c0 := h4.c0; have c1 := h4.c1; have c2 := h4.c2; have c3 := h4.c3; have c4 := h4.c4; have c5 := h4.c5; have c6 := h4.c6
      have kn := KeepE.new wr p
      have HS := Lib.hid (ixs_next (fun p => inr p.d f t) hp.out)
      rw [← hys.out] at HS
      have hsz0 : g0 < (wr.alloc (.cells #[.int .i64 p.d, .int .i64 p.k, .string ⟨p.c.toArray⟩, .int .i64 p.a, .bool p.p, .bool p.v, .bool p.r] 26)).heap.size := Nat.lt_of_lt_of_le hg0 (Nat.le_trans hb.size kn.bel.size)
      have hsz1 : g1 < (wr.alloc (.cells #[.int .i64 p.d, .int .i64 p.k, .string ⟨p.c.toArray⟩, .int .i64 p.a, .bool p.p, .bool p.v, .bool p.r] 26)).heap.size := Nat.lt_of_lt_of_le hg1 (Nat.le_trans hb.size kn.bel.size)
      have HC := Lib.hid (clo_bet p f t g0 g1 (wr.alloc (.cells #[.int .i64 p.d, .int .i64 p.k, .string ⟨p.c.toArray⟩, .int .i64 p.a, .bool p.p, .bool p.v, .bool p.r] 26)) (((belowGo hb kn.bel).cell (p := ⟨g0, 0, none⟩) hg0).trans hc0) hsz0 (((belowGo hb kn.bel).cell (p := ⟨g1, 0, none⟩) hg1).trans hc1) hsz1)
      have HO := Lib.hid (own_below hown kn.bel)
      have HB := Lib.hid (belowGo hb kn.bel)
      clear hR h4 hp hys hown kn hsz0 hsz1
      rcases Bool.eq_false_or_eq_true (inr p.d f t) with he | he
      · have HS2 : Hid (ys ++ [(k : Int)] = ixs (fun p => inr p.d f t) (ps.take (k + 1))) := Lib.hid (by rw [HS.out, if_pos he])
        rw [he] at HC
        clear HS he
        go_wp2_with fail
        refine HC.out.mono ?_
        rintro e w1 ⟨rfl, b1⟩
        have hown2 := own_below HO.out b1
        have hb2 := HB.out.trans (b1.mono HB.out.size)
        have hsz := hb2.size
        clear HC HO
        go_wp2_with (at_builtin; refine wpList_push _ rfl (.tmp 19) (.tmp 21) 33 rfl w.heap.size 2 i0 _ 1 8 Try.underlying33 hi hz0 hz1 hz2 rfl (by decide) _ ys.length _ rfl hown2 [.int .i64 (k : Int)] rfl (by simp [Value.oneCell']) rfl (by unfold maxLen; omega) (by omega) hsz ?_; intro v' w' hown' hb')
        go_roundw
        case rel => exact ⟨k + 1, ys ++ [(k : Int)], by omega, by go_num, by simpa using hown', HS2, hb2.trans hb'⟩
        case measure => simp [intOf]; omega
      · have HS2 : Hid (ys = ixs (fun p => inr p.d f t) (ps.take (k + 1))) := Lib.hid (by rw [HS.out, if_neg (by rw [he]; decide), List.append_nil])
        rw [he] at HC
        clear HS he
        go_wp2_with fail
        refine HC.out.mono ?_
        rintro e w1 ⟨rfl, b1⟩
        have hown2 := own_below HO.out b1
        have hb2 := HB.out.trans (b1.mono HB.out.size)
        clear HC HO
        go_wp2_with fail
        go_roundw
        case rel => exact ⟨k + 1, ys, by omega, by go_num, hown2, HS2, hb2⟩
        case measure => simp [intOf]; omega
    · have HY : Hid (ixs (fun p => inr p.d f t) ps = ys) := Lib.hid (by rw [hys.out, take_all hk hlt])
      clear hys hR
      go_wp2_with fail
      go_ret
      rw [HY.out]
      exact ⟨O, q, rfl, hown, hb⟩

theorem clo_of (p : Evt) (s : List UInt8) (g0 : Nat) (w : World) (hc0 : w.cell? ⟨g0, 0, none⟩ = some (.string ⟨s.toArray⟩)) (hg0 : g0 < w.heap.size) :
    Calls Try.prog 61 #[.agg #[.int .i64 p.d, .int .i64 p.k, .string ⟨p.c.toArray⟩, .int .i64 p.a, .bool p.p, .bool p.v, .bool p.r], .pointer (some ⟨g0, 0, none⟩)] w (Gives w (.bool (p.c == s))) := by
  have B : ∀ o, Hid (Below w.heap.size w (w.alloc o)) := fun o => Lib.hid ((Below.refl _ _).alloc (Nat.le_refl _) _)
  have hd0 : ∀ o, (w.alloc o).cell? ⟨g0, 0, none⟩ = some (.string ⟨s.toArray⟩) := fun o => ((B o).out.cell (p := ⟨g0, 0, none⟩) hg0).trans hc0
  go_enter Try.func61, Try.ntmps61
  go_wp2_with (fail)
  go_ret
  exact ⟨rfl, (B _).out⟩
set_option maxRecDepth 100000 in
set_option maxHeartbeats 2000000 in
theorem where_of (A : Option Addr) (c : Nat) (ps : List Evt) (s : List UInt8) (g0 : Nat) (w : World) (hR : EvtR w A ps) (hn : ps.length ≤ 1048590) (hc0 : w.cell? ⟨g0, 0, none⟩ = some (.string ⟨s.toArray⟩)) (hg0 : g0 < w.heap.size) :
    Calls Try.prog 55 #[.slice A ps.length c, .func (.func 61) #[] #[.pointer (some ⟨g0, 0, none⟩)]] w fun e w' => ∃ O d, e = .returned (.slice O (ixs (fun p => p.c == s) ps).length d) ∧ Oi w' w.heap.size O (ixs (fun p => p.c == s) ps).length d (ixs (fun p => p.c == s) ps) ∧ Below w.heap.size w w' := by
  obtain ⟨i0, hi, hz0, hz1, hz2⟩ := info_parts intInfo
  go_enter Try.func55, Try.ntmps55
  go_wp2_with fail
  go_loopw [5, 11] (fun o i wr => ∃ (k : Nat) (ys : List Int), k ≤ ps.length ∧ i = .int .i64 k ∧ wr.ownsRow w.heap.size 2 1 o ys.length (ys.map (Value.int .i64)) ∧ Hid (ys = ixs (fun p => p.c == s) (ps.take k)) ∧ Below w.heap.size w wr) (fun _ i _ => ps.length - (intOf i).toNat)
  case atStart => exact ⟨0, [], Nat.zero_le _, rfl, made0e _ _ _ _ (Nat.le_refl _), Lib.hid rfl, (Below.refl _ _).alloc (Nat.le_refl _) _⟩
  case round =>
    obtain ⟨k, ys, hk, rfl, hown, hys, hb⟩ := hrel
    obtain ⟨O, q, rfl⟩ := own_form hown
    have hyl : ys.length ≤ k := by rw [hys.out]; have := ixs_len (fun p => p.c == s) (ps.take k); rw [List.length_take] at this; omega
    by_cases hlt : k < ps.length
    · obtain ⟨b, off, p, rfl, hl, hp, h4⟩ := (hR.below hb).at hlt
      have c0 := h4.c0; have c1 := h4.c1; have c2 := h4.c2; have c3 := h4.c3; have c4 := h4.c4; have c5 := h4.c5; have c6 := h4.c6
      have kn := KeepE.new wr p
      have HS := Lib.hid (ixs_next (fun p => p.c == s) hp.out)
      rw [← hys.out] at HS
      have hsz0 : g0 < (wr.alloc (.cells #[.int .i64 p.d, .int .i64 p.k, .string ⟨p.c.toArray⟩, .int .i64 p.a, .bool p.p, .bool p.v, .bool p.r] 26)).heap.size := Nat.lt_of_lt_of_le hg0 (Nat.le_trans hb.size kn.bel.size)
      have HC := Lib.hid (clo_of p s g0 (wr.alloc (.cells #[.int .i64 p.d, .int .i64 p.k, .string ⟨p.c.toArray⟩, .int .i64 p.a, .bool p.p, .bool p.v, .bool p.r] 26)) (((belowGo hb kn.bel).cell (p := ⟨g0, 0, none⟩) hg0).trans hc0) hsz0)
      have HO := Lib.hid (own_below hown kn.bel)
      have HB := Lib.hid (belowGo hb kn.bel)
      clear hR h4 hp hys hown kn hsz0
      rcases Bool.eq_false_or_eq_true (p.c == s) with he | he
      · have HS2 : Hid (ys ++ [(k : Int)] = ixs (fun p => p.c == s) (ps.take (k + 1))) := Lib.hid (by rw [HS.out, if_pos he])
        rw [he] at HC
        clear HS he
        go_wp2_with fail
        refine HC.out.mono ?_
        rintro e w1 ⟨rfl, b1⟩
        have hown2 := own_below HO.out b1
        have hb2 := HB.out.trans (b1.mono HB.out.size)
        have hsz := hb2.size
        clear HC HO
        go_wp2_with (at_builtin; refine wpList_push _ rfl (.tmp 19) (.tmp 21) 33 rfl w.heap.size 2 i0 _ 1 8 Try.underlying33 hi hz0 hz1 hz2 rfl (by decide) _ ys.length _ rfl hown2 [.int .i64 (k : Int)] rfl (by simp [Value.oneCell']) rfl (by unfold maxLen; omega) (by omega) hsz ?_; intro v' w' hown' hb')
        go_roundw
        case rel => exact ⟨k + 1, ys ++ [(k : Int)], by omega, by go_num, by simpa using hown', HS2, hb2.trans hb'⟩
        case measure => simp [intOf]; omega
      · have HS2 : Hid (ys = ixs (fun p => p.c == s) (ps.take (k + 1))) := Lib.hid (by rw [HS.out, if_neg (by rw [he]; decide), List.append_nil])
        rw [he] at HC
        clear HS he
        go_wp2_with fail
        refine HC.out.mono ?_
        rintro e w1 ⟨rfl, b1⟩
        have hown2 := own_below HO.out b1
        have hb2 := HB.out.trans (b1.mono HB.out.size)
        clear HC HO
        go_wp2_with fail
        go_roundw
        case rel => exact ⟨k + 1, ys, by omega, by go_num, hown2, HS2, hb2⟩
        case measure => simp [intOf]; omega
    · have HY : Hid (ixs (fun p => p.c == s) ps = ys) := Lib.hid (by rw [hys.out, take_all hk hlt])
      clear hys hR
      go_wp2_with fail
      go_ret
      rw [HY.out]
      exact ⟨O, q, rfl, hown, hb⟩

set_option maxRecDepth 100000 in
set_option maxHeartbeats 2000000 in
theorem between_i (A : Option Addr) (c : Nat) (ps : List Evt) (f t : Int) (w : World) (h : ETbl w A ps) :
    Calls Try.prog 16 #[.slice A ps.length c, .int .i64 f, .int .i64 t] w (NewIntsC w (betR ps f t)) := by
  have b00 := below_alloc w (.cells #[.int .i64 f] 2)
  have b01 := below_alloc (w.alloc (.cells #[.int .i64 f] 2)) (.cells #[.int .i64 t] 2)
  have b0 := belowGo b00 b01
  have hl0 : w.heap.size < (w.alloc (.cells #[.int .i64 f] 2)).heap.size := by simp
  have hL0 : w.heap.size < ((w.alloc (.cells #[.int .i64 f] 2)).alloc (.cells #[.int .i64 t] 2)).heap.size := by simp; omega
  have hL1 : w.heap.size + 1 < ((w.alloc (.cells #[.int .i64 f] 2)).alloc (.cells #[.int .i64 t] 2)).heap.size := by simp
  have hC0 : ((w.alloc (.cells #[.int .i64 f] 2)).alloc (.cells #[.int .i64 t] 2)).cell? ⟨w.heap.size, 0, none⟩ = some (.int .i64 f) := (b01.cell (p := ⟨w.heap.size, 0, none⟩) hl0).trans (by rw [cell_of_row _ _ _ _ _ _ (heap_alloc_new w _)]; rfl)
  have hC1 : ((w.alloc (.cells #[.int .i64 f] 2)).alloc (.cells #[.int .i64 t] 2)).cell? ⟨w.heap.size + 1, 0, none⟩ = some (.int .i64 t) := by
    have := heap_alloc_new (w.alloc (.cells #[.int .i64 f] 2)) (.cells #[.int .i64 t] 2)
    rw [show (w.alloc (.cells #[.int .i64 f] 2)).heap.size = w.heap.size + 1 by simp] at this
    rw [cell_of_row _ _ _ _ _ _ this]; rfl
  have HR := Lib.hid (h.below b0)
  have hn := h.len
  have HB := Lib.hid b0
  have HC0 := Lib.hid hC0
  have HC1 := Lib.hid hC1
  have HL0 := Lib.hid hL0
  have HL1 := Lib.hid hL1
  clear h b0 b00 b01 hl0 hL0 hL1 hC0 hC1
  rcases Bool.eq_false_or_eq_true (logB ps) with hr | hr
  · rcases Bool.eq_false_or_eq_true (daysB [f, t]) with hd | hd
    · have hd2 := daysB_2 f t
      rw [hd] at hd2
      have hd3 := (Bool.and_eq_true _ _).mp hd2.symm
      have E := Lib.hid (betR_ok hr hd3.1 hd3.2)
      clear hd2 hd3
      go_enter Try.func16, Try.ntmps16
      go_wp2_with fail
      refine (logI_q HR.out hr).mono ?_
      rintro e w1 ⟨rfl, b1⟩
      have c0 := (b1.cell (p := ⟨w.heap.size, 0, none⟩) HL0.out).trans HC0.out
      have c1 := (b1.cell (p := ⟨w.heap.size + 1, 0, none⟩) HL1.out).trans HC1.out
      have ba := below_alloc w1 (.cells #[.int .i64 f, .int .i64 t] 2)
      have B1 := belowGo HB.out b1
      have HW := Lib.hid (where_bet A c ps f t w.heap.size (w.heap.size + 1) (w1.alloc (.cells #[.int .i64 f, .int .i64 t] 2)) ((HR.out.below b1).below ba).row hn ((ba.cell (p := ⟨w.heap.size, 0, none⟩) (Nat.lt_of_lt_of_le HL0.out b1.size)).trans c0) (Nat.lt_of_lt_of_le HL0.out (Nat.le_trans b1.size ba.size)) ((ba.cell (p := ⟨w.heap.size + 1, 0, none⟩) (Nat.lt_of_lt_of_le HL1.out b1.size)).trans c1) (Nat.lt_of_lt_of_le HL1.out (Nat.le_trans b1.size ba.size)))
      have BA := belowGo B1 ba
      clear ba
      go_wp2_with (first | (go_at_call 54; refine (areDays_two _ _ _ _ hd (by simp)).mono ?_; rintro e w2 ⟨rfl, rfl⟩))
      refine HW.out.mono ?_
      rintro e w2 ⟨O, d, rfl, o2, b2⟩
      go_wp2_with fail
      go_ret2
      rw [E.out]
      exact ⟨O, d, rfl, own_monoE o2 BA.size, belowGo BA b2⟩
    · have hd2 := daysB_2 f t
      rw [hd] at hd2
      have E := Lib.hid (betR_day hr ((Bool.and_eq_false_iff).mp hd2.symm))
      clear hd2
      go_enter Try.func16, Try.ntmps16
      go_wp2_with fail
      refine (logI_q HR.out hr).mono ?_
      rintro e w1 ⟨rfl, b1⟩
      have c0 := (b1.cell (p := ⟨w.heap.size, 0, none⟩) HL0.out).trans HC0.out
      have c1 := (b1.cell (p := ⟨w.heap.size + 1, 0, none⟩) HL1.out).trans HC1.out
      have BA := belowGo (belowGo HB.out b1) (below_alloc w1 (.cells #[.int .i64 f, .int .i64 t] 2))
      go_wp2_with (first | (go_at_call 54; refine (areDays_two _ _ _ _ hd (by simp)).mono ?_; rintro e w2 ⟨rfl, rfl⟩))
      go_ret2
      rw [E.out]
      exact ⟨none, 0, rfl, Oi.nil _ _, BA⟩
  · have E := Lib.hid (betR_no (f := f) (t := t) hr)
    go_enter Try.func16, Try.ntmps16
    go_wp2_with fail
    refine (logI_q HR.out hr).mono ?_
    rintro e w1 ⟨rfl, b1⟩
    go_wp2_with fail
    go_ret2
    rw [E.out]
    exact ⟨none, 0, rfl, Oi.nil _ _, belowGo HB.out b1⟩
set_option maxHeartbeats 1000000 in
theorem evof_i (A : Option Addr) (c : Nat) (ps : List Evt) (s : List UInt8) (w : World) (h : ETbl w A ps) :
    Calls Try.prog 19 #[.slice A ps.length c, .string ⟨s.toArray⟩] w (NewIntsC w (eofR ps s)) := by
  have b0 := below_alloc w (.cells #[.string ⟨s.toArray⟩] 9)
  have hc : (w.alloc (.cells #[.string ⟨s.toArray⟩] 9)).cell? ⟨w.heap.size, 0, none⟩ = some (.string ⟨s.toArray⟩) := by rw [cell_of_row _ _ _ _ _ _ (heap_alloc_new w _)]; rfl
  have hlt : w.heap.size < (w.alloc (.cells #[.string ⟨s.toArray⟩] 9)).heap.size := by simp
  have HR := Lib.hid (h.below b0)
  have hn := h.len
  have HB := Lib.hid b0
  have HC := Lib.hid hc
  have HL := Lib.hid hlt
  clear h b0 hc hlt
  rcases Bool.eq_false_or_eq_true (logB ps) with hr | hr
  · have E := Lib.hid (eofR_ok (s := s) hr)
    go_enter Try.func19, Try.ntmps19
    go_wp2_with fail
    refine (logI_q HR.out hr).mono ?_
    rintro e w1 ⟨rfl, b1⟩
    go_wp2_with fail
    have B1 := belowGo HB.out b1
    refine (where_of A c ps s w.heap.size w1 (HR.out.below b1).row hn ((b1.cell (p := ⟨w.heap.size, 0, none⟩) HL.out).trans HC.out) (Nat.lt_of_lt_of_le HL.out b1.size)).mono ?_
    rintro e w2 ⟨O, d, rfl, o2, b2⟩
    go_wp2_with fail
    go_ret2
    rw [E.out]
    exact ⟨O, d, rfl, own_monoE o2 B1.size, belowGo B1 b2⟩
  · have E := Lib.hid (eofR_no (s := s) hr)
    go_enter Try.func19, Try.ntmps19
    go_wp2_with fail
    refine (logI_q HR.out hr).mono ?_
    rintro e w1 ⟨rfl, b1⟩
    go_wp2_with fail
    go_ret2
    rw [E.out]
    exact ⟨none, 0, rfl, Oi.nil _ _, belowGo HB.out b1⟩
set_option maxRecDepth 100000 in
set_option maxHeartbeats 2000000 in
theorem between_s (A : Option Addr) (c : Nat) (ps : List Evt) (f t : Int) (w : World) (h : ETbl w A ps) :
    Calls Try.prog 17 #[.slice A ps.length c, .int .i64 f, .int .i64 t] w (NewIntsC w (betR ps f t)) := by
  obtain ⟨i0, hi, hz0, hz1, hz2⟩ := info_parts intInfo
  have hn := h.len
  rcases Bool.eq_false_or_eq_true (logB ps) with hr | hr
  · rcases Bool.eq_false_or_eq_true (inr f 0 36524) with hf | hf
    · rcases Bool.eq_false_or_eq_true (inr t 0 36524) with ht | ht
      · have E := Lib.hid (betR_ok hr hf ht)
        go_enter Try.func17, Try.ntmps17
        go_wp2_with fail
        refine (logS_q h hr).mono ?_
        rintro e w1 ⟨rfl, b1⟩
        have hR := h.row.below b1
        clear h hr
        go_wp2_with (go_at_call 58; refine (is_q (by assumption) _).mono ?_; rintro e w' ⟨rfl, rfl⟩)
        go_loopw [8, 9] (fun o i wr => ∃ (k : Nat) (ys : List Int), k ≤ ps.length ∧ i = .int .i64 k ∧ wr.ownsRow w1.heap.size 2 1 o ys.length (ys.map (Value.int .i64)) ∧ Hid (ys = ixs (fun p => inr p.d f t) (ps.take k)) ∧ Below w1.heap.size w1 wr) (fun _ i _ => ps.length - (intOf i).toNat)
        case atStart => exact ⟨0, [], Nat.zero_le _, rfl, made0e _ _ _ _ (Nat.le_refl _), Lib.hid rfl, (Below.refl _ _).alloc (Nat.le_refl _) _⟩
        case round =>
          obtain ⟨k, ys, hk, rfl, hown, hys, hb⟩ := hrel
          obtain ⟨O, q, rfl⟩ := own_form hown
          have hyl : ys.length ≤ k := by rw [hys.out]; have := ixs_len (fun p => inr p.d f t) (ps.take k); rw [List.length_take] at this; omega
          by_cases hlt : k < ps.length
          · obtain ⟨b, off, p, rfl, hl, hp, h4⟩ := (hR.below hb).at hlt
            have c0 := h4.c0; have c1 := h4.c1; have c2 := h4.c2; have c3 := h4.c3; have c4 := h4.c4; have c5 := h4.c5; have c6 := h4.c6
            have HS := Lib.hid (ixs_next (fun p => inr p.d f t) hp.out)
            rw [← hys.out] at HS
            clear hR h4 hp hys
            rcases Bool.eq_false_or_eq_true (inr p.d f t) with he | he
            · have HS2 : Hid (ys ++ [(k : Int)] = ixs (fun p => inr p.d f t) (ps.take (k + 1))) := Lib.hid (by rw [HS.out, if_pos he])
              clear HS
              have hsz := hb.size
              go_wp2_with (first | (go_at_call 59; refine (innE_q (by assumption) _).mono ?_; rintro e w' ⟨rfl, rfl⟩) | (at_builtin; refine wpList_push _ rfl (.tmp 36) (.tmp 38) 33 rfl w1.heap.size 2 i0 _ 1 8 Try.underlying33 hi hz0 hz1 hz2 rfl (by decide) _ ys.length _ rfl hown [.int .i64 (k : Int)] rfl (by simp [Value.oneCell']) rfl (by unfold maxLen; omega) (by omega) hsz ?_; intro v' w' hown' hb'))
              go_roundw
              case rel => exact ⟨k + 1, ys ++ [(k : Int)], by omega, by go_num, by simpa using hown', HS2, hb.trans hb'⟩
              case measure => simp [intOf]; omega
            · have HS2 : Hid (ys = ixs (fun p => inr p.d f t) (ps.take (k + 1))) := Lib.hid (by rw [HS.out, if_neg (by rw [he]; decide), List.append_nil])
              clear HS
              go_wp2_with (first | (go_at_call 59; refine (innE_q (by assumption) _).mono ?_; rintro e w' ⟨rfl, rfl⟩) | fail)
              go_roundw
              case rel => exact ⟨k + 1, ys, by omega, by go_num, hown, HS2, hb⟩
              case measure => simp [intOf]; omega
          · have HY : Hid (ixs (fun p => inr p.d f t) ps = ys) := Lib.hid (by rw [hys.out, take_all hk hlt])
            clear hys hR
            go_wp2_with fail
            go_ret2
            rw [E.out, HY.out]
            exact ⟨O, q, rfl, own_monoE hown b1.size, belowGo b1 hb⟩
      · have E := Lib.hid (betR_day (f := f) hr (.inr ht))
        go_enter Try.func17, Try.ntmps17
        go_wp2_with fail
        refine (logS_q h hr).mono ?_
        rintro e w1 ⟨rfl, b1⟩
        go_wp2_with (go_at_call 58; refine (is_q (by assumption) _).mono ?_; rintro e w' ⟨rfl, rfl⟩)
        go_ret2
        rw [E.out]
        exact ⟨none, 0, rfl, Oi.nil _ _, b1⟩
    · have E := Lib.hid (betR_day (t := t) hr (.inl hf))
      go_enter Try.func17, Try.ntmps17
      go_wp2_with fail
      refine (logS_q h hr).mono ?_
      rintro e w1 ⟨rfl, b1⟩
      go_wp2_with (go_at_call 58; refine (is_q (by assumption) _).mono ?_; rintro e w' ⟨rfl, rfl⟩)
      go_ret2
      rw [E.out]
      exact ⟨none, 0, rfl, Oi.nil _ _, b1⟩
  · have E := Lib.hid (betR_no (f := f) (t := t) hr)
    go_enter Try.func17, Try.ntmps17
    go_wp2_with fail
    refine (logS_q h hr).mono ?_
    rintro e w1 ⟨rfl, b1⟩
    go_wp2_with fail
    go_ret2
    rw [E.out]
    exact ⟨none, 0, rfl, Oi.nil _ _, b1⟩
set_option maxRecDepth 100000 in
set_option maxHeartbeats 2000000 in
theorem evof_s (A : Option Addr) (c : Nat) (ps : List Evt) (s : List UInt8) (w : World) (h : ETbl w A ps) :
    Calls Try.prog 20 #[.slice A ps.length c, .string ⟨s.toArray⟩] w (NewIntsC w (eofR ps s)) := by
  obtain ⟨i0, hi, hz0, hz1, hz2⟩ := info_parts intInfo
  have hn := h.len
  rcases Bool.eq_false_or_eq_true (logB ps) with hr | hr
  · have E := Lib.hid (eofR_ok (s := s) hr)
    go_enter Try.func20, Try.ntmps20
    go_wp2_with fail
    refine (logS_q h hr).mono ?_
    rintro e w1 ⟨rfl, b1⟩
    have hR := h.row.below b1
    clear h hr
    go_wp2_with fail
    go_loopw [6, 7] (fun o i wr => ∃ (k : Nat) (ys : List Int), k ≤ ps.length ∧ i = .int .i64 k ∧ wr.ownsRow w1.heap.size 2 1 o ys.length (ys.map (Value.int .i64)) ∧ Hid (ys = ixs (fun p => p.c == s) (ps.take k)) ∧ Below w1.heap.size w1 wr) (fun _ i _ => ps.length - (intOf i).toNat)
    case atStart => exact ⟨0, [], Nat.zero_le _, rfl, made0e _ _ _ _ (Nat.le_refl _), Lib.hid rfl, (Below.refl _ _).alloc (Nat.le_refl _) _⟩
    case round =>
      obtain ⟨k, ys, hk, rfl, hown, hys, hb⟩ := hrel
      obtain ⟨O, q, rfl⟩ := own_form hown
      have hyl : ys.length ≤ k := by rw [hys.out]; have := ixs_len (fun p => p.c == s) (ps.take k); rw [List.length_take] at this; omega
      by_cases hlt : k < ps.length
      · obtain ⟨b, off, p, rfl, hl, hp, h4⟩ := (hR.below hb).at hlt
        have c0 := h4.c0; have c1 := h4.c1; have c2 := h4.c2; have c3 := h4.c3; have c4 := h4.c4; have c5 := h4.c5; have c6 := h4.c6
        have HS := Lib.hid (ixs_next (fun p => p.c == s) hp.out)
        rw [← hys.out] at HS
        clear hR h4 hp hys
        rcases Bool.eq_false_or_eq_true (p.c == s) with he | he
        · have HS2 : Hid (ys ++ [(k : Int)] = ixs (fun p => p.c == s) (ps.take (k + 1))) := Lib.hid (by rw [HS.out, if_pos he])
          clear HS
          have hsz := hb.size
          go_wp2_with (first  | (at_builtin; refine wpList_push _ rfl (.tmp 25) (.tmp 27) 33 rfl w1.heap.size 2 i0 _ 1 8 Try.underlying33 hi hz0 hz1 hz2 rfl (by decide) _ ys.length _ rfl hown [.int .i64 (k : Int)] rfl (by simp [Value.oneCell']) rfl (by unfold maxLen; omega) (by omega) hsz ?_; intro v' w' hown' hb'))
          go_roundw
          case rel => exact ⟨k + 1, ys ++ [(k : Int)], by omega, by go_num, by simpa using hown', HS2, hb.trans hb'⟩
          case measure => simp [intOf]; omega
        · have HS2 : Hid (ys = ixs (fun p => p.c == s) (ps.take (k + 1))) := Lib.hid (by rw [HS.out, if_neg (by rw [he]; decide), List.append_nil])
          clear HS
          go_wp2_with (first  | fail)
          go_roundw
          case rel => exact ⟨k + 1, ys, by omega, by go_num, hown, HS2, hb⟩
          case measure => simp [intOf]; omega
      · have HY : Hid (ixs (fun p => p.c == s) ps = ys) := Lib.hid (by rw [hys.out, take_all hk hlt])
        clear hys hR
        go_wp2_with fail
        go_ret2
        rw [E.out, HY.out]
        exact ⟨O, q, rfl, own_monoE hown b1.size, belowGo b1 hb⟩
  · have E := Lib.hid (eofR_no (s := s) hr)
    go_enter Try.func20, Try.ntmps20
    go_wp2_with fail
    refine (logS_q h hr).mono ?_
    rintro e w1 ⟨rfl, b1⟩
    go_wp2_with fail
    go_ret2
    rw [E.out]
    exact ⟨none, 0, rfl, Oi.nil _ _, b1⟩
end Go.Proofs.Ytifioecofeojpaa
