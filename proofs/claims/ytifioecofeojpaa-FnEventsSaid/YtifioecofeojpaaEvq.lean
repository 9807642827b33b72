/- TotalByKind of both sides. -/
import Derived.Test.YtifioecofeojpaaEvw
import Derived.Lib.Overlaps
import Derived.StillTailTactics
namespace Go.Proofs.Ytifioecofeojpaa
open Go.ChangeShapes Go.WideShapes Go.ChangeAt Go.RowKit
set_option linter.unusedVariables false

theorem totL_len (rs : List Evt) : (totL rs).length = 7 := rfl
theorem totL_at {rs : List Evt} {j : Int} (h0 : 0 ≤ j) (h6 : j ≤ 6) : (totL rs)[j.toNat]? = some (totE j rs) := by
  rcases (by omega : j = 0 ∨ j = 1 ∨ j = 2 ∨ j = 3 ∨ j = 4 ∨ j = 5 ∨ j = 6) with rfl | rfl | rfl | rfl | rfl | rfl | rfl <;> rfl
theorem totL_next {rs : List Evt} {k : Nat} {r : Evt} (h : rs[k]? = some r) (h0 : 0 ≤ r.k) (h6 : r.k ≤ 6) : totL (rs.take (k + 1)) = (totL (rs.take k)).set r.k.toNat (totE r.k (rs.take k) + r.a) := by
  rw [snoc_of h]
  rcases (by omega : r.k = 0 ∨ r.k = 1 ∨ r.k = 2 ∨ r.k = 3 ∨ r.k = 4 ∨ r.k = 5 ∨ r.k = 6) with e | e | e | e | e | e | e <;> simp [totL, totE_snoc, e]
theorem tot_bd {rs : List Evt} (h : logB rs = true) (k : Nat) (j : Int) : 0 ≤ totE j (rs.take k) ∧ totE j (rs.take k) ≤ 15000000000 := by
  have h1 := totE_bd (rs := rs.take k) j fun q hq => by
    obtain ⟨i, hi⟩ := List.getElem?_of_mem (List.mem_of_mem_take hq)
    exact log_ok h hi
  have h2 := (log_iff.1 h).2
  have h3 : (rs.take k).length ≤ rs.length := by rw [List.length_take]; omega
  omega
theorem still_tailE {P : Program} {id : Nat} {Q : Exit → Act → World → Prop} {a : Act} {w : World} {l : List Oper} (n : Nat) (hm : P.follows .mixedOrders = true) (hB : Region.lexTailB .any l.toArray n = true)
    (h : wpStill P l.toArray w.drew (fun a' => wpList P l.toArray Q (l.drop n) a' w.drew) (l.take n) a) : (Code.region id l.toArray true).wp P Q a w := wp_region_still_tail n hm hB h

set_option maxRecDepth 100000 in
set_option maxHeartbeats 4000000 in
theorem tbk_i (A : Option Addr) (c : Nat) (ps : List Evt) (w : World) (h : ETbl w A ps) :
    Calls Try.prog 22 #[.slice A ps.length c] w (NewIntsC w (tbkR ps)) := by
  obtain ⟨i0, hi, hz0, hz1, hz2⟩ := info_parts intInfo
  rcases Bool.eq_false_or_eq_true (logB ps) with hr | hr
  · have E := Lib.hid (tbkR_ok hr)
    have HO := Lib.hid (fun (k : Nat) (p : Evt) (hp : ps[k]? = some p) => eok (log_ok hr hp))
    have HT := Lib.hid (tot_bd hr)
    have hn := h.len
    go_enter Try.func22, Try.ntmps22
    go_wp2_with fail
    refine (logI_q h hr).mono ?_
    rintro e w1 ⟨rfl, b1⟩
    have hR := h.row.below b1
    clear h hr
    go_wp2_with (at_make; refine wpList_make_full _ rfl _ _ 33 rfl w1.heap.size 2 i0 _ 1 Try.underlying33 hi hz0 hz1 .i64 .i64 _ _ 7 rfl rfl rfl rfl (by rw [hz2]; omega) (by unfold maxLen; omega) (Nat.le_refl _) ?_; intro w2 hown2 hg2)
    have hb2 : Below w1.heap.size w1 w2 := (Below.refl _ _).grown hg2 (Nat.le_refl _) (by simp)
    have hown2 : Oi w2 w1.heap.size (some ⟨w1.heap.size, 0, none⟩) 7 7 (totL (ps.take 0)) := by
      have e : (madeCells (Value.int .i64 0).cells (7 * 1)).toList = (totL (ps.take 0)).map (Value.int .i64) := by
        rw [show totL (ps.take 0) = [0, 0, 0, 0, 0, 0, 0] from rfl]
        unfold madeCells
        simp [Value.cells, List.range_succ]
      rw [e] at hown2; exact hown2
    clear hg2
    go_loopw [13] (fun i wr => ∃ k : Nat, k ≤ ps.length ∧ i = .int .i64 k ∧ Oi wr w1.heap.size (some ⟨w1.heap.size, 0, none⟩) 7 7 (totL (ps.take k)) ∧ Below w1.heap.size w1 wr) (fun i _ => ps.length - (intOf i).toNat)
    case atStart => exact ⟨0, Nat.zero_le _, rfl, hown2, hb2⟩
    case round =>
      obtain ⟨k, hk, rfl, hown, hb⟩ := hrel
      clear hown2 hb2
      by_cases hlt : k < ps.length
      · obtain ⟨b, off, p, rfl, hl, hp, h4⟩ := (hR.below hb).at hlt
        have c0 := h4.c0; have c1 := h4.c1; have c2 := h4.c2; have c3 := h4.c3; have c4 := h4.c4; have c5 := h4.c5; have c6 := h4.c6
        obtain ⟨_, ⟨hk0, hk6⟩, _, ha0, ha1⟩ := HO.out k p hp.out
        obtain ⟨ht0, ht1⟩ := HT.out k p.k
        have HN := Lib.hid (totL_next hp.out hk0 hk6)
        have HA := Lib.hid (totL_at (rs := ps.take k) hk0 hk6)
        have kn := KeepE.new wr p
        have hown3 := Oi.below hown kn.bel
        have hb3 := Lib.hid (belowGo hb kn.bel)
        have kd := kn.drew
        have g1 := kd.cells.c1
        have g3 := kd.cells.c3
        clear h4 hp hR hown kn
        go_wp2_with fail
        refine still_tailE 9 (by kernel_rfl) (by kernel_rfl) ?_
        simp only [List.take_succ_cons, List.take_zero, List.drop_succ_cons, List.drop_zero]
        have hownd : Oi ((wr.alloc (.cells #[.int .i64 p.d, .int .i64 p.k, .string ⟨p.c.toArray⟩, .int .i64 p.a, .bool p.p, .bool p.v, .bool p.r] 26)).drew) w1.heap.size (some ⟨w1.heap.size, 0, none⟩) 7 7 (totL (ps.take k)) := hown3.drew
        have hbd := Lib.hid hb3.out.drew
        generalize (wr.alloc (.cells #[.int .i64 p.d, .int .i64 p.k, .string ⟨p.c.toArray⟩, .int .i64 p.a, .bool p.p, .bool p.v, .bool p.r] 26)).drew = W at *
        obtain ⟨t, ht⟩ : ∃ t, t = totE p.k (ps.take k) := ⟨_, rfl⟩
        rw [← ht] at ht0 ht1 HN HA
        obtain ⟨j, hj⟩ : ∃ j, j = p.k.toNat := ⟨_, rfl⟩
        have hj6 : j ≤ 6 := by omega
        have q1 : W.cell? ⟨w1.heap.size, p.k.toNat, none⟩ = some (.int .i64 t) := by
          have h1 := hownd.cellAt p.k.toNat (by omega)
          rw [h1, List.getElem?_map, HA.out]; rfl
        have q2 := hownd.frozenAt p.k.toNat
        have HS := Lib.hid (hownd.stored p.k.toNat (.int .i64 (t + p.a)))
        clear ht hj HT HO HA hownd
        repeat still_step
        refine wpStill_step (fun K hK => ?_)
        go_simp
        try (rw [if_pos (by omega)]; go_simp)
        refine hK _ ?_
        clear hK K
        repeat still_step
        refine wpStill_step (fun K hK => ?_)
        go_simp
        try (rw [if_pos (by omega)]; go_simp)
        refine hK _ ?_
        clear hK K
        repeat still_step
        refine wpStill_nil ?_
        go_wp2_with fail
        go_roundw
        case rel => exact ⟨k + 1, by omega, by go_num, by rw [HN.out]; have := HS.out.1; simpa [Oi, List.map_set] using this, hbd.out.grown HS.out.2 hbd.out.size (fun k e => by cases e; exact Nat.le_refl _)⟩
        case measure => simp [intOf]; omega
      · obtain rfl : k = ps.length := by omega
        rw [List.take_length] at hown
        go_wp2_with fail
        go_ret2
        rw [E.out]
        exact ⟨_, _, rfl, own_monoE hown b1.size, belowGo b1 hb⟩
  · have E := Lib.hid (tbkR_no hr)
    go_enter Try.func22, Try.ntmps22
    go_wp2_with fail
    refine (logI_q h hr).mono ?_
    rintro e w1 ⟨rfl, b1⟩
    go_wp2_with fail
    go_ret2
    rw [E.out]
    exact ⟨none, 0, rfl, Oi.nil _ _, b1⟩
set_option maxRecDepth 100000 in
set_option maxHeartbeats 4000000 in
theorem tbk_s (A : Option Addr) (c : Nat) (ps : List Evt) (w : World) (h : ETbl w A ps) :
    Calls Try.prog 23 #[.slice A ps.length c] w (NewIntsC w (tbkR ps)) := by
  obtain ⟨i0, hi, hz0, hz1, hz2⟩ := info_parts intInfo
  rcases Bool.eq_false_or_eq_true (logB ps) with hr | hr
  · have E := Lib.hid (tbkR_ok hr)
    have HO := Lib.hid (fun (k : Nat) (p : Evt) (hp : ps[k]? = some p) => eok (log_ok hr hp))
    have HT := Lib.hid (tot_bd hr)
    have hn := h.len
    go_enter Try.func23, Try.ntmps23
    go_wp2_with fail
    refine (logS_q h hr).mono ?_
    rintro e w1 ⟨rfl, b1⟩
    have hR := h.row.below b1
    clear h hr
    go_wp2_with (at_make; refine wpList_make_full _ rfl _ _ 33 rfl w1.heap.size 2 i0 _ 1 Try.underlying33 hi hz0 hz1 .i64 .i64 _ _ 7 rfl rfl rfl rfl (by rw [hz2]; omega) (by unfold maxLen; omega) (Nat.le_refl _) ?_; intro w2 hown2 hg2)
    have hb2 : Below w1.heap.size w1 w2 := (Below.refl _ _).grown hg2 (Nat.le_refl _) (by simp)
    have hown2 : Oi w2 w1.heap.size (some ⟨w1.heap.size, 0, none⟩) 7 7 (totL (ps.take 0)) := by
      have e : (madeCells (Value.int .i64 0).cells (7 * 1)).toList = (totL (ps.take 0)).map (Value.int .i64) := by
        rw [show totL (ps.take 0) = [0, 0, 0, 0, 0, 0, 0] from rfl]
        unfold madeCells
        simp [Value.cells, List.range_succ]
      rw [e] at hown2; exact hown2
    clear hg2
    go_loopw [5] (fun i wr => ∃ k : Nat, k ≤ ps.length ∧ i = .int .i64 k ∧ Oi wr w1.heap.size (some ⟨w1.heap.size, 0, none⟩) 7 7 (totL (ps.take k)) ∧ Below w1.heap.size w1 wr) (fun i _ => ps.length - (intOf i).toNat)
    case atStart => exact ⟨0, Nat.zero_le _, rfl, hown2, hb2⟩
    case round =>
      obtain ⟨k, hk, rfl, hown, hb⟩ := hrel
      clear hown2 hb2
      by_cases hlt : k < ps.length
      · obtain ⟨b, off, p, rfl, hl, hp, h4⟩ := (hR.below hb.drew).at hlt
        have c1 := h4.c1; have c3 := h4.c3
        obtain ⟨_, ⟨hk0, hk6⟩, _, ha0, ha1⟩ := HO.out k p hp.out
        obtain ⟨ht0, ht1⟩ := HT.out k p.k
        have HN := Lib.hid (totL_next hp.out hk0 hk6)
        have HA := Lib.hid (totL_at (rs := ps.take k) hk0 hk6)
        have hownd : Oi wr.drew w1.heap.size (some ⟨w1.heap.size, 0, none⟩) 7 7 (totL (ps.take k)) := hown.drew
        have hbd := Lib.hid hb.drew
        clear h4 hp hR hown hb
        go_wp2_with fail
        refine still_tailE 21 (by kernel_rfl) (by kernel_rfl) ?_
        simp only [List.take_succ_cons, List.take_zero, List.drop_succ_cons, List.drop_zero]
        generalize wr.drew = W at *
        obtain ⟨t, ht⟩ : ∃ t, t = totE p.k (ps.take k) := ⟨_, rfl⟩
        rw [← ht] at ht0 ht1 HN HA
        have q1 : W.cell? ⟨w1.heap.size, p.k.toNat, none⟩ = some (.int .i64 t) := by
          have h1 := hownd.cellAt p.k.toNat (by omega)
          rw [h1, List.getElem?_map, HA.out]; rfl
        have q2 := hownd.frozenAt p.k.toNat
        have HS := Lib.hid (hownd.stored p.k.toNat (.int .i64 (t + p.a)))
        clear ht HT HO HA hownd
        repeat (first | still_step | (refine wpStill_step (fun K hK => ?_); go_simp; (rw [if_pos (by omega)]; go_simp); refine hK _ ?_; clear hK K))
        refine wpStill_nil ?_
        go_wp2_with fail
        go_roundw
        case rel => exact ⟨k + 1, by omega, by go_num, by rw [HN.out]; have := HS.out.1; simpa [Oi, List.map_set] using this, hbd.out.grown HS.out.2 hbd.out.size (fun k e => by cases e; exact Nat.le_refl _)⟩
        case measure => simp [intOf]; omega
      · obtain rfl : k = ps.length := by omega
        rw [List.take_length] at hown
        go_wp2_with fail
        go_ret2
        rw [E.out]
        exact ⟨_, _, rfl, own_monoE hown b1.size, belowGo b1 hb⟩
  · have E := Lib.hid (tbkR_no hr)
    go_enter Try.func23, Try.ntmps23
    go_wp2_with fail
    refine (logS_q h hr).mono ?_
    rintro e w1 ⟨rfl, b1⟩
    go_wp2_with fail
    go_ret2
    rw [E.out]
    exact ⟨none, 0, rfl, Oi.nil _ _, b1⟩
end Go.Proofs.Ytifioecofeojpaa
