/- TotalsByResult, both sides. -/
import Derived.Test.YtjcklmhgjdmjoaaDlg
import Derived.Test.YtjcklmhgjdmjoaaEvq
namespace Go.Proofs.Ytjcklmhgjdmjoaa
open Go.ChangeShapes Go.WideShapes Go.ChangeAt Go.RowKit
set_option linter.unusedVariables false

/-- A number is added at an index. -/
def addAt (t : List Int) (k : Nat) (a : Int) : List Int := t.set k (t[k]?.getD 0 + a)
theorem addAt_len (t : List Int) (k : Nat) (a : Int) : (addAt t k a).length = t.length := by simp [addAt]
def trL (ps : List Cls) (es : List Evt) : List Int := es.foldl (fun t e => addAt t (resC ps e).toNat e.a) [0, 0, 0]
theorem trL_next {ps : List Cls} {es : List Evt} {k : Nat} {e : Evt} (h : es[k]? = some e) : trL ps (es.take (k + 1)) = addAt (trL ps (es.take k)) (resC ps e).toNat e.a := by
  rw [snoc_of h]; simp [trL, List.foldl_append]
theorem fold_len {ps : List Cls} : ∀ (es : List Evt) (t : List Int), (es.foldl (fun t e => addAt t (resC ps e).toNat e.a) t).length = t.length
  | [], t => rfl
  | e :: es, t => by rw [List.foldl_cons, fold_len es, addAt_len]
theorem trL_len (ps : List Cls) (es : List Evt) : (trL ps es).length = 3 := fold_len es _
theorem addAt_bd {t : List Int} {k : Nat} {a M N : Int} (h : ∀ (i : Nat) (x : Int), t[i]? = some x → 0 ≤ x ∧ x ≤ M) (ha : 0 ≤ a ∧ a ≤ N) (hM : 0 ≤ M) : ∀ (i : Nat) (x : Int), (addAt t k a)[i]? = some x → 0 ≤ x ∧ x ≤ M + N := by
  intro i x hx
  unfold addAt at hx
  rw [List.getElem?_set] at hx
  split at hx
  · split at hx
    · have h1 := Option.some.inj hx
      have h2 : 0 ≤ t[k]?.getD 0 ∧ t[k]?.getD 0 ≤ M := by
        cases hq : t[k]? with
        | none => exact ⟨Int.le_refl _, hM⟩
        | some y => exact h k y hq
      omega
    · cases hx
  · have := h i x hx; omega
theorem fold_bd {ps : List Cls} : ∀ (es : List Evt) (t : List Int) (M : Int), (∀ e ∈ es, 0 ≤ e.a ∧ e.a ≤ 1000000000) → 0 ≤ M → (∀ (i : Nat) (x : Int), t[i]? = some x → 0 ≤ x ∧ x ≤ M) →
    ∀ (i : Nat) (x : Int), (es.foldl (fun t e => addAt t (resC ps e).toNat e.a) t)[i]? = some x → 0 ≤ x ∧ x ≤ M + 1000000000 * (es.length : Int)
  | [], t, M, _, hM, h, i, x, hx => by have := h i x hx; simp; omega
  | e :: es, t, M, ha, hM, h, i, x, hx => by
    rw [List.foldl_cons] at hx
    have := fold_bd es _ (M + 1000000000) (fun q hq => ha q (List.mem_cons_of_mem _ hq)) (by omega) (addAt_bd h (ha e (List.mem_cons_self)) hM) i x hx
    rw [List.length_cons]
    omega
theorem trL_bd {ps : List Cls} {es : List Evt} (h : logB es = true) (k : Nat) {i : Nat} {x : Int} (hx : (trL ps (es.take k))[i]? = some x) : 0 ≤ x ∧ x ≤ 15000000000 := by
  have h15 := (log_iff.1 h).2
  have h2 : (es.take k).length ≤ es.length := by rw [List.length_take]; omega
  have := fold_bd (ps := ps) (es.take k) [0, 0, 0] 0 (fun e he => by
    obtain ⟨j, hj⟩ := List.getElem?_of_mem (List.mem_of_mem_take he)
    exact (eok (log_ok h hj)).2.2.2) (Int.le_refl _) (fun i x hx => by
      match i, hx with
      | 0, hx => simp at hx; omega
      | 1, hx => simp at hx; omega
      | 2, hx => simp at hx; omega
      | (n + 3), hx => simp at hx) i x hx
  omega
def trR (ps : List Cls) (es : List Evt) : List Int × Int := if rbB ps = true ∧ logB es = true then (trL ps es, 0) else ([], 1)
theorem trR_no {ps : List Cls} {es : List Evt} (h : rbB ps = false ∨ logB es = false) : trR ps es = ([], 1) := by
  unfold trR; rw [if_neg]; rintro ⟨h1, h2⟩; rcases h with h | h <;> simp_all
theorem trR_ok {ps : List Cls} {es : List Evt} (h : rbB ps = true) (h1 : logB es = true) : trR ps es = (trL ps es, 0) := by unfold trR; rw [if_pos ⟨h, h1⟩]
theorem trR_len (ps : List Cls) (es : List Evt) : (trR ps es).1.length ≤ 3 := by
  unfold trR; split
  · exact Nat.le_of_eq (trL_len ps es)
  · exact Nat.zero_le _
theorem made3 {w : World} {base : Nat} (h : w.ownsRow base 2 1 (.slice (some ⟨base, 0, none⟩) 3 3) 3 (madeCells (Value.int .i64 0).cells (3 * 1)).toList) (ps : List Cls) (es : List Evt) : Oi w base (some ⟨base, 0, none⟩) 3 3 (trL ps (es.take 0)) := by
  have e : (madeCells (Value.int .i64 0).cells (3 * 1)).toList = (trL ps (es.take 0)).map (Value.int .i64) := by
    rw [show trL ps (es.take 0) = [0, 0, 0] from rfl]
    unfold madeCells
    simp [Value.cells, List.range_succ]
  rw [e] at h; exact h
theorem stored_add {w : World} {base g n c : Nat} {t : List Int} {k : Nat} {x a : Int} (h : Oi w base (some ⟨g, 0, none⟩) n c t) (hx : t[k]? = some x) :
    w.cell? ⟨g, k, none⟩ = some (.int .i64 x) ∧ w.frozen? ⟨g, k, none⟩ = false ∧ Oi (w.setCell ⟨g, k, none⟩ (.int .i64 (x + a))) base (some ⟨g, 0, none⟩) n c (addAt t k a) ∧ w.grownBy (w.setCell ⟨g, k, none⟩ (.int .i64 (x + a))) (some g) := by
  have hk := (List.getElem?_eq_some_iff.1 hx).1
  have S := h.stored k (.int .i64 (x + a))
  refine ⟨?_, h.frozenAt k, ?_, S.2⟩
  · have h1 := h.cellAt k (by have := h.1; simp at this; omega)
    rw [h1, List.getElem?_map, hx]; rfl
  · have := S.1
    unfold addAt
    rw [hx]
    simpa [Oi, List.map_set] using this
set_option maxRecDepth 100000 in
set_option maxHeartbeats 8000000 in
theorem tr_i (A : Option Addr) (c : Nat) (ps : List Cls) (B : Option Addr) (d : Nat) (es : List Evt) (w : World) (h : CTblC w A c ps) (h2 : ETbl w B es) :
    Calls Try.prog 20 #[.slice A ps.length c, .slice B es.length d] w (NewIntsC w (trR ps es)) := by
  obtain ⟨i0, hi, hz0, hz1, hz2⟩ := info_parts intInfo
  have HL := Lib.hid (dl_i A c ps B d es w h h2)
  have hn := h2.len
  have HE := Lib.hid (fun W (b : Below w.heap.size w W) => h2.row.below b)
  by_cases hr : rbB ps = true ∧ logB es = true
  · rw [dlR_ok hr.1 hr.2] at HL
    have E := Lib.hid (trR_ok hr.1 hr.2)
    have HO := Lib.hid (fun (k : Nat) (p : Evt) (hp : es[k]? = some p) => eok (log_ok hr.2 hp))
    have HC := Lib.hid (fun q => resC_bd (rb_of hr.1) q)
    have HT := Lib.hid (fun k i x => @trL_bd ps es hr.2 k i x)
    clear h h2 hr
    go_enter Try.func20, Try.ntmps20
    go_wp2_with fail
    refine HL.out.mono ?_
    rintro e w1 ⟨D, dd, rfl, o1, b1⟩
    simp only [List.length_map] at o1
    have R1 := Lib.hid (fun W (b : Below w1.heap.size w1 W) => (o1.reads).below b)
    have E1 := Lib.hid (fun W (b : Below w1.heap.size w1 W) => HE.out W (belowGo b1 b))
    clear o1 HL HE
    try simp only [List.length_map]
    go_wp2_with (at_make; refine wpList_make_full _ rfl _ _ 40 rfl w1.heap.size 2 i0 _ 1 Try.underlying40 hi hz0 hz1 .i64 .i64 _ _ 3 rfl rfl rfl rfl (by rw [hz2]; omega) (by unfold maxLen; omega) (Nat.le_refl _) ?_; intro w2 hown2 hg2)
    have hb2 : Below w1.heap.size w1 w2 := (Below.refl _ _).grown hg2 (Nat.le_refl _) (by simp)
    have hown2 := made3 hown2 ps es
    clear hg2
    go_loopw [23] (fun i wr => ∃ k : Nat, k ≤ es.length ∧ i = .int .i64 k ∧ Oi wr w1.heap.size (some ⟨w1.heap.size, 0, none⟩) 3 3 (trL ps (es.take k)) ∧ Below w1.heap.size w1 wr) (fun i _ => es.length - (intOf i).toNat)
    case atStart => exact ⟨0, Nat.zero_le _, rfl, hown2, hb2⟩
    case round =>
      obtain ⟨k, hk, rfl, hown, hb⟩ := hrel
      clear hown2 hb2
      by_cases hlt : k < es.length
      · obtain ⟨b, off, p, rfl, hl, hp, h4⟩ := (E1.out wr hb).at hlt
        obtain ⟨b', off', x, A1, c1, rfl, hl', hx, u0, u1, _⟩ := (R1.out wr hb).at (k := k) (by simpa using hlt)
        have hx2 : x = decE ps p := by have a := hx.out; rw [List.getElem?_map, hp.out] at a; exact (Option.some.inj a).symm
        obtain ⟨j, hj, hj3⟩ := HC.out p
        have hxy : x.y = (j : Int) := by rw [hx2]; exact hj
        obtain ⟨_, _, _, ha0, ha1⟩ := HO.out k p hp.out
        obtain ⟨t, ht⟩ : ∃ t, (trL ps (es.take k))[j]? = some t := ⟨_, List.getElem?_eq_getElem (by rw [trL_len]; exact hj3)⟩
        obtain ⟨ht0, ht1⟩ := HT.out k j t ht
        have HN : Hid (trL ps (es.take (k + 1)) = addAt (trL ps (es.take k)) j p.a) := Lib.hid (by rw [trL_next hp.out, hj]; rfl)
        rw [hxy] at u0
        have kn := below_alloc wr (.cells #[.int .i64 (j : Int), .slice A1 x.cs.length c1] 31)
        have nb := heap_alloc_new wr (.cells #[.int .i64 (j : Int), .slice A1 x.cs.length c1] 31)
        have c3 := (h4.below hl (kn.drew)).c3
        have hown3 := Oi.below hown kn
        have hb3 := Lib.hid (belowGo hb kn)
        have z0 : ((wr.alloc (.cells #[.int .i64 (j : Int), .slice A1 x.cs.length c1] 31)).drew).cell? ⟨wr.heap.size, 0, none⟩ = some (.int .i64 (j : Int)) := by
          have nb2 : ((wr.alloc (.cells #[.int .i64 (j : Int), .slice A1 x.cs.length c1] 31)).drew).heap[wr.heap.size]? = _ := nb
          rw [cell_of_row _ _ _ _ _ _ nb2]; rfl
        clear h4 hp hown kn nb hx hx2 hj hxy
        go_wp2_with fail
        refine still_tailE 12 (by kernel_rfl) (by kernel_rfl) ?_
        simp only [List.take_succ_cons, List.take_zero, List.drop_succ_cons, List.drop_zero]
        have hownd : Oi ((wr.alloc (.cells #[.int .i64 (j : Int), .slice A1 x.cs.length c1] 31)).drew) w1.heap.size (some ⟨w1.heap.size, 0, none⟩) 3 3 (trL ps (es.take k)) := hown3.drew
        have hbd := Lib.hid hb3.out.drew
        generalize (wr.alloc (.cells #[.int .i64 (j : Int), .slice A1 x.cs.length c1] 31)).drew = W at *
        obtain ⟨q1, q2, q3, q4⟩ := stored_add (a := p.a) hownd ht
        have HS := Lib.hid (And.intro q3 q4)
        have hjn : ((j : Int)).toNat = j := by omega
        clear ht HT HO HC hownd q3 q4 u0 u1 hown3 R1 E1
        repeat (first | still_step | (refine wpStill_step (fun K hK => ?_); go_simp; (rw [if_pos (by omega)]; go_simp); refine hK _ ?_; clear hK K))
        refine wpStill_nil ?_
        go_wp2_with fail
        go_roundw
        case rel => exact ⟨k + 1, by omega, by go_num, by rw [HN.out]; exact HS.out.1, hbd.out.grown HS.out.2 hbd.out.size (fun k e => by cases e; exact Nat.le_refl _)⟩
        case measure => simp [intOf]; omega
      · obtain rfl : k = es.length := by omega
        rw [List.take_length] at hown
        go_wp2_with fail
        go_ret2
        rw [E.out]
        exact ⟨_, _, by simp only [trL_len] <;> rfl, by rw [trL_len]; exact own_monoE hown b1.size, belowGo b1 hb⟩
  · have hno : rbB ps = false ∨ logB es = false := by
      rcases Bool.eq_false_or_eq_true (rbB ps) with a | a
      · rcases Bool.eq_false_or_eq_true (logB es) with b | b
        · exact absurd ⟨a, b⟩ hr
        · exact .inr b
      · exact .inl a
    rw [dlR_no hno] at HL
    have E := Lib.hid (trR_no hno)
    clear h h2 hr hno HE
    go_enter Try.func20, Try.ntmps20
    go_wp2_with fail
    refine HL.out.mono ?_
    rintro e w1 ⟨D, dd, rfl, o1, b1⟩
    clear o1
    go_wp2_with fail
    go_ret2
    rw [E.out]
    exact ⟨none, 0, rfl, Oi.nil _ _, b1⟩
set_option maxRecDepth 100000 in
set_option maxHeartbeats 8000000 in
theorem tr_s (A : Option Addr) (c : Nat) (ps : List Cls) (B : Option Addr) (d : Nat) (es : List Evt) (w : World) (h : CTbl w A ps) (h2 : ETbl w B es) :
    Calls Try.prog 21 #[.slice A ps.length c, .slice B es.length d] w (NewIntsC w (trR ps es)) := by
  obtain ⟨i0, hi, hz0, hz1, hz2⟩ := info_parts intInfo
  have hn := h2.len
  have HE := Lib.hid (fun W (b : Below w.heap.size w W) => h2.row.below b)
  rcases Bool.eq_false_or_eq_true (rbB ps) with hr | hr
  · have HT0 := Lib.hid (fun W (hb : Below w.heap.size w W) => rbS_q (c := c) (h.below hb) hr)
    rcases Bool.eq_false_or_eq_true (logB es) with h1 | h1
    · have HL := Lib.hid (fun W (hb : Below w.heap.size w W) => logS_q (c := d) (h2.below hb) h1)
      have E := Lib.hid (trR_ok hr h1)
      have HO := Lib.hid (fun (k : Nat) (p : Evt) (hp : es[k]? = some p) => eok (log_ok h1 hp))
      have HC := Lib.hid (fun q => resC_bd (rb_of hr) q)
      have HT := Lib.hid (fun k i x => @trL_bd ps es h1 k i x)
      have HD := Lib.hid (fun p W (b : Below w.heap.size w W) => res_s A c ps p W (h.below b) (rb_of hr))
      clear h h2 hr h1
      go_enter Try.func21, Try.ntmps21
      go_wp2_with (first
        | (go_at_call 71; refine (HT0.out _ (Below.refl _ _)).mono ?_; rintro e w1 ⟨rfl, b1⟩)
        | (go_at_call 76; refine (HL.out _ b1).mono ?_; rintro e w2 ⟨rfl, b2⟩; have t2 := belowGo b1 b2))
      clear HT0 HL b1 b2
      have M0 : Oi (w2.alloc (.cells #[.int .i64 0, .int .i64 0, .int .i64 0] 2)) w2.heap.size (some ⟨w2.heap.size, 0, none⟩) 3 3 (trL ps (es.take 0)) := by
        exact ⟨rfl, .inr ⟨w2.heap.size, 3, #[.int .i64 0, .int .i64 0, .int .i64 0], rfl, Nat.le_refl _, heap_alloc_new w2 _, Nat.le_refl _, by unfold maxLen; omega, by simp, by simp [trL]⟩⟩
      have Z0 := below_alloc w2 (.cells #[.int .i64 0, .int .i64 0, .int .i64 0] 2)
      go_wp2_with fail
      go_loopw [7, 8] (fun i u wr => ∃ k : Nat, k ≤ es.length ∧ i = .int .i64 k ∧ Oi wr w2.heap.size (some ⟨w2.heap.size, 0, none⟩) 3 3 (trL ps (es.take k)) ∧ Below w2.heap.size w2 wr) (fun i _ _ => es.length - (intOf i).toNat)
      case atStart => exact ⟨0, Nat.zero_le _, rfl, M0, Z0⟩
      case round =>
        obtain ⟨k, hk, rfl, hown, hb⟩ := hrel
        clear M0 Z0
        by_cases hlt : k < es.length
        · obtain ⟨b, off, p, rfl, hl, hp, h4⟩ := (HE.out wr (belowGo t2 hb)).at hlt
          have c0 := h4.c0; have c1 := h4.c1; have c2 := h4.c2; have c3 := h4.c3; have c4 := h4.c4; have c5 := h4.c5; have c6 := h4.c6
          obtain ⟨j, hj, hj3⟩ := HC.out p
          obtain ⟨_, _, _, ha0, ha1⟩ := HO.out k p hp.out
          obtain ⟨t, ht⟩ : ∃ t, (trL ps (es.take k))[j]? = some t := ⟨_, List.getElem?_eq_getElem (by rw [trL_len]; exact hj3)⟩
          obtain ⟨ht0, ht1⟩ := HT.out k j t ht
          have HN : Hid (trL ps (es.take (k + 1)) = addAt (trL ps (es.take k)) j p.a) := Lib.hid (by rw [trL_next hp.out, hj]; rfl)
          have HDC := Lib.hid (HD.out p wr (belowGo t2 hb))
          rw [hj] at HDC
          have H4 := Lib.hid (fun W (b : Below wr.heap.size wr W) => (h4.below hl b).c3)
          have HOW := Lib.hid hown
          have HBW := Lib.hid hb
          clear h4 hp hown hb hj
          go_wp2_with (go_at_call 77; refine HDC.out.mono ?_; rintro e w3 ⟨rfl, b3⟩)
          refine still_tailE 13 (by kernel_rfl) (by kernel_rfl) ?_
          simp only [List.take_succ_cons, List.take_zero, List.drop_succ_cons, List.drop_zero]
          have hownd : Oi w3.drew w2.heap.size (some ⟨w2.heap.size, 0, none⟩) 3 3 (trL ps (es.take k)) := (Oi.below HOW.out b3).drew
          have hbd := Lib.hid (belowGo HBW.out b3).drew
          have d3 := H4.out _ b3.drew
          clear c0 c1 c2 c3 c4 c5 c6 b3
          generalize w3.drew = W at *
          obtain ⟨q1, q2, q3, q4⟩ := stored_add (a := p.a) hownd ht
          have HS := Lib.hid (And.intro q3 q4)
          have hjn : ((j : Int)).toNat = j := by omega
          clear ht HT HO HC hownd q3 q4 HE HD HDC H4
          repeat (first | still_step | (refine wpStill_step (fun K hK => ?_); go_simp; (rw [if_pos (by omega)]; go_simp); refine hK _ ?_; clear hK K))
          refine wpStill_nil ?_
          go_wp2_with fail
          go_roundw
          case rel => exact ⟨k + 1, by omega, by go_num, by rw [HN.out]; exact HS.out.1, hbd.out.grown HS.out.2 hbd.out.size (fun k e => by cases e; exact Nat.le_refl _)⟩
          case measure => simp [intOf]; omega
        · obtain rfl : k = es.length := by omega
          rw [List.take_length] at hown
          go_wp2_with fail
          go_ret2
          rw [E.out]
          exact ⟨_, _, by simp only [trL_len] <;> rfl, by rw [trL_len]; exact own_monoE hown t2.size, belowGo t2 hb⟩
    · have HL := Lib.hid (fun W (hb : Below w.heap.size w W) => logS_q (c := d) (h2.below hb) h1)
      have E := Lib.hid (@trR_no ps es (.inr h1))
      clear h h2 hr h1
      go_enter Try.func21, Try.ntmps21
      go_wp2_with (first
        | (go_at_call 71; refine (HT0.out _ (Below.refl _ _)).mono ?_; rintro e w1 ⟨rfl, b1⟩)
        | (go_at_call 76; refine (HL.out _ b1).mono ?_; rintro e w2 ⟨rfl, b2⟩; have t2 := belowGo b1 b2))
      go_ret2
      rw [E.out]
      exact ⟨none, 0, rfl, Oi.nil _ _, t2⟩
  · have HT0 := Lib.hid (fun W (hb : Below w.heap.size w W) => rbS_q (c := c) (h.below hb) hr)
    have E := Lib.hid (@trR_no ps es (.inl hr))
    clear h h2 hr
    go_enter Try.func21, Try.ntmps21
    go_wp2_with (go_at_call 71; refine (HT0.out _ (Below.refl _ _)).mono ?_; rintro e w1 ⟨rfl, b1⟩)
    go_ret2
    rw [E.out]
    exact ⟨none, 0, rfl, Oi.nil _ _, b1⟩
end Go.Proofs.Ytjcklmhgjdmjoaa
