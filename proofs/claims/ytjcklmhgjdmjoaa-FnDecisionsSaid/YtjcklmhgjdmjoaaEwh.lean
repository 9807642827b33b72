/- EventsWith, both sides: impl's closure over a decision, spec's loop. (by gen_ewh.py) -/
import Derived.Test.YtjcklmhgjdmjoaaDci
import Derived.Test.YtjcklmhgjdmjoaaClk
import Derived.Test.YtjcklmhgjdmjoaaClb
import Derived.Test.YtjcklmhgjdmjoaaEvw
import Derived.Test.YtjcklmhgjdmjoaaInts
import Derived.Test.YtjcklmhgjdmjoaaDif
namespace Go.Proofs.Ytjcklmhgjdmjoaa
open Go.ChangeShapes Go.WideShapes Go.ChangeAt Go.RowKit
set_option linter.unusedVariables false

def ewR (ps : List Cls) (es : List Evt) (n : Int) : List Int × Int := if rbB ps = true ∧ logB es = true then (if inr n 0 2 = true then (ixs (fun e => resC ps e == n) es, 0) else ([], 2)) else ([], 1)
theorem ewR_no {ps : List Cls} {es : List Evt} {n : Int} (h : rbB ps = false ∨ logB es = false) : ewR ps es n = ([], 1) := by
  unfold ewR; rw [if_neg]; rintro ⟨h1, h2⟩; rcases h with h | h <;> simp_all
theorem ewR_range {ps : List Cls} {es : List Evt} {n : Int} (h : rbB ps = true) (h1 : logB es = true) (h2 : inr n 0 2 = false) : ewR ps es n = ([], 2) := by unfold ewR; rw [if_pos ⟨h, h1⟩, if_neg (by rw [h2]; decide)]
theorem ewR_ok {ps : List Cls} {es : List Evt} {n : Int} (h : rbB ps = true) (h1 : logB es = true) (h2 : inr n 0 2 = true) : ewR ps es n = (ixs (fun e => resC ps e == n) es, 0) := by unfold ewR; rw [if_pos ⟨h, h1⟩, if_pos h2]
theorem ewR_len (ps : List Cls) (es : List Evt) (n : Int) : (ewR ps es n).1.length ≤ es.length := by
  unfold ewR
  split
  · split
    · exact ixs_len _ _
    · simp
  · simp
set_option maxRecDepth 100000 in
set_option maxHeartbeats 4000000 in
theorem clo_res (p : Evt) (A : Option Addr) (c : Nat) (ps : List Cls) (n : Int) (g0 g1 : Nat) (w : World) (h : CTbl w A ps) (hrb : RB ps) (hc : ps.length ≤ c)
    (hc0 : w.cell? ⟨g0, 0, none⟩ = some (.slice A ps.length c)) (hg0 : g0 < w.heap.size) (hc1 : w.cell? ⟨g1, 0, none⟩ = some (.int .i64 n)) (hg1 : g1 < w.heap.size) :
    Calls Try.prog 83 #[.agg #[.int .i64 p.d, .int .i64 p.k, .string ⟨p.c.toArray⟩, .int .i64 p.a, .bool p.p, .bool p.v, .bool p.r], .pointer (some ⟨g0, 0, none⟩), .pointer (some ⟨g1, 0, none⟩)] w (Gives w (.bool (resC ps p == n))) := by
  have hfd : ∀ (a b : Value) (w : World), (Instr.field 31 (.agg #[a, b]) 0).run Try.prog w = .ok a w := fun _ _ _ => rfl
  have ke := (KeepE.new w p).drew
  have d0 := (ke.bel.cell (p := ⟨g0, 0, none⟩) hg0).trans hc0
  have D1 := Lib.hid (fun W (b : Below w.heap.size w W) => (b.cell (p := ⟨g1, 0, none⟩) hg1).trans hc1)
  have d1 := D1.out _ ke.bel
  have HT := Lib.hid (decide_i A c ps p _ (h.below ke.bel) hrb hc)
  have HB := Lib.hid ke.bel
  have c0 := ke.cells.c0; have c1 := ke.cells.c1; have c2 := ke.cells.c2; have c3 := ke.cells.c3; have c4 := ke.cells.c4; have c5 := ke.cells.c5; have c6 := ke.cells.c6
  clear h hrb ke hc0 hc1
  have hy : (decE ps p).y = resC ps p := rfl
  generalize decE ps p = x at *
  rw [← hy]
  clear hy
  go_enter Try.func83, Try.ntmps83
  go_wp2_with fail
  go_region_with (go_at_call 70; refine HT.out.mono ?_; rintro e w1 ⟨B, d, rfl, o1, b1⟩; have t1 := belowGo HB.out b1; have d1' := D1.out _ t1)
  all_goals
    go_wp2_with fail
    go_ret
    exact ⟨rfl, t1⟩
set_option maxRecDepth 100000 in
set_option maxHeartbeats 2000000 in
theorem where_res (A : Option Addr) (c : Nat) (ps : List Evt) (f : Evt → Bool) (g0 g1 : Nat) (w : World) (hR : EvtR w A ps) (hn : ps.length ≤ 1048590) (HCL : Hid (∀ (p : Evt) W, Below w.heap.size w W → Calls Try.prog 83 #[.agg #[.int .i64 p.d, .int .i64 p.k, .string ⟨p.c.toArray⟩, .int .i64 p.a, .bool p.p, .bool p.v, .bool p.r], .pointer (some ⟨g0, 0, none⟩), .pointer (some ⟨g1, 0, none⟩)] W (Gives W (.bool (f p))))) :
    Calls Try.prog 82 #[.slice A ps.length c, .func (.func 83) #[] #[.pointer (some ⟨g0, 0, none⟩), .pointer (some ⟨g1, 0, none⟩)]] w fun e w' => ∃ O d, e = .returned (.slice O (ixs f ps).length d) ∧ Oi w' w.heap.size O (ixs f ps).length d (ixs f ps) ∧ Below w.heap.size w w' := by
  obtain ⟨i0, hi, hz0, hz1, hz2⟩ := info_parts intInfo
  go_enter Try.func82, Try.ntmps82
  go_wp2_with fail
  go_loopw [5, 11] (fun o i wr => ∃ (k : Nat) (ys : List Int), k ≤ ps.length ∧ i = .int .i64 k ∧ wr.ownsRow w.heap.size 2 1 o ys.length (ys.map (Value.int .i64)) ∧ Hid (ys = ixs f (ps.take k)) ∧ Below w.heap.size w wr) (fun _ i _ => ps.length - (intOf i).toNat)
  case atStart => exact ⟨0, [], Nat.zero_le _, rfl, made0e _ _ _ _ (Nat.le_refl _), Lib.hid rfl, (Below.refl _ _).alloc (Nat.le_refl _) _⟩
  case round =>
    obtain ⟨k, ys, hk, rfl, hown, hys, hb⟩ := hrel
    obtain ⟨O, q, rfl⟩ := own_form hown
    have hyl : ys.length ≤ k := by rw [hys.out]; have := ixs_len f (ps.take k); rw [List.length_take] at this; omega
    by_cases hlt : k < ps.length
    · obtain ⟨b, off, p, rfl, hl, hp, h4⟩ := (hR.below hb).at hlt
      have c0 := h4.c0; have c1 := h4.c1; have c2 := h4.c2; have c3 := h4.c3; have c4 := h4.c4; have c5 := h4.c5; have c6 := h4.c6
      have kn := KeepE.new wr p
      have HS := Lib.hid (ixs_next f hp.out)
      rw [← hys.out] at HS
      have HC := Lib.hid (HCL.out p (wr.alloc (.cells #[.int .i64 p.d, .int .i64 p.k, .string ⟨p.c.toArray⟩, .int .i64 p.a, .bool p.p, .bool p.v, .bool p.r] 26)) (belowGo hb kn.bel))
      have HO := Lib.hid (own_below hown kn.bel)
      have HB := Lib.hid (belowGo hb kn.bel)
      clear hR h4 hp hys hown kn
      rcases Bool.eq_false_or_eq_true (f p) with he | he
      · have HS2 : Hid (ys ++ [(k : Int)] = ixs f (ps.take (k + 1))) := Lib.hid (by rw [HS.out, if_pos he])
        rw [he] at HC
        clear HS he
        go_wp2_with fail
        refine HC.out.mono ?_
        rintro e w1 ⟨rfl, b1⟩
        have hown2 := own_below HO.out b1
        have hb2 := HB.out.trans (b1.mono HB.out.size)
        have hsz := hb2.size
        clear HC HO
        go_wp2_with (at_builtin; refine wpList_push _ rfl (.tmp 19) (.tmp 21) 40 rfl w.heap.size 2 i0 _ 1 8 Try.underlying40 hi hz0 hz1 hz2 rfl (by decide) _ ys.length _ rfl hown2 [.int .i64 (k : Int)] rfl (by simp [Value.oneCell']) rfl (by unfold maxLen; omega) (by omega) hsz ?_; intro v' w' hown' hb')
        go_roundw
        case rel => exact ⟨k + 1, ys ++ [(k : Int)], by omega, by go_num, by simpa using hown', HS2, hb2.trans hb'⟩
        case measure => simp [intOf]; omega
      · have HS2 : Hid (ys = ixs f (ps.take (k + 1))) := Lib.hid (by rw [HS.out, if_neg (by rw [he]; decide), List.append_nil])
        rw [he] at HC
        clear HS he
        go_wp2_with fail
        refine HC.out.mono ?_
        rintro e w1 ⟨rfl, b1⟩
        have hown2 := own_below HO.out b1
        have hb2 := HB.out.trans (b1.mono HB.out.size)
        clear HC HO
        go_wp2_with fail
        go_roundw
        case rel => exact ⟨k + 1, ys, by omega, by go_num, hown2, HS2, hb2⟩
        case measure => simp [intOf]; omega
    · have HY : Hid (ixs f ps = ys) := Lib.hid (by rw [hys.out, take_all hk hlt])
      clear hys hR
      go_wp2_with fail
      go_ret
      rw [HY.out]
      exact ⟨O, q, rfl, hown, hb⟩

theorem final_q {n : Int} {b : Bool} (h : inr n 0 2 = b) (w : World) : Calls Try.prog 81 #[.int .i64 n] w fun e w' => e = .returned (.bool b) ∧ w = w' := by
  go_enter Try.func81, Try.ntmps81
  go_wp2_with (go_at_call 113; refine (within_q h _).mono ?_; rintro e w' ⟨rfl, rfl⟩)
  go_ret
  exact ⟨rfl, rfl⟩
/-- The list's box, the result's box. -/
structure KW2 (w : World) (A : Option Addr) (n c : Nat) (x : Int) (W : World) : Prop where
  a : W.heap[w.heap.size]? = some (.cells #[.slice A n c] 24 (0, 0))
  b : W.heap[w.heap.size + 1]? = some (.cells #[.int .i64 x] 2 (0, 0))
  bel : Below w.heap.size w W
theorem KW2.step {w W W' : World} {A : Option Addr} {n c : Nat} {x : Int} (k : KW2 w A n c x W) (h : Below W.heap.size W W') : KW2 w A n c x W' := ⟨(h.block _ (lt_some k.a)).trans k.a, (h.block _ (lt_some k.b)).trans k.b, belowGo k.bel h⟩
theorem KW2.c0 {w W : World} {A : Option Addr} {n c : Nat} {x : Int} (k : KW2 w A n c x W) : W.cell? ⟨w.heap.size, 0, none⟩ = some (.slice A n c) := by rw [cell_of_row _ _ _ _ _ _ k.a]; rfl
theorem KW2.c1 {w W : World} {A : Option Addr} {n c : Nat} {x : Int} (k : KW2 w A n c x W) : W.cell? ⟨w.heap.size + 1, 0, none⟩ = some (.int .i64 x) := by rw [cell_of_row _ _ _ _ _ _ k.b]; rfl
theorem KW2.new (w : World) (A : Option Addr) (n c : Nat) (x : Int) : KW2 w A n c x ((w.alloc (.cells #[.slice A n c] 24)).alloc (.cells #[.int .i64 x] 2)) := by
  have h1 := heap_alloc_new w (.cells #[.slice A n c] 24)
  have h2 := heap_alloc_new (w.alloc (.cells #[.slice A n c] 24)) (.cells #[.int .i64 x] 2)
  have b2 := below_alloc (w.alloc (.cells #[.slice A n c] 24)) (.cells #[.int .i64 x] 2)
  rw [show (w.alloc (.cells #[.slice A n c] 24)).heap.size = w.heap.size + 1 by simp] at h2
  exact ⟨(b2.block _ (lt_some h1)).trans h1, h2, belowGo (below_alloc _ _) b2⟩
set_option maxRecDepth 100000 in
set_option maxHeartbeats 8000000 in
theorem ew_i (A : Option Addr) (c : Nat) (ps : List Cls) (B : Option Addr) (d : Nat) (es : List Evt) (n : Int) (w : World) (h : CTblC w A c ps) (h2 : ETbl w B es) :
    Calls Try.prog 27 #[.slice A ps.length c, .slice B es.length d, .int .i64 n] w (NewIntsC w (ewR ps es n)) := by
  have hcap := h.cap
  replace h := h.tbl
  have k0 := KW2.new w A ps.length c n
  have k0x0 := k0.c0; have k0x1 := k0.c1
  have hn := h.len
  rcases Bool.eq_false_or_eq_true (rbB ps) with hr | hr
  · have HT := Lib.hid (fun W (hb : Below w.heap.size w W) => rbI_q (c := c) (h.below hb) hr)
    rcases Bool.eq_false_or_eq_true (logB es) with h1 | h1
    · have HL := Lib.hid (fun W (hb : Below w.heap.size w W) => logI_q (c := d) (h2.below hb) h1)
      rcases Bool.eq_false_or_eq_true (inr n 0 2) with h3 | h3
      · have E := Lib.hid (ewR_ok hr h1 h3)
        have HN := Lib.hid h3
        have HW := Lib.hid (fun W (k : KW2 w A ps.length c n W) => where_res B d es (fun e => resC ps e == n) w.heap.size (w.heap.size + 1) W (h2.row.below k.bel) h2.len (Lib.hid (fun p W2 b => clo_res p A c ps n w.heap.size (w.heap.size + 1) W2 (h.below (belowGo k.bel b)) (rb_of hr) hcap ((b.cell (p := ⟨w.heap.size, 0, none⟩) (lt_some k.a)).trans k.c0) (Nat.lt_of_lt_of_le (lt_some k.a) b.size) ((b.cell (p := ⟨w.heap.size + 1, 0, none⟩) (lt_some k.b)).trans k.c1) (Nat.lt_of_lt_of_le (lt_some k.b) b.size))))
        clear h h2 hr h1 h3
        go_enter Try.func27, Try.ntmps27
        go_wp2_with (first
          | (go_at_call 68; refine (HT.out _ k0.bel).mono ?_; rintro e w1 ⟨rfl, b1⟩; have k1 := k0.step b1; have k1x0 := k1.c0; have k1x1 := k1.c1)
          | (go_at_call 75; refine (HL.out _ k1.bel).mono ?_; rintro e w2 ⟨rfl, b2⟩; have k2 := k1.step b2; have k2x0 := k2.c0; have k2x1 := k2.c1)
          | (go_at_call 81; refine (final_q HN.out _).mono ?_; rintro e w' ⟨rfl, rfl⟩)
          | (go_at_call 82; refine (HW.out _ k2).mono ?_; rintro e w3 ⟨O, q, rfl, o3, b3⟩))
        go_ret2
        rw [E.out]
        exact ⟨O, q, rfl, own_monoE o3 (k2.bel).size, belowGo (k2.bel) b3⟩
      · have E := Lib.hid (ewR_range hr h1 h3)
        have HN := Lib.hid h3
        clear h h2 hr h1 h3
        go_enter Try.func27, Try.ntmps27
        go_wp2_with (first
          | (go_at_call 68; refine (HT.out _ k0.bel).mono ?_; rintro e w1 ⟨rfl, b1⟩; have k1 := k0.step b1; have k1x0 := k1.c0; have k1x1 := k1.c1)
          | (go_at_call 75; refine (HL.out _ k1.bel).mono ?_; rintro e w2 ⟨rfl, b2⟩; have k2 := k1.step b2; have k2x0 := k2.c0; have k2x1 := k2.c1)
          | (go_at_call 81; refine (final_q HN.out _).mono ?_; rintro e w' ⟨rfl, rfl⟩))
        go_ret2
        rw [E.out]
        exact ⟨none, 0, rfl, World.ownsRow_nil _ _ _ _, k2.bel⟩
    · have HL := Lib.hid (fun W (hb : Below w.heap.size w W) => logI_q (c := d) (h2.below hb) h1)
      have E := Lib.hid (@ewR_no ps es n (.inr h1))
      clear h h2 hr h1
      go_enter Try.func27, Try.ntmps27
      go_wp2_with (first
        | (go_at_call 68; refine (HT.out _ k0.bel).mono ?_; rintro e w1 ⟨rfl, b1⟩; have k1 := k0.step b1; have k1x0 := k1.c0; have k1x1 := k1.c1)
        | (go_at_call 75; refine (HL.out _ k1.bel).mono ?_; rintro e w2 ⟨rfl, b2⟩; have k2 := k1.step b2; have k2x0 := k2.c0; have k2x1 := k2.c1))
      go_ret2
      rw [E.out]
      exact ⟨none, 0, rfl, World.ownsRow_nil _ _ _ _, k2.bel⟩
  · have HT := Lib.hid (fun W (hb : Below w.heap.size w W) => rbI_q (c := c) (h.below hb) hr)
    have E := Lib.hid (@ewR_no ps es n (.inl hr))
    clear h h2 hr
    go_enter Try.func27, Try.ntmps27
    go_wp2_with (first
      | (go_at_call 68; refine (HT.out _ k0.bel).mono ?_; rintro e w1 ⟨rfl, b1⟩; have k1 := k0.step b1; have k1x0 := k1.c0; have k1x1 := k1.c1))
    go_ret2
    rw [E.out]
    exact ⟨none, 0, rfl, World.ownsRow_nil _ _ _ _, k1.bel⟩
set_option maxRecDepth 100000 in
set_option maxHeartbeats 4000000 in
theorem with_s (A : Option Addr) (c : Nat) (ps : List Cls) (B : Option Addr) (d : Nat) (es : List Evt) (n : Int) (w : World) (h : CTbl w A ps) (hrb : RB ps) (h2 : EvtR w B es) (hn : es.length ≤ 1048590) :
    Calls Try.prog 85 #[.slice A ps.length c, .slice B es.length d, .int .i64 n] w (fun e w' => ∃ O q, e = .returned (.slice O (ixs (fun e => resC ps e == n) es).length q) ∧ Oi w' w.heap.size O (ixs (fun e => resC ps e == n) es).length q (ixs (fun e => resC ps e == n) es) ∧ Below w.heap.size w w') := by
  obtain ⟨i0, hi, hz0, hz1, hz2⟩ := info_parts intInfo
  have HD := Lib.hid (fun p W (b : Below w.heap.size w W) => res_s A c ps p W (h.below b) hrb)
  clear h hrb
  obtain ⟨f, hf⟩ : ∃ f, f = (fun e => resC ps e == n) := ⟨_, rfl⟩
  rw [← hf]
  have HF := Lib.hid (fun e => congrFun hf e)
  clear hf
  go_enter Try.func85, Try.ntmps85
  go_wp2_with fail
  go_loopw [7, 8] (fun o i wr => ∃ (k : Nat) (ys : List Int), k ≤ es.length ∧ i = .int .i64 k ∧ wr.ownsRow w.heap.size 2 1 o ys.length (ys.map (Value.int .i64)) ∧ Hid (ys = ixs f (es.take k)) ∧ Below w.heap.size w wr) (fun _ i _ => es.length - (intOf i).toNat)
  case atStart => exact ⟨0, [], Nat.zero_le _, rfl, made0e _ _ _ _ (Nat.le_refl _), Lib.hid rfl, (Below.refl _ _).alloc (Nat.le_refl _) _⟩
  case round =>
    obtain ⟨k, ys, hk, rfl, hown, hys, hb⟩ := hrel
    obtain ⟨O, q, rfl⟩ := own_form hown
    have hyl : ys.length ≤ k := by rw [hys.out]; have := ixs_len f (es.take k); rw [List.length_take] at this; omega
    by_cases hlt : k < es.length
    · obtain ⟨b, off, p, rfl, hl, hp, h4⟩ := (h2.below hb).at hlt
      have c0 := h4.c0; have c1 := h4.c1; have c2 := h4.c2; have c3 := h4.c3; have c4 := h4.c4; have c5 := h4.c5; have c6 := h4.c6
      have HS := Lib.hid (ixs_next f hp.out)
      rw [← hys.out] at HS
      have HC := Lib.hid (HD.out p wr hb)
      have HO := Lib.hid hown
      have HBB := Lib.hid hb
      have hfp := HF.out p
      obtain ⟨r, hr⟩ : ∃ r, r = resC ps p := ⟨_, rfl⟩
      rw [← hr] at HC hfp
      clear h2 h4 hp hys hown hr hb
      obtain ⟨v, hv⟩ : ∃ v, (r == n) = v := ⟨_, rfl⟩
      rw [hv] at hfp
      cases v
      · have HS2 : Hid (ys = ixs f (es.take (k + 1))) := Lib.hid (by rw [HS.out, if_neg (by rw [hfp]; decide), List.append_nil])
        clear HS hfp
        go_wp2_with (go_at_call 77; refine HC.out.mono ?_; rintro e w1 ⟨rfl, b1⟩; have hown2 := own_below HO.out b1; have hb2 := belowGo HBB.out b1)
        go_roundw
        case rel => exact ⟨k + 1, ys, by omega, by go_num, hown2, HS2, hb2⟩
        case measure => simp [intOf]; omega
      · have HS2 : Hid (ys ++ [(k : Int)] = ixs f (es.take (k + 1))) := Lib.hid (by rw [HS.out, if_pos hfp])
        clear HS hfp
        go_wp2_with (first
          | (go_at_call 77; refine HC.out.mono ?_; rintro e w1 ⟨rfl, b1⟩; have hown2 := own_below HO.out b1; have hb2 := belowGo HBB.out b1; have hsz := hb2.size)
          | (at_builtin; refine wpList_push _ rfl (.tmp 24) (.tmp 26) 40 rfl w.heap.size 2 i0 _ 1 8 Try.underlying40 hi hz0 hz1 hz2 rfl (by decide) _ ys.length _ rfl hown2 [.int .i64 (k : Int)] rfl (by simp [Value.oneCell']) rfl (by unfold maxLen; omega) (by omega) hsz ?_; intro v' w' hown' hb'))
        go_roundw
        case rel => exact ⟨k + 1, ys ++ [(k : Int)], by omega, by go_num, by simpa using hown', HS2, hb2.trans hb'⟩
        case measure => simp [intOf]; omega
    · have HY : Hid (ixs f es = ys) := Lib.hid (by rw [hys.out, take_all hk hlt])
      clear hys h2
      go_wp2_with fail
      go_ret
      rw [HY.out]
      exact ⟨O, q, rfl, hown, hb⟩
set_option maxRecDepth 100000 in
set_option maxHeartbeats 8000000 in
theorem ew_s (A : Option Addr) (c : Nat) (ps : List Cls) (B : Option Addr) (d : Nat) (es : List Evt) (n : Int) (w : World) (h : CTbl w A ps) (h2 : ETbl w B es) :
    Calls Try.prog 28 #[.slice A ps.length c, .slice B es.length d, .int .i64 n] w (NewIntsC w (ewR ps es n)) := by
  have hn := h.len
  rcases Bool.eq_false_or_eq_true (rbB ps) with hr | hr
  · have HT := Lib.hid (fun W (hb : Below w.heap.size w W) => rbS_q (c := c) (h.below hb) hr)
    rcases Bool.eq_false_or_eq_true (logB es) with h1 | h1
    · have HL := Lib.hid (fun W (hb : Below w.heap.size w W) => logS_q (c := d) (h2.below hb) h1)
      rcases Bool.eq_false_or_eq_true (inr n 0 2) with h3 | h3
      · have E := Lib.hid (ewR_ok hr h1 h3)
        have HN := Lib.hid h3
        have HW := Lib.hid (fun W (b : Below w.heap.size w W) => with_s A c ps B d es n W (h.below b) (rb_of hr) (h2.row.below b) h2.len)
        clear h h2 hr h1 h3
        go_enter Try.func28, Try.ntmps28
        go_wp2_with (first
          | (go_at_call 71; refine (HT.out _ (Below.refl _ _)).mono ?_; rintro e w1 ⟨rfl, b1⟩)
          | (go_at_call 76; refine (HL.out _ b1).mono ?_; rintro e w2 ⟨rfl, b2⟩; have t2 := belowGo b1 b2)
          | (go_at_call 84; refine (innC_q HN.out _).mono ?_; rintro e w' ⟨rfl, rfl⟩)
          | (go_at_call 85; refine (HW.out _ t2).mono ?_; rintro e w3 ⟨O, q, rfl, o3, b3⟩))
        go_ret2
        rw [E.out]
        exact ⟨O, q, rfl, own_monoE o3 (t2).size, belowGo (t2) b3⟩
      · have E := Lib.hid (ewR_range hr h1 h3)
        have HN := Lib.hid h3
        clear h h2 hr h1 h3
        go_enter Try.func28, Try.ntmps28
        go_wp2_with (first
          | (go_at_call 71; refine (HT.out _ (Below.refl _ _)).mono ?_; rintro e w1 ⟨rfl, b1⟩)
          | (go_at_call 76; refine (HL.out _ b1).mono ?_; rintro e w2 ⟨rfl, b2⟩; have t2 := belowGo b1 b2)
          | (go_at_call 84; refine (innC_q HN.out _).mono ?_; rintro e w' ⟨rfl, rfl⟩))
        go_ret2
        rw [E.out]
        exact ⟨none, 0, rfl, World.ownsRow_nil _ _ _ _, t2⟩
    · have HL := Lib.hid (fun W (hb : Below w.heap.size w W) => logS_q (c := d) (h2.below hb) h1)
      have E := Lib.hid (@ewR_no ps es n (.inr h1))
      clear h h2 hr h1
      go_enter Try.func28, Try.ntmps28
      go_wp2_with (first
        | (go_at_call 71; refine (HT.out _ (Below.refl _ _)).mono ?_; rintro e w1 ⟨rfl, b1⟩)
        | (go_at_call 76; refine (HL.out _ b1).mono ?_; rintro e w2 ⟨rfl, b2⟩; have t2 := belowGo b1 b2))
      go_ret2
      rw [E.out]
      exact ⟨none, 0, rfl, World.ownsRow_nil _ _ _ _, t2⟩
  · have HT := Lib.hid (fun W (hb : Below w.heap.size w W) => rbS_q (c := c) (h.below hb) hr)
    have E := Lib.hid (@ewR_no ps es n (.inl hr))
    clear h h2 hr
    go_enter Try.func28, Try.ntmps28
    go_wp2_with (first
      | (go_at_call 71; refine (HT.out _ (Below.refl _ _)).mono ?_; rintro e w1 ⟨rfl, b1⟩))
    go_ret2
    rw [E.out]
    exact ⟨none, 0, rfl, World.ownsRow_nil _ _ _ _, b1⟩
end Go.Proofs.Ytjcklmhgjdmjoaa
