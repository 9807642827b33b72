/- CurrenciesOf. -/
import Derived.Test.YtmeglhmlhdaacaaDwl
import Derived.Test.YtmeglhmlhdaacaaStrs
import Derived.Test.YtmeglhmlhdaacaaShelf
namespace Go.Proofs.Ytmeglhmlhdaacaa
open Go.ChangeShapes Go.WideShapes Go.ChangeAt Go.RowKit
set_option linter.unusedVariables false

def codesOf (rs : List Rt) : List (List UInt8) := rs.map Rt.c
def curR (rs : List Rt) : List (List UInt8) × Int := if tabB rs = true then (Lib.compact (codesOf rs), 0) else ([], 1)
theorem curR_no {rs : List Rt} (h : tabB rs = false) : curR rs = ([], 1) := by simp [curR, h]
theorem curR_ok {rs : List Rt} (h : tabB rs = true) : curR rs = (Lib.compact (codesOf rs), 0) := by simp [curR, h]
theorem compact_le (d : Array (List UInt8)) (m : Nat) : (Lib.compactUpTo d m).length ≤ m := by
  unfold Lib.compactUpTo; rw [List.length_map]; have := List.length_filter_le (Lib.keeps d) (List.range m); simpa using this
theorem codes_at {rs : List Rt} {k : Nat} {r : Rt} (h : rs[k]? = some r) : (codesOf rs).toArray[k]! = r.c := by
  have hk := (List.getElem?_eq_some_iff.1 h).1
  have h2 : (codesOf rs)[k]? = some r.c := by unfold codesOf; rw [List.getElem?_map, h]; rfl
  have hk2 : k < (codesOf rs).length := by unfold codesOf; simpa using hk
  rw [List.getElem?_eq_getElem hk2] at h2
  have := Option.some.inj h2
  simp [hk2, this]
theorem keeps_0 (d : Array (List UInt8)) : Lib.keeps d 0 = true := by simp [Lib.keeps]
theorem keeps_s {rs : List Rt} {k : Nat} {q r : Rt} (hk : 0 < k) (h : rs[k]? = some r) (hq : rs[k - 1]? = some q) : Lib.keeps (codesOf rs).toArray k = !(r.c == q.c) := by
  unfold Lib.keeps
  rw [codes_at h, codes_at hq]
  rcases Bool.eq_false_or_eq_true (r.c == q.c) with e | e
  · have e2 : r.c = q.c := by simpa using e
    rw [e]; simp [e2]; omega
  · have e2 : ¬ r.c = q.c := by simpa using e
    rw [e]; simp [e2]

set_option maxRecDepth 100000 in
set_option maxHeartbeats 2000000 in
theorem cur_s (A : Option Addr) (d : Nat) (rs : List Rt) (w : World) (h : Tbl w A rs) :
    Calls Try.prog 46 #[.slice A rs.length d] w (NewStrsC w (curR rs)) := by
  obtain ⟨i0, hi, hz0, hz1, hz2⟩ := info_parts strInfo
  rcases Bool.eq_false_or_eq_true (tabB rs) with ht | ht
  · have HT := Lib.hid (tabS_q (c := d) h ht)
    have E := Lib.hid (curR_ok ht)
    have hn := h.len
    clear ht
    go_enter Try.func46, Try.ntmps46
    go_wp2_with (first | (go_at_call 55; refine HT.out.mono ?_; rintro e w1 ⟨rfl, b1⟩))
    go_loopw [4, 5] (fun o i wr => ∃ (k : Nat) (ys : List (List UInt8)), k ≤ rs.length ∧ i = .int .i64 k ∧ wr.ownsRow w.heap.size 9 1 o ys.length (ys.map encStr) ∧ Hid (ys = Lib.compactUpTo (codesOf rs).toArray k) ∧ Below w.heap.size w wr) (fun _ i _ => rs.length - (intOf i).toNat)
    case atStart => exact ⟨0, [], Nat.zero_le _, rfl, made0 _ _ _ _ b1.size, Lib.hid rfl, b1.alloc b1.size _⟩
    case round =>
      obtain ⟨k, ys, hk, rfl, hown, hys, hb⟩ := hrel
      obtain ⟨O, q, rfl⟩ := own_form hown
      have hyl : ys.length ≤ k := by rw [hys.out]; exact compact_le _ _
      by_cases hlt : k < rs.length
      · obtain ⟨b, off, r, rfl, hl, hr, h4⟩ := (h.row.below hb).four hlt
        have c0 := h4.c0
        have HS := Lib.hid (Lib.compactUpTo_succ (codesOf rs).toArray k)
        rw [← hys.out, codes_at hr.out] at HS
        by_cases hk0 : 0 < k
        · obtain ⟨b', off', qr, e2, hl', hq, h4'⟩ := (h.row.below hb).four (k := k - 1) (by omega)
          obtain ⟨rfl, rfl⟩ : b = b' ∧ off = off' := by injection e2 with e2; injection e2 with e3 e4; exact ⟨e3, e4⟩
          have p0 := h4'.c0
          rw [keeps_s hk0 hr.out hq.out] at HS
          have hkz : ((k : Int) == 0) = false := by rw [beq_eq_false_iff_ne]; omega
          clear h h4 hr hys h4' hq e2
          rcases Bool.eq_false_or_eq_true (r.c == qr.c) with he | he
          · have HS2 : Hid (ys = Lib.compactUpTo (codesOf rs).toArray (k + 1)) := Lib.hid (by rw [HS.out, he]; simp)
            have he2 : (r.c != qr.c) = false := by simpa using he
            clear HS
            go_wp2_with fail
            go_quiet (fail)
            go_wp2_with fail
            go_roundw
            case rel => exact ⟨k + 1, ys, by omega, by go_num, hown, HS2, belowGo hb (below_drewN _ _)⟩
            case measure => simp [intOf]; omega
          · have HS2 : Hid (ys ++ [r.c] = Lib.compactUpTo (codesOf rs).toArray (k + 1)) := Lib.hid (by rw [HS.out, he]; simp)
            have he2 : (r.c != qr.c) = true := by simpa using he
            clear HS
            have hdr : ∀ n, (wr.drewN n).ownsRow w.heap.size 9 1 (.slice O ys.length q) ys.length (ys.map encStr) := fun _ => hown
            have hbd : ∀ n, Below w.heap.size w (wr.drewN n) := fun n => belowGo hb (below_drewN _ _)
            have HB := Lib.hid hbd
            have HW := Lib.hid hdr
            clear hown hbd hdr
            go_wp2_with fail
            go_quiet (fail)
            go_wp2_with (at_builtin; refine wpList_push _ rfl (.tmp 32) (.tmp 38) 58 rfl w.heap.size 9 i0 _ 1 16 Try.underlying58 hi hz0 hz1 hz2 rfl (by decide) _ ys.length _ rfl (HW.out _) [.string ⟨r.c.toArray⟩] rfl (by simp [Value.oneCell']) rfl (by unfold maxLen; omega) (by omega) (HB.out _).size ?_; intro v' w' hown' hb')
            go_roundw
            case rel => exact ⟨k + 1, ys ++ [r.c], by omega, by go_num, by simpa using hown', HS2, (HB.out _).trans hb'⟩
            case measure => simp [intOf]; omega
        · have hkz : ((k : Int) == 0) = true := by rw [beq_iff_eq]; omega
          have HS2 : Hid (ys ++ [r.c] = Lib.compactUpTo (codesOf rs).toArray (k + 1)) := Lib.hid (by rw [HS.out, show k = 0 by omega, keeps_0]; rfl)
          clear h h4 hr hys HS
          have hdr : ∀ n, (wr.drewN n).ownsRow w.heap.size 9 1 (.slice O ys.length q) ys.length (ys.map encStr) := fun _ => hown
          have hbd : ∀ n, Below w.heap.size w (wr.drewN n) := fun n => belowGo hb (below_drewN _ _)
          have HB := Lib.hid hbd
          have HW := Lib.hid hdr
          clear hown hbd hdr
          go_wp2_with fail
          go_quiet (fail)
          go_wp2_with (at_builtin; refine wpList_push _ rfl (.tmp 32) (.tmp 38) 58 rfl w.heap.size 9 i0 _ 1 16 Try.underlying58 hi hz0 hz1 hz2 rfl (by decide) _ ys.length _ rfl (HW.out _) [.string ⟨r.c.toArray⟩] rfl (by simp [Value.oneCell']) rfl (by unfold maxLen; omega) (by omega) (HB.out _).size ?_; intro v' w' hown' hb')
          go_roundw
          case rel => exact ⟨k + 1, ys ++ [r.c], by omega, by go_num, by simpa using hown', HS2, (HB.out _).trans hb'⟩
          case measure => simp [intOf]; omega
      · have HY : Hid (ys = Lib.compact (codesOf rs)) := Lib.hid (by
          rw [hys.out, Lib.compact, show (codesOf rs).length = rs.length by simp [codesOf], show k = rs.length by omega])
        clear hys h
        go_wp2_with fail
        go_ret2
        rw [E.out, ← HY.out]
        exact ⟨O, q, rfl, hown, hb⟩
  · have HT := Lib.hid (tabS_q (c := d) h ht)
    have E := Lib.hid (curR_no ht)
    clear ht
    go_enter Try.func46, Try.ntmps46
    go_wp2_with (first | (go_at_call 55; refine HT.out.mono ?_; rintro e w1 ⟨rfl, b1⟩))
    go_ret2
    rw [E.out]
    exact ⟨none, 0, rfl, Ost.nil _ _, b1⟩

/-- slices.Compact on a row of the call's own. -/
theorem compact_i (O : Option Addr) (q : Nat) (ws : List (List UInt8)) (base : Nat) (w : World) (h : Ost w base O ws.length q ws) (hn : ws.length ≤ 1048576) :
    Calls Try.prog 97 #[.slice O ws.length q] w fun e w' => e = .returned (.slice O (Lib.compact ws).length q) ∧ Ost w' base O (Lib.compact ws).length q (Lib.compact ws) ∧ w.grownBy w' (Value.slice O ws.length q).ownBlock := by
  have hle : (Lib.compact ws).length ≤ ws.length := compact_le _ _
  rcases h.2 with ⟨h1, h2⟩ | ⟨g, cap, cur, h1, h2, h3, h4, h5, h6, h7⟩
  · obtain rfl : ws = [] := List.eq_nil_of_length_eq_zero h2
    refine (Try.slices_Compact_string_empty O q w).mono ?_
    rintro e w' ⟨rfl, rfl⟩
    exact ⟨rfl, h, World.grownBy.refl _ _⟩
  · injection h1 with h1 _ h8
    subst h1 h8
    have hH : Go.Sort.Holds encStr w g 0 ws.toArray := holds_of_block h3 (by simpa using h7)
    refine (Try.slices_Compact_string g 0 q ws w hH (by omega) h4).mono ?_
    rintro e w' ⟨rfl, n, rfl⟩
    have hl : (Lib.compact ws ++ List.replicate (ws.length - (Lib.compact ws).length) []).length = ws.length := by simp; omega
    have h9 := ownsRow_sorted (n := n) (os := #[]) (base := base) hl h2 h3 h4 h5 h6
    have h10 := grownBy_sorted (w := w) (g := g) (n := n) (os := #[]) (Lib.compact ws ++ List.replicate (ws.length - (Lib.compact ws).length) []).toArray
    rw [Go.Sort.grow_empty] at h9 h10
    refine ⟨rfl, ?_, h10⟩
    have h11 := own_take h9 hle
    rwa [← List.map_take, List.take_left'] at h11
    rfl
set_option maxRecDepth 100000 in
set_option maxHeartbeats 2000000 in
theorem cur_i (A : Option Addr) (d : Nat) (rs : List Rt) (w : World) (h : Tbl w A rs) :
    Calls Try.prog 45 #[.slice A rs.length d] w (NewStrsC w (curR rs)) := by
  obtain ⟨i0, hi, hz0, hz1, hz2⟩ := info_parts strInfo
  rcases Bool.eq_false_or_eq_true (tabB rs) with ht | ht
  · have HT := Lib.hid (tabI_q (c := d) h ht)
    have E := Lib.hid (curR_ok ht)
    have hn := h.len
    clear ht
    go_enter Try.func45, Try.ntmps45
    go_wp2_with (first | (go_at_call 40; refine HT.out.mono ?_; rintro e w1 ⟨rfl, b1⟩))
    go_loopw [4, 13] (fun o i wr => ∃ (k : Nat) (ys : List (List UInt8)), k ≤ rs.length ∧ i = .int .i64 k ∧ wr.ownsRow w.heap.size 9 1 o ys.length (ys.map encStr) ∧ Hid (ys = codesOf (rs.take k)) ∧ Below w.heap.size w wr) (fun _ i _ => rs.length - (intOf i).toNat)
    case atStart => exact ⟨0, [], Nat.zero_le _, rfl, made0 _ _ _ _ b1.size, Lib.hid rfl, b1.alloc b1.size _⟩
    case round =>
      obtain ⟨k, ys, hk, rfl, hown, hys, hb⟩ := hrel
      obtain ⟨O, q, rfl⟩ := own_form hown
      have hyl : ys.length ≤ k := by rw [hys.out]; unfold codesOf; rw [List.length_map, List.length_take]; omega
      by_cases hlt : k < rs.length
      · obtain ⟨b, off, r, rfl, hl, hr, h4⟩ := (h.row.below hb).four hlt
        have c0 := h4.c0; have c1 := h4.c1; have c2 := h4.c2; have c3 := h4.c3
        have HS2 : Hid (ys ++ [r.c] = codesOf (rs.take (k + 1))) := Lib.hid (by rw [snoc_of hr.out, hys.out]; simp [codesOf])
        have hown2 := hown.alloc (.cells #[.string ⟨r.c.toArray⟩, .int .i64 r.day, .int .i64 r.num, .int .i64 r.den] 44)
        have hsz : w.heap.size ≤ (wr.alloc (.cells #[.string ⟨r.c.toArray⟩, .int .i64 r.day, .int .i64 r.num, .int .i64 r.den] 44)).heap.size := Nat.le_trans hb.size (by simp)
        have hsz := Lib.hid hsz
        have hzz : Hid (wr.heap.size + 1 = (wr.alloc (.cells #[.string ⟨r.c.toArray⟩, .int .i64 r.day, .int .i64 r.num, .int .i64 r.den] 44)).heap.size) := Lib.hid (by simp)
        clear h h4 hr hys hown
        go_wp2_with (at_builtin; refine wpList_push _ rfl (.tmp 17) (.tmp 20) 58 rfl w.heap.size 9 i0 _ 1 16 Try.underlying58 hi hz0 hz1 hz2 rfl (by decide) _ ys.length _ rfl hown2 [.string ⟨r.c.toArray⟩] rfl (by simp [Value.oneCell']) (congrArg (fun n => Value.slice (some ⟨n, 0, none⟩) 1 1) hzz.out) (by unfold maxLen; omega) (by omega) hsz.out ?_; intro v' w' hown' hb')
        go_roundw
        case rel => exact ⟨k + 1, ys ++ [r.c], by omega, by go_num, by simpa using hown', HS2, (hb.alloc hb.size _).trans hb'⟩
        case measure => simp [intOf]; omega
      · have HY : Hid (ys = codesOf rs) := Lib.hid (by rw [hys.out, take_all hk hlt])
        have HC := Lib.hid (compact_i O q ys w.heap.size wr hown (by omega))
        have HL := Lib.hid (fun k e => (hown.lt k e).1)
        clear hys h
        go_wp2_with (go_at_call 97; refine HC.out.mono ?_; rintro e w2 ⟨rfl, o2, g2⟩)
        go_ret2
        rw [E.out, ← HY.out]
        exact ⟨O, q, rfl, o2, hb.grown g2 hb.size HL.out⟩
  · have HT := Lib.hid (tabI_q (c := d) h ht)
    have E := Lib.hid (curR_no ht)
    clear ht
    go_enter Try.func45, Try.ntmps45
    go_wp2_with (first | (go_at_call 40; refine HT.out.mono ?_; rintro e w1 ⟨rfl, b1⟩))
    go_ret2
    rw [E.out]
    exact ⟨none, 0, rfl, Ost.nil _ _, b1⟩
theorem curR_len (rs : List Rt) : (curR rs).1.length ≤ rs.length := by
  unfold curR; split
  · have := compact_le (codesOf rs).toArray (codesOf rs).length
    simpa [codesOf, Lib.compact] using this
  · simp

set_option maxRecDepth 100000 in
set_option maxHeartbeats 4000000 in
theorem law_FnExactCurrenciesOf (A : Option Addr) (c : Nat) (rs : List Rt) (w : World) (hR : Rr w A rs) (hm : rs.length ≤ maxLen) (hw : ∀ r ∈ rs, r.wf) :
    Calls Try.prog 12 #[.slice A rs.length c] w fun e w' => e = .returned (.bool true) ∧ Below w.heap.size w w' := by
  have HZ := Lib.hid (szRateS_l A c rs 1048576 w hR (rok_of hw) hm (by omega) (by omega))
  have HO := Lib.hid (@szT_ok rs)
  generalize szT rs 1048576 = m at *
  go_enter Try.func12, Try.ntmps12
  go_wp2_with fail
  refine HZ.out.mono ?_
  rintro e w0 ⟨rfl, b0⟩
  by_cases hneg : m < 0
  · go_wp2_with fail
    go_ret
    exact ⟨rfl, b0⟩
  obtain ⟨hn, htx⟩ := HO.out (by omega)
  have hrl := curR_len rs
  have HI := Lib.hid (fun A d w h => cur_i A d rs w h)
  have HS := Lib.hid (fun A d w h => cur_s A d rs w h)
  generalize curR rs = r at hrl HI HS
  clear HO HZ hm hw
  go_wp2_with fail
  refine (toRateS_l A c rs _ (hR.below b0) hn).mono ?_
  rintro e w1 ⟨B1, c1, rfl, o1, b1⟩
  have t1 := belowGo b0 b1
  go_wp2_with fail
  refine (HS.out B1 c1 w1 ⟨o1.rr, htx, hn⟩).mono ?_
  rintro e w2 ⟨C2, c2, rfl, o2, b2⟩
  have t2 := belowGo t1 b2
  have bd2 := o2.bd
  go_wp2_with fail
  refine (toRateS_l A c rs _ (hR.below t2) hn).mono ?_
  rintro e w3 ⟨X3, c3, rfl, o3, b3⟩
  have t3 := belowGo t2 b3
  go_wp2_with fail
  refine (HI.out X3 c3 w3 ⟨o3.rr, htx, hn⟩).mono ?_
  rintro e w4 ⟨G4, c4, rfl, o4, b4⟩
  have t4 := belowGo t3 b4
  have bx4 := o3.bd
  have i4 := (o2.below b3).below b4
  have x4 := o3.below b4
  go_wp2_with fail
  refine (eqStringS_l G4 C2 _ _ c4 c2 r.1 w4 o4.sr i4.sr rfl rfl (by omega)).mono ?_
  rintro e w5 ⟨rfl, b5⟩
  have t5 := belowGo t4 b5
  go_wp2_with fail
  refine (toRateS_l A c rs _ (hR.below t5) hn).mono ?_
  rintro e w6 ⟨X6, c6, rfl, o6, b6⟩
  have t6 := belowGo t5 b6
  go_wp2_with fail
  refine (eqRateS_l X3 X6 c3 c6 rs w6 ((x4.below b5).below b6).rr o6.rr (by omega)).mono ?_
  rintro e w7 ⟨rfl, b7⟩
  have t7 := belowGo t6 b7
  go_wp2_with fail
  refine (markRateS_l X3 _ c3 1 rs _ w7 (((x4.below b5).below b6).below b7) hn (by omega) (by omega)).mono ?_
  rintro e w8 ⟨rfl, o8, g8⟩
  have x7 := ((x4.below b5).below b6).below b7
  have s23 : w2.heap.size ≤ w3.heap.size := b3.size
  have s37 : w3.heap.size ≤ w7.heap.size := Nat.le_trans b4.size (Nat.le_trans b5.size (Nat.le_trans b6.size b7.size))
  have f8 : Below w2.heap.size w7 w8 := x7.far g8 (Nat.le_refl _) (by omega)
  have t8 : Below w.heap.size w w8 := Or.wrote t7 x7 g8 t2.size t7.size
  have g8' := (((o4.below b5).below b6).below b7).kept g8 bx4
  have i8 : Sr w8 C2 r.1 := (((i4.below b5).below b6).below b7).sr.keepB bd2 f8
  have hk : decide (((1 + 4 * rs.length : Nat) : Int) < 0) = false := by simp; omega
  clear o8 f8
  go_wp2_with fail
  refine (eqStringS_l G4 C2 _ _ c4 c2 r.1 w8 g8'.sr i8 rfl rfl (by omega)).mono ?_
  rintro e w9 ⟨rfl, b9⟩
  have t9 := belowGo t8 b9
  have g9 := g8'.below b9
  have i9 := i8.below b9
  clear g8'
  go_wp2_with fail
  refine (markStringS_l G4 _ c4 1 r.1 _ w9 g9 (by omega) (by omega) (by omega)).mono ?_
  rintro e w10 ⟨rfl, o10, g10⟩
  have s9 : w3.heap.size ≤ w9.heap.size := Nat.le_trans s37 (Nat.le_trans g8.size b9.size)
  have f10 : Below w2.heap.size w9 w10 := g9.far g10 s23 (by omega)
  have t10 : Below w.heap.size w w10 := Ost.wrote t9 g9 g10 t3.size t9.size
  have i10 := i9.keepB bd2 f10
  clear f10 g9
  go_wp2_with fail
  refine (heldStringS_l G4 _ c4 1 w10 o10.sr (by omega) (by omega) (by omega)).mono ?_
  rintro e w10' ⟨rfl, b10'⟩
  have t10' := belowGo t10 b10'
  have hk2 : decide (((1 + r.1.length : Nat) : Int) < 0) = false := by simp; omega
  have hk3 : (((1 + r.1.length : Nat) : Int) != ((1 + r.1.length : Nat) : Int)) = false := by simp
  go_wp2_with fail
  refine (toRateS_l A c rs _ (hR.below t10') hn).mono ?_
  rintro e w11 ⟨X11, c11, rfl, o11, b11⟩
  have t11 := belowGo t10' b11
  go_wp2_with fail
  refine (HI.out X11 c11 w11 ⟨o11.rr, htx, hn⟩).mono ?_
  rintro e w12 ⟨H12, c12, rfl, o12, b12⟩
  have t12 := belowGo t11 b12
  go_wp2_with fail
  refine (eqStringS_l H12 C2 _ _ c12 c2 r.1 w12 o12.sr (((i10.below b10').below b11).below b12) rfl rfl (by omega)).mono ?_
  rintro e w13 ⟨rfl, b13⟩
  have t13 := belowGo t12 b13
  go_wp2_with fail
  refine (heldStringS_l G4 _ c4 1 w13 (((((o10.below b10').below b11).below b12).below b13).sr) (by omega) (by omega) (by omega)).mono ?_
  rintro e w14 ⟨rfl, b14⟩
  go_wp2_with fail
  go_ret
  exact ⟨rfl, belowGo t13 b14⟩
end Go.Proofs.Ytmeglhmlhdaacaa
