/- CountUses, both sides. -/
import Derived.Test.YtjcklmhgjdmjoaaTrr
namespace Go.Proofs.Ytjcklmhgjdmjoaa
open Go.ChangeShapes Go.WideShapes Go.ChangeAt Go.RowKit
set_option linter.unusedVariables false

def ones (t : List Int) (xs : List Int) : List Int := xs.foldl (fun t x => addAt t x.toNat 1) t
theorem ones_next {t xs : List Int} {k : Nat} {x : Int} (h : xs[k]? = some x) : ones t (xs.take (k + 1)) = addAt (ones t (xs.take k)) x.toNat 1 := by
  rw [snoc_of h]; simp [ones, List.foldl_append]
theorem ones_len : ∀ (xs t : List Int), (ones t xs).length = t.length
  | [], t => rfl
  | x :: xs, t => by
    have := ones_len xs (addAt t x.toNat 1)
    rw [addAt_len] at this
    exact this
theorem ones_bd : ∀ (xs t : List Int) (M : Int), 0 ≤ M → (∀ (i : Nat) (x : Int), t[i]? = some x → 0 ≤ x ∧ x ≤ M) → ∀ (i : Nat) (x : Int), (ones t xs)[i]? = some x → 0 ≤ x ∧ x ≤ M + (xs.length : Int)
  | [], t, M, hM, h, i, x, hx => by have := h i x hx; simp; omega
  | y :: xs, t, M, hM, h, i, x, hx => by
    have := ones_bd xs (addAt t y.toNat 1) (M + 1) (by omega) (addAt_bd h (by omega) hM) i x hx
    rw [List.length_cons]
    omega
def cuL (ps : List Cls) (es : List Evt) : List Int := es.foldl (fun t e => ones t (chainL ps e)) (List.replicate ps.length 0)
theorem cuL_next {ps : List Cls} {es : List Evt} {k : Nat} {e : Evt} (h : es[k]? = some e) : cuL ps (es.take (k + 1)) = ones (cuL ps (es.take k)) (chainL ps e) := by
  rw [snoc_of h]; simp [cuL, List.foldl_append]
theorem cufold_len {ps : List Cls} : ∀ (es : List Evt) (t : List Int), (es.foldl (fun t e => ones t (chainL ps e)) t).length = t.length
  | [], t => rfl
  | e :: es, t => by rw [List.foldl_cons, cufold_len es, ones_len]
theorem cuL_len (ps : List Cls) (es : List Evt) : (cuL ps es).length = ps.length := by unfold cuL; rw [cufold_len]; simp
theorem cufold_bd {ps : List Cls} : ∀ (es : List Evt) (t : List Int) (M : Int), 0 ≤ M → (∀ (i : Nat) (x : Int), t[i]? = some x → 0 ≤ x ∧ x ≤ M) →
    ∀ (i : Nat) (x : Int), (es.foldl (fun t e => ones t (chainL ps e)) t)[i]? = some x → 0 ≤ x ∧ x ≤ M + 13 * (es.length : Int)
  | [], t, M, hM, h, i, x, hx => by have := h i x hx; simp; omega
  | e :: es, t, M, hM, h, i, x, hx => by
    rw [List.foldl_cons] at hx
    have hc := chain_len ps e 13 0
    have := cufold_bd es _ (M + 13) (by omega) (fun i x hx => by have a := ones_bd (chainL ps e) t M hM h i x hx; have b : (chainL ps e).length ≤ 13 := hc; omega) i x hx
    rw [List.length_cons]
    omega
/-- What stands at an index while the chain of one event is counted. -/
theorem cu_bd {ps : List Cls} {es : List Evt} (h : logB es = true) (k : Nat) (q : Evt) (j : Nat) {i : Nat} {x : Int} (hx : (ones (cuL ps (es.take k)) ((chainL ps q).take j))[i]? = some x) : 0 ≤ x ∧ x ≤ 1000 := by
  have h15 := (log_iff.1 h).2
  have h2 : (es.take k).length ≤ es.length := by rw [List.length_take]; omega
  have hc : (chainL ps q).length ≤ 13 := chain_len ps q 13 0
  have h3 : ((chainL ps q).take j).length ≤ (chainL ps q).length := by rw [List.length_take]; omega
  have := ones_bd ((chainL ps q).take j) (cuL ps (es.take k)) 195 (by omega) (fun i x hx => by
    have := cufold_bd (ps := ps) (es.take k) _ 0 (Int.le_refl _) (fun i x hx => by
      rw [List.getElem?_replicate] at hx; split at hx
      · have := Option.some.inj hx; omega
      · cases hx) i x hx
    omega) i x hx
  omega
def cuR (ps : List Cls) (es : List Evt) : List Int × Int := if rbB ps = true ∧ logB es = true then (cuL ps es, 0) else ([], 1)
theorem cuR_no {ps : List Cls} {es : List Evt} (h : rbB ps = false ∨ logB es = false) : cuR ps es = ([], 1) := by
  unfold cuR; rw [if_neg]; rintro ⟨h1, h2⟩; rcases h with h | h <;> simp_all
theorem cuR_ok {ps : List Cls} {es : List Evt} (h : rbB ps = true) (h1 : logB es = true) : cuR ps es = (cuL ps es, 0) := by unfold cuR; rw [if_pos ⟨h, h1⟩]
theorem cuR_len (ps : List Cls) (es : List Evt) : (cuR ps es).1.length ≤ 12 := by
  by_cases h : rbB ps = true ∧ logB es = true
  · rw [cuR_ok h.1 h.2]; show (cuL ps es).length ≤ 12; rw [cuL_len]; exact (rb_of h.1).hi
  · unfold cuR; rw [if_neg h]; exact Nat.zero_le _
theorem madeN {w : World} {base n : Nat} (h : w.ownsRow base 2 1 (.slice (some ⟨base, 0, none⟩) n n) n (madeCells (Value.int .i64 0).cells (n * 1)).toList) {ps : List Cls} (hn : n = ps.length) (es : List Evt) : Oi w base (some ⟨base, 0, none⟩) n n (cuL ps (es.take 0)) := by
  have e : (madeCells (Value.int .i64 0).cells (n * 1)).toList = (cuL ps (es.take 0)).map (Value.int .i64) := by
    rw [show (Value.int .i64 0).cells = #[.int .i64 0] from rfl, toList_madeCells_one, hn]
    simp [cuL]
  rw [e] at h; exact h
set_option maxRecDepth 100000 in
set_option maxHeartbeats 8000000 in
theorem cu_i (A : Option Addr) (c : Nat) (ps : List Cls) (B : Option Addr) (d : Nat) (es : List Evt) (w : World) (h : CTblC w A c ps) (h2 : ETbl w B es) :
    Calls Try.prog 22 #[.slice A ps.length c, .slice B es.length d] w (NewIntsC w (cuR ps es)) := by
  obtain ⟨i0, hi, hz0, hz1, hz2⟩ := info_parts intInfo
  have HL := Lib.hid (dl_i A c ps B d es w h h2)
  have hn := h2.len
  by_cases hr : rbB ps = true ∧ logB es = true
  · rw [dlR_ok hr.1 hr.2] at HL
    have h12 := (rb_of hr.1).hi
    have E := Lib.hid (cuR_ok hr.1 hr.2)
    have HC := Lib.hid (fun q i hi => @chainL_at ps (rb_of hr.1) q i hi)
    have H13 := Lib.hid (fun q => (chainL_pos (rb_of hr.1) q).2)
    have HT := Lib.hid (fun k q j i x => @cu_bd ps es hr.2 k q j i x)
    have HP := Lib.hid (fun s W (b : Below w.heap.size w W) => place_iC A c ps s W (h.tbl.row.below b) (by omega))
    clear h h2 hr
    go_enter Try.func22, Try.ntmps22
    go_wp2_with fail
    refine HL.out.mono ?_
    rintro e w1 ⟨D, dd, rfl, o1, b1⟩
    simp only [List.length_map] at o1
    have R1 := Lib.hid o1.reads
    have P1 := Lib.hid (fun s W (b : Below w1.heap.size w1 W) => HP.out s W (belowGo b1 b))
    clear o1 HL HP
    try simp only [List.length_map]
    go_wp2_with (at_make; refine wpList_make_full _ rfl _ _ 40 rfl w1.heap.size 2 i0 _ 1 Try.underlying40 hi hz0 hz1 .i64 .i64 _ _ ps.length rfl rfl rfl rfl (by rw [hz2]; omega) (by unfold maxLen; omega) (Nat.le_refl _) ?_; intro w2 hown2 hg2)
    have hb2 : Below w1.heap.size w1 w2 := (Below.refl _ _).grown hg2 (Nat.le_refl _) (by simp)
    have hown2 := madeN hown2 rfl es
    clear hg2
    go_loopw [27] (fun i wr => ∃ k : Nat, k ≤ es.length ∧ i = .int .i64 k ∧ Oi wr w1.heap.size (some ⟨w1.heap.size, 0, none⟩) ps.length ps.length (cuL ps (es.take k)) ∧ Below w1.heap.size w1 wr) (fun i _ => es.length - (intOf i).toNat)
    case atStart => exact ⟨0, Nat.zero_le _, rfl, hown2, hb2⟩
    case round =>
      obtain ⟨k, hk, rfl, hown, hb⟩ := hrel
      clear hown2 hb2
      by_cases hlt : k < es.length
      · obtain ⟨p, hp⟩ : ∃ p, es[k]? = some p := ⟨_, List.getElem?_eq_getElem hlt⟩
        obtain ⟨b', off', x, A1, c1, rfl, hl', hx, u0, u1, hs⟩ := R1.out.at (k := k) (by simpa using hlt)
        have hx2 : x = decE ps p := by have a := hx.out; rw [List.getElem?_map, hp] at a; exact (Option.some.inj a).symm
        have HNX : Hid (cuL ps (es.take (k + 1)) = ones (cuL ps (es.take k)) (chainL ps p)) := Lib.hid (cuL_next hp)
        have hxc : x.cs = decL ps p := by rw [hx2]; rfl
        rw [hxc] at u1 hs
        replace u0 := (Below.cell hb (p := ⟨b', off' + k * 2, none⟩) hl').trans u0
        replace u1 := (Below.cell hb (p := ⟨b', off' + k * 2 + 1, none⟩) hl').trans u1
        have kn := below_alloc wr (.cells #[.int .i64 x.y, .slice A1 (decL ps p).length c1] 31)
        have nb := heap_alloc_new wr (.cells #[.int .i64 x.y, .slice A1 (decL ps p).length c1] 31)
        have hown3 := Oi.below hown kn
        have hb3 := belowGo hb kn
        have z1 : (wr.alloc (.cells #[.int .i64 x.y, .slice A1 (decL ps p).length c1] 31)).cell? ⟨wr.heap.size, 1, none⟩ = some (.slice A1 (decL ps p).length c1) := by
          rw [cell_of_row _ _ _ _ _ _ nb]; rfl
        have SR := Lib.hid (fun W (b : Below w1.heap.size w1 W) => hs.below b)
        have hsl : (decL ps p).length = (chainL ps p).length := decL_len ps p
        have hl13 := H13.out p
        have CA := Lib.hid (fun i (hi : i < (decL ps p).length) => HC.out p i (by rw [← hsl]; exact hi))
        have TA := Lib.hid (fun j i x => HT.out k p j i x)
        obtain ⟨N, hN⟩ : ∃ N, N = (decL ps p).length := ⟨_, rfl⟩
        have HNL := Lib.hid hN
        have hN13 : N ≤ 13 := by omega
        rw [← hN] at u1 nb z1 kn hown3 hb3 CA
        have H0 : Oi (wr.alloc (.cells #[.int .i64 x.y, .slice A1 N c1] 31)) w1.heap.size (some ⟨w1.heap.size, 0, none⟩) ps.length ps.length (ones (cuL ps (es.take k)) ((chainL ps p).take 0)) := hown3
        have hNc : Hid (N = (chainL ps p).length) := Lib.hid (by omega)
        obtain ⟨wA, hwA⟩ : ∃ y, wr.alloc (.cells #[.int .i64 x.y, .slice A1 N c1] 31) = y := ⟨_, rfl⟩
        have HWA := Lib.hid hwA
        rw [hwA] at z1 H0 hb3
        clear hown hown3 nb kn hx hx2 hxc hsl hs hN hwA
        go_wp2_with fail
        try rw [HWA.out]
        go_wp2_with fail
        go_loopw [34] (fun i wr => ∃ j : Nat, j ≤ N ∧ i = .int .i64 j ∧ Oi wr w1.heap.size (some ⟨w1.heap.size, 0, none⟩) ps.length ps.length (ones (cuL ps (es.take k)) ((chainL ps p).take j)) ∧ Below w1.heap.size w1 wr) (fun i _ => N - (intOf i).toNat)
        case atStart => exact ⟨0, Nat.zero_le _, rfl, H0, hb3⟩
        case round =>
          clear H0 hb3 z1 u0 u1
          obtain ⟨j, hj, rfl, hown, hb⟩ := hrel
          by_cases hlt2 : j < N
          · obtain ⟨m, p2, f1, f2, f3, f4, f5⟩ := CA.out j hlt2
            obtain ⟨g, o, s, e1, hg, hc, hs⟩ := (SR.out _ hb).at (k := j) (by rw [← HNL.out]; exact hlt2)
            subst e1
            have hs2 : s = p2.c := by have a := hs.out; rw [f3] at a; exact (Option.some.inj a).symm
            subst hs2
            obtain ⟨t, ht⟩ : ∃ t, (ones (cuL ps (es.take k)) ((chainL ps p).take j))[m]? = some t := ⟨_, List.getElem?_eq_getElem (by rw [ones_len, cuL_len]; exact f4)⟩
            obtain ⟨ht0, ht1⟩ := TA.out j m t ht
            have HN1 : Hid (ones (cuL ps (es.take k)) ((chainL ps p).take (j + 1)) = addAt (ones (cuL ps (es.take k)) ((chainL ps p).take j)) m 1) := Lib.hid (by rw [ones_next f1]; rfl)
            have HPC := Lib.hid (P1.out p2.c _ hb)
            rw [f5] at HPC
            have HOW := Lib.hid hown
            have HBW := Lib.hid hb
            have HTT := Lib.hid ht
            clear hown hb hs f1 f2 f3 f5 ht
            go_wp2_with (go_at_call 78; refine HPC.out.mono ?_; rintro e w3 ⟨rfl, b3⟩; obtain ⟨q1, q2, q3, q4⟩ := stored_add (a := 1) (Oi.below HOW.out b3) HTT.out; have HS := Lib.hid (And.intro q3 q4); have HB3 := Lib.hid (belowGo HBW.out b3); have hjn : ((m : Int)).toNat = m := (by omega); clear q3 q4 b3)
            go_roundw
            case rel => exact ⟨j + 1, by omega, by go_num, by rw [HN1.out]; exact HS.out.1, HB3.out.grown HS.out.2 HB3.out.size (fun k e => by cases e; exact Nat.le_refl _)⟩
            case measure => simp [intOf]; omega
          · obtain rfl : j = N := by omega
            rw [hNc.out, List.take_length, ← HNX.out] at hown
            go_wp2_with fail
            go_roundw
            case rel => exact ⟨k + 1, by omega, by go_num, hown, hb⟩
            case measure => simp [intOf]; omega
      · obtain rfl : k = es.length := by omega
        rw [List.take_length] at hown
        go_wp2_with fail
        go_ret2
        rw [E.out]
        exact ⟨_, _, by simp only [cuL_len] <;> rfl, by rw [cuL_len]; exact own_monoE hown b1.size, belowGo b1 hb⟩
  · have hno : rbB ps = false ∨ logB es = false := by
      rcases Bool.eq_false_or_eq_true (rbB ps) with a | a
      · rcases Bool.eq_false_or_eq_true (logB es) with b | b
        · exact absurd ⟨a, b⟩ hr
        · exact .inr b
      · exact .inl a
    rw [dlR_no hno] at HL
    have E := Lib.hid (cuR_no hno)
    clear h h2 hr hno
    go_enter Try.func22, Try.ntmps22
    go_wp2_with fail
    refine HL.out.mono ?_
    rintro e w1 ⟨D, dd, rfl, o1, b1⟩
    clear o1
    go_wp2_with fail
    go_ret2
    rw [E.out]
    exact ⟨none, 0, rfl, Oi.nil _ _, b1⟩
set_option maxRecDepth 100000 in
set_option maxHeartbeats 8000000 in
theorem cu_s (A : Option Addr) (c : Nat) (ps : List Cls) (B : Option Addr) (d : Nat) (es : List Evt) (w : World) (h : CTbl w A ps) (h2 : ETbl w B es) :
    Calls Try.prog 23 #[.slice A ps.length c, .slice B es.length d] w (NewIntsC w (cuR ps es)) := by
  obtain ⟨i0, hi, hz0, hz1, hz2⟩ := info_parts intInfo
  have hn := h2.len
  have HE := Lib.hid (fun W (b : Below w.heap.size w W) => h2.row.below b)
  rcases Bool.eq_false_or_eq_true (rbB ps) with hr | hr
  · have HT0 := Lib.hid (fun W (hb : Below w.heap.size w W) => rbS_q (c := c) (h.below hb) hr)
    rcases Bool.eq_false_or_eq_true (logB es) with h1 | h1
    · have HL := Lib.hid (fun W (hb : Below w.heap.size w W) => logS_q (c := d) (h2.below hb) h1)
      have h12 := (rb_of hr).hi
      have E := Lib.hid (cuR_ok hr h1)
      have HC := Lib.hid (fun q i hi => @chainL_at ps (rb_of hr) q i hi)
      have H13 := Lib.hid (fun q => (chainL_pos (rb_of hr) q).2)
      have HT := Lib.hid (fun k q j i x => @cu_bd ps es h1 k q j i x)
      have HD := Lib.hid (fun p W (b : Below w.heap.size w W) => chain_s A c ps p W (h.below b) (rb_of hr))
      clear h h2 hr h1
      go_enter Try.func23, Try.ntmps23
      go_wp2_with (first
        | (go_at_call 71; refine (HT0.out _ (Below.refl _ _)).mono ?_; rintro e w1 ⟨rfl, b1⟩)
        | (go_at_call 76; refine (HL.out _ b1).mono ?_; rintro e w2 ⟨rfl, b2⟩; have t2 := belowGo b1 b2)
        | (at_make; refine wpList_make_full _ rfl _ _ 40 rfl w2.heap.size 2 i0 _ 1 Try.underlying40 hi hz0 hz1 .i64 .i64 _ _ ps.length rfl rfl rfl rfl (by rw [hz2]; omega) (by unfold maxLen; omega) (Nat.le_refl _) ?_; intro w3 hown3 hg3))
      clear HT0 HL b1 b2
      have Z0 : Below w2.heap.size w2 w3 := (Below.refl _ _).grown hg3 (Nat.le_refl _) (by simp)
      have M0 := madeN hown3 rfl es
      clear hg3 hown3
      go_loopw [7, 9] (fun i u wr => ∃ k : Nat, k ≤ es.length ∧ i = .int .i64 k ∧ Oi wr w2.heap.size (some ⟨w2.heap.size, 0, none⟩) ps.length ps.length (cuL ps (es.take k)) ∧ Below w2.heap.size w2 wr) (fun i _ _ => es.length - (intOf i).toNat)
      case atStart => exact ⟨0, Nat.zero_le _, rfl, M0, Z0⟩
      case round =>
        obtain ⟨k, hk, rfl, hown, hb⟩ := hrel
        clear M0 Z0
        by_cases hlt : k < es.length
        · obtain ⟨b, off, p, rfl, hl, hp, h4⟩ := (HE.out wr (belowGo t2 hb)).at hlt
          have c0 := h4.c0; have c1 := h4.c1; have c2 := h4.c2; have c3 := h4.c3; have c4 := h4.c4; have c5 := h4.c5; have c6 := h4.c6
          have HNX : Hid (cuL ps (es.take (k + 1)) = ones (cuL ps (es.take k)) (chainL ps p)) := Lib.hid (cuL_next hp.out)
          have HDC := Lib.hid (HD.out p wr (belowGo t2 hb))
          have hl13 := H13.out p
          have CA := Lib.hid (fun i hi => HC.out p i hi)
          have TA := Lib.hid (fun j i x => HT.out k p j i x)
          have HOW := Lib.hid hown
          have HBW := Lib.hid hb
          have hml : w2.heap.size < wr.heap.size := (hown.lt w2.heap.size rfl).2
          clear h4 hp hown hb
          go_wp2_with (go_at_call 79; refine HDC.out.mono ?_; rintro e w4 ⟨C, cc, rfl, o4, b4⟩)
          have H0 : Oi w4 w2.heap.size (some ⟨w2.heap.size, 0, none⟩) ps.length ps.length (ones (cuL ps (es.take k)) ((chainL ps p).take 0)) := Oi.below HOW.out b4
          have hb4 := belowGo HBW.out b4
          have O4 := Lib.hid o4
          obtain ⟨N, hN⟩ : ∃ N, N = (chainL ps p).length := ⟨_, rfl⟩
          have HNL := Lib.hid hN
          rw [← hN] at CA hl13 o4
          simp only [← hN]
          clear c0 c1 c2 c3 c4 c5 c6 b4 hN o4
          go_wp2_with fail
          go_loopw [9] (fun i wq => ∃ j : Nat, j ≤ N ∧ i = .int .i64 j ∧ Oi wq w2.heap.size (some ⟨w2.heap.size, 0, none⟩) ps.length ps.length (ones (cuL ps (es.take k)) ((chainL ps p).take j)) ∧ Below w2.heap.size w2 wq ∧ w4.grownBy wq (some w2.heap.size)) (fun i _ => N - (intOf i).toNat)
          case atStart => exact ⟨0, Nat.zero_le _, rfl, H0, hb4, ⟨rfl, rfl, rfl, Nat.le_refl _, fun _ _ _ => rfl⟩⟩
          case round =>
            clear H0 hb4
            obtain ⟨j, hj, rfl, hown, hb, hgr⟩ := hrel
            by_cases hlt2 : j < N
            · obtain ⟨m, p2, f1, f2, f3, f4, f5⟩ := CA.out j hlt2
              obtain ⟨g, o, x, e1, hc, hx⟩ := (Oi.ir (World.ownsRow.kept O4.out hgr (by
                cases hq : (Value.slice C (chainL ps p).length cc).ownBlock with
                | none => exact .inl rfl
                | some b => exact .inr fun e => by have := (O4.out.lt b hq).1; injection e with e; omega))).at (k := j) (by rw [← HNL.out]; exact hlt2)
              subst e1
              have hx2 : x = (m : Int) := by have a := hx.out; rw [f1] at a; exact (Option.some.inj a).symm
              subst hx2
              obtain ⟨t, ht⟩ : ∃ t, (ones (cuL ps (es.take k)) ((chainL ps p).take j))[m]? = some t := ⟨_, List.getElem?_eq_getElem (by rw [ones_len, cuL_len]; exact f4)⟩
              obtain ⟨ht0, ht1⟩ := TA.out j m t ht
              have HN1 : Hid (ones (cuL ps (es.take k)) ((chainL ps p).take (j + 1)) = addAt (ones (cuL ps (es.take k)) ((chainL ps p).take j)) m 1) := Lib.hid (by rw [ones_next f1]; rfl)
              obtain ⟨q1, q2, q3, q4⟩ := stored_add (a := 1) hown ht
              have HS := Lib.hid (And.intro q3 q4)
              have hjn : ((m : Int)).toNat = m := by omega
              have HBB := Lib.hid hb
              have HGR := Lib.hid hgr
              clear hown hb hgr q3 q4 f1 f2 f3 f5 ht hx
              go_wp2_with fail
              go_roundw
              case rel => exact ⟨j + 1, by omega, by go_num, by rw [HN1.out]; exact HS.out.1, HBB.out.grown HS.out.2 HBB.out.size (fun k e => by cases e; exact Nat.le_refl _), HGR.out.trans HS.out.2⟩
              case measure => simp [intOf]; omega
            · obtain rfl : j = N := by omega
              rw [HNL.out, List.take_length, ← HNX.out] at hown
              go_wp2_with fail
              go_roundw
              case rel => exact ⟨k + 1, by omega, by go_num, hown, hb⟩
              case measure => simp [intOf]; omega
        · obtain rfl : k = es.length := by omega
          rw [List.take_length] at hown
          go_wp2_with fail
          go_ret2
          rw [E.out]
          exact ⟨_, _, by simp only [cuL_len] <;> rfl, by rw [cuL_len]; exact own_monoE hown t2.size, belowGo t2 hb⟩
    · have HL := Lib.hid (fun W (hb : Below w.heap.size w W) => logS_q (c := d) (h2.below hb) h1)
      have E := Lib.hid (@cuR_no ps es (.inr h1))
      clear h h2 hr h1
      go_enter Try.func23, Try.ntmps23
      go_wp2_with (first
        | (go_at_call 71; refine (HT0.out _ (Below.refl _ _)).mono ?_; rintro e w1 ⟨rfl, b1⟩)
        | (go_at_call 76; refine (HL.out _ b1).mono ?_; rintro e w2 ⟨rfl, b2⟩; have t2 := belowGo b1 b2))
      go_ret2
      rw [E.out]
      exact ⟨none, 0, rfl, Oi.nil _ _, t2⟩
  · have HT0 := Lib.hid (fun W (hb : Below w.heap.size w W) => rbS_q (c := c) (h.below hb) hr)
    have E := Lib.hid (@cuR_no ps es (.inl hr))
    clear h h2 hr
    go_enter Try.func23, Try.ntmps23
    go_wp2_with (go_at_call 71; refine (HT0.out _ (Below.refl _ _)).mono ?_; rintro e w1 ⟨rfl, b1⟩)
    go_ret2
    rw [E.out]
    exact ⟨none, 0, rfl, Oi.nil _ _, b1⟩
end Go.Proofs.Ytjcklmhgjdmjoaa
