/- LongestChain, both sides. -/
import Derived.Test.YtjcklmhgjdmjoaaDlg
namespace Go.Proofs.Ytjcklmhgjdmjoaa
open Go.ChangeShapes Go.WideShapes Go.ChangeAt Go.RowKit
set_option linter.unusedVariables false

/-- The index of the first longest chain among the first k events, and its length. -/
def lgS (ps : List Cls) (es : List Evt) : Nat → Nat × Nat
  | 0 => (0, 0)
  | k + 1 => match es[k]? with
    | some e => if (lgS ps es k).2 < (chainL ps e).length then (k, (chainL ps e).length) else lgS ps es k
    | none => lgS ps es k
theorem lgS_yes {ps : List Cls} {es : List Evt} {k : Nat} {e : Evt} (h : es[k]? = some e) (h1 : (lgS ps es k).2 < (chainL ps e).length) : lgS ps es (k + 1) = (k, (chainL ps e).length) := by rw [lgS, h]; simp [h1]
theorem lgS_no {ps : List Cls} {es : List Evt} {k : Nat} {e : Evt} (h : es[k]? = some e) (h1 : ¬ (lgS ps es k).2 < (chainL ps e).length) : lgS ps es (k + 1) = lgS ps es k := by rw [lgS, h]; simp [h1]
theorem lgS_inv {ps : List Cls} (hr : RB ps) {es : List Evt} : ∀ k, k ≤ es.length → ((lgS ps es k).1 = 0 ∧ k = 0 ∧ (lgS ps es k).2 = 0) ∨ (0 < k ∧ (lgS ps es k).1 < k ∧ 0 < (lgS ps es k).2 ∧ ∃ e, es[(lgS ps es k).1]? = some e ∧ (lgS ps es k).2 = (chainL ps e).length)
  | 0, _ => .inl ⟨rfl, rfl, rfl⟩
  | k + 1, hk => by
    have hp : es[k]? = some es[k] := List.getElem?_eq_getElem (by omega)
    have hc := (chainL_pos hr es[k]).1
    by_cases h1 : (lgS ps es k).2 < (chainL ps es[k]).length
    · rw [lgS_yes hp h1]
      exact .inr ⟨by omega, by simp, by simpa using hc, _, hp, rfl⟩
    · rw [lgS_no hp h1]
      rcases lgS_inv hr (es := es) k (by omega) with ⟨h2, h3, h4⟩ | ⟨h2, h3, h4, h5⟩
      · omega
      · exact .inr ⟨by omega, by omega, h4, h5⟩
def lgR (ps : List Cls) (es : List Evt) : Int × Int := if rbB ps = true ∧ logB es = true then (if es.length = 0 then (0, 4) else ((((lgS ps es es.length).1 : Nat) : Int), 0)) else (0, 1)
theorem lgR_no {ps : List Cls} {es : List Evt} (h : rbB ps = false ∨ logB es = false) : lgR ps es = (0, 1) := by
  unfold lgR; rw [if_neg]; rintro ⟨h1, h2⟩; rcases h with h | h <;> simp_all
theorem lgR_0 {ps : List Cls} {es : List Evt} (h : rbB ps = true) (h1 : logB es = true) (h2 : es.length = 0) : lgR ps es = (0, 4) := by unfold lgR; rw [if_pos ⟨h, h1⟩, if_pos h2]
theorem lgR_ok {ps : List Cls} {es : List Evt} (h : rbB ps = true) (h1 : logB es = true) (h2 : ¬ es.length = 0) : lgR ps es = ((((lgS ps es es.length).1 : Nat) : Int), 0) := by unfold lgR; rw [if_pos ⟨h, h1⟩, if_neg h2]
set_option maxRecDepth 100000 in
set_option maxHeartbeats 8000000 in
theorem lg_i (A : Option Addr) (c : Nat) (ps : List Cls) (B : Option Addr) (d : Nat) (es : List Evt) (w : World) (h : CTblC w A c ps) (h2 : ETbl w B es) :
    Calls Try.prog 24 #[.slice A ps.length c, .slice B es.length d] w (Gives w (.tuple #[.int .i64 (lgR ps es).1, .int .i64 (lgR ps es).2])) := by
  have HL := Lib.hid (dl_i A c ps B d es w h h2)
  have hn := h2.len
  by_cases hr : rbB ps = true ∧ logB es = true
  · rw [dlR_ok hr.1 hr.2] at HL
    have E0 := Lib.hid (fun h0 => lgR_0 hr.1 hr.2 h0)
    have E1 := Lib.hid (fun h0 => lgR_ok hr.1 hr.2 h0)
    have HI := Lib.hid (fun k hk => lgS_inv (rb_of hr.1) (es := es) k hk)
    clear h h2 hr
    go_enter Try.func24, Try.ntmps24
    go_wp2_with fail
    refine HL.out.mono ?_
    rintro e w1 ⟨D, dd, rfl, o1, b1⟩
    simp only [List.length_map] at o1
    have R1 := Lib.hid o1.reads
    clear o1 HL
    try simp only [List.length_map]
    by_cases h0 : es.length = 0
    · have E := E0.out h0
      have hz : ((es.length : Int) == 0) = true := by rw [beq_iff_eq]; omega
      clear E0 E1 HI R1
      go_wp2_with fail
      go_ret2
      exact ⟨by rw [E] <;> rfl, b1⟩
    · have E := Lib.hid (E1.out h0)
      have hz : ((es.length : Int) == 0) = false := beq_eq_false_iff_ne.2 (by omega)
      clear E0 E1
      go_wp2_with fail
      go_loopw [8, 25] (fun l i wr => ∃ (k m : Nat), k ≤ es.length ∧ i = .int .i64 k ∧ l = .int .i64 m ∧ Hid (m = (lgS ps es k).1) ∧ m < es.length ∧ Below w1.heap.size w1 wr) (fun _ i _ => es.length - (intOf i).toNat)
      case atStart => exact ⟨0, 0, Nat.zero_le _, rfl, rfl, Lib.hid rfl, by omega, Below.refl _ _⟩
      case round =>
        obtain ⟨k, m, hk, rfl, rfl, hm, hml, hb⟩ := hrel
        by_cases hlt : k < es.length
        · obtain ⟨p, hp⟩ : ∃ p, es[k]? = some p := ⟨_, List.getElem?_eq_getElem hlt⟩
          obtain ⟨q, hq⟩ : ∃ q, es[m]? = some q := ⟨_, List.getElem?_eq_getElem hml⟩
          obtain ⟨b', off', x, A1, c1, rfl, hl', hx, u0, u1, _⟩ := R1.out.at (k := k) (by simpa using hlt)
          obtain ⟨b2, off2, y, A2, c2, e2, _, hy, _, u3, _⟩ := R1.out.at (k := m) (by simpa using hml)
          obtain ⟨rfl, rfl⟩ : b' = b2 ∧ off' = off2 := by injection e2 with e2; injection e2 with e3 e4; exact ⟨e3, e4⟩
          have hx2 : x = decE ps p := by have a := hx.out; rw [List.getElem?_map, hp] at a; exact (Option.some.inj a).symm
          have hy2 : y = decE ps q := by have a := hy.out; rw [List.getElem?_map, hq] at a; exact (Option.some.inj a).symm
          have hxc : x.cs.length = (chainL ps p).length := by rw [hx2]; exact decL_len ps p
          have hyc : y.cs.length = (chainL ps q).length := by rw [hy2]; exact decL_len ps q
          rw [hxc] at u1
          rw [hyc] at u3
          replace u0 := (Below.cell hb (p := ⟨b', off' + k * 2, none⟩) hl').trans u0
          replace u1 := (Below.cell hb (p := ⟨b', off' + k * 2 + 1, none⟩) hl').trans u1
          have kn := below_alloc wr (.cells #[.int .i64 x.y, .slice A1 (chainL ps p).length c1] 31)
          have nb := heap_alloc_new wr (.cells #[.int .i64 x.y, .slice A1 (chainL ps p).length c1] 31)
          have hb3 := Lib.hid (belowGo hb kn)
          have z1 : (wr.alloc (.cells #[.int .i64 x.y, .slice A1 (chainL ps p).length c1] 31)).cell? ⟨wr.heap.size, 1, none⟩ = some (.slice A1 (chainL ps p).length c1) := by
            rw [cell_of_row _ _ _ _ _ _ nb]; rfl
          have u3' : (wr.alloc (.cells #[.int .i64 x.y, .slice A1 (chainL ps p).length c1] 31)).cell? ⟨b', off' + m * 2 + 1, none⟩ = some (.slice A2 (chainL ps q).length c2) := (Below.cell (belowGo hb kn) (p := ⟨b', off' + m * 2 + 1, none⟩) hl').trans u3
          have HIK := HI.out k (by omega)
          rw [← hm.out] at HIK
          obtain ⟨X, hX⟩ : ∃ X, X = (chainL ps p).length := ⟨_, rfl⟩
          obtain ⟨Y, hY⟩ : ∃ Y, Y = (chainL ps q).length := ⟨_, rfl⟩
          obtain ⟨v, hv⟩ : ∃ v, decide ((Y : Int) < (X : Int)) = v := ⟨_, rfl⟩
          have HN : Hid ((if v = true then k else m) = (lgS ps es (k + 1)).1) := Lib.hid (by
            rcases HIK with ⟨i1, i2, i3⟩ | ⟨i1, i2, i3, e, i4, i5⟩
            · subst i2
              have hpq : p = q := by rw [i1] at hq; rw [hp] at hq; exact Option.some.inj hq
              have hvf : v = false := by rw [← hv, hX, hY, hpq]; simp
              rw [hvf, if_neg (by decide)]
              by_cases hc : (lgS ps es 0).2 < (chainL ps p).length
              · rw [lgS_yes hp hc]; exact i1
              · rw [lgS_no hp hc]; exact hm.out
            · have hqe : q = e := by rw [hq] at i4; exact Option.some.inj i4
              subst hqe
              by_cases hc : (lgS ps es k).2 < (chainL ps p).length
              · have hvt : v = true := by rw [← hv, hX, hY, decide_eq_true_eq]; omega
                rw [hvt, if_pos rfl, lgS_yes hp hc]
              · have hvf : v = false := by rw [← hv, hX, hY, decide_eq_false_iff_not]; omega
                rw [hvf, if_neg (by decide), lgS_no hp hc]; exact hm.out)
          have hXb : X ≤ 13 := by rw [hX]; exact chain_len ps p 13 0
          have hYb : Y ≤ 13 := by rw [hY]; exact chain_len ps q 13 0
          rw [← hX] at u1 z1 u3' hb3
          rw [← hY] at u3'
          have hv2 : decide ((X : Int) > (Y : Int)) = v := hv
          clear HIK hx hy hx2 hy2 hxc hyc u3 kn nb hp hq hX hY hm hb
          cases v
          · have hnl : ¬ Y < X := by have := hv; simp only [decide_eq_false_iff_not] at this; omega
            have hnd : decide (Y < X) = false := decide_eq_false hnl
            have HN2 : Hid (m = (lgS ps es (k + 1)).1) := Lib.hid (by have := HN.out; simpa using this)
            clear HN
            go_wp2_with fail
            go_quiet (fail)
            go_wp2_with fail
            go_roundw
            case rel => exact ⟨k + 1, m, by omega, by go_num, rfl, HN2, hml, belowGo hb3.out (below_drewN _ _)⟩
            case measure => simp [intOf]; omega
          · have hnl : Y < X := by have := hv; simp only [decide_eq_true_eq] at this; omega
            have hnd : decide (Y < X) = true := decide_eq_true hnl
            have HN2 : Hid (k = (lgS ps es (k + 1)).1) := Lib.hid (by have := HN.out; simpa using this)
            clear HN
            go_wp2_with fail
            go_quiet (fail)
            go_wp2_with fail
            go_roundw
            case rel => exact ⟨k + 1, k, by omega, by go_num, rfl, HN2, hlt, belowGo hb3.out (below_drewN _ _)⟩
            case measure => simp [intOf]; omega
        · obtain rfl : k = es.length := by omega
          have hm2 := hm.out
          clear HI R1
          go_wp2_with fail
          go_ret2
          exact ⟨by rw [E.out, hm2] <;> rfl, belowGo b1 hb⟩
  · have hno : rbB ps = false ∨ logB es = false := by
      rcases Bool.eq_false_or_eq_true (rbB ps) with a | a
      · rcases Bool.eq_false_or_eq_true (logB es) with b | b
        · exact absurd ⟨a, b⟩ hr
        · exact .inr b
      · exact .inl a
    rw [dlR_no hno] at HL
    have E := Lib.hid (lgR_no hno)
    clear h h2 hr hno
    go_enter Try.func24, Try.ntmps24
    go_wp2_with fail
    refine HL.out.mono ?_
    rintro e w1 ⟨D, dd, rfl, o1, b1⟩
    clear o1
    go_wp2_with fail
    go_ret2
    exact ⟨by rw [E.out] <;> rfl, b1⟩
set_option maxRecDepth 100000 in
set_option maxHeartbeats 8000000 in
theorem lg_s (A : Option Addr) (c : Nat) (ps : List Cls) (B : Option Addr) (d : Nat) (es : List Evt) (w : World) (h : CTbl w A ps) (h2 : ETbl w B es) :
    Calls Try.prog 25 #[.slice A ps.length c, .slice B es.length d] w (Gives w (.tuple #[.int .i64 (lgR ps es).1, .int .i64 (lgR ps es).2])) := by
  have hn := h2.len
  have HE := Lib.hid (fun W (b : Below w.heap.size w W) => h2.row.below b)
  rcases Bool.eq_false_or_eq_true (rbB ps) with hr | hr
  · have HT0 := Lib.hid (fun W (hb : Below w.heap.size w W) => rbS_q (c := c) (h.below hb) hr)
    rcases Bool.eq_false_or_eq_true (logB es) with h1 | h1
    · have HL := Lib.hid (fun W (hb : Below w.heap.size w W) => logS_q (c := d) (h2.below hb) h1)
      have E0 := Lib.hid (fun h0 => lgR_0 hr h1 h0)
      have E1 := Lib.hid (fun h0 => lgR_ok hr h1 h0)
      have HI := Lib.hid (fun k hk => lgS_inv (rb_of hr) (es := es) k hk)
      have HD := Lib.hid (fun p W (b : Below w.heap.size w W) => chain_s A c ps p W (h.below b) (rb_of hr))
      clear h h2 hr h1
      go_enter Try.func25, Try.ntmps25
      go_wp2_with (first
        | (go_at_call 71; refine (HT0.out _ (Below.refl _ _)).mono ?_; rintro e w1 ⟨rfl, b1⟩)
        | (go_at_call 76; refine (HL.out _ b1).mono ?_; rintro e w2 ⟨rfl, b2⟩; have t2 := belowGo b1 b2))
      clear HT0 HL b1 b2
      go_loopw [6, 7, 8] (fun l u i wr => ∃ k m n : Nat, k ≤ es.length ∧ i = .int .i64 k ∧ l = .int .i64 m ∧ u = .int .i64 n ∧ Hid ((m, n) = lgS ps es k) ∧ n ≤ 13 ∧ Below w.heap.size w wr) (fun _ _ i _ => es.length - (intOf i).toNat)
      case atStart => exact ⟨0, 0, 0, Nat.zero_le _, rfl, rfl, rfl, Lib.hid rfl, by omega, t2⟩
      case round =>
        obtain ⟨k, m, n, hk, rfl, rfl, rfl, hmn, hn13, hb⟩ := hrel
        clear t2
        by_cases hlt : k < es.length
        · obtain ⟨b, off, p, rfl, hl, hp, h4⟩ := (HE.out wr hb).at hlt
          have c0 := h4.c0; have c1 := h4.c1; have c2 := h4.c2; have c3 := h4.c3; have c4 := h4.c4; have c5 := h4.c5; have c6 := h4.c6
          have HDC := Lib.hid (HD.out p wr hb)
          have hX13 : (chainL ps p).length ≤ 13 := chain_len ps p 13 0
          have e2 : (lgS ps es k).2 = n := by rw [← hmn.out]
          obtain ⟨v, hv⟩ : ∃ v, decide ((n : Int) < ((chainL ps p).length : Int)) = v := ⟨_, rfl⟩
          have HN : Hid ((if v = true then (k, (chainL ps p).length) else (m, n)) = lgS ps es (k + 1)) := Lib.hid (by
            by_cases hc : (lgS ps es k).2 < (chainL ps p).length
            · have hvt : v = true := by rw [← hv, decide_eq_true_eq]; omega
              rw [hvt, if_pos rfl, lgS_yes hp.out hc]
            · have hvf : v = false := by rw [← hv, decide_eq_false_iff_not]; omega
              rw [hvf, if_neg (by decide), lgS_no hp.out hc]; exact hmn.out)
          have HBW := Lib.hid hb
          generalize chainL ps p = L at *
          have hv2 : decide (((L.length : Nat) : Int) > (n : Int)) = v := hv
          clear h4 hp hb hmn e2 HE HD HI
          cases v
          · have hnl : ¬ n < L.length := by have := hv; simp only [decide_eq_false_iff_not] at this; omega
            have hnd : decide (n < L.length) = false := decide_eq_false hnl
            have HN2 : Hid ((m, n) = lgS ps es (k + 1)) := Lib.hid (by have := HN.out; simpa using this)
            clear HN
            go_wp2_with (go_at_call 79; refine HDC.out.mono ?_; rintro e w4 ⟨C, cc, rfl, o4, b4⟩; have hb4 := belowGo HBW.out b4; clear o4)
            go_roundw
            case rel => exact ⟨k + 1, m, n, by omega, by go_num, rfl, rfl, HN2, hn13, hb4⟩
            case measure => simp [intOf]; omega
          · have hnl : n < L.length := by have := hv; simp only [decide_eq_true_eq] at this; omega
            have hnd : decide (n < L.length) = true := decide_eq_true hnl
            have HN2 : Hid ((k, L.length) = lgS ps es (k + 1)) := Lib.hid (by have := HN.out; simpa using this)
            clear HN
            go_wp2_with (go_at_call 79; refine HDC.out.mono ?_; rintro e w4 ⟨C, cc, rfl, o4, b4⟩; have hb4 := belowGo HBW.out b4; clear o4)
            go_roundw
            case rel => exact ⟨k + 1, k, L.length, by omega, by go_num, rfl, rfl, HN2, hX13, hb4⟩
            case measure => simp [intOf]; omega
        · obtain rfl : k = es.length := by omega
          have HIK := HI.out es.length (Nat.le_refl _)
          have e1 : (lgS ps es es.length).1 = m := by rw [← hmn.out]
          have e2 : (lgS ps es es.length).2 = n := by rw [← hmn.out]
          rw [e1, e2] at HIK
          by_cases h0 : es.length = 0
          · have E := E0.out h0
            have hn0 : n = 0 := by rcases HIK with ⟨_, _, h⟩ | ⟨h, _⟩ <;> omega
            subst hn0
            clear HI HE HD E0 E1 HIK hmn e1 e2
            go_wp2_with fail
            go_ret2
            exact ⟨by rw [E] <;> rfl, hb⟩
          · have E := Lib.hid (E1.out h0)
            have hnz : ((n : Int) == 0) = false := beq_eq_false_iff_ne.2 (by rcases HIK with ⟨_, h, _⟩ | ⟨_, _, h, _⟩ <;> omega)
            have E1' := Lib.hid e1
            clear HI HE HD E0 E1 HIK hmn e1 e2
            go_wp2_with fail
            go_ret2
            exact ⟨by rw [E.out, E1'.out] <;> rfl, hb⟩
    · have HL := Lib.hid (fun W (hb : Below w.heap.size w W) => logS_q (c := d) (h2.below hb) h1)
      have E := Lib.hid (@lgR_no ps es (.inr h1))
      clear h h2 hr h1
      go_enter Try.func25, Try.ntmps25
      go_wp2_with (first
        | (go_at_call 71; refine (HT0.out _ (Below.refl _ _)).mono ?_; rintro e w1 ⟨rfl, b1⟩)
        | (go_at_call 76; refine (HL.out _ b1).mono ?_; rintro e w2 ⟨rfl, b2⟩; have t2 := belowGo b1 b2))
      go_ret2
      exact ⟨by rw [E.out] <;> rfl, t2⟩
  · have HT0 := Lib.hid (fun W (hb : Below w.heap.size w W) => rbS_q (c := c) (h.below hb) hr)
    have E := Lib.hid (@lgR_no ps es (.inl hr))
    clear h h2 hr
    go_enter Try.func25, Try.ntmps25
    go_wp2_with (go_at_call 71; refine (HT0.out _ (Below.refl _ _)).mono ?_; rintro e w1 ⟨rfl, b1⟩)
    go_ret2
    exact ⟨by rw [E.out] <;> rfl, b1⟩
end Go.Proofs.Ytjcklmhgjdmjoaa
