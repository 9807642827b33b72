/- spec.ShareOut; the laws on shares. -/
import Derived.Test.YtgapkkkalandhaaShare
namespace Go.Proofs.Ytgapkkkalandhaa
open Go.ChangeShapes Go.WideShapes Go.ChangeAt Go.RowKit
set_option linter.unusedVariables false

theorem pick_lt {rs : List Int} (h : 0 < rs.length) : pick rs < rs.length := by
  unfold pick
  suffices H : ∀ n i best, i + n ≤ rs.length → best < rs.length → pickFrom rs n i best < rs.length from H rs.length 0 0 (by omega) h
  intro n
  induction n with
  | zero => intro i best _ h; exact h
  | succ n ih => intro i best hi h; simp only [pickFrom]; exact ih _ _ (by omega) (by split <;> omega)
theorem pickFrom_step {rs : List Int} {n k b : Nat} (hk : k < n) (h : pickFrom rs (n - k) k b = pick rs) :
    pickFrom rs (n - (k + 1)) (k + 1) (if rs.getD b 0 < rs.getD k 0 then k else b) = pick rs := by
  obtain ⟨m, hm⟩ : ∃ m, n - k = m + 1 := ⟨n - k - 1, by omega⟩
  rw [hm] at h
  rw [show n - (k + 1) = m from by omega]
  exact h

theorem own_getD {w : World} {base g n c : Nat} {e : TypeId} {xs : List Int} (h : w.ownsRow base e 1 (.slice (some ⟨g, 0, none⟩) n c) n (xs.map (Value.int .i64))) {j : Nat} (hj : j < n) :
    w.cell? ⟨g, j, none⟩ = some (.int .i64 (xs.getD j 0)) := by
  have hl : xs.length = n := by have := h.1; simpa using this
  rw [h.cellAt j (by omega)]; simp [List.getD_eq_getElem?_getD, (by omega : j < xs.length)]
theorem own_base {w : World} {b b' n : Nat} {v : Value} {e : TypeId} {size : Nat} {xs : List Value} (h : w.ownsRow b e size v n xs) (hb : b' ≤ b) : w.ownsRow b' e size v n xs := by
  refine ⟨h.1, ?_⟩
  rcases h.2 with h | ⟨g, cap, cur, h1, h2, h3⟩
  · exact .inl h
  · exact .inr ⟨g, cap, cur, h1, Nat.le_trans hb h2, h3⟩

theorem Ir.at2 {w w' : World} {A : Option Addr} {xs : List Int} (h : Ir w A xs) (hb : Below w.heap.size w w') {k : Nat} (hk : k < xs.length) :
    ∃ b off x, A = some ⟨b, off, none⟩ ∧ b < w.heap.size ∧ w'.cell? ⟨b, off + k, none⟩ = some (.int .i64 x) ∧ Hid (xs[k]? = some x) := by
  obtain ⟨b, off, e, hl, hc⟩ := h (by simp; omega)
  exact ⟨b, off, xs[k], e, hl, (hb.cell (p := ⟨b, off + k, none⟩) hl).trans (hc k _ (by simp [hk])), Lib.hid (by simp [hk])⟩

set_option maxHeartbeats 4000000 in
theorem l01Share (t : Int) (A : Option Addr) (c : Nat) (xs : List Int) (w : World) (hx : Ir w A xs) (hc : codeR t xs = 0) :
    Calls Try.prog 44 #[.int .i64 t, .slice A xs.length c] w (NewInts w (shareD t xs)) := by
  obtain ⟨⟨t0, t1⟩, l12, ha, s0, s1⟩ := codeR_inv hc
  obtain ⟨i0, hi, hz0, hz1, hz2⟩ := info_parts intInfo
  have HX := Lib.hid ha
  have HS := Lib.hid (sum_s A c xs w hx ha (by omega))
  have hn0 : 0 < xs.length := by
    rcases Nat.eq_zero_or_pos xs.length with h0 | h0
    · have : xs = [] := List.eq_nil_of_length_eq_zero h0
      rw [this] at s0; simp [isum] at s0
    · exact h0
  have hda := downs_amts t0 t1 s0 ha
  have hlb := left_bd (t := t) s0
  have HBn := Lib.hid (downs_bnd t0 t1 s0 ha)
  have HD : Hid (shareD t xs = give (t - isum (downsOf t (isum xs) xs)).toNat (restsOf t (isum xs) xs) (downsOf t (isum xs) xs)) := Lib.hid rfl
  have HDA := Lib.hid hda
  obtain ⟨s, hs⟩ : ∃ s, s = isum xs := ⟨_, rfl⟩
  rw [← hs] at HS s0 s1 hlb HBn HD HDA
  clear ha hda hs hc
  go_enter Try.func44, Try.ntmps44
  go_wp2_with (go_at_call 48; refine HS.out.mono ?_; rintro e w' ⟨rfl, rfl⟩)
  have H0 : ((w.alloc (Obj.cells #[] 2)).alloc (Obj.cells #[] 2)).ownsRow w.heap.size 2 1 (.slice (some ⟨w.heap.size, 0, none⟩) 0 0) 0 [] := (World.ownsRow_made w #[] 0 (Nat.le_refl _) (by decide) (by simp)).alloc _
  have H1 : ((w.alloc (Obj.cells #[] 2)).alloc (Obj.cells #[] 2)).ownsRow w.heap.size 2 1 (.slice (some ⟨w.heap.size + 1, 0, none⟩) 0 0) 0 [] := by
    have := World.ownsRow_made (base := w.heap.size) (e := 2) (size := 1) (w.alloc (Obj.cells #[] 2)) #[] 0 (by simp) (by decide) (by simp)
    simpa using this
  have hb0 : Below w.heap.size w ((w.alloc (Obj.cells #[] 2)).alloc (Obj.cells #[] 2)) := ((Below.refl _ _).alloc (Nat.le_refl _) _).alloc (by simp) _
  go_loopw [6, 7, 8, 9] (fun v u l i wr => ∃ (k : Nat) (y : Int), k ≤ xs.length ∧ i = .int .i64 k ∧ l = .int .i64 y ∧ Hid (y = t - isum ((downsOf t s xs).take k)) ∧
    wr.ownsRow w.heap.size 2 1 v k (((downsOf t s xs).take k).map (Value.int .i64)) ∧ wr.ownsRow w.heap.size 2 1 u k (((restsOf t s xs).take k).map (Value.int .i64)) ∧ Sep v u ∧ Below w.heap.size w wr)
    (fun _ _ _ i _ => xs.length - (intOf i).toNat)
  case atStart => exact ⟨0, t, Nat.zero_le _, rfl, rfl, Lib.hid (by simp [isum]), H0, H1, by intro k hk; simp [Value.ownBlock] at hk ⊢; omega, hb0⟩
  case round =>
    obtain ⟨k, y, hk, rfl, rfl, hy, hv, hu, hsep, hb⟩ := hrel
    clear H0 H1 hb0
    by_cases hlt : k < xs.length
    · obtain ⟨b, off, x, rfl, hbl, hcx, hxk⟩ := hx.at2 hb hlt
      obtain ⟨x0, x1⟩ := amts_at HX.out hxk.out
      obtain ⟨⟨m0, m1⟩, ⟨q0, q1⟩, r0, r1⟩ := share_bd t0 t1 x0 x1 s0
      obtain ⟨Av, cv, rfl⟩ := own_form hv
      obtain ⟨Au, cu, rfl⟩ := own_form hu
      have hbs := hb.size
      have HT1 : Hid ((downsOf t s xs).take (k + 1) = (downsOf t s xs).take k ++ [t * x / s]) := Lib.hid (snoc_of (by simp [downsOf, hxk.out]))
      have HT2 : Hid ((restsOf t s xs).take (k + 1) = (restsOf t s xs).take k ++ [t * x % s]) := Lib.hid (snoc_of (by simp [restsOf, hxk.out]))
      have hsb : Hid (0 ≤ isum ((downsOf t s xs).take k) ∧ isum ((downsOf t s xs).take k) ≤ 1000000000 * 12) := Lib.hid (by
        have h1 := isum_bd (amts_take HDA.out k)
        have h2 : ((downsOf t s xs).take k).length ≤ 12 := by simp [downsOf]; omega
        exact ⟨h1.1, by omega⟩)
      have y0 : -12000000000 ≤ y ∧ y ≤ 1000000000 := by have h1 := hsb.out; have h2 := hy.out; omega
      obtain ⟨y0, y1⟩ := y0
      have hwc : ∀ o, (wr.alloc o).heap.size = wr.heap.size + 1 := fun o => by simp
      clear hx
      go_wp2_with (first | (at_builtin; refine wpList_push2 _ rfl (.tmp 23) (.tmp 32) 24 rfl w.heap.size 2 i0 _ 1 8 Try.underlying24 hi hz0 hz1 hz2 rfl (by decide) _ k _ rfl hv [.int .i64 (t * x / s)] rfl (by simp [Value.oneCell']) rfl (by unfold maxLen; omega) (by omega) hbs ?_; intro v1 w1 hv1 hg1 hbv1; have hu1 := own_sep hu hsep hg1; have hs1 := sep_push hu hsep hbv1; have hb1 : Below w.heap.size w w1 := hb.grown hg1 hbs (fun j hj => (hv.lt j hj).1); obtain ⟨Av1, cv1, rfl⟩ := own_form hv1; obtain ⟨gv, rfl, _, _⟩ := own_addr hv1 (by omega); have hbs1 := hb1.size; have hx1 : w1.cell? ⟨b, off + k, none⟩ = some (.int .i64 x) := hg1.cell hcx (fun e => absurd (hv.lt b e.symm).1 (Nat.not_le.2 hbl))) | (at_builtin; refine wpList_push2 _ rfl (.tmp 34) (.tmp 43) 24 rfl w.heap.size 2 i0 _ 1 8 Try.underlying24 hi hz0 hz1 hz2 rfl (by decide) _ k _ rfl hu1 [.int .i64 (t * x % s)] rfl (by simp [Value.oneCell']) rfl (by unfold maxLen; omega) (by omega) hbs1 ?_; intro v2 w2 hu2 hg2 hbu2; have hv2 := own_sep hv1 hs1.symm hg2; have hs2 := (sep_push hv1 hs1.symm hbu2).symm; have hb2 : Below w.heap.size w w2 := hb1.grown hg2 hbs1 (fun j hj => (hu1.lt j hj).1); have hcell : w2.cell? ⟨gv, k, none⟩ = some (.int .i64 (t * x / s)) := by (rw [hv2.cellAt k (by omega)]; simp [downsOf, (by omega : k < xs.length), Nat.min_eq_left hk])))
      obtain ⟨Au2, cu2, rfl⟩ := own_form hu2
      go_roundw
      case rel => exact ⟨k + 1, y - t * x / s, by omega, by go_num, rfl, Lib.hid (by rw [HT1.out, isum_snoc, hy.out]; omega), by rw [HT1.out]; simpa using hv2, by rw [HT2.out]; simpa using hu2, hs2, hb2⟩
      case measure => simp [intOf]; omega
    · obtain rfl : k = xs.length := by omega
      have hdt : Hid ((downsOf t s xs).take xs.length = downsOf t s xs) := Lib.hid (List.take_of_length_le (by simp [downsOf]))
      have hrt : Hid ((restsOf t s xs).take xs.length = restsOf t s xs) := Lib.hid (List.take_of_length_le (by simp [restsOf]))
      rw [hdt.out] at hv hy
      rw [hrt.out] at hu
      have hlb2 := hlb
      rw [← hy.out] at hlb2
      obtain ⟨L, rfl⟩ : ∃ L : Nat, y = (L : Int) := ⟨y.toNat, by omega⟩
      have HD2 : Hid (shareD t xs = give L (restsOf t s xs) (downsOf t s xs)) := Lib.hid (by rw [HD.out, ← hy.out]; rfl)
      have hrl : (restsOf t s xs).length = xs.length := by simp [restsOf]
      have hdl : (downsOf t s xs).length = xs.length := by simp [downsOf]
      have hrb : Hid (Bnd 1000000000000000000 (downsOf t s xs)) := HBn
      have hL12 : L ≤ 12 := by omega
      clear HD hdt hrt hy hlb hlb2 HBn HDA
      obtain ⟨Av, cv, rfl⟩ := own_form hv
      obtain ⟨Au, cu, rfl⟩ := own_form hu
      obtain ⟨gv, rfl, hgv, _⟩ := own_addr hv hn0
      obtain ⟨gu, rfl, hgu, _⟩ := own_addr hu hn0
      have hne : gv ≠ gu := fun e => hsep gv rfl (by rw [e]; rfl)
      generalize restsOf t s xs = rs0 at HD2 hrl hu
      generalize downsOf t s xs = ds at HD2 hdl hrb hv
      clear hsep hx HX HS
      generalize xs.length = n at *
      have HRL := Lib.hid hrl
      have HDL := Lib.hid hdl
      clear hrl hdl
      obtain ⟨wb, rfl⟩ : ∃ wb : World, wb = wr := ⟨_, rfl⟩
      go_wp2_with fail
      go_loopw [8] (fun l wr => ∃ (m : Nat) (rs ps : List Int), m ≤ L ∧ l = .int .i64 m ∧ Hid (give L rs0 ds = give m rs ps) ∧ Hid (rs.length = n) ∧ Hid (ps.length = n) ∧ Hid (Bnd (1000000000000000000 + (L - m)) ps) ∧
        wr.ownsRow w.heap.size 2 1 (.slice (some ⟨gv, 0, none⟩) n cv) n (ps.map (Value.int .i64)) ∧ wr.ownsRow w.heap.size 2 1 (.slice (some ⟨gu, 0, none⟩) n cu) n (rs.map (Value.int .i64)) ∧ Below w.heap.size w wr)
        (fun l _ => (intOf l).toNat)
      case atStart => exact ⟨L, rs0, ds, Nat.le_refl _, rfl, Lib.hid rfl, HRL, HDL, Lib.hid (hrb.out.mono (by omega)), hv, hu, hb⟩
      case round =>
        obtain ⟨m, rs, ps, hm, rfl, hgive, hrl, hpl, hbn, hv1, hu1, hb1⟩ := hrel
        clear hv hu hb
        rcases Nat.eq_zero_or_pos m with h0 | h0
        · subst h0
          have HP : Hid (shareD t xs = ps) := Lib.hid (by rw [HD2.out, hgive.out]; rfl)
          clear hgive HD2
          go_wp2_with fail
          go_ret
          refine ⟨some ⟨gv, 0, none⟩, cv, ?_, ?_, hb1⟩
          · rw [HP.out, hpl.out] <;> rfl
          · rw [HP.out, hpl.out]; exact hv1
        · obtain ⟨m, rfl⟩ : ∃ m', m = m' + 1 := ⟨m - 1, by omega⟩
          obtain ⟨wo, rfl⟩ : ∃ wo : World, wo = wr := ⟨_, rfl⟩
          go_wp2_with fail
          go_loopw [10, 11] (fun b i wr => ∃ k b' : Nat, k ≤ n ∧ b = .int .i64 b' ∧ i = .int .i64 k ∧ b' < n ∧ Hid (pickFrom rs (n - k) k b' = pick rs) ∧ ∃ q, wr = wo.drewN q) (fun _ i _ => n - (intOf i).toNat)
          case atStart => exact ⟨0, 0, Nat.zero_le _, rfl, rfl, hn0, Lib.hid (by rw [← hrl.out]; rfl), 0, rfl⟩
          case round =>
            obtain ⟨k, b, hk, rfl, rfl, hbn', hpk, q, rfl⟩ := hrel
            by_cases hlt2 : k < n
            · have c1 := own_getD hu1 hlt2
              have c2 := own_getD hu1 hbn'
              have HN := Lib.hid (pickFrom_step hlt2 hpk.out)
              clear hv1 hu1 hb1 hpk
              by_cases hgt : rs.getD b 0 < rs.getD k 0
              · have HN' : Hid (pickFrom rs (n - (k + 1)) (k + 1) k = pick rs) := Lib.hid (by have := HN.out; rwa [if_pos hgt] at this)
                clear HN
                generalize rs.getD b 0 = x at *
                generalize rs.getD k 0 = y at *
                go_wp2_with fail
                go_quiet (fail)
                go_wp2_with fail
                go_roundw
                case rel => exact ⟨k + 1, k, by omega, rfl, by go_num, by omega, HN', _, rfl⟩
                case measure => simp [intOf]; omega
              · have HN' : Hid (pickFrom rs (n - (k + 1)) (k + 1) b = pick rs) := Lib.hid (by have := HN.out; rwa [if_neg hgt] at this)
                clear HN
                generalize rs.getD b 0 = x at *
                generalize rs.getD k 0 = y at *
                have hd : decide (x < y) = false := decide_eq_false hgt
                clear hgt
                go_wp2_with fail
                go_quiet (fail)
                go_wp2_with fail
                go_roundw
                case rel => exact ⟨k + 1, b, by omega, rfl, by go_num, by omega, HN', _, rfl⟩
                case measure => simp [intOf]; omega
            · obtain rfl : k = n := by omega
              have HB : Hid (pick rs = b) := Lib.hid (by have := hpk.out; rw [Nat.sub_self] at this; exact this.symm)
              have c1 := own_getD hv1 hbn'
              have f1 := hv1.frozenAt b
              obtain ⟨p0, p1⟩ := hbn.out b
              have hv2 : (wo.drewN q).ownsRow w.heap.size 2 1 (.slice (some ⟨gv, 0, none⟩) k cv) k (ps.map (Value.int .i64)) := hv1
              have hu2 : (wo.drewN q).ownsRow w.heap.size 2 1 (.slice (some ⟨gu, 0, none⟩) k cu) k (rs.map (Value.int .i64)) := hu1
              have hs2 : w.heap.size ≤ (wo.drewN q).heap.size := hb1.size
              obtain ⟨_, f1', ⟨o2, c2⟩, f2, HS⟩ := two_stored hv2 hu2 hne b hbn' (.int .i64 (ps.getD b 0 + 1)) (.int .i64 (-1)) hgv hgu hs2
              have HG : Hid (give L rs0 ds = give m (rs.set b (-1)) (bump ps b)) := Lib.hid (by rw [hgive.out]; simp only [give, HB.out]; rfl)
              have HM1 : Hid ((ps.map (Value.int .i64)).set b (.int .i64 (ps.getD b 0 + 1)) = (bump ps b).map (Value.int .i64)) := Lib.hid (by simp [bump, List.map_set])
              have HM2 : Hid ((rs.map (Value.int .i64)).set b (.int .i64 (-1)) = (rs.set b (-1)).map (Value.int .i64)) := Lib.hid (by simp [List.map_set])
              have HBN := Lib.hid (hbn.out.bump b)
              generalize ps.getD b 0 = pv at *
              clear hgive hpk hv1 hu1 hv2 hu2
              go_wp2_with fail
              go_roundw
              case rel => exact ⟨m, rs.set b (-1), bump ps b, by omega, by go_num, HG, Lib.hid (by rw [List.length_set]; exact hrl.out), Lib.hid (by rw [bump_len]; exact hpl.out), Lib.hid (HBN.out.mono (by omega)), by rw [← HM1.out]; exact HS.out.1, by rw [← HM2.out]; exact HS.out.2.1, (hb1.trans ((below_drewN wo q).mono hb1.size)).trans HS.out.2.2⟩
              case measure => simp [intOf]

theorem share_s (t : Int) (A : Option Addr) (c : Nat) (xs : List Int) (w : World) (hx : Ir w A xs) (hn : xs.length ≤ 1048576) :
    Calls Try.prog 14 #[.int .i64 t, .slice A xs.length c] w (NewIntsC w (shareR t xs)) := by
  have H1 := Lib.hid (code_s t A c xs w hx hn)
  by_cases h : codeR t xs = 0
  · have h' : (codeR t xs != 0) = false := by simp [h]
    have E := Lib.hid (shareR_ok h)
    have H2 := Lib.hid (l01Share t A c xs w hx h)
    clear h
    go_enter Try.func14, Try.ntmps14
    go_wp2_with (first | (go_at_call 43; refine H1.out.mono ?_; rintro e w' ⟨rfl, rfl⟩) | (go_at_call 44; refine H2.out.mono ?_; rintro e w' ⟨B, d, rfl, ho, hb⟩))
    go_ret2
    exact ⟨B, d, by rw [E.out] <;> rfl, by rw [E.out]; exact ho, hb⟩
  · have h' : (codeR t xs != 0) = true := by simpa using h
    have E := Lib.hid (shareR_no h)
    clear h
    go_enter Try.func14, Try.ntmps14
    go_wp2_with (go_at_call 43; refine H1.out.mono ?_; rintro e w' ⟨rfl, rfl⟩)
    go_ret2
    exact ⟨none, 0, by rw [E.out] <;> rfl, by rw [E.out]; exact Oi.nil _ _, Below.refl _ _⟩

theorem law_FnExactShareOut (a : Int) (A : Option Addr) (c : Nat) (xs : List Int) (w : World) (_ : (Lit.int .i64 a).wf = true) (hx : Ir w A xs) (hm : xs.length ≤ maxLen) (_ : ∀ x ∈ xs, (Lit.int .i64 x).wf = true) :
    Calls Try.prog 6 #[.int .i64 a, .slice A xs.length c] w fun e w' => e = .returned (.bool true) ∧ Below w.heap.size w w' := by
  unfold maxLen at hm
  by_cases hn : xs.length ≤ 1048576
  · have hR := shareR_len a xs
    have HI := Lib.hid (fun A c w hx => share_i a A c xs w hx hn)
    have HS := Lib.hid (fun A c w hx => share_s a A c xs w hx hn)
    generalize shareR a xs = r at hR HI HS
    go_enter Try.func6, Try.ntmps6
    go_wp2_with fail
    refine (copyInts A c xs _ hx hn).mono ?_
    rintro e w1 ⟨B1, c1, rfl, o1, b1⟩
    go_wp2_with fail
    refine (HS.out B1 c1 w1 o1.ir).mono ?_
    rintro e w2 ⟨C2, c2, rfl, o2, b2⟩
    have t2 := belowGo b1 b2
    have bd2 := o2.bd
    go_wp2_with fail
    refine (copyInts A c xs _ (hx.below t2) hn).mono ?_
    rintro e w3 ⟨X3, c3, rfl, o3, b3⟩
    have t3 := belowGo t2 b3
    go_wp2_with fail
    refine (HI.out X3 c3 w3 o3.ir).mono ?_
    rintro e w4 ⟨G4, c4, rfl, o4, b4⟩
    have t4 := belowGo t3 b4
    have bx4 := o3.bd
    have i4 := (o2.below b3).below b4
    have x4 := o3.below b4
    go_wp2_with fail
    refine (eqInts_same G4 C2 _ _ c4 c2 r.1 w4 o4.ir i4.ir rfl rfl (by omega)).mono ?_
    rintro e w5 ⟨rfl, b5⟩
    have t5 := belowGo t4 b5
    go_wp2_with fail
    refine (copyInts A c xs _ (hx.below t5) hn).mono ?_
    rintro e w6 ⟨X6, c6, rfl, o6, b6⟩
    have t6 := belowGo t5 b6
    go_wp2_with fail
    refine (eqInts_same X3 X6 _ _ c3 c6 xs w6 ((x4.below b5).below b6).ir o6.ir rfl rfl (by omega)).mono ?_
    rintro e w7 ⟨rfl, b7⟩
    have t7 := belowGo t6 b7
    go_wp2_with fail
    refine (markInts X3 _ c3 1 xs _ w7 (((x4.below b5).below b6).below b7) hn (by omega) (by omega)).mono ?_
    rintro e w8 ⟨rfl, o8, g8⟩
    have x7 := ((x4.below b5).below b6).below b7
    have s23 : w2.heap.size ≤ w3.heap.size := b3.size
    have s37 : w3.heap.size ≤ w7.heap.size := Nat.le_trans b4.size (Nat.le_trans b5.size (Nat.le_trans b6.size b7.size))
    have f8 : Below w2.heap.size w7 w8 := x7.far g8 (Nat.le_refl _) (by omega)
    have t8 : Below w.heap.size w w8 := x7.wrote t7 g8 t2.size t7.size
    have g8' := (((o4.below b5).below b6).below b7).kept g8 bx4
    have i8 : Ir w8 C2 r.1 := (((i4.below b5).below b6).below b7).ir.keepB bd2 f8
    have hk : decide ((1 : Int) + (xs.length : Int) < 0) = false := by simp; omega
    clear o8 f8
    go_wp2_with fail
    refine (eqInts_same G4 C2 _ _ c4 c2 r.1 w8 g8'.ir i8 rfl rfl (by omega)).mono ?_
    rintro e w9 ⟨rfl, b9⟩
    have t9 := belowGo t8 b9
    have g9 := g8'.below b9
    have i9 := i8.below b9
    clear g8'
    go_wp2_with fail
    refine (markInts G4 _ c4 1 r.1 _ w9 g9 (by omega) (by omega) (by omega)).mono ?_
    rintro e w10 ⟨rfl, o10, g10⟩
    have s9 : w3.heap.size ≤ w9.heap.size := Nat.le_trans s37 (Nat.le_trans g8.size b9.size)
    have f10 : Below w2.heap.size w9 w10 := g9.far g10 s23 (by omega)
    have t10 : Below w.heap.size w w10 := g9.wrote t9 g10 t3.size t9.size
    have i10 := i9.keepB bd2 f10
    clear f10 g9
    go_wp2_with fail
    refine (heldInts G4 _ c4 1 w10 o10.ir (by omega) (by omega) (by omega)).mono ?_
    rintro e w' ⟨rfl, rfl⟩
    have hk2 : decide ((1 : Int) + (r.1.length : Int) < 0) = false := by simp; omega
    have hk3 : ((1 : Int) + (r.1.length : Int) != 1 + (r.1.length : Int)) = false := by simp
    go_wp2_with fail
    refine (copyInts A c xs _ (hx.below t10) hn).mono ?_
    rintro e w11 ⟨X11, c11, rfl, o11, b11⟩
    have t11 := belowGo t10 b11
    go_wp2_with fail
    refine (HI.out X11 c11 w11 o11.ir).mono ?_
    rintro e w12 ⟨H12, c12, rfl, o12, b12⟩
    have t12 := belowGo t11 b12
    go_wp2_with fail
    refine (eqInts_same H12 C2 _ _ c12 c2 r.1 w12 o12.ir ((i10.below b11).below b12) rfl rfl (by omega)).mono ?_
    rintro e w13 ⟨rfl, b13⟩
    have t13 := belowGo t12 b13
    go_wp2_with fail
    refine (heldInts G4 _ c4 1 w13 (((o10.below b11).below b12).below b13).ir (by omega) (by omega) (by omega)).mono ?_
    rintro e w' ⟨rfl, rfl⟩
    go_wp2_with fail
    go_ret
    exact ⟨rfl, t13⟩
  · go_enter Try.func6, Try.ntmps6
    go_wp2_with fail
    go_ret
    exact ⟨rfl, Below.refl _ _⟩
end Go.Proofs.Ytgapkkkalandhaa
