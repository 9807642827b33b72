/- impl.codesOnlyIn, ChangedClauses. (by gen_chi.py) -/
import Derived.Test.YtjcklmhgjdmjoaaCha
import Derived.Test.YtjcklmhgjdmjoaaClb
import Derived.Test.YtjcklmhgjdmjoaaOwi
import Derived.Test.YtjcklmhgjdmjoaaStg
namespace Go.Proofs.Ytjcklmhgjdmjoaa
open Go.ChangeShapes Go.WideShapes Go.ChangeAt Go.RowKit
set_option linter.unusedVariables false

theorem eql_cls (W : World) (p q : Cls) : (binOp .eql 54 (.agg #[.string ⟨p.c.toArray⟩, .int .i64 p.k, .int .i64 p.p, .int .i64 p.v, .int .i64 p.r, .int .i64 p.e, .string ⟨p.t.toArray⟩]) (.agg #[.string ⟨q.c.toArray⟩, .int .i64 q.k, .int .i64 q.p, .int .i64 q.v, .int .i64 q.r, .int .i64 q.e, .string ⟨q.t.toArray⟩])).run Try.prog W = .ok (.bool (clB p q)) W := by
  rw [run_eql_struct]
  exact (congrArg (fun r => Result.andThen r _) (eqIn_cls W p q)).trans rfl
set_option maxRecDepth 100000 in
set_option maxHeartbeats 4000000 in
theorem index_cl (A : Option Addr) (c : Nat) (ps : List Cls) (p : Cls) (w : World) (hR : ClsR w A ps) (hn : ps.length ≤ 1000000000) :
    Calls Try.prog 141 #[.slice A ps.length c, .agg #[.string ⟨p.c.toArray⟩, .int .i64 p.k, .int .i64 p.p, .int .i64 p.v, .int .i64 p.r, .int .i64 p.e, .string ⟨p.t.toArray⟩]] w (Gives w (.int .i64 (idxI (fun q => clB p q) ps))) := by
  have kc := KeepC.new w p
  have HR := Lib.hid (fun W (b : Below w.heap.size w W) => hR.below b)
  clear hR
  go_enter Try.func141, Try.ntmps141
  go_wp2_with fail
  go_loopw [8] (fun i wr => ∃ k : Nat, k ≤ ps.length ∧ i = .int .i64 k ∧ Hid (∀ (j : Nat) (q : Cls), j < k → ps[j]? = some q → clB p q = false) ∧ KeepC w p wr) (fun i _ => ps.length - (intOf i).toNat)
  case atStart => exact ⟨0, Nat.zero_le _, rfl, Lib.hid fun j q hj => by omega, kc⟩
  case round =>
    clear kc
    obtain ⟨k, hk, rfl, hno, kc⟩ := hrel
    by_cases hlt : k < ps.length
    · obtain ⟨b, off, q, rfl, hl, hq, h4⟩ := (HR.out wr kc.bel).at hlt
      have q0 : ∀ y : Sub (Bel wr), y.w.cell? ⟨b, off + k * 7, none⟩ = some (.string ⟨q.c.toArray⟩) := fun y => (h4.below hl y.h).c0
      have q1 : ∀ y : Sub (Bel wr), y.w.cell? ⟨b, off + k * 7 + 1, none⟩ = some (.int .i64 q.k) := fun y => (h4.below hl y.h).c1
      have q2 : ∀ y : Sub (Bel wr), y.w.cell? ⟨b, off + k * 7 + 2, none⟩ = some (.int .i64 q.p) := fun y => (h4.below hl y.h).c2
      have q3 : ∀ y : Sub (Bel wr), y.w.cell? ⟨b, off + k * 7 + 3, none⟩ = some (.int .i64 q.v) := fun y => (h4.below hl y.h).c3
      have q4 : ∀ y : Sub (Bel wr), y.w.cell? ⟨b, off + k * 7 + 4, none⟩ = some (.int .i64 q.r) := fun y => (h4.below hl y.h).c4
      have q5 : ∀ y : Sub (Bel wr), y.w.cell? ⟨b, off + k * 7 + 5, none⟩ = some (.int .i64 q.e) := fun y => (h4.below hl y.h).c5
      have q6 : ∀ y : Sub (Bel wr), y.w.cell? ⟨b, off + k * 7 + 6, none⟩ = some (.string ⟨q.t.toArray⟩) := fun y => (h4.below hl y.h).c6
      have r0 : ∀ y : Sub (Bel wr), y.w.cell? ⟨w.heap.size, 0, none⟩ = some (.string ⟨p.c.toArray⟩) := fun y => (kc.step y.h).cells.c0
      have r1 : ∀ y : Sub (Bel wr), y.w.cell? ⟨w.heap.size, 1, none⟩ = some (.int .i64 p.k) := fun y => (kc.step y.h).cells.c1
      have r2 : ∀ y : Sub (Bel wr), y.w.cell? ⟨w.heap.size, 2, none⟩ = some (.int .i64 p.p) := fun y => (kc.step y.h).cells.c2
      have r3 : ∀ y : Sub (Bel wr), y.w.cell? ⟨w.heap.size, 3, none⟩ = some (.int .i64 p.v) := fun y => (kc.step y.h).cells.c3
      have r4 : ∀ y : Sub (Bel wr), y.w.cell? ⟨w.heap.size, 4, none⟩ = some (.int .i64 p.r) := fun y => (kc.step y.h).cells.c4
      have r5 : ∀ y : Sub (Bel wr), y.w.cell? ⟨w.heap.size, 5, none⟩ = some (.int .i64 p.e) := fun y => (kc.step y.h).cells.c5
      have r6 : ∀ y : Sub (Bel wr), y.w.cell? ⟨w.heap.size, 6, none⟩ = some (.string ⟨p.t.toArray⟩) := fun y => (kc.step y.h).cells.c6
      have HK := Lib.hid (fun y : Sub (Bel wr) => kc.step y.h)
      have N0 := fun W => eql_cls W p q
      obtain ⟨v, hv⟩ : ∃ v, clB p q = v := ⟨_, rfl⟩
      rw [hv] at N0
      cases v
      · have HN : Hid (∀ (j : Nat) (q : Cls), j < k + 1 → ps[j]? = some q → clB p q = false) := Lib.hid fun j q hj hq2 => by
          rcases Nat.lt_or_ge j k with h1 | h1
          · exact hno.out j q h1 hq2
          · obtain rfl : j = k := by omega
            rw [hq.out] at hq2; rw [← Option.some.inj hq2]; exact hv
        clear hno hq h4 hv kc
        go_wp2_with fail
        refine region_held (Bel wr) (by kernel_rfl) (by kernel_rfl) (Bel.drew wr) ?_
        repeat (go_big_quiet_step (first | rfl | exact N0 _))
        refine wpQuiet_nil ?_
        rintro _ ⟨y, rfl⟩
        go_wp2_with fail
        go_roundw
        case rel => exact ⟨k + 1, by omega, by go_num, HN, HK.out y⟩
        case measure => simp [intOf]; omega
      · have E : Hid (idxI (fun q => clB p q) ps = (k : Int)) := Lib.hid (idxI_some hq.out hv hno.out)
        clear hno hq h4 hv kc
        go_wp2_with fail
        refine region_held (Bel wr) (by kernel_rfl) (by kernel_rfl) (Bel.drew wr) ?_
        repeat (go_big_quiet_step (first | rfl | exact N0 _))
        refine wpQuiet_nil ?_
        rintro _ ⟨y, rfl⟩
        go_wp2_with fail
        go_ret
        exact ⟨by rw [E.out] <;> rfl, (HK.out y).bel⟩
    · have E : Hid (idxI (fun q => clB p q) ps = -1) := Lib.hid (idxI_none fun j q hq => hno.out j q (by have := (List.getElem?_eq_some_iff.1 hq).1; omega) hq)
      have hbw := Lib.hid kc.bel
      clear hno kc
      go_wp2_with fail
      go_ret
      exact ⟨by rw [E.out] <;> rfl, hbw.out⟩
theorem cont_cl (A : Option Addr) (c : Nat) (ps : List Cls) (p : Cls) (w : World) (hR : ClsR w A ps) (hn : ps.length ≤ 1000000000) {v : Bool} (hv : outC ps p = !v) :
    Calls Try.prog 129 #[.slice A ps.length c, .agg #[.string ⟨p.c.toArray⟩, .int .i64 p.k, .int .i64 p.p, .int .i64 p.v, .int .i64 p.r, .int .i64 p.e, .string ⟨p.t.toArray⟩]] w (Gives w (.bool v)) := by
  have kc := KeepC.new w p
  have HI := Lib.hid (index_cl A c ps p _ (hR.below kc.bel) hn)
  have hd : decide (0 ≤ idxI (fun q => clB p q) ps) = v := by
    have h1 : decide (0 ≤ idxI (fun q => clB p q) ps) = ps.any (fun q => clB p q) := by
      unfold idxI
      cases h : ps.findIdx? (fun q => clB p q) with
      | none =>
        rw [List.findIdx?_eq_none_iff] at h
        have : ps.any (fun q => clB p q) = false := by rw [List.any_eq_false]; intro x hx; rw [h x hx]; exact Bool.false_ne_true
        rw [this]; decide
      | some k =>
        obtain ⟨hl, hk, _⟩ := List.findIdx?_eq_some_iff_getElem.1 h
        have : ps.any (fun q => clB p q) = true := by rw [List.any_eq_true]; exact ⟨_, List.getElem_mem hl, hk⟩
        rw [this]; simp
    unfold outC at hv
    rw [h1]
    revert hv
    cases ps.any (fun q => clB p q) <;> cases v <;> simp
  have HB := Lib.hid kc.bel
  have r0 := kc.cells.c0; have r1 := kc.cells.c1; have r2 := kc.cells.c2; have r3 := kc.cells.c3; have r4 := kc.cells.c4; have r5 := kc.cells.c5; have r6 := kc.cells.c6
  clear hR kc hv
  generalize idxI (fun q => clB p q) ps = r at *
  go_enter Try.func129, Try.ntmps129
  go_wp2_with fail
  refine HI.out.mono ?_
  rintro e w1 ⟨rfl, b1⟩
  go_wp2_with fail
  go_ret
  exact ⟨by rw [← hd] <;> rfl, belowGo HB.out b1⟩
theorem made0K (w : World) (base : Nat) (e : TypeId) (size : Nat) (hb : base ≤ w.heap.size) : (w.alloc (Obj.cells #[] e)).ownsRow base e size (.slice (some ⟨w.heap.size, 0, none⟩) 0 0) 0 [] :=
  World.ownsRow_made w #[] 0 hb (by decide) (by simp)
set_option maxRecDepth 100000 in
set_option maxHeartbeats 4000000 in
theorem only_i (A B : Option Addr) (c d : Nat) (ps qs : List Cls) (w : World) (ha : ClsR w A ps) (hb0 : ClsR w B qs) (hn : ps.length ≤ 1000) (hn2 : qs.length ≤ 1000) :
    Calls Try.prog 98 #[.slice A ps.length c, .slice B qs.length d] w fun e w' => ∃ O q, e = .returned (.slice O (onlyC ps qs).length q) ∧ Ost w' w.heap.size O (onlyC ps qs).length q (onlyC ps qs) ∧ Below w.heap.size w w' := by
  obtain ⟨i0, hi, hz0, hz1, hz2⟩ := info_parts strInfo
  have HA := Lib.hid (fun W (b : Below w.heap.size w W) => ha.below b)
  have HB0 := Lib.hid (fun W (b : Below w.heap.size w W) => hb0.below b)
  clear ha hb0
  go_enter Try.func98, Try.ntmps98
  go_wp2_with fail
  go_loopw [5, 11] (fun o i wr => ∃ (k : Nat) (ys : List (List UInt8)), k ≤ ps.length ∧ i = .int .i64 k ∧ wr.ownsRow w.heap.size 9 1 o ys.length (ys.map encStr) ∧ Hid (ys = onlyC (ps.take k) qs) ∧ Below w.heap.size w wr) (fun _ i _ => ps.length - (intOf i).toNat)
  case atStart => exact ⟨0, [], Nat.zero_le _, rfl, made0K _ _ _ _ (Nat.le_refl _), Lib.hid rfl, (Below.refl _ _).alloc (Nat.le_refl _) _⟩
  case round =>
    obtain ⟨k, ys, hk, rfl, hown, hys, hb⟩ := hrel
    obtain ⟨O, q, rfl⟩ := own_form hown
    have hyl : ys.length ≤ k := by rw [hys.out]; have := only_len (ps.take k) qs; rw [List.length_take] at this; omega
    by_cases hlt : k < ps.length
    · obtain ⟨b, off, p, rfl, hl, hp, h4⟩ := (HA.out wr hb).at hlt
      have c0 := h4.c0; have c1 := h4.c1; have c2 := h4.c2; have c3 := h4.c3; have c4 := h4.c4; have c5 := h4.c5; have c6 := h4.c6
      have kc := KeepC.new wr p
      have HS := Lib.hid (out_snoc (ps.take k) qs p)
      rw [← snoc_of hp.out, ← hys.out] at HS
      obtain ⟨v, hv⟩ : ∃ v, outC qs p = !v := ⟨!outC qs p, by simp⟩
      have HC := Lib.hid (cont_cl B d qs p _ ((HB0.out wr hb).below kc.bel) (by omega) hv)
      have HB1 := Lib.hid (belowGo hb kc.bel)
      have HO1 := Lib.hid (own_below hown kc.bel)
      have r0 := kc.cells.c0; have r1 := kc.cells.c1; have r2 := kc.cells.c2; have r3 := kc.cells.c3; have r4 := kc.cells.c4; have r5 := kc.cells.c5; have r6 := kc.cells.c6
      have KC := Lib.hid kc
      rw [hv] at HS
      clear h4 hp hys hv kc hown
      cases v
      · have HS2 : Hid (ys ++ [p.c] = onlyC (ps.take (k + 1)) qs) := Lib.hid HS.out.symm
        clear HS
        go_wp2_with fail
        refine HC.out.mono ?_
        rintro e w2 ⟨rfl, b2⟩
        have hown2 := own_below HO1.out b2
        have hb2 := belowGo HB1.out b2
        have s0 := (KC.out.step b2).cells.c0
        clear r0 r1 r2 r3 r4 r5 r6 b2 HC HB1 HO1 KC
        go_wp2_with (at_builtin; refine wpList_push _ rfl (.tmp 19) (.tmp 22) 29 rfl w.heap.size 9 i0 _ 1 16 Try.underlying29 hi hz0 hz1 hz2 rfl (by decide) _ ys.length _ rfl hown2 [.string ⟨p.c.toArray⟩] rfl (by simp [Value.oneCell']) rfl (by unfold maxLen; omega) (by omega) hb2.size ?_; intro v' w' hown' hb')
        go_roundw
        case rel => exact ⟨k + 1, ys ++ [p.c], by omega, by go_num, by simpa [encStr] using hown', HS2, hb2.trans hb'⟩
        case measure => simp [intOf]; omega
      · have HS2 : Hid (ys = onlyC (ps.take (k + 1)) qs) := Lib.hid HS.out.symm
        clear HS
        go_wp2_with fail
        refine HC.out.mono ?_
        rintro e w2 ⟨rfl, b2⟩
        have hown2 := own_below HO1.out b2
        have hb2 := belowGo HB1.out b2
        clear r0 r1 r2 r3 r4 r5 r6 b2 HC HB1 HO1 KC
        go_wp2_with fail
        go_roundw
        case rel => exact ⟨k + 1, ys, by omega, by go_num, hown2, HS2, hb2⟩
        case measure => simp [intOf]; omega
    · have HY : Hid (ys = onlyC ps qs) := Lib.hid (by rw [hys.out, take_all hk hlt])
      clear hys
      go_wp2_with fail
      go_ret
      rw [← HY.out]
      exact ⟨O, q, rfl, hown, hb⟩
theorem own_adr {w : World} {base n q size : Nat} {e : TypeId} {O : Option Addr} {xs : List Value} (h : w.ownsRow base e size (.slice O n q) n xs) : O = none ∨ ∃ b off, O = some ⟨b, off, none⟩ := by
  rcases h.2 with ⟨h1, _⟩ | ⟨g, _, _, h1, _⟩
  · injection h1 with h1; exact .inl h1
  · injection h1 with h1; exact .inr ⟨_, _, h1⟩
set_option maxRecDepth 100000 in
set_option maxHeartbeats 4000000 in
theorem cc_i (A B : Option Addr) (c d : Nat) (ps qs : List Cls) (w : World) (ha : CTbl w A ps) (hb : CTbl w B qs) :
    Calls Try.prog 40 #[.slice A ps.length c, .slice B qs.length d] w (NewStrsC w (ccR ps qs)) := by
  rcases Bool.eq_false_or_eq_true (rbB ps) with h | h
  · have HA := Lib.hid (isRb_i A c ps w ha)
    rw [h] at HA
    rcases Bool.eq_false_or_eq_true (rbB qs) with h1 | h1
    · have HB := Lib.hid (fun W (b : Below w.heap.size w W) => isRb_i B d qs W (hb.below b))
      rw [h1] at HB
      have E := Lib.hid (ccR_ok h h1)
      have l1 := (rb_of h).hi
      have l2 := (rb_of h1).hi
      have HE := Lib.hid (only_eq (rb_of h) (rb_of h1))
      have H1 := Lib.hid (fun W (b : Below w.heap.size w W) => only_i A B c d ps qs W (ha.row.below b) (hb.row.below b) (by omega) (by omega))
      have H2 := Lib.hid (fun W (b : Below w.heap.size w W) => only_i B A d c qs ps W (hb.row.below b) (ha.row.below b) (by omega) (by omega))
      have m1 := only_len ps qs
      have m2 := only_len qs ps
      clear h h1 ha hb
      generalize onlyC ps qs = xs at *
      generalize onlyC qs ps = zs at *
      go_enter Try.func40, Try.ntmps40
      go_wp2_with fail
      refine HA.out.mono ?_
      rintro e w1 ⟨rfl, b1⟩
      go_wp2_with fail
      refine (HB.out _ b1).mono ?_
      rintro e w2 ⟨rfl, b2⟩
      have t2 := belowGo b1 b2
      go_wp2_with fail
      refine (H1.out _ t2).mono ?_
      rintro e w3 ⟨O1, q1, rfl, o1, b3⟩
      have t3 := belowGo t2 b3
      go_wp2_with fail
      refine (H2.out _ t3).mono ?_
      rintro e w4 ⟨O2, q2, rfl, o2, b4⟩
      have t4 := belowGo t3 b4
      have HCQ := Lib.hid (concat_qS (g := w4.heap.size) (n := 2) (c := 2) (L := xs ++ zs) (pieces2S (w := w4) (c1 := q1) (c2 := q2) (o1.below b4).sr o2.sr (own_adr o1) (own_adr o2) rfl rfl) rfl (by decide) (by simp [joinS]) (by rw [List.length_append]; omega))
      have t5 := belowGo t4 (below_alloc w4 (.cells #[.slice O1 xs.length q1, .slice O2 zs.length q2] 29))
      clear o1 o2 b3 b4 b1 b2 HA HB H1 H2 t2 t3 t4
      go_wp2_with fail
      refine HCQ.out.mono ?_
      rintro e w6 ⟨O, q, rfl, o6, b6⟩
      have t6 := belowGo t5 b6
      obtain ⟨ys, hys⟩ : ∃ ys, ys = xs ++ zs := ⟨_, rfl⟩
      rw [← hys] at o6 HE ⊢
      have HY : Hid (ownU (chgL ps qs) = Lib.compact (ys.mergeSort fun x y => decide (x ≤ y))) := Lib.hid (by rw [compact_sort, HE.out])
      have o6' : Ost w6 w.heap.size O ys.length q ys := own_monoS o6 t5.size
      have hyl : ys.length ≤ 1000 := by rw [hys, List.length_append]; omega
      have HSO := Lib.hid (sort_iO O q ys w.heap.size w6 o6' (by omega))
      have HL := Lib.hid (fun k e => (World.ownsRow.lt o6' k e).1)
      have hsl : (ys.mergeSort fun x y => decide (x ≤ y)).length = ys.length := List.length_mergeSort _
      obtain ⟨vs, hvs⟩ : ∃ vs, vs = ys.mergeSort fun x y => decide (x ≤ y) := ⟨_, rfl⟩
      rw [← hvs] at HY HSO hsl
      have HSL := Lib.hid hsl
      clear o6 o6' b6 t5 HE hys hvs HCQ hsl
      go_wp2_with fail
      refine HSO.out.mono ?_
      rintro e w7 ⟨rfl, o7, g7⟩
      have hb7 := t6.grown g7 t6.size HL.out
      have HC := Lib.hid (compact_iO O q vs w.heap.size w7 (by rw [HSL.out]; exact o7) (by rw [HSL.out]; omega))
      rw [HSL.out] at HC
      have HL2 := Lib.hid (fun k e => (World.ownsRow.lt o7 k e).1)
      clear o7 g7 t6
      go_wp2_with (go_at_call 100; refine HC.out.mono ?_; rintro e w8 ⟨rfl, o8, g8⟩)
      go_ret2
      rw [E.out, HY.out]
      exact ⟨O, q, rfl, o8, hb7.grown g8 hb7.size HL2.out⟩
    · have HB := Lib.hid (fun W (b : Below w.heap.size w W) => isRb_i B d qs W (hb.below b))
      rw [h1] at HB
      have E := Lib.hid (@ccR_no ps qs (.inr h1))
      clear h h1 ha hb
      go_enter Try.func40, Try.ntmps40
      go_wp2_with fail
      refine HA.out.mono ?_
      rintro e w1 ⟨rfl, b1⟩
      go_wp2_with fail
      refine (HB.out _ b1).mono ?_
      rintro e w2 ⟨rfl, b2⟩
      go_wp2_with fail
      go_ret2
      rw [E.out]
      exact ⟨none, 0, rfl, Ost.nil _ _, belowGo b1 b2⟩
  · have HA := Lib.hid (isRb_i A c ps w ha)
    rw [h] at HA
    have E := Lib.hid (@ccR_no ps qs (.inl h))
    clear h ha hb
    go_enter Try.func40, Try.ntmps40
    go_wp2_with fail
    refine HA.out.mono ?_
    rintro e w1 ⟨rfl, b1⟩
    go_wp2_with fail
    go_ret2
    rw [E.out]
    exact ⟨none, 0, rfl, Ost.nil _ _, b1⟩
end Go.Proofs.Ytjcklmhgjdmjoaa
