import Derived.Test.YtjcklmhgjdmjoaaGreatMLib
import Derived.Test.YtjcklmhgjdmjoaaGreatClb
import Derived.Test.YtjcklmhgjdmjoaaGreatMCode
import Derived.Test.YtjcklmhgjdmjoaaGreatEdc
import Derived.Laws.Append
namespace Go.Proofs.YtjcklmhgjdmjoaaGreat
open Go.ChangeShapes Go.WideShapes Go.ChangeAt Go.RowKit
set_option linter.unusedVariables false
structure KeepN (w : World) (y : Int) (A : Option Addr) (n c : Nat) (W : World) : Prop where
 a : W.heap[w.heap.size]? = some (.cells #[.int .i64 y, .slice A n c] 42 (0, 0))
 bel : Below w.heap.size w W
section
variable {w W w' : World} {y : Int} {A : Option Addr} {n c : Nat}
theorem KeepN.step (k : KeepN w y A n c W) (b : Below W.heap.size W w') : KeepN w y A n c w' := ⟨(b.block _ (lt_some k.a)).trans k.a, belowGo k.bel b⟩
theorem KeepN.drew (k : KeepN w y A n c W) : KeepN w y A n c W.drew := ⟨k.a, k.bel.drew⟩
theorem KeepN.c0 (k : KeepN w y A n c W) : W.cell? ⟨w.heap.size, 0, none⟩ = some (.int .i64 y) := by rw [cell_of_row _ _ _ _ _ _ k.a]; rfl
theorem KeepN.c1 (k : KeepN w y A n c W) : W.cell? ⟨w.heap.size, 1, none⟩ = some (.slice A n c) := by rw [cell_of_row _ _ _ _ _ _ k.a]; rfl
theorem KeepN.new (w : World) (y : Int) (A : Option Addr) (n c : Nat) : KeepN w y A n c (w.alloc (.cells #[.int .i64 y, .slice A n c] 42)) := ⟨heap_alloc_new _ _, below_alloc _ _⟩
end
set_option maxHeartbeats 1000000 in
theorem edValid_i (y : Int) (A : Option Addr) (c : Nat) (cs : List Cls) (w : World) (h : CTbl w A cs) :
  Calls Tryz.prog 56 #[.agg #[.int .i64 y, .slice A cs.length c]] w (Gives w (.bool (inr y 1970 2069 && rbB cs))) := by
 have k0 := KeepN.new w y A cs.length c
 have HR := Lib.hid (isRb_i A c cs _ (h.below k0.bel))
 have c0 := k0.c0; have c1 := k0.c1
 have B := Lib.hid k0.bel
 clear h k0
 obtain ⟨u, hu⟩ : ∃ u, inr y 1970 2069 = u := ⟨_, rfl⟩
 rw [hu]
 generalize rbB cs = v at *
 cases u
 ·
  go_enter Tryz.func56, Tryz.ntmps56
  go_wp2_with (go_at_call 75; refine (within_q hu _).mono ?_; rintro e w1 ⟨rfl, rfl⟩)
  go_ret
  exact ⟨rfl, B.out⟩
 ·
  go_enter Tryz.func56, Tryz.ntmps56
  go_wp2_with (first
   | (go_at_call 75; refine (within_q hu _).mono ?_; rintro e w1 ⟨rfl, rfl⟩)
   | (go_at_call 32; refine HR.out.mono ?_; rintro e w2 ⟨rfl, b2⟩))
  go_ret
  exact ⟨rfl, belowGo B.out b2⟩
theorem edValid_y {wr : World} {y : Int} {A : Option Addr} {c : Nat} {cs : List Cls} {b : Bool} (h : CTbl wr A cs) (hb : (inr y 1970 2069 && rbB cs) = b) (z : Sub (Bel wr)) :
  Calls Tryz.prog 56 #[.agg #[.int .i64 y, .slice A cs.length c]] z.w fun e w' => e = .returned (.bool b) /\ ∃ z2 : Sub (Bel wr), w' = z2.w :=
 (edValid_i y A c cs z.w (h.below z.h)).mono fun e w' k => ⟨by rw [<- hb]; exact k.1, ⟨w', Bel.step z k.2⟩, rfl⟩
theorem lbAt_v {es : List Edn} {k : Nat} {e : Edn} (h : es[k]? = some e) (hv : (inr e.y 1970 2069 && rbB e.cs) = true) : lbAt es k = (k == 0 || match es[k - 1]? with | some d => decide (d.y < e.y) | none => false) := by
 unfold lbAt; rw [h]
 simp only [<- Bool.and_assoc, hv, Bool.true_and]
 cases es[k - 1]? <;> rfl
set_option maxRecDepth 100000 in
set_option maxHeartbeats 8000000 in
theorem isLibI_i (A : Option Addr) (c : Nat) (es : List Edn) (w : World) (h : LTbl w A es) :
  Calls Tryz.prog 27 #[.slice A es.length c] w (Gives w (.bool (lbB es))) := by
 have hn := h.len
 have HR := Lib.hid h
 clear h
 by_cases h0 : es.length = 0
 ·
  have E : Hid (lbB es = false) := Lib.hid (by unfold lbB; rw [h0]; simp [inr])
  go_enter Tryz.func27, Tryz.ntmps27
  rw [h0]
  go_wp2_with fail
  go_ret
  exact ⟨by rw [E.out] <;> rfl, Below.refl _ _⟩
 by_cases h6 : 6 < es.length
 ·
  have E : Hid (lbB es = false) := Lib.hid (by unfold lbB; rw [Bool.and_eq_false_iff]; right; rw [Bool.eq_false_iff]; intro hh; have := inr_iff.1 hh; omega)
  have d0 : ((es.length : Int) == 0) = false := beq_eq_false_iff_ne.2 (by omega)
  have d1 : decide (6 < (es.length : Int)) = true := decide_eq_true (by omega)
  go_enter Tryz.func27, Tryz.ntmps27
  go_wp2_with fail
  go_ret
  exact ⟨by rw [E.out] <;> rfl, Below.refl _ _⟩
 have d0 : ((es.length : Int) == 0) = false := beq_eq_false_iff_ne.2 (by omega)
 have d1 : decide (6 < (es.length : Int)) = false := decide_eq_false (by omega)
 go_enter Tryz.func27, Tryz.ntmps27
 go_wp2_with fail
 go_loopw [15] (fun i wr => ∃ k : Nat, k <= es.length /\ i = .int .i64 k /\ Hid (lbTo es k = true) /\ Below w.heap.size w wr) (fun i _ => es.length - (intOf i).toNat)
 case atStart => exact ⟨0, Nat.zero_le _, rfl, Lib.hid rfl, Below.refl _ _⟩
 case round =>
  obtain ⟨k, hk, rfl, hok, hb⟩ := hrel
  clear d0 d1
  by_cases hlt : k < es.length
  ·
   obtain ⟨b, off, e, a, cp, rfl, hl, he, c0, c1, hct⟩ := (HR.out.below hb).at hlt
   have k0 := KeepN.new wr e.y a e.cs.length cp
   obtain ⟨wA, hwA⟩ : ∃ x, wr.alloc (.cells #[.int .i64 e.y, .slice a e.cs.length cp] 42) = x := ⟨_, rfl⟩
   have hbA : Below w.heap.size w wA := by rw [<- hwA]; exact belowGo hb k0.bel
   have HB := Lib.hid (fun y : Sub (Bel wA) => (belowGo hbA y.h : Below w.heap.size w y.w))
   rw [hwA] at k0
   have q0 : ∀ y : Sub (Bel wA), y.w.cell? ⟨wr.heap.size, 0, none⟩ = some (.int .i64 e.y) := fun y => (k0.step y.h).c0
   have q1 : ∀ y : Sub (Bel wA), y.w.cell? ⟨wr.heap.size, 1, none⟩ = some (.slice a e.cs.length cp) := fun y => (k0.step y.h).c1
   obtain ⟨v, hv⟩ : ∃ v, (inr e.y 1970 2069 && rbB e.cs) = v := ⟨_, rfl⟩
   have HV := Lib.hid (fun y : Sub (Bel wA) => edValid_y (c := cp) (hct.below k0.bel) hv y)
   cases v
   ·
    have E : Hid (lbB es = false) := Lib.hid (lb_no hlt (lbAt_no he.out hv))
    clear hok he hct hv
    go_wp2_with fail
    try rw [hwA]
    refine region_held (Bel wA) (by kernel_rfl) (by kernel_rfl) (Bel.drew wA) ?_
    repeat (go_big_quiet_step ((first | rfl | (go_at_call 56; exact HV.out _))))
    refine wpQuiet_nil ?_
    rintro _ ⟨y, rfl⟩
    go_wp2_with fail
    go_ret
    exact ⟨by rw [E.out] <;> rfl, HB.out y⟩
   ·
    have HA := lbAt_v he.out hv
    by_cases hk0 : 0 < k
    ·
     obtain ⟨b', off', d, a', cp', e2, hl', hd, c0', _, _⟩ := (HR.out.below hb).at (k := k - 1) (by omega)
     obtain ⟨rfl, rfl⟩ : b = b' /\ off = off' := by injection e2 with e2; injection e2 with e3 e4; exact ⟨e3, e4⟩
     have p0 : ∀ y : Sub (Bel wA), y.w.cell? ⟨b, off + (k - 1) * 2, none⟩ = some (.int .i64 d.y) := fun y => (Below.cell (show Below wr.heap.size wr y.w from (k0.step y.h).bel) (p := ⟨b, off + (k - 1) * 2, none⟩) hl').trans c0'
     have ho : lbAt es k = decide (d.y < e.y) := by
      rw [HA, hd.out]; simp; omega
     have HT := Lib.hid (lbTo_succ es k)
     rw [hok.out, Bool.true_and, ho] at HT
     have E := Lib.hid (fun h : decide (d.y < e.y) = false => lb_no hlt (ho.trans h))
     have kk : decide (0 < (k : Int)) = true := decide_eq_true (by omega)
     clear hok he hd hct c0' e2 ho hv HA
     by_cases hqr : d.y < e.y
     ·
      rw [decide_eq_true hqr] at HT
      clear E
      go_wp2_with fail
      try rw [hwA]
      refine region_held (Bel wA) (by kernel_rfl) (by kernel_rfl) (Bel.drew wA) ?_
      repeat (go_big_quiet_step ((first | rfl | (go_at_call 56; exact HV.out _))))
      refine wpQuiet_nil ?_
      rintro _ ⟨y, rfl⟩
      go_wp2_with fail
      go_roundw
      case rel => exact ⟨k + 1, by omega, by go_num, HT, HB.out y⟩
      case measure => simp [intOf]; omega
     ·
      have E3 : Hid (lbB es = false) := Lib.hid (E.out (decide_eq_false hqr))
      have hqr : e.y <= d.y := by omega
      clear E HT
      go_wp2_with fail
      try rw [hwA]
      refine region_held (Bel wA) (by kernel_rfl) (by kernel_rfl) (Bel.drew wA) ?_
      repeat (go_big_quiet_step ((first | rfl | (go_at_call 56; exact HV.out _))))
      refine wpQuiet_nil ?_
      rintro _ ⟨y, rfl⟩
      go_wp2_with fail
      go_ret
      exact ⟨by rw [E3.out] <;> rfl, HB.out y⟩
    ·
     have HT : Hid (lbTo es (k + 1) = true) := Lib.hid (by
      rw [lbTo_succ, hok.out, HA]
      obtain rfl : k = 0 := by omega
      rfl)
     have hd0 : decide (0 < (k : Int)) = false := by simp; omega
     clear hok he hct hv HA
     go_wp2_with fail
     try rw [hwA]
     refine region_held (Bel wA) (by kernel_rfl) (by kernel_rfl) (Bel.drew wA) ?_
     repeat (go_big_quiet_step ((first | rfl | (go_at_call 56; exact HV.out _))))
     refine wpQuiet_nil ?_
     rintro _ ⟨y, rfl⟩
     go_wp2_with fail
     go_roundw
     case rel => exact ⟨k + 1, by omega, by go_num, HT, HB.out y⟩
     case measure => simp [intOf]; omega
  ·
   have E : Hid (lbB es = true) := Lib.hid (by
    obtain rfl : k = es.length := by omega
    rw [lb_all hok.out]; exact inr_iff.2 (by omega))
   clear hok
   go_wp2_with fail
   go_ret
   exact ⟨by rw [E.out] <;> rfl, hb⟩
theorem lbI_q {w : World} {A : Option Addr} {c : Nat} {es : List Edn} {b : Bool} (h : LTbl w A es) (hb : lbB es = b) : Calls Tryz.prog 27 #[.slice A es.length c] w (Gives w (.bool b)) := by
 subst hb; exact isLibI_i A c es w h
end Go.Proofs.YtjcklmhgjdmjoaaGreat

namespace Go.Proofs.YtjcklmhgjdmjoaaGreat
open Go.ChangeShapes Go.WideShapes Go.ChangeAt Go.RowKit
set_option linter.unusedVariables false
theorem ordI_negL (x y : Int) : decide (ordI x y < 0) = decide (x < y) := by
 unfold ordI
 by_cases h : x < y
 ·
  simp [h]
 ·
  by_cases h2 : x = y <;> simp [h, h2]
theorem ordI_zeroL (x y : Int) : (ordI x y == 0) = (x == y) := by
 unfold ordI
 by_cases h : x < y
 ·
  have : x ≠ y := by omega
  simp [h, this]
 ·
  by_cases h2 : x = y <;> simp [h, h2]
theorem cmpYear_i (y : Int) (A : Option Addr) (n c : Nat) (d : Int) (w : World) : Calls Tryz.prog 69 #[.agg #[.int .i64 y, .slice A n c], .int .i64 d] w (Gives w (.int .i64 (ordI y d))) := by
 have B : ∀ o, Hid (Below w.heap.size w (w.alloc o)) := fun o => Lib.hid ((Below.refl _ _).alloc (Nat.le_refl _) _)
 go_enter Tryz.func69, Tryz.ntmps69
 go_wp2_with (go_at_call 97; refine (cmpI_i _ _ _).mono ?_; rintro e w' ⟨rfl, rfl⟩)
 go_ret
 exact ⟨rfl, (B _).out⟩
theorem plc_eqL2 {es : List Edn} {y : Int} {p : Nat} (hp : p <= es.length) (h1 : ∀ (i : Nat) (q : Edn), i < p -> es[i]? = some q -> q.y < y) (h2 : ∀ (i : Nat) (q : Edn), p <= i -> es[i]? = some q -> y <= q.y) : plcL es y = p :=
 plc_eqL hp h1 fun q hq => h2 p q (Nat.le_refl _) hq
set_option maxRecDepth 100000 in
set_option maxHeartbeats 4000000 in
theorem binL_i (A : Option Addr) (c : Nat) (ps : List Edn) (d : Int) (w : World) (h : LTbl w A ps) (ho : lbB ps = true) :
  Calls Tryz.prog 68 #[.slice A ps.length c, .int .i64 d, .func (.func 69) #[] #[]] w
   (Gives w (.tuple #[.int .i64 (plcL ps d : Int), .bool (hasL ps d)])) := by
 have LL := lb_of ho
 have hn := LL.len.2
 have HP := Lib.hid (fun (p : Nat) (hp : p <= ps.length) h1 h2 => plc_eqL2 (es := ps) (y := d) hp h1 h2)
 have HH := Lib.hid (fun (p : Edn) (hp : ps[plcL ps d]? = some p) => (by unfold hasL; rw [hp] : hasL ps d = (p.y == d)))
 have HX := Lib.hid (fun (hp : plcL ps d = ps.length) => (by unfold hasL; rw [hp, List.getElem?_eq_none (Nat.le_refl _)] : hasL ps d = false))
 have HM := Lib.hid (fun (i j : Nat) (q p : Edn) (hij : i < j) (hq : ps[i]? = some q) (hp : ps[j]? = some p) => (lb_mono LL hij hq hp : q.y < p.y))
 clear ho LL
 go_enter Tryz.func68, Tryz.ntmps68
 go_wp2_with fail
 go_loopw [9, 10] (fun a b wr => ∃ i j : Nat, a = .int .i64 i /\ b = .int .i64 j /\ i <= j /\ j <= ps.length /\ Hid (∀ (k : Nat) (q : Edn), k < i -> ps[k]? = some q -> q.y < d) /\ Hid (∀ (k : Nat) (q : Edn), j <= k -> ps[k]? = some q -> d <= q.y) /\ Below w.heap.size w wr) (fun a b _ => (intOf b).toNat - (intOf a).toNat)
 case atStart => exact ⟨0, ps.length, rfl, rfl, by omega, by omega, Lib.hid (fun k q hk => by omega), Lib.hid (fun k q hk hq => by have := (List.getElem?_eq_some_iff.1 hq).1; omega), Below.refl _ _⟩
 case round =>
  obtain ⟨i, j, rfl, rfl, hij, hj, hlo, hhi, hb⟩ := hrel
  by_cases hlt : i < j
  ·
   obtain ⟨m, hmm⟩ : ∃ m, m = (i + j) / 2 := ⟨_, rfl⟩
   have hmi : i <= m := by omega
   have hmj : m < j := by omega
   have e1 : ((i : Int) + (j : Int)) / 2 = (m : Int) := by omega
   obtain ⟨b, off, q, a, cp, rfl, hl, hq, c0, c1, hct⟩ := (h.below hb).at (show m < ps.length by omega)
   have HC := Lib.hid (fun w => cmpYear_i q.y a q.cs.length cp d w)
   have hneg := ordI_negL q.y d
   have HY := Lib.hid (fun (hb : q.y < d) (k : Nat) (p : Edn) (hk : k < m + 1) (hp : ps[k]? = some p) => (by
    rcases Nat.lt_or_ge k m with h1 | h1
    ·
     have := HM.out k m p q h1 hp hq.out; omega
    ·
     obtain rfl : k = m := by omega
     rw [hq.out] at hp; obtain rfl := Option.some.inj hp; exact hb : p.y < d))
   have HZ := Lib.hid (fun (hb : d <= q.y) (k : Nat) (p : Edn) (hk : m <= k) (hp : ps[k]? = some p) => (by
    rcases Nat.lt_or_ge m k with h1 | h1
    ·
     have := HM.out m k q p h1 hq.out hp; omega
    ·
     obtain rfl : k = m := by omega
     rw [hq.out] at hp; obtain rfl := Option.some.inj hp; exact hb : d <= p.y))
   by_cases hbe : q.y < d
   ·
    have HX : Hid (∀ (k : Nat) (p : Edn), k < m + 1 -> ps[k]? = some p -> p.y < d) := Lib.hid (HY.out hbe)
    rw [decide_eq_true hbe] at hneg
    clear hct h hq hmm HM HP HH HY HZ hbe
    generalize ordI q.y d = o at *
    go_wp2_with (go_at_call 69; refine (HC.out _).mono ?_; rintro e w1 ⟨rfl, b1⟩)
    go_roundw
    case rel => exact ⟨m + 1, j, by go_num, rfl, by omega, by omega, HX, hhi, belowGo hb b1⟩
    case measure => simp [intOf]; omega
   ·
    have HX : Hid (∀ (k : Nat) (p : Edn), m <= k -> ps[k]? = some p -> d <= p.y) := Lib.hid (HZ.out (by omega))
    rw [decide_eq_false hbe] at hneg
    clear hct h hq hmm HM HP HH HY HZ hbe
    generalize ordI q.y d = o at *
    go_wp2_with (go_at_call 69; refine (HC.out _).mono ?_; rintro e w1 ⟨rfl, b1⟩)
    go_roundw
    case rel => exact ⟨i, m, rfl, rfl, by omega, by omega, hlo, HX, belowGo hb b1⟩
    case measure => simp [intOf]; omega
  ·
   obtain rfl : i = j := by omega
   have hp := HP.out i hj hlo.out hhi.out
   have HE : Hid (plcL ps d = i) := Lib.hid hp
   by_cases hlen : i < ps.length
   ·
    obtain ⟨b, off, q, a, cp, rfl, hl, hq, c0, c1, hct⟩ := (h.below hb).at hlen
    have HC := Lib.hid (fun w => cmpYear_i q.y a q.cs.length cp d w)
    have HZ : Hid (hasL ps d = (ordI q.y d == 0)) := Lib.hid (by rw [ordI_zeroL]; exact HH.out q (by rw [hp]; exact hq.out))
    clear hct h hq HM HP HH HX hp hlo hhi
    generalize ordI q.y d = o at *
    go_wp2_with (go_at_call 69; refine (HC.out _).mono ?_; rintro e w1 ⟨rfl, b1⟩)
    go_ret2
    exact ⟨by rw [HE.out, HZ.out] <;> rfl, belowGo hb b1⟩
   ·
    have HZ : Hid (hasL ps d = false) := Lib.hid (HX.out (by rw [hp]; omega))
    clear h HM HP HH HX hp hlo hhi
    go_wp2_with fail
    go_ret2
    exact ⟨by rw [HE.out, HZ.out] <;> rfl, hb⟩
theorem searchL_i (A : Option Addr) (c : Nat) (ps : List Edn) (d : Int) (w : World) (h : LTbl w A ps) (ho : lbB ps = true) :
  Calls Tryz.prog 45 #[.slice A ps.length c, .int .i64 d] w (Gives w (.tuple #[.int .i64 (plcL ps d : Int), .bool (hasL ps d)])) := by
 go_enter Tryz.func45, Tryz.ntmps45
 go_wp2_with fail
 refine (binL_i A c ps d w h ho).mono ?_
 rintro e w1 ⟨rfl, b1⟩
 go_wp2_with fail
 go_ret2
 exact ⟨rfl, b1⟩
set_option maxHeartbeats 2000000 in
theorem ef_i (A : Option Addr) (c : Nat) (es : List Edn) (y : Int) (w : World) (h : LTblC w A c es) :
  Calls Tryz.prog 13 #[.slice A es.length c, .int .i64 y] w (Gives w (.tuple #[.int .i64 (efR es y).1, .int .i64 (efR es y).2])) := by
 replace h := h.tbl
 rcases Bool.eq_false_or_eq_true (lbB es) with hr | hr
 ·
  have HT := Lib.hid (lbI_q (c := c) h hr)
  have HS := Lib.hid (fun W (b : Below w.heap.size w W) => searchL_i A c es y W (h.below b) hr)
  have E1 := Lib.hid (@efR_has es y hr)
  have E2 := Lib.hid (@efR_bef es y hr)
  obtain ⟨p, hp⟩ : ∃ p, plcL es y = p := ⟨_, rfl⟩
  have hple := plc_leL es y
  have hn := (lb_of hr).len.2
  rw [hp] at HS E1 E2 hple
  cases hh : hasL es y with
  | true =>
   have E := Lib.hid (E1.out hh)
   rw [hh] at HS
   clear h hr hh E1 E2 hp
   go_enter Tryz.func13, Tryz.ntmps13
   go_wp2_with (first
    | (go_at_call 27; refine HT.out.mono ?_; rintro e w1 ⟨rfl, b1⟩)
    | (go_at_call 45; refine (HS.out _ b1).mono ?_; rintro e w2 ⟨rfl, b2⟩))
   go_ret2
   exact ⟨by rw [E.out] <;> rfl, belowGo b1 b2⟩
  | false =>
   have E := Lib.hid (E2.out hh)
   rw [hh] at HS
   clear h hr hh E1 E2 hp
   by_cases h0 : p = 0
   ·
    subst h0
    rw [if_pos rfl] at E
    go_enter Tryz.func13, Tryz.ntmps13
    go_wp2_with (first
     | (go_at_call 27; refine HT.out.mono ?_; rintro e w1 ⟨rfl, b1⟩)
     | (go_at_call 45; refine (HS.out _ b1).mono ?_; rintro e w2 ⟨rfl, b2⟩))
    go_ret2
    exact ⟨by rw [E.out] <;> rfl, belowGo b1 b2⟩
   ·
    rw [if_neg h0] at E
    have hp1 : 1 <= p := by omega
    go_enter Tryz.func13, Tryz.ntmps13
    go_wp2_with (first
     | (go_at_call 27; refine HT.out.mono ?_; rintro e w1 ⟨rfl, b1⟩)
     | (go_at_call 45; refine (HS.out _ b1).mono ?_; rintro e w2 ⟨rfl, b2⟩))
    go_ret2
    exact ⟨by rw [E.out] <;> rfl, belowGo b1 b2⟩
 ·
  have HT := Lib.hid (lbI_q (c := c) h hr)
  have E := Lib.hid (@efR_no es y hr)
  clear h hr
  go_enter Tryz.func13, Tryz.ntmps13
  go_wp2_with (go_at_call 27; refine HT.out.mono ?_; rintro e w1 ⟨rfl, b1⟩)
  go_ret2
  exact ⟨by rw [E.out] <;> rfl, b1⟩
end Go.Proofs.YtjcklmhgjdmjoaaGreat

namespace Go.Proofs.YtjcklmhgjdmjoaaGreat
open Go.ChangeShapes Go.WideShapes Go.ChangeAt Go.RowKit
set_option linter.unusedVariables false
theorem run_append_nilH {P : Program} (w : World) (t ty e : TypeId) (i : TypeInfo) (ht : P.underlying t = some (.slice e)) (hi : P.info? e = some i) (O : Option Addr) (n q c : Nat) (h : n <= q) :
  (Builtin.append_ #[t, t] ty #[.slice O n q, .slice none 0 c]).run P w = .ok (.slice O n q) w := by
 cases O <;> simp [Builtin.append_, run_underlying ht, sizeOf, typeInfo, hi, Builtin.lenOf, h, run_firstCells_none, storeCells]
theorem own_roomH {w : World} {base : Nat} {e : TypeId} {size n q : Nat} {O : Option Addr} {xs : List Value} (h : w.ownsRow base e size (.slice O n q) n xs) : n <= q := by
 rcases h.2 with ⟨h1, h2⟩ | ⟨g, cap, cur, h1, _, _, h4, _⟩
 ·
  omega
 ·
  injection h1 with _ _ h3; omega
theorem run_append_makeH {P : Program} (w : World) (t u ty e : TypeId) (k : IntKind) (i : TypeInfo) (z : Value) (ht : P.underlying t = some (.slice e)) (hu : P.underlying u = some (.int k)) (hi : P.info? e = some i) (hz : i.zero = some z)
  (n : Nat) (h0 : 0 < n) (hs : 0 < i.size) (hn : n <= 1000) (hb : i.bytes <= 1000) :
  (Builtin.append_ #[t, u] ty #[.slice none 0 0, .int .i64 n]).run P w =
   .ok (.slice (some ⟨w.heap.size, 0, none⟩) n (grownCap w n 0 e)) (w.drew.alloc (.cells (Builtin.zeroCells z.cells n ++ Builtin.zeroCells z.cells (grownCap w n 0 e - n)) e)) := by
 have hw : IntKind.i64.wrap (n : Int) = (n : Int) := by rw [IntKind.wrap_i64]; omega
 have h1 : ¬ ((n : Int) < 0) := by omega
 have hm : n * i.bytes <= 1000 * 1000 := Nat.mul_le_mul hn hb
 have h2 : ¬ (281474976710656 < (n : Int) * (i.bytes : Int)) := by
  rw [<- Int.natCast_mul]; omega
 have h3 : n ≠ 0 := by omega
 have h63' : ¬ (9223372036854775807 < (n : Int)) := by omega
 have h5 : ¬ (n * i.size = 0) := Nat.ne_of_gt (Nat.mul_pos h0 hs)
 have h48' : ¬ (281474976710656 < Builtin.nextslicecap n 0 * i.bytes) := by rw [nextslicecap_zero h0]; omega
 simp [Builtin.append_, run_underlying ht, run_underlying hu, sizeOf, typeInfo, zeroValue, hi, hz, hw, h1, h2, h3, h5, h63', h48', Question.forced, run_firstCells_none, newRow, grownCap, asInt, asIntOf]
theorem wpList_append_makeH {P : Program} (w : World) {ops : Array Oper} {rest : List Oper} {o : Oper} {a : Act} {Q : Exit -> Act -> World -> Prop} (hgd : o.guard = none) (s x : Operand) (t u : TypeId)
  (ho : o.op = .call { callee := .builtin .append, args := #[s, x], argTypes := #[t, u] }) (n : Nat) (hs : a.eval s = .slice none 0 0) (hx : a.eval x = .int .i64 n) (v : Value) (w' : World)
  (hr : ∀ ty, (Builtin.append_ #[t, u] ty #[.slice none 0 0, .int .i64 n]).run P w = .ok v w') (h : wpList P ops Q rest (a.put o.dst v) w') : wpList P ops Q (o :: rest) a w := by
 refine wpList_plain hgd fun K hK => ?_
 unfold Oper.wp execOp
 simp only [ho, resolve, invoke, builtin, Sem.run_bind, Sem.run_pure, Result.andThen_ok, List.map_toArray, List.map_cons, List.map_nil, hs, hx, hr]
 exact hK _ _ h
theorem made_zeroH (w : World) (n : Nat) (base : Nat) (h0 : base <= w.heap.size) (hn : n <= 1000) (z : Array Value) (hz : z.size = 2) :
  (w.drew.alloc (.cells (Builtin.zeroCells z n ++ Builtin.zeroCells z (grownCap w n 0 42 - n)) 42)).ownsRow base 42 2 (.slice (some ⟨w.heap.size, 0, none⟩) 0 (grownCap w n 0 42)) 0 [] := by
 have hg := grownCap_ge w n 0 42
 have hm := grownCap_le_maxLen w n 0 42 (by unfold maxLen; omega)
 refine ⟨rfl, .inr ⟨w.heap.size, _, _, rfl, h0, heap_alloc_new w.drew _, Nat.zero_le _, hm, ?_, ?_⟩⟩
 ·
  rw [Array.size_append, size_zeroCells, size_zeroCells, hz]; omega
 ·
  simp
set_option maxRecDepth 100000 in
set_option maxHeartbeats 2000000 in
theorem grow0H (n : Nat) (w : World) (hn : n <= 1000) : Calls Tryz.prog 72 #[.slice none 0 0, .int .i64 n] w fun e w' =>
  ∃ A c, e = .returned (.slice A 0 c) /\ w'.ownsRow w.heap.size 42 2 (.slice A 0 c) 0 [] /\ Below w.heap.size w w' := by
 obtain ⟨i0, hi, hz0, hz1, hz2⟩ := info_parts ednInfo
 by_cases h0 : 0 < n
 ·
  have hap := fun ty => run_append_makeH w 36 3 ty 42 .i64 i0 _ Tryz.underlying36 Tryz.underlying3 hi hz0 n h0 (by omega) hn (by omega)
  have hown := made_zeroH w n w.heap.size (Nat.le_refl _) hn #[.int .i64 0, .slice none 0 0] rfl
  have hb : Below w.heap.size w (w.drew.alloc (.cells (Builtin.zeroCells #[.int .i64 0, .slice none 0 0] n ++ Builtin.zeroCells #[.int .i64 0, .slice none 0 0] (grownCap w n 0 42 - n)) 42)) := (Below.refl _ _).drew.alloc (Nat.le_refl _) _
  go_enter Tryz.func72, Tryz.ntmps72
  go_wp2_with (at_builtin; refine wpList_append_makeH _ rfl (.tmp 20) (.tmp 21) 36 3 rfl n rfl rfl _ _ hap ?_)
  go_ret
  exact ⟨_, _, rfl, hown, hb⟩
 ·
  obtain rfl : n = 0 := by omega
  go_enter Tryz.func72, Tryz.ntmps72
  go_wp2_with fail
  go_ret
  exact ⟨none, 0, rfl, World.ownsRow_nil _ _ _ _, Below.refl _ _⟩
set_option maxRecDepth 100000 in
theorem wpList_append_rrH (w : World) {ops : Array Oper} {rest : List Oper} {o : Oper} {a : Act} {Q : Exit -> Act -> World -> Prop} (hgd : o.guard = none) (s x : Operand)
  (ho : o.op = .call { callee := .builtin .append, args := #[s, x], argTypes := #[36, 36] }) (base : Nat) (O : Option Addr) (n q : Nat) (xs : List Value) (hs : a.eval s = .slice O n q) (hown : w.ownsRow base 42 2 (.slice O n q) n xs)
  (A : Option Addr) (c : Nat) (l : List Edh) (hx : a.eval x = .slice A l.length c) (hR : EdhR w A l) (hA : A = none ∨ ∃ b off, A = some ⟨b, off, none⟩) (h63 : n + l.length <= 1000) (hbase : base <= w.heap.size)
  (h : ∀ O' q' w', w'.ownsRow base 42 2 (.slice O' (n + l.length) q') (n + l.length) (xs ++ l.flatMap Edh.cells) -> Below base w w' -> wpList Tryz.prog ops Q rest (a.put o.dst (.slice O' (n + l.length) q')) w') :
  wpList Tryz.prog ops Q (o :: rest) a w := by
 obtain ⟨i0, hi, hz0, hz1, hz2⟩ := info_parts ednInfo
 rcases hA with rfl | ⟨b, off, rfl⟩
 ·
  have hl : l = [] := by
   cases l with
   | nil => rfl
   | cons y l => obtain ⟨_, _, _, e, _⟩ := hR.at (k := 0) (by simp); cases e
  subst hl
  have hr := fun ty => run_append_nilH (P := Tryz.prog) w 36 ty 42 i0 Tryz.underlying36 hi O n q c (own_roomH hown)
  refine wpList_plain hgd fun K hK => ?_
  unfold Oper.wp execOp
  have hx' : a.eval x = .slice none 0 c := hx
  simp only [ho, resolve, invoke, builtin, Sem.run_bind, Sem.run_pure, Result.andThen_ok, List.map_toArray, List.map_cons, List.map_nil, hs, hx', hr]
  exact hK _ _ (h O q w (by simpa using hown) (Below.refl _ _))
 ·
  refine wpList_append_own w hgd s x 36 ho base 42 i0 _ 2 32 Tryz.underlying36 hi hz0 hz1 hz2 rfl (by decide) _ n xs hs hown ⟨b, off, none⟩ l.length c (l.flatMap Edh.cells) hx (flat_len Edh.cells 2 (fun _ => rfl) l) ?_ ?_ (by unfold maxLen; omega) (by omega) hbase ?_
  ·
   intro j u hu
   have hp : 0 < (l.flatMap Edh.cells).length := by have := (List.getElem?_eq_some_iff.1 hu).1; omega
   obtain ⟨b', off', e, _, hc⟩ := hR hp
   simp only [Option.some.injEq, Addr.mk.injEq, and_true] at e
   obtain ⟨rfl, rfl⟩ := e
   rw [show ((⟨b, off, none⟩ : Addr).add j) = ⟨b, off + j, none⟩ from by unfold Addr.add; split <;> simp_all]
   exact hc j u hu
  ·
   intro u hu
   obtain ⟨y, _, hy⟩ := List.mem_flatMap.1 hu
   unfold Edh.cells at hy
   simp only [List.mem_cons, List.not_mem_nil, or_false] at hy
   rcases hy with rfl | rfl <;> simp [Value.oneCell']
  ·
   intro v' w' h2 h3 h4
   obtain ⟨O', q', rfl⟩ := own_form h2
   exact h O' q' w' h2 ((Below.refl base w).grown h3 hbase (fun k hk => (hown.lt k hk).1))
structure PiecesH (w : World) (g : Nat) (ss : List (Option Addr × Nat × List Edh)) : Prop where
 lt : g < w.heap.size
 cell : ∀ (k : Nat) (s : Option Addr × Nat × List Edh), ss[k]? = some s -> w.cell? ⟨g, k, none⟩ = some (.slice s.1 s.2.2.length s.2.1)
 row : ∀ s ∈ ss, EdhR w s.1 s.2.2 /\ (s.1 = none ∨ ∃ b off, s.1 = some ⟨b, off, none⟩)
theorem PiecesH.below {w w' : World} {g : Nat} {ss : List (Option Addr × Nat × List Edh)} (h : PiecesH w g ss) (hb : Below w.heap.size w w') : PiecesH w' g ss :=
 ⟨Nat.lt_of_lt_of_le h.lt hb.size, fun k s hs => (hb.cell (p := ⟨g, k, none⟩) h.lt).trans (h.cell k s hs), fun s hs => ⟨(h.row s hs).1.below hb, (h.row s hs).2⟩⟩
def joinH (ss : List (Option Addr × Nat × List Edh)) : List Edh := ss.flatMap (·.2.2)
theorem joinP_snocH (ss : List (Option Addr × Nat × List Edh)) (s : Option Addr × Nat × List Edh) : joinH (ss ++ [s]) = joinH ss ++ s.2.2 := by simp [joinH]
theorem joinP_leH (ss : List (Option Addr × Nat × List Edh)) (k : Nat) : (joinH (ss.take k)).length <= (joinH ss).length := by
 have : joinH ss = joinH (ss.take k) ++ joinH (ss.drop k) := by unfold joinH; rw [<- List.flatMap_append, List.take_append_drop]
 rw [this, List.length_append]; omega
set_option maxRecDepth 100000 in
set_option maxHeartbeats 4000000 in
theorem concat_iH (g : Nat) (ss : List (Option Addr × Nat × List Edh)) (c : Nat) (w : World) (h : PiecesH w g ss) (hn : ss.length <= 10) (hj : (joinH ss).length <= 900) :
  Calls Tryz.prog 49 #[.slice (some ⟨g, 0, none⟩) ss.length c] w fun e w' =>
   ∃ O q, e = .returned (.slice O (joinH ss).length q) /\ EdhO w' w.heap.size O (joinH ss).length q (joinH ss) /\ Below w.heap.size w w' := by
 go_enter Tryz.func49, Tryz.ntmps49
 go_wp2_with fail
 go_loopw [3, 11] (fun z i wr => ∃ (k m : Nat), k <= ss.length /\ i = .int .i64 k /\ z = .int .i64 m /\ Hid (m = (joinH (ss.take k)).length) /\ Below w.heap.size w wr) (fun _ i _ => ss.length - (intOf i).toNat)
 case atStart => exact ⟨0, 0, Nat.zero_le _, rfl, rfl, Lib.hid rfl, Below.refl _ _⟩
 case round =>
  obtain ⟨k, m, hk, rfl, rfl, hm, hb⟩ := hrel
  have hml : m <= 900 := by have := joinP_leH ss k; rw [hm.out]; omega
  by_cases hlt : k < ss.length
  ·
   obtain ⟨s, hs⟩ : ∃ s, ss[k]? = some s := ⟨ss[k], by simp [hlt]⟩
   have hc := (h.below hb).cell k s hs
   have HM : Hid (m + s.2.2.length = (joinH (ss.take (k + 1))).length) := Lib.hid (by rw [snoc_of hs, joinP_snocH, List.length_append, hm.out])
   have hle : m + s.2.2.length <= 900 := by have := joinP_leH ss (k + 1); rw [HM.out]; omega
   obtain ⟨A, cc, l⟩ := s
   simp only at hc hle HM
   clear hs hm h
   go_wp2_with fail
   go_roundw
   case rel => exact ⟨k + 1, m + l.length, by omega, by go_num, by go_num, HM, hb⟩
   case measure => simp [intOf]; omega
  ·
   have hM : Hid (m = (joinH ss).length) := Lib.hid (by have := hm.out; rwa [take_all hk hlt] at this)
   have HP := Lib.hid (fun W hW => h.below (w' := W) hW)
   clear hm h
   go_wp2_with (go_at_call 72; refine (grow0H m _ (by omega)).mono ?_; rintro e w1 ⟨O1, q1, rfl, hown1, b1⟩)
   have hb1 := hb.trans (b1.mono hb.size)
   have hw : w.heap.size <= wr.heap.size := hb.size
   have hw2 : wr.heap.size <= w1.heap.size := b1.size
   clear hb b1
   obtain ⟨wz, hwz⟩ : ∃ x, x = wr := ⟨_, rfl⟩
   subst hwz
   go_loopw [6, 27] (fun o i wr => ∃ (k : Nat) (js : List Edh) (O : Option Addr) (q : Nat), k <= ss.length /\ i = .int .i64 k /\ o = .slice O js.length q /\ Hid (js = joinH (ss.take k)) /\ wr.ownsRow wz.heap.size 42 2 (.slice O js.length q) js.length (js.flatMap Edh.cells) /\ Below wz.heap.size w1 wr) (fun _ i _ => ss.length - (intOf i).toNat)
   case atStart => exact ⟨0, [], O1, q1, Nat.zero_le _, rfl, rfl, Lib.hid rfl, hown1, Below.refl _ _⟩
   case round =>
    obtain ⟨k', js, O, q, hk', rfl, rfl, hjs, hrow, hB⟩ := hrel
    by_cases hlt' : k' < ss.length
    ·
     obtain ⟨s, hs⟩ : ∃ s, ss[k']? = some s := ⟨ss[k'], by simp [hlt']⟩
     have hP := HP.out wr (hb1.trans (hB.mono hw))
     have hc := hP.cell k' s hs
     obtain ⟨hR, hA⟩ := hP.row s (List.mem_of_getElem? hs)
     have HM : Hid (js ++ s.2.2 = joinH (ss.take (k' + 1))) := Lib.hid (by rw [snoc_of hs, joinP_snocH, hjs.out])
     have hle : js.length + s.2.2.length <= 900 := by have := joinP_leH ss (k' + 1); rw [<- HM.out, List.length_append] at this; omega
     obtain ⟨A, cc, l⟩ := s
     simp only at hc hle HM hR hA
     have hsz : wz.heap.size <= wr.heap.size := Nat.le_trans hw2 hB.size
     clear hs hjs HP hP hM
     go_wp2_with (at_builtin; refine wpList_append_rrH _ rfl (.tmp 31) (.tmp 32) rfl wz.heap.size O js.length q _ rfl hrow A cc l rfl hR hA (by omega) hsz ?_; intro O' q' w' hown' hb')
     go_roundw
     case rel => exact ⟨k' + 1, js ++ l, O', q', by omega, by go_num, by rw [List.length_append], HM, by rw [List.length_append, List.flatMap_append]; exact hown', hB.trans hb'⟩
     case measure => simp [intOf]; omega
    ·
     have hJ : Hid (js = joinH ss) := Lib.hid (by have := hjs.out; rwa [take_all hk' hlt'] at this)
     clear hjs HP hM
     go_wp2_with fail
     go_ret
     rw [<- hJ.out]
     exact ⟨O, q, rfl, EdhO.mono hrow hw, hb1.trans (hB.mono hw)⟩
theorem EdhR.alloc {w : World} {A : Option Addr} {rs : List Edh} (h : EdhR w A rs) (o : Obj) : EdhR (w.alloc o) A rs := h.below (below_alloc w o)
theorem pieces3H {w : World} {A1 A3 : Option Addr} {c1 c3 n1 n3 : Nat} {l1 l3 : List Edh} (r : Edh) (h1 : EdhR w A1 l1) (h3 : EdhR w A3 l3) (a1 : A1 = none ∨ ∃ b off, A1 = some ⟨b, off, none⟩) (a3 : A3 = none ∨ ∃ b off, A3 = some ⟨b, off, none⟩) (e1 : l1.length = n1) (e3 : l3.length = n3) :
  PiecesH ((w.alloc (.cells #[.int .i64 r.y, .slice r.A r.n r.c] 42)).alloc (.cells #[.slice A1 n1 c1, .slice (some ⟨w.heap.size, 0, none⟩) 1 1, .slice A3 n3 c3] 36)) (w.heap.size + 1)
   [(A1, c1, l1), (some ⟨w.heap.size, 0, none⟩, 1, [r]), (A3, c3, l3)] := by
 subst e1 e3
 refine ⟨by simp, ?_, ?_⟩
 ·
  have hb : ((w.alloc (.cells #[.int .i64 r.y, .slice r.A r.n r.c] 42)).alloc (.cells #[.slice A1 l1.length c1, .slice (some ⟨w.heap.size, 0, none⟩) 1 1, .slice A3 l3.length c3] 36)).heap[w.heap.size + 1]? = some (.cells #[.slice A1 l1.length c1, .slice (some ⟨w.heap.size, 0, none⟩) 1 1, .slice A3 l3.length c3] 36) := heap_alloc2_new w _ _
  intro k s hs
  rw [cell_of_row _ _ _ _ _ _ hb]
  match k, hs with
  | 0, hs => simp at hs; subst hs; rfl
  | 1, hs => simp at hs; subst hs; rfl
  | 2, hs => simp at hs; subst hs; rfl
  | k + 3, hs => simp at hs
 ·
  intro s hs
  simp only [List.mem_cons, List.not_mem_nil, or_false] at hs
  rcases hs with rfl | rfl | rfl
  ·
   exact ⟨(h1.alloc _).alloc _, a1⟩
  ·
   refine ⟨EdhR.alloc (fun _ => ⟨w.heap.size, 0, rfl, by simp, fun j v hj => ?_⟩) _, .inr ⟨_, _, rfl⟩⟩
   rw [Nat.zero_add, cell_of_row _ _ _ _ _ _ (heap_alloc_new w _)]
   simpa [Edh.cells] using hj
  ·
   exact ⟨(h3.alloc _).alloc _, a3⟩
theorem concat_qH {g : Nat} {ss : List (Option Addr × Nat × List Edh)} {n c : Nat} {w : World} {L : List Edh} (h : PiecesH w g ss) (hn : ss.length = n) (hn2 : n <= 10) (hL : joinH ss = L) (hj : L.length <= 900) :
  Calls Tryz.prog 49 #[.slice (some ⟨g, 0, none⟩) n c] w fun e w' => ∃ O q, e = .returned (.slice O L.length q) /\ EdhO w' w.heap.size O L.length q L /\ Below w.heap.size w w' := by
 subst hL hn
 exact concat_iH g ss c w h hn2 hj
end Go.Proofs.YtjcklmhgjdmjoaaGreat

namespace Go.Proofs.YtjcklmhgjdmjoaaGreat
open Go.ChangeShapes Go.WideShapes Go.ChangeAt Go.RowKit
set_option linter.unusedVariables false
theorem flat_set_s (gs rest : List Edh) (x : Edh) {k : Nat} (hk : gs.length = k) (A : Option Addr) (n c : Nat) :
  ((gs ++ x :: rest).flatMap Edh.cells).set (k * 2 + 1) (.slice A n c) = ((gs ++ [(⟨x.y, A, n, c⟩ : Edh)]) ++ rest).flatMap Edh.cells := by
 subst hk
 have hl := flat_len Edh.cells 2 (fun _ => rfl) gs
 rw [List.flatMap_append, List.set_append_right _ _ (by omega), hl, show gs.length * 2 + 1 - gs.length * 2 = 1 by omega]
 simp [Edh.cells]
theorem clsR_some {w : World} {A : Option Addr} {rs : List Cls} (h : ClsR w A rs) (h0 : 0 < rs.length) : ∃ b off, A = some ⟨b, off, none⟩ := by
 obtain ⟨b, off, r, e, _⟩ := h.at h0; exact ⟨b, off, e⟩
theorem clone_any (A : Option Addr) (c : Nat) (cs : List Cls) (w : World) (h : ClsR w A cs) (h0 : 0 < cs.length) (hn : cs.length <= 1000) :
  Calls Tryz.prog 71 #[.slice A cs.length c] w fun e w' =>
   ∃ A1 c1, e = .returned (.slice A1 cs.length c1) /\ ClsO w' w.heap.size A1 cs.length c1 cs /\ Below w.heap.size w w' := by
 obtain ⟨b, off, rfl⟩ := clsR_some h h0
 exact (cloneCl_i b off c cs w h hn h0).mono fun e w' k => by obtain ⟨g, q, k1, k2, k3⟩ := k; exact ⟨_, _, k1, k2, k3⟩
set_option maxRecDepth 100000 in
set_option maxHeartbeats 4000000 in
theorem copyEds_i (b off c : Nat) (hs : List Edh) (es : List Edn) (w : World) (hR : EdhR w (some ⟨b, off, none⟩) hs) (hv : EdnV w hs es) (hn : es.length <= 900) (h0 : 0 < es.length) (hcs : ∀ e ∈ es, 0 < e.cs.length /\ e.cs.length <= 900) :
  Calls Tryz.prog 48 #[.slice (some ⟨b, off, none⟩) es.length c] w fun e w' =>
   ∃ g q, e = .returned (.slice (some ⟨g, 0, none⟩) es.length q) /\ EdnO w' w.heap.size w'.heap.size (some ⟨g, 0, none⟩) es.length q es /\ Below w.heap.size w w' := by
 have HR := Lib.hid (fun W (b : Below w.heap.size w W) => hR.below b)
 have HV := Lib.hid hv
 have hl := hv.len
 have HC := Lib.hid (cloneH_i b off c hs w hR (by omega) (by omega))
 have HCS := Lib.hid hcs
 rw [hl] at HC
 clear hR hv hcs
 go_enter Tryz.func48, Tryz.ntmps48
 go_wp2_with fail
 refine HC.out.mono ?_
 rintro e w1 ⟨g, q, rfl, o1, b1⟩
 have hg : g < w1.heap.size := (o1.lt g rfl).2
 have hg0 : w.heap.size <= g := (o1.lt g rfl).1
 have O1 : w1.ownsRow w.heap.size 42 2 (.slice (some ⟨g, 0, none⟩) es.length q) es.length (([] ++ hs.drop 0).flatMap Edh.cells) := by simpa [EdhO] using o1
 have P1 := Lib.hid (EdnPt.nil w1 w1.heap.size es)
 clear HC o1
 go_wp2_with fail
 go_loopw [10] (fun i wr => ∃ (k : Nat) (gs : List Edh), k <= es.length /\ i = .int .i64 k /\ Hid (EdnPt wr w1.heap.size gs es k) /\ wr.ownsRow w.heap.size 42 2 (.slice (some ⟨g, 0, none⟩) es.length q) es.length ((gs ++ hs.drop k).flatMap Edh.cells) /\ Below w.heap.size w wr /\ w1.heap.size <= wr.heap.size) (fun i _ => es.length - (intOf i).toNat)
 case atStart => exact ⟨0, [], Nat.zero_le _, rfl, P1, O1, b1, Nat.le_refl _⟩
 case round =>
  clear O1 P1 b1
  obtain ⟨k, gs, hk, rfl, hp, hown, hb, hsz⟩ := hrel
  by_cases hlt : k < es.length
  ·
   obtain ⟨b', off', x, e2, hl', hx, c0, c1⟩ := (HR.out wr hb).at (show k < hs.length by omega)
   obtain ⟨rfl, rfl⟩ : b = b' /\ off = off' := by injection e2 with e2; injection e2 with e3 e4; exact ⟨e3, e4⟩
   obtain ⟨e, he⟩ : ∃ e, es[k]? = some e := ⟨_, List.getElem?_eq_getElem hlt⟩
   obtain ⟨v1, v2, v3⟩ := HV.out.one k x e hx.out he
   obtain ⟨hc0, hc9⟩ := HCS.out e (List.mem_of_getElem? he)
   have hdr : hs.drop k = x :: hs.drop (k + 1) := drop_of hx.out
   obtain ⟨xy, xA, xn, xc⟩ := x
   simp only at v1 v2 v3 c0 c1
   subst v1 v2
   have k0 := KeepN.new wr e.y xA e.cs.length xc
   obtain ⟨wA, hwA⟩ : ∃ x, wr.alloc (.cells #[.int .i64 e.y, .slice xA e.cs.length xc] 42) = x := ⟨_, rfl⟩
   rw [hwA] at k0
   have hbA : Below w.heap.size w wA := belowGo hb k0.bel
   have HCl := Lib.hid (clone_any xA xc e.cs wA (v3.below hbA) hc0 (by omega))
   have q1 := k0.c1
   have OA := Lib.hid (own_below hown k0.bel)
   have KB := Lib.hid k0.bel
   have HE := Lib.hid he
   have HD := Lib.hid hdr
   clear v3 hx he hdr hown k0
   go_wp2_with fail
   try rw [hwA]
   go_wp2_with fail
   refine HCl.out.mono ?_
   rintro e' w2 ⟨A1, n1, rfl, o2, b2⟩
   have own2 := own_below OA.out b2
   have hb2 := belowGo hbA b2
   have hB12 : Below wr.heap.size wr w2 := KB.out.trans (b2.mono KB.out.size)
   have HP := Lib.hid (hp.out.snoc hB12 HE.out (o2.mono KB.out.size) hsz)
   obtain ⟨o1', k1'⟩ := own_at own2 (k * 2 + 1) (by have := own2.1; omega)
   have f1 := own2.frozenAt (k * 2 + 1)
   have HS := Lib.hid (own2.stored (k * 2 + 1) (.slice A1 e.cs.length n1))
   rw [HD.out, flat_set_s gs (hs.drop (k + 1)) _ hp.out.len A1 e.cs.length n1] at HS
   have HB2 := Lib.hid hb2
   have hsz2 : Hid (w1.heap.size <= w2.heap.size) := Lib.hid (Nat.le_trans hsz hB12.size)
   clear own2 o2 b2 hB12 hp OA HCl hb2 q1
   go_wp2_with fail
   go_roundw
   case rel =>
    refine ⟨k + 1, _, by omega, by go_num, Lib.hid (HP.out.grown HS.out.2 fun z hz ez => ?_), HS.out.1, HB2.out.grown HS.out.2 HB2.out.size (fun j hj => by injection hj; omega), by simpa using hsz2.out⟩
    have := (HP.out.ob_lt (by omega) hz ez).1
    omega
   case measure => simp [intOf]; omega
  ·
   obtain rfl : k = es.length := by omega
   have hd : hs.drop es.length = [] := List.drop_eq_nil_of_le (by omega)
   rw [hd, List.append_nil] at hown
   have HO := Lib.hid hown
   clear hown hd
   go_wp2_with fail
   go_ret
   exact ⟨g, q, rfl, hp.out.done HO.out (by omega) (Nat.le_refl _) (fun z hz j hj e => by
    have h1 := (hp.out.ob_lt (Nat.le_refl _) hz hj).1
    simp [Value.ownBlock] at e
    omega), hb⟩
end Go.Proofs.YtjcklmhgjdmjoaaGreat

