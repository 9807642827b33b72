/- The law of AddRate. -/
import Derived.Test.YtaehkkcaoniphaaAdw
import Derived.Test.YtaehkkcaoniphaaDwl
import Derived.Test.YtaehkkcaoniphaaMark
namespace Go.Proofs.Ytaehkkcaoniphaa
open Go.ChangeShapes Go.WideShapes Go.ChangeAt Go.RowKit
set_option linter.unusedVariables false

theorem addR_len (rs : List Rt) (r : Rt) : (addR rs r).1.length ≤ 41 := by
  rcases Bool.eq_false_or_eq_true (tabB rs) with h | h
  · rcases Bool.eq_false_or_eq_true (tabB (addL rs r)) with h2 | h2
    · rw [addR_0 h h2]; exact addL_len (tabB_iff.1 h).2
    · rw [addR_1 h h2]; simp
  · rw [addR_no h]; simp
theorem Or.adr {w : World} {base n c : Nat} {A : Option Addr} {rs : List Rt} (h : Or w base A n c rs) : (A = none ∧ c = 0) ∨ ∃ b off, A = some ⟨b, off, none⟩ := by
  rcases h.2 with ⟨h1, h2⟩ | ⟨g, cap, cur, h1, _⟩
  · injection h1 with h1 _ h3; exact .inl ⟨h1, h3⟩
  · injection h1 with h1; exact .inr ⟨g, 0, h1⟩
theorem Or.kept {w w' : World} {base n c m d : Nat} {A B : Option Addr} {rs : List Rt} (h : Or w base A n c rs) (hg : w.grownBy w' (Value.slice B m d).ownBlock) (hB : Bd B base) : Or w' base A n c rs :=
  World.ownsRow.kept h hg (by
    cases A with
    | none => exact .inl rfl
    | some a =>
      right
      cases B with
      | none => simp [Value.ownBlock]
      | some b =>
        intro e
        have h1 := h.lo a.block rfl
        have h2 := hB b rfl
        simp [Value.ownBlock] at e
        omega)
theorem addRate_iq {A : Option Addr} {c base : Nat} {rs : List Rt} (r : Rt) {w : World} (o : Or w base A rs.length c rs) (htx : ∀ q ∈ rs, q.c.length ≤ 1048576) (hn : rs.length ≤ 1048576) (hrl : r.c.length ≤ 1048576) :
    Calls Try.prog 11 #[.slice A rs.length c, .agg #[.string ⟨r.c.toArray⟩, .int .i64 r.day, .int .i64 r.num, .int .i64 r.den]] w (NewRatesC w (addR rs r)) :=
  addRate_i A c rs r w ⟨o.rr, htx, hn⟩ o.adr (own_room o) hrl

set_option maxRecDepth 100000 in
set_option maxHeartbeats 8000000 in
theorem law_FnExactAddRate (A : Option Addr) (c : Nat) (rs : List Rt) (r : Rt) (w : World) (hR : Rr w A rs) (hm : rs.length ≤ maxLen) (hw : ∀ r ∈ rs, r.wf) (hr : r.wf) :
    Calls Try.prog 5 #[.slice A rs.length c, .agg #[.string ⟨r.c.toArray⟩, .int .i64 r.day, .int .i64 r.num, .int .i64 r.den]] w fun e w' => e = .returned (.bool true) ∧ Below w.heap.size w w' := by
  have kb := KeepB.new w #[.string ⟨r.c.toArray⟩, .int .i64 r.day, .int .i64 r.num, .int .i64 r.den] 58
  have HZ := Lib.hid (szRateS_l A c rs 1048576 _ (hR.below kb.bel) (rok_of hw) hm (by omega) (by omega))
  have HO := Lib.hid (@szT_ok rs)
  have hmx := Lib.hid (fun h : 0 ≤ szT rs 1048576 => (szT_bd h).1)
  have hrm := hr.1
  generalize szT rs 1048576 = m at *
  go_enter Try.func5, Try.ntmps5
  go_wp2_with fail
  refine HZ.out.mono ?_
  rintro e w0 ⟨rfl, b0⟩
  have k0 := kb.step b0
  by_cases hneg : m < 0
  · have hbl := k0.bel
    go_wp2_with fail
    go_ret
    exact ⟨rfl, hbl⟩
  obtain ⟨hn, htx⟩ := HO.out (by omega)
  have hm1 := hmx.out (by omega)
  have HS1 := Lib.hid (szRate_l r m w0 (by omega) (by omega) hrm)
  clear HZ HO hm hw kb
  have c0 := k0.all.1; have c1 := k0.all.2.1; have c2 := k0.all.2.2.1; have c3 := k0.all.2.2.2.1
  by_cases hneg2 : m - r.c.length < 0
  · rw [if_pos hneg2] at HS1
    go_wp2_with fail
    refine HS1.out.mono ?_
    rintro e w1 ⟨rfl, b1⟩
    have hbl := (k0.step b1).bel
    go_wp2_with fail
    go_ret
    exact ⟨rfl, hbl⟩
  rw [if_neg hneg2] at HS1
  have hrl : r.c.length ≤ 1048576 := by omega
  go_wp2_with fail
  refine HS1.out.mono ?_
  rintro e w1 ⟨rfl, b1⟩
  have k1 := k0.step b1
  clear HS1 c0 c1 c2 c3 k0 hneg hmx
  have hal := addR_len rs r
  have HSP := Lib.hid (fun A d w h => addRate_s A d rs r w h hrl)
  have HIM := Lib.hid (fun A c base w o => @addRate_iq A c base rs r w o htx hn hrl)
  generalize addR rs r = p at hal HSP HIM
  have c0 := k1.all.1; have c1 := k1.all.2.1; have c2 := k1.all.2.2.1; have c3 := k1.all.2.2.2.1
  have hbw := k1.bel.drew
  have kd := k1.drew
  go_wp2_with fail
  go_cut [6, 7] from 26 to 33 (fun u v wx => ∃ C q, u = .slice C p.1.length q ∧ v = .int .i64 p.2 ∧ Or wx w.heap.size C p.1.length q p.1 ∧ KeepB w #[.string ⟨r.c.toArray⟩, .int .i64 r.day, .int .i64 r.num, .int .i64 r.den] 58 wx)
  case first =>
    go_region_with (first
      | (go_at_call 34; refine (toRateS_l A c rs _ (hR.below hbw) hn).mono ?_; rintro e wS ⟨AS, cS, rfl, oS, bS⟩; have hbw := belowGo hbw bS; have kd := kd.step bS; have c0 := kd.all.1; have c1 := kd.all.2.1; have c2 := kd.all.2.2.1; have c3 := kd.all.2.2.2.1)
      | (go_at_call 35; refine (toRate_l r _).mono ?_; rintro e wT ⟨rfl, bT⟩; have hbw := belowGo hbw bT; have kd := kd.step bT; have c0 := kd.all.1; have c1 := kd.all.2.1; have c2 := kd.all.2.2.1; have c3 := kd.all.2.2.2.1)
      | (go_at_call 12; refine (HSP.out AS cS _ ⟨by first | exact oS.rr | exact (oS.below bT).rr, htx, hn⟩).mono ?_; rintro e wA ⟨AA, cA, rfl, oA, bA⟩))
    all_goals
      go_wp2_with fail
      go_meet
      exact ⟨AA, cA, rfl, rfl, oA.mono hbw.size, kd.step bA⟩
  case rest =>
    obtain ⟨C2, c2', rfl, rfl, o2, kc⟩ := hcut
    have t2 := kc.bel
    have bd2 := o2.bd
    have hlt : w.heap.size < wc.heap.size := lt_some kc.a
    clear k1 kd hbw c0 c1 c2 c3
    go_wp2_with fail
    refine (toRateS_l A c rs _ (hR.below t2) hn).mono ?_
    rintro e w3 ⟨X3, x3, rfl, o3, b3⟩
    have t3 := belowGo t2 b3
    have k3 := kc.step b3
    have c0 := k3.all.1; have c1 := k3.all.2.1; have c2 := k3.all.2.2.1; have c3 := k3.all.2.2.2.1
    go_wp2_with fail
    refine (toRate_l r _).mono ?_
    rintro e w4 ⟨rfl, b4⟩
    have t4 := belowGo t3 b4
    have k4 := k3.step b4
    have o34 := o3.below b4
    have bx4 := o34.bd
    clear c0 c1 c2 c3
    go_wp2_with fail
    refine (HIM.out X3 x3 _ w4 o34).mono ?_
    rintro e w5 ⟨G5, g5, rfl, o5, b5⟩
    have t5 := belowGo t4 b5
    have k5 := k4.step b5
    have i5 := ((o2.below b3).below b4).below b5
    have x5 := o34.below b5
    go_wp2_with fail
    refine (eqRateS_l G5 C2 g5 c2' p.1 w5 o5.rr i5.rr (by omega)).mono ?_
    rintro e w6 ⟨rfl, b6⟩
    have t6 := belowGo t5 b6
    have k6 := k5.step b6
    go_wp2_with fail
    refine (toRateS_l A c rs _ (hR.below t6) hn).mono ?_
    rintro e w7 ⟨X7, x7, rfl, o7, b7⟩
    have t7 := belowGo t6 b7
    have k7 := k6.step b7
    go_wp2_with fail
    refine (eqRateS_l X3 X7 x3 x7 rs w7 ((x5.below b6).below b7).rr o7.rr (by omega)).mono ?_
    rintro e w8 ⟨rfl, b8⟩
    have t8 := belowGo t7 b8
    have k8 := k7.step b8
    have xx := ((x5.below b6).below b7).below b8
    go_wp2_with fail
    refine (markRateS_l X3 _ x3 1 rs _ w8 xx hn (by omega) (by omega)).mono ?_
    rintro e w9 ⟨rfl, o9, g9⟩
    have s23 : wc.heap.size ≤ w3.heap.size := b3.size
    have s38 : w3.heap.size ≤ w8.heap.size := Nat.le_trans b4.size (Nat.le_trans b5.size (Nat.le_trans b6.size (Nat.le_trans b7.size b8.size)))
    have s48 : w4.heap.size ≤ w8.heap.size := Nat.le_trans b5.size (Nat.le_trans b6.size (Nat.le_trans b7.size b8.size))
    have f9 : Below wc.heap.size w8 w9 := xx.far g9 (Nat.le_refl _) (by omega)
    have t9 : Below w.heap.size w w9 := Or.wrote t8 xx g9 t2.size t8.size
    have k9 : KeepB w #[.string ⟨r.c.toArray⟩, .int .i64 r.day, .int .i64 r.num, .int .i64 r.den] 58 w9 := ⟨(f9.block _ hlt).trans k8.a, t9⟩
    have g9' : Or w9 w4.heap.size G5 p.1.length g5 p.1 := (((o5.below b6).below b7).below b8).kept g9 bx4
    have i9 : Rr w9 C2 p.1 := Rw.keepB (((i5.below b6).below b7).below b8).rr bd2 f9
    have hk : decide (((1 + 4 * rs.length : Nat) : Int) < 0) = false := by simp; omega
    clear o9 f9 kc k3 k4 k5 k6 k7 k8 xx o34 o3 o2
    go_wp2_with fail
    refine (eqRateS_l G5 C2 g5 c2' p.1 w9 g9'.rr i9 (by omega)).mono ?_
    rintro e w10 ⟨rfl, b10⟩
    have t10 := belowGo t9 b10
    have k10 := k9.step b10
    have g10 := g9'.below b10
    have i10 : Rr w10 C2 p.1 := i9.below b10
    clear g9' i9
    go_wp2_with fail
    refine (markRateS_l G5 _ g5 1 p.1 _ w10 g10 (by omega) (by omega) (by omega)).mono ?_
    rintro e w11 ⟨rfl, o11, g11⟩
    have s9 : w4.heap.size ≤ w10.heap.size := Nat.le_trans s48 (Nat.le_trans g9.size b10.size)
    have s34 : w3.heap.size ≤ w4.heap.size := b4.size
    have f11 : Below wc.heap.size w10 w11 := g10.far g11 (by omega) (by omega)
    have t11 : Below w.heap.size w w11 := g10.wrote t10 g11 t4.size t10.size
    have k11 : KeepB w #[.string ⟨r.c.toArray⟩, .int .i64 r.day, .int .i64 r.num, .int .i64 r.den] 58 w11 := ⟨(f11.block _ hlt).trans k10.a, t11⟩
    have i11 := Rw.keepB i10 bd2 f11
    clear f11 g10
    go_wp2_with fail
    refine (heldRateS_l G5 _ g5 1 w11 o11.rr (by omega) (by omega) (by omega)).mono ?_
    rintro e w12 ⟨rfl, b12⟩
    have k12 := k11.step b12
    have t12 := k12.bel
    have i12 : Rr w12 C2 p.1 := Rw.below i11 b12
    have o12 := o11.below b12
    have hk2 : decide (((1 + 4 * p.1.length : Nat) : Int) < 0) = false := by simp; omega
    have hk3 : ((((1 + 4 * p.1.length : Nat) : Int)) != ((1 + 4 * p.1.length : Nat) : Int)) = false := by simp
    have c0 := k12.all.1; have c1 := k12.all.2.1; have c2 := k12.all.2.2.1; have c3 := k12.all.2.2.2.1
    have hbw := t12.drew
    have kd := k12.drew
    have hod := o12.below (Below.refl _ _).drew
    have hid := Rw.below i12 (Below.refl _ _).drew
    go_wp2_with fail
    go_cut [14, 15] from 84 to 91 (fun u v wx => ∃ C q, u = .slice C p.1.length q ∧ v = .int .i64 p.2 ∧ Rr wx C p.1 ∧ Below w12.heap.size w12 wx)
    case first =>
      have hbx := (Below.refl w12.heap.size w12).drew
      go_region_with (first
        | (go_at_call 34; refine (toRateS_l A c rs _ (hR.below hbw) hn).mono ?_; rintro e wS ⟨AS, cS, rfl, oS, bS⟩; have hbw := belowGo hbw bS; have hbx := belowGo hbx bS; have kd := kd.step bS; have c0 := kd.all.1; have c1 := kd.all.2.1; have c2 := kd.all.2.2.1; have c3 := kd.all.2.2.2.1)
        | (go_at_call 35; refine (toRate_l r _).mono ?_; rintro e wT ⟨rfl, bT⟩; have hbw := belowGo hbw bT; have hbx := belowGo hbx bT; have kd := kd.step bT; have c0 := kd.all.1; have c1 := kd.all.2.1; have c2 := kd.all.2.2.1; have c3 := kd.all.2.2.2.1)
        | (go_at_call 11; refine (HIM.out AS cS _ _ (by first | exact oS | exact (oS.below bT))).mono ?_; rintro e wA ⟨AA, cA, rfl, oA, bA⟩))
      all_goals
        go_wp2_with fail
        go_meet
        exact ⟨AA, cA, rfl, rfl, oA.rr, belowGo hbx bA⟩
    case rest =>
      obtain ⟨H13, h13, rfl, rfl, r13, b13⟩ := hcut
      have t13 := belowGo t12 b13
      have o13 := o12.below b13
      have i13 : Rr _ C2 p.1 := Rw.below i12 b13
      clear kd hbw c0 c1 c2 c3
      go_wp2_with fail
      refine (eqRateS_l H13 C2 h13 c2' p.1 _ r13 i13 (by omega)).mono ?_
      rintro e w14 ⟨rfl, b14⟩
      have t14 := belowGo t13 b14
      go_wp2_with fail
      refine (heldRateS_l G5 _ g5 1 w14 (o13.below b14).rr (by omega) (by omega) (by omega)).mono ?_
      rintro e w15 ⟨rfl, b15⟩
      have t15 := belowGo t14 b15
      go_wp2_with fail
      go_ret
      exact ⟨rfl, t15⟩
end Go.Proofs.Ytaehkkcaoniphaa
