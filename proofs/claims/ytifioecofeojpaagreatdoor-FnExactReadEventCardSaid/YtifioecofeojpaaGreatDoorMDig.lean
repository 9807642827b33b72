import Derived.Test.YtifioecofeojpaaGreatDoorMCal
import Derived.Test.YtifioecofeojpaaGreatDoorSplit
import Derived.Test.YtifioecofeojpaaGreatDoorRdi
import Derived.Test.YtifioecofeojpaaGreatDoorMDated
import Derived.Deep.CutRange
/- spec.l02Digits reads two digits. -/
namespace Go.Proofs.YtifioecofeojpaaGreatDoor
open Go.ChangeShapes Go.WideShapes Go.ChangeAt Go.RowKit
set_option linter.unusedVariables false

def digR : List UInt8 → Int
  | [a, b] => if inr ((a.toNat : Int) - 48) 0 9 = true ∧ inr ((b.toNat : Int) - 48) 0 9 = true then 10 * ((a.toNat : Int) - 48) + ((b.toNat : Int) - 48) else -1
  | _ => -1
theorem digR_ok {a b : UInt8} (h : inr ((a.toNat : Int) - 48) 0 9 = true) (g : inr ((b.toNat : Int) - 48) 0 9 = true) : digR [a, b] = 10 * ((a.toNat : Int) - 48) + ((b.toNat : Int) - 48) := by
  simp [digR, h, g]
theorem digR_a {a b : UInt8} (h : inr ((a.toNat : Int) - 48) 0 9 = false) : digR [a, b] = -1 := by simp [digR, h]
theorem digR_b {a b : UInt8} (h : inr ((b.toNat : Int) - 48) 0 9 = false) : digR [a, b] = -1 := by simp [digR, h]
theorem digR_len {l : List UInt8} (h : l.length ≠ 2) : digR l = -1 := by
  match l, h with
  | [], _ => rfl
  | [_], _ => rfl
  | [_, _], h => exact absurd rfl h
  | _ :: _ :: _ :: _, _ => rfl
theorem digR_two {r : Nat} (h : r < 100) : digR (two r) = r := by
  have h1 : (UInt8.ofNat (48 + r / 10)).toNat = 48 + r / 10 := by simp [UInt8.toNat_ofNat']; omega
  have h2 : (UInt8.ofNat (48 + r % 10)).toNat = 48 + r % 10 := by simp [UInt8.toNat_ofNat']; omega
  unfold two
  rw [digR_ok (by rw [h1, inr_iff]; omega) (by rw [h2, inr_iff]; omega), h1, h2]; omega

theorem wr {n : Int} (h : -1000 ≤ n ∧ n ≤ 1000) : Go.RowKit.wrap64 n = n := by unfold Go.RowKit.wrap64; omega
set_option maxHeartbeats 1000000 in
theorem dig_s (l : List UInt8) (hl : l.length ≤ 1048576) (w : World) : Calls Tryz.prog 60 #[.string ⟨l.toArray⟩] w fun e w' => e = .returned (.int .i64 (digR l)) ∧ ∃ n, w' = w.drewN n := by
  have hs : (⟨l.toArray⟩ : ByteArray).size = l.length := rfl
  by_cases h2 : l.length = 2
  · obtain ⟨a, b, hab⟩ : ∃ a b, l = [a, b] := by
      match l, h2 with
      | [a, b], _ => exact ⟨a, b, rfl⟩
    have ha : a.toNat ≤ 255 := by have := a.toNat_lt; omega
    have hb : b.toNat ≤ 255 := by have := b.toNat_lt; omega
    have z0 := at_byte l 0 a (by rw [hab]; rfl)
    have z1 := at_byte l 1 b (by rw [hab]; rfl)
    have q1 : IntKind.i64.wrap ((a.toNat : Int) - 48) = (a.toNat : Int) - 48 := IntWalk.i64_in _ (by omega)
    have q2 : IntKind.i64.wrap ((b.toNat : Int) - 48) = (b.toNat : Int) - 48 := IntWalk.i64_in _ (by omega)
    have q3 : IntKind.i64.wrap (a.toNat : Int) = (a.toNat : Int) := IntWalk.i64_in _ (by omega)
    have q4 : IntKind.i64.wrap (b.toNat : Int) = (b.toNat : Int) := IntWalk.i64_in _ (by omega)
    have w1 : Go.RowKit.wrap64 (a.toNat : Int) = (a.toNat : Int) := wr (by omega)
    have w2 : Go.RowKit.wrap64 (b.toNat : Int) = (b.toNat : Int) := wr (by omega)
    have w3 : Go.RowKit.wrap64 ((a.toNat : Int) - 48) = (a.toNat : Int) - 48 := wr (by omega)
    have w4 : Go.RowKit.wrap64 ((b.toNat : Int) - 48) = (b.toNat : Int) - 48 := wr (by omega)
    have e2 : ((l.length : Int) != 2) = false := by simp [h2]
    clear hl
    rcases Bool.eq_false_or_eq_true (inr ((a.toNat : Int) - 48) 0 9) with h | h
    · rcases Bool.eq_false_or_eq_true (inr ((b.toNat : Int) - 48) 0 9) with g | g
      · have h9 := inr_iff.1 h
        have g9 := inr_iff.1 g
        have E : Hid (digR l = 10 * ((a.toNat : Int) - 48) + ((b.toNat : Int) - 48)) := Lib.hid (by rw [hab]; exact digR_ok h g)
        clear hab
        go_enter Tryz.func60, Tryz.ntmps60
        go_wp2_with fail
        go_quiet (fail)
        go_wp2_with fail
        first | rw [w1, w3] | rw [w2, w4] | skip
        refine (inn_q h _).mono ?_
        rintro e w' ⟨rfl, rfl⟩
        go_wp2_with fail
        first | rw [w1, w3] | rw [w2, w4] | skip
        refine (inn_q g _).mono ?_
        rintro e w' ⟨rfl, rfl⟩
        go_wp2_with fail
        go_ret
        exact ⟨by rw [E.out] <;> rfl, _, rfl⟩
      · skip
        have E : Hid (digR l = -1) := Lib.hid (by rw [hab]; exact digR_b g)
        clear hab
        go_enter Tryz.func60, Tryz.ntmps60
        go_wp2_with fail
        go_quiet (fail)
        go_wp2_with fail
        first | rw [w1, w3] | rw [w2, w4] | skip
        refine (inn_q h _).mono ?_
        rintro e w' ⟨rfl, rfl⟩
        go_wp2_with fail
        first | rw [w1, w3] | rw [w2, w4] | skip
        refine (inn_q g _).mono ?_
        rintro e w' ⟨rfl, rfl⟩
        go_wp2_with fail
        go_ret
        exact ⟨by rw [E.out] <;> rfl, _, rfl⟩
    · skip
      have E : Hid (digR l = -1) := Lib.hid (by rw [hab]; exact digR_a h)
      clear hab
      go_enter Tryz.func60, Tryz.ntmps60
      go_wp2_with fail
      go_quiet (fail)
      go_wp2_with fail
      first | rw [w1, w3] | rw [w2, w4] | skip
      refine (inn_q h _).mono ?_
      rintro e w' ⟨rfl, rfl⟩
      go_wp2_with fail
      go_ret
      exact ⟨by rw [E.out] <;> rfl, _, rfl⟩
  · have E := Lib.hid (digR_len h2)
    have e2 : ((l.length : Int) != 2) = true := by simp; omega
    clear h2
    go_enter Tryz.func60, Tryz.ntmps60
    go_wp2_with fail
    go_ret
    exact ⟨by rw [E.out] <;> rfl, 0, rfl⟩
end Go.Proofs.YtifioecofeojpaaGreatDoor

/- spec.ReadDate. -/
namespace Go.Proofs.YtifioecofeojpaaGreatDoor
open Go.ChangeShapes Go.WideShapes Go.ChangeAt Go.RowKit
set_option linter.unusedVariables false

theorem dec_no45 (Y : Nat) : ∀ c ∈ Lib.decDigits Y, c ≠ 45 := by
  induction Y using Nat.strongRecOn with
  | ind u ih =>
    intro c hc
    by_cases h : u < 10
    · rw [Lib.decDigits_one h] at hc
      simp at hc; subst hc
      intro e
      have := congrArg UInt8.toNat e
      simp [UInt8.toNat_ofNat'] at this; omega
    · rw [dec_hi2 h] at hc
      rcases List.mem_append.1 hc with hc | hc
      · exact ih (u / 10) (by omega) c hc
      · simp at hc; subst hc
        intro e
        have := congrArg UInt8.toNat e
        simp [UInt8.toNat_ofNat'] at this; omega
theorem two_no45 {r : Nat} (hr : r < 100) : ∀ c ∈ two r, c ≠ 45 := by
  intro c hc
  unfold two at hc
  simp at hc
  rcases hc with rfl | rfl <;>
    (intro e
     have := congrArg UInt8.toNat e
     simp [UInt8.toNat_ofNat'] at this; omega)
theorem spl_dtext {Y M D : Nat} (hm : M < 100) (hd : D < 100) : spl [] (dtext Y M D) = [Lib.decDigits Y, two M, two D] := by
  unfold dtext
  rw [spl_at _ _ _ (dec_no45 Y), spl_at _ _ _ (two_no45 hm), spl_end _ _ (two_no45 hd)]; simp
theorem val_dec {Y : Nat} (h0 : 1970 ≤ Y) (h1 : Y ≤ 2069) : (valR (Lib.decDigits Y)).1 = Y := by
  have h4 := dec_four h0 h1
  have hf : Lib.decFrom 0 (Lib.decDigits Y) = some Y := by
    have := from_dec Y []
    rw [List.append_nil] at this
    simpa [Lib.decFrom] using this
  rw [valR_some (by omega) hf]
/-- No date where there are not three words. -/
theorem rs_len {s : List UInt8} (h : (spl [] s).length ≠ 3) : rdR s = (0, 0, 0, 6) := by
  refine rd_no fun Y M D g e => h ?_
  obtain ⟨⟨a, b⟩, c, d⟩ := ok_nats g
  rw [← e, spl_dtext c d]; rfl
theorem rs_no {s a b c : List UInt8} (h : spl [] s = [a, b, c]) (hn : ∀ Y M D : Nat, (valR a).1 = Y → digR b = M → digR c = D → okD Y M D = true → dtext Y M D ≠ s) : rdR s = (0, 0, 0, 6) := by
  refine rd_no fun Y M D g e => ?_
  obtain ⟨⟨y0, y1⟩, m1, d1⟩ := ok_nats g
  have hs := spl_dtext (Y := Y) m1 d1
  rw [e, h] at hs
  injection hs with h1 hs
  injection hs with h2 hs
  injection hs with h3 _
  exact hn Y M D (by rw [h1]; exact val_dec y0 y1) (by rw [h2]; exact digR_two m1) (by rw [h3]; exact digR_two d1) g e

theorem spl_mem (s : List UInt8) : ∀ cur, ∀ x ∈ spl cur s, x.length ≤ cur.length + s.length := by
  induction s with
  | nil => intro cur x hx; simp [spl] at hx; subst hx; simp
  | cons c r ih =>
    intro cur x hx
    rw [spl] at hx
    split at hx
    · rcases List.mem_cons.1 hx with rfl | hx
      · simp
      · have := ih [] x hx; simp at this ⊢; omega
    · have := ih _ x hx; simp at this ⊢; omega
theorem own_cells {w : World} {base n c : Nat} {e : TypeId} {A : Option Addr} {vs : List Value} (h : w.ownsRow base e 1 (.slice A n c) n vs) (hn : 0 < n) :
    ∃ g, A = some ⟨g, 0, none⟩ ∧ g < w.heap.size ∧ ∀ j v, vs[j]? = some v → w.cell? ⟨g, j, none⟩ = some v := by
  rcases h.2 with ⟨hv, hx⟩ | ⟨g, cap, cur, hv, _, hh, _⟩
  · injection hv with _ h2 _; omega
  · have hlt := (h.lt g (by rw [hv]; rfl)).2
    injection hv with hA _ _
    subst hA
    refine ⟨g, rfl, hlt, fun j v hj => ?_⟩
    have := h.cells (g := g) rfl j v hj
    rwa [show ((⟨g, 0, none⟩ : Addr).add j) = ⟨g, j, none⟩ from by unfold Addr.add; split <;> simp_all] at this

/-- The words stand, the result is still zero, nothing below is written. -/
structure KeepW (w0 : World) (g : Nat) (b c : List UInt8) (W : World) : Prop where
  c1 : W.cell? ⟨g, 1, none⟩ = some (.string ⟨b.toArray⟩)
  c2 : W.cell? ⟨g, 2, none⟩ = some (.string ⟨c.toArray⟩)
  lt : g < W.heap.size
  res : W.heap[w0.heap.size]? = some (.cells #[.int .i64 0, .int .i64 0, .int .i64 0] 60 (0, 0))
  bel : Below w0.heap.size w0 W
theorem KeepW.step {w0 W w' : World} {g : Nat} {b c : List UInt8} (k : KeepW w0 g b c W) (h : Below W.heap.size W w') : KeepW w0 g b c w' :=
  ⟨(h.cell (p := ⟨g, 1, none⟩) k.lt).trans k.c1, (h.cell (p := ⟨g, 2, none⟩) k.lt).trans k.c2, Nat.lt_of_lt_of_le k.lt h.size, (keep6 h k.res).1, belowGo k.bel h⟩
theorem KeepW.all {w0 W : World} {g : Nat} {b c : List UInt8} (k : KeepW w0 g b c W) :
    W.cell? ⟨g, 1, none⟩ = some (.string ⟨b.toArray⟩) ∧ W.cell? ⟨g, 2, none⟩ = some (.string ⟨c.toArray⟩) ∧ KeepW w0 g b c W := ⟨k.c1, k.c2, k⟩

set_option maxHeartbeats 4000000 in
theorem rdate_s (s : List UInt8) (hl : s.length ≤ 1048576) (w : World) : Calls Tryz.prog 29 #[.string ⟨s.toArray⟩] w (GiveA w (rdR s)) := by
  have hs : (⟨s.toArray⟩ : ByteArray).size = s.length := rfl
  have o1 := heap_alloc_new w (.cells #[.int .i64 0, .int .i64 0, .int .i64 0] 60)
  have HB := below_alloc w (.cells #[.int .i64 0, .int .i64 0, .int .i64 0] 60)
  have HS := Lib.hid (fun w => split_s s hl w)
  have hsl := spl_len s []
  by_cases h3 : (spl [] s).length = 3
  · obtain ⟨a, b, c, habc⟩ : ∃ a b c, spl [] s = [a, b, c] := by
      match spl [] s, h3 with
      | [a, b, c], _ => exact ⟨a, b, c, rfl⟩
    have hla : a.length ≤ 1048576 := by have := spl_mem s [] a (by rw [habc]; simp); simp at this; omega
    have hlb : b.length ≤ 1048576 := by have := spl_mem s [] b (by rw [habc]; simp); simp at this; omega
    have hlc : c.length ≤ 1048576 := by have := spl_mem s [] c (by rw [habc]; simp); simp at this; omega
    rw [habc] at HS
    have HNO := Lib.hid (rs_no habc)
    clear habc h3 hsl
    go_enter Tryz.func29, Tryz.ntmps29
    go_wp2_with fail
    refine (HS.out _).mono ?_
    rintro e w1 ⟨A, d, rfl, ho, b1⟩
    obtain ⟨g, rfl, hg, hc⟩ := own_cells ho (by simp)
    have m0 : w1.cell? ⟨g, 0, none⟩ = some (.string ⟨a.toArray⟩) := hc 0 _ rfl
    have m1 : w1.cell? ⟨g, 1, none⟩ = some (.string ⟨b.toArray⟩) := hc 1 _ rfl
    have m2 : w1.cell? ⟨g, 2, none⟩ = some (.string ⟨c.toArray⟩) := hc 2 _ rfl
    have k1 : KeepW w g b c w1 := ⟨m1, m2, hg, (keep6 b1 o1).1, belowGo HB b1⟩
    have HV := Lib.hid (fun w => val_s a hla w)
    have HD2 := Lib.hid (fun W => dig_s b hlb W)
    have HD3 := Lib.hid (fun W => dig_s c hlc W)
    generalize (valR a).2 = vb at *
    generalize hxa : (valR a).1 = x at *
    clear hc ho b1 o1 HB HS
    have e3 : ((([a, b, c] : List (List UInt8)).length : Int) != 3) = false := by simp
    go_wp2_with fail
    refine (HV.out _).mono ?_
    rintro e w2 ⟨rfl, b2⟩
    have k2 := k1.step b2
    have n1 := k2.c1
    have n2 := k2.c2
    have k2a := k2.step (below_alloc w2 (.cells #[.int .i64 0, .int .i64 0, .int .i64 0] 60))
    have n3 := k2a.c1
    have n4 := k2a.c2
    clear k1 b2 m0 m1 m2
    go_wp2_with fail
    have dn1 : ∀ (W : World) (n : Nat) (a : Addr), (W.drewN n).cell? a = W.cell? a := fun _ _ _ => rfl
    have dn2 : ∀ (W : World) (n : Nat) (a : Addr), (W.drewN n).frozen? a = W.frozen? a := fun _ _ _ => rfl
    have dn4 : ∀ (W : World) (n : Nat), (W.drewN n).heap.size = W.heap.size := fun _ _ => rfl
    have dn5 : ∀ (W : World) (n : Nat) (o : Obj), (W.drewN n).alloc o = (W.alloc o).drewN n := fun _ _ _ => rfl
    have dn3 : ∀ (W : World) (n : Nat) (a : Addr) (v : Value), (W.drewN n).setCell a v = (W.setCell a v).drewN n := fun _ _ _ _ => rfl
    go_cut [7] from 22 to 30 (fun p wx => p = .pointer (some ⟨w2.heap.size, 0, none⟩) ∧ ∃ n, wx = (w2.alloc (.cells #[.int .i64 x, .int .i64 (digR b), .int .i64 (digR c)] 60)).drewN n)
    case first =>
      go_region_with (go_at_call 60; refine (dig_s _ ?_ _).mono ?_; assumption; rintro e w3 ⟨rfl, n, rfl⟩)
      all_goals
        go_wp2_with fail
        go_meet
        exact ⟨rfl, _, rfl⟩
    case rest =>
      obtain ⟨rfl, n, rfl⟩ := hcut
      have kx : KeepW w g b c ((w2.alloc (.cells #[.int .i64 x, .int .i64 (digR b), .int .i64 (digR c)] 60)).drewN n) := (k2.step (below_alloc w2 _)).step (below_drewN _ _)
      have hbx : ((w2.alloc (.cells #[.int .i64 x, .int .i64 (digR b), .int .i64 (digR c)] 60)).drewN n).heap[w2.heap.size]? = some (.cells #[.int .i64 x, .int .i64 (digR b), .int .i64 (digR c)] 60 (0, 0)) := heap_alloc_new w2 _
      generalize hwx : (w2.alloc (.cells #[.int .i64 x, .int .i64 (digR b), .int .i64 (digR c)] 60)).drewN n = wx at *
      obtain ⟨_, c0, c1, c2, _⟩ := keep6 (Below.refl _ _) hbx
      clear hwx k2 k2a n1 n2 n3 n4
      generalize hy : digR b = y at *
      generalize hz : digR c = z at *
      clear dn1 dn2 dn3 dn4 dn5 HD2 HD3 HV
      rcases Bool.eq_false_or_eq_true (okD x y z) with hk | hk
      · obtain ⟨Y, M, D, rfl, rfl, rfl, hY, hY2, hM, hD⟩ := nats_of hk
        have HI := Lib.hid (fun w => isDate_s Y M D w)
        rw [hk] at HI
        have HT := Lib.hid (fun w => ltext_s Y M D (by omega) hM hD w)
        go_wp2_with fail
        refine (HI.out _).mono ?_
        rintro e w4 ⟨rfl, b4⟩
        obtain ⟨d4, c0, c1, c2, _⟩ := keep6 b4 hbx
        have k4 := kx.step b4
        go_wp2_with fail
        refine (HT.out _).mono ?_
        rintro e w5 ⟨rfl, b5⟩
        obtain ⟨d5, c0, c1, c2, _⟩ := keep6 b5 d4
        have k5 := k4.step b5
        have t5 := k5.bel
        have o5 := k5.res
        obtain ⟨_, r0, r1, r2, s0, s1, s2⟩ := keep6 (Below.refl _ _) o5
        by_cases hts : dtext Y M D = s
        · have E := Lib.hid (rd_ok hk hts)
          have e5 : (dtext Y M D == s) = true := by simp [hts]
          clear hts HNO HI HT b4 b5 kx k4 k5 hbx d4 d5
          go_wp2_with fail
          obtain ⟨W, hW, f0, f1, f2, bW⟩ := done3 o5 (.int .i64 Y) (.int .i64 M) (.int .i64 D)
          rw [hW]
          have b9 := bW w.heap.size w (Nat.le_refl _) t5
          clear hW r0 r1 r2 s0 s1 s2 c0 c1 c2 bW
          exact bodyPost_ret (v := .tuple #[.agg #[.int .i64 Y, .int .i64 M, .int .i64 D], .int .i64 0]) (by simp [results, Tryz.results29, go_sem, f0, f1, f2]) rfl ⟨by rw [E.out], b9⟩
        · have E : Hid (rdR s = (0, 0, 0, 6)) := Lib.hid (HNO.out fun Y2 M2 D2 q1 q2 q3 q4 q5 => hts (by
            obtain rfl : Y = Y2 := by omega
            obtain rfl : M = M2 := by omega
            obtain rfl : D = D2 := by omega
            exact q5))
          have e5 : (dtext Y M D == s) = false := by simp [hts]
          clear hts HNO HI HT b4 b5 kx k4 k5 hbx d4 d5
          go_wp2_with fail
          obtain ⟨W, hW, f0, f1, f2, bW⟩ := done3 o5 (.int .i64 0) (.int .i64 0) (.int .i64 0)
          rw [hW]
          have b9 := bW w.heap.size w (Nat.le_refl _) t5
          clear hW r0 r1 r2 s0 s1 s2 c0 c1 c2 bW
          exact bodyPost_ret (v := .tuple #[.agg #[.int .i64 0, .int .i64 0, .int .i64 0], .int .i64 6]) (by simp [results, Tryz.results29, go_sem, f0, f1, f2]) rfl ⟨by rw [E.out], b9⟩
      · have HI := Lib.hid (fun w => isDate_s x y z w)
        rw [hk] at HI
        have E : Hid (rdR s = (0, 0, 0, 6)) := Lib.hid (HNO.out fun Y2 M2 D2 q1 q2 q3 q4 q5 => by
          have hx2 : x = Y2 := by omega
          have hy2 : y = M2 := by omega
          have hz2 : z = D2 := by omega
          subst hx2 hy2 hz2
          rw [hk] at q4; cases q4)
        go_wp2_with fail
        refine (HI.out _).mono ?_
        rintro e w4 ⟨rfl, b4⟩
        obtain ⟨d4, c0, c1, c2, _⟩ := keep6 b4 hbx
        have k5 := kx.step b4
        have t5 := k5.bel
        have o5 := k5.res
        obtain ⟨_, r0, r1, r2, s0, s1, s2⟩ := keep6 (Below.refl _ _) o5
        clear HNO HI b4 kx k5 hbx d4
        go_wp2_with fail
        obtain ⟨W, hW, f0, f1, f2, bW⟩ := done3 o5 (.int .i64 0) (.int .i64 0) (.int .i64 0)
        rw [hW]
        have b9 := bW w.heap.size w (Nat.le_refl _) t5
        clear hW r0 r1 r2 s0 s1 s2 c0 c1 c2 bW
        exact bodyPost_ret (v := .tuple #[.agg #[.int .i64 0, .int .i64 0, .int .i64 0], .int .i64 6]) (by simp [results, Tryz.results29, go_sem, f0, f1, f2]) rfl ⟨by rw [E.out], b9⟩
  · have E := Lib.hid (rs_len h3)
    have e3 : (((spl [] s).length : Int) != 3) = true := by simp; omega
    generalize hws : spl [] s = ws at *
    clear h3
    go_enter Tryz.func29, Tryz.ntmps29
    go_wp2_with fail
    refine (HS.out _).mono ?_
    rintro e w1 ⟨A, d, rfl, ho, b1⟩
    obtain ⟨o5, r0, r1, r2, s0, s1, s2⟩ := keep6 b1 o1
    have t5 := belowGo HB b1
    go_wp2_with fail
    obtain ⟨W, hW, g0, g1, g2, bW⟩ := done3 o5 (.int .i64 0) (.int .i64 0) (.int .i64 0)
    rw [hW]
    have b6 := bW w.heap.size w (Nat.le_refl _) t5
    clear hW o5 r0 r1 r2 s0 s1 s2 bW t5 HS ho b1 o1 HB
    exact bodyPost_ret (v := .tuple #[.agg #[.int .i64 0, .int .i64 0, .int .i64 0], .int .i64 6]) (by simp [results, Tryz.results29, go_sem, g0, g1, g2]) rfl ⟨by rw [E.out], b6⟩
end Go.Proofs.YtifioecofeojpaaGreatDoor

