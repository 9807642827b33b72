import Derived.Test.YtklhcofonkmiiaaGreatDoorRdi
import Derived.Test.YtklhcofonkmiiaaGreatDoorDig
import Derived.Test.YtklhcofonkmiiaaGreatDoorMDated
import Derived.Deep.CutRange
import Derived.Test.YtklhcofonkmiiaaGreatDoorRvt
import Derived.Test.YtklhcofonkmiiaaGreatDoorRgk
import Derived.Test.YtklhcofonkmiiaaGreatDoorVir
import Derived.Test.YtklhcofonkmiiaaGreatDoorMSto
/- spec.ReadDate. -/
namespace Go.Proofs.YtklhcofonkmiiaaGreatDoor
open Go.ChangeShapes Go.WideShapes Go.ChangeAt Go.RowKit
set_option linter.unusedVariables false

theorem dec_no45 (Y : Nat) : ∀ c ∈ Lib.decDigits Y, c ≠ 45 := by
  induction Y using Nat.strongRecOn with
  | ind u ih =>
    intro c hc
    by_cases h : u < 10
    · rw [Lib.decDigits_one h] at hc
      simp at hc; subst hc
      intro e
      have := congrArg UInt8.toNat e
      simp [UInt8.toNat_ofNat'] at this; omega
    · rw [dec_hi2 h] at hc
      rcases List.mem_append.1 hc with hc | hc
      · exact ih (u / 10) (by omega) c hc
      · simp at hc; subst hc
        intro e
        have := congrArg UInt8.toNat e
        simp [UInt8.toNat_ofNat'] at this; omega
theorem two_no45 {r : Nat} (hr : r < 100) : ∀ c ∈ two r, c ≠ 45 := by
  intro c hc
  unfold two at hc
  simp at hc
  rcases hc with rfl | rfl <;>
    (intro e
     have := congrArg UInt8.toNat e
     simp [UInt8.toNat_ofNat'] at this; omega)
theorem spl_dtext {Y M D : Nat} (hm : M < 100) (hd : D < 100) : spl [] (dtext Y M D) = [Lib.decDigits Y, two M, two D] := by
  unfold dtext
  rw [spl_at _ _ _ (dec_no45 Y), spl_at _ _ _ (two_no45 hm), spl_end _ _ (two_no45 hd)]; simp
theorem val_dec {Y : Nat} (h0 : 1970 ≤ Y) (h1 : Y ≤ 2069) : (valR (Lib.decDigits Y)).1 = Y := by
  have h4 := dec_four h0 h1
  have hf : Lib.decFrom 0 (Lib.decDigits Y) = some Y := by
    have := from_dec Y []
    rw [List.append_nil] at this
    simpa [Lib.decFrom] using this
  rw [valR_some (by omega) hf]
/-- No date where there are not three words. -/
theorem rs_len {s : List UInt8} (h : (spl [] s).length ≠ 3) : rdR s = (0, 0, 0, 6) := by
  refine rd_no fun Y M D g e => h ?_
  obtain ⟨⟨a, b⟩, c, d⟩ := ok_nats g
  rw [← e, spl_dtext c d]; rfl
theorem rs_no {s a b c : List UInt8} (h : spl [] s = [a, b, c]) (hn : ∀ Y M D : Nat, (valR a).1 = Y → digR b = M → digR c = D → okD Y M D = true → dtext Y M D ≠ s) : rdR s = (0, 0, 0, 6) := by
  refine rd_no fun Y M D g e => ?_
  obtain ⟨⟨y0, y1⟩, m1, d1⟩ := ok_nats g
  have hs := spl_dtext (Y := Y) m1 d1
  rw [e, h] at hs
  injection hs with h1 hs
  injection hs with h2 hs
  injection hs with h3 _
  exact hn Y M D (by rw [h1]; exact val_dec y0 y1) (by rw [h2]; exact digR_two m1) (by rw [h3]; exact digR_two d1) g e

theorem spl_mem (s : List UInt8) : ∀ cur, ∀ x ∈ spl cur s, x.length ≤ cur.length + s.length := by
  induction s with
  | nil => intro cur x hx; simp [spl] at hx; subst hx; simp
  | cons c r ih =>
    intro cur x hx
    rw [spl] at hx
    split at hx
    · rcases List.mem_cons.1 hx with rfl | hx
      · simp
      · have := ih [] x hx; simp at this ⊢; omega
    · have := ih _ x hx; simp at this ⊢; omega
theorem own_cells {w : World} {base n c : Nat} {e : TypeId} {A : Option Addr} {vs : List Value} (h : w.ownsRow base e 1 (.slice A n c) n vs) (hn : 0 < n) :
    ∃ g, A = some ⟨g, 0, none⟩ ∧ g < w.heap.size ∧ ∀ j v, vs[j]? = some v → w.cell? ⟨g, j, none⟩ = some v := by
  rcases h.2 with ⟨hv, hx⟩ | ⟨g, cap, cur, hv, _, hh, _⟩
  · injection hv with _ h2 _; omega
  · have hlt := (h.lt g (by rw [hv]; rfl)).2
    injection hv with hA _ _
    subst hA
    refine ⟨g, rfl, hlt, fun j v hj => ?_⟩
    have := h.cells (g := g) rfl j v hj
    rwa [show ((⟨g, 0, none⟩ : Addr).add j) = ⟨g, j, none⟩ from by unfold Addr.add; split <;> simp_all] at this

/-- The words stand, the result is still zero, nothing below is written. -/
structure KeepW (w0 : World) (g : Nat) (b c : List UInt8) (W : World) : Prop where
  c1 : W.cell? ⟨g, 1, none⟩ = some (.string ⟨b.toArray⟩)
  c2 : W.cell? ⟨g, 2, none⟩ = some (.string ⟨c.toArray⟩)
  lt : g < W.heap.size
  res : W.heap[w0.heap.size]? = some (.cells #[.int .i64 0, .int .i64 0, .int .i64 0] 50 (0, 0))
  bel : Below w0.heap.size w0 W
theorem KeepW.step {w0 W w' : World} {g : Nat} {b c : List UInt8} (k : KeepW w0 g b c W) (h : Below W.heap.size W w') : KeepW w0 g b c w' :=
  ⟨(h.cell (p := ⟨g, 1, none⟩) k.lt).trans k.c1, (h.cell (p := ⟨g, 2, none⟩) k.lt).trans k.c2, Nat.lt_of_lt_of_le k.lt h.size, (keep6 h k.res).1, belowGo k.bel h⟩
theorem KeepW.all {w0 W : World} {g : Nat} {b c : List UInt8} (k : KeepW w0 g b c W) :
    W.cell? ⟨g, 1, none⟩ = some (.string ⟨b.toArray⟩) ∧ W.cell? ⟨g, 2, none⟩ = some (.string ⟨c.toArray⟩) ∧ KeepW w0 g b c W := ⟨k.c1, k.c2, k⟩

set_option maxHeartbeats 4000000 in
theorem rdate_s (s : List UInt8) (hl : s.length ≤ 1048576) (w : World) : Calls Tryz.prog 29 #[.string ⟨s.toArray⟩] w (GiveA w (rdR s)) := by
  have hs : (⟨s.toArray⟩ : ByteArray).size = s.length := rfl
  have o1 := heap_alloc_new w (.cells #[.int .i64 0, .int .i64 0, .int .i64 0] 50)
  have HB := below_alloc w (.cells #[.int .i64 0, .int .i64 0, .int .i64 0] 50)
  have HS := Lib.hid (fun w => split_s s hl w)
  have hsl := spl_len s []
  by_cases h3 : (spl [] s).length = 3
  · obtain ⟨a, b, c, habc⟩ : ∃ a b c, spl [] s = [a, b, c] := by
      match spl [] s, h3 with
      | [a, b, c], _ => exact ⟨a, b, c, rfl⟩
    have hla : a.length ≤ 1048576 := by have := spl_mem s [] a (by rw [habc]; simp); simp at this; omega
    have hlb : b.length ≤ 1048576 := by have := spl_mem s [] b (by rw [habc]; simp); simp at this; omega
    have hlc : c.length ≤ 1048576 := by have := spl_mem s [] c (by rw [habc]; simp); simp at this; omega
    rw [habc] at HS
    have HNO := Lib.hid (rs_no habc)
    clear habc h3 hsl
    go_enter Tryz.func29, Tryz.ntmps29
    go_wp2_with fail
    refine (HS.out _).mono ?_
    rintro e w1 ⟨A, d, rfl, ho, b1⟩
    obtain ⟨g, rfl, hg, hc⟩ := own_cells ho (by simp)
    have m0 : w1.cell? ⟨g, 0, none⟩ = some (.string ⟨a.toArray⟩) := hc 0 _ rfl
    have m1 : w1.cell? ⟨g, 1, none⟩ = some (.string ⟨b.toArray⟩) := hc 1 _ rfl
    have m2 : w1.cell? ⟨g, 2, none⟩ = some (.string ⟨c.toArray⟩) := hc 2 _ rfl
    have k1 : KeepW w g b c w1 := ⟨m1, m2, hg, (keep6 b1 o1).1, belowGo HB b1⟩
    have HV := Lib.hid (fun w => val_s a hla w)
    have HD2 := Lib.hid (fun W => dig_s b hlb W)
    have HD3 := Lib.hid (fun W => dig_s c hlc W)
    generalize (valR a).2 = vb at *
    generalize hxa : (valR a).1 = x at *
    clear hc ho b1 o1 HB HS
    have e3 : ((([a, b, c] : List (List UInt8)).length : Int) != 3) = false := by simp
    go_wp2_with fail
    refine (HV.out _).mono ?_
    rintro e w2 ⟨rfl, b2⟩
    have k2 := k1.step b2
    have n1 := k2.c1
    have n2 := k2.c2
    have k2a := k2.step (below_alloc w2 (.cells #[.int .i64 0, .int .i64 0, .int .i64 0] 50))
    have n3 := k2a.c1
    have n4 := k2a.c2
    clear k1 b2 m0 m1 m2
    go_wp2_with fail
    have dn1 : ∀ (W : World) (n : Nat) (a : Addr), (W.drewN n).cell? a = W.cell? a := fun _ _ _ => rfl
    have dn2 : ∀ (W : World) (n : Nat) (a : Addr), (W.drewN n).frozen? a = W.frozen? a := fun _ _ _ => rfl
    have dn4 : ∀ (W : World) (n : Nat), (W.drewN n).heap.size = W.heap.size := fun _ _ => rfl
    have dn5 : ∀ (W : World) (n : Nat) (o : Obj), (W.drewN n).alloc o = (W.alloc o).drewN n := fun _ _ _ => rfl
    have dn3 : ∀ (W : World) (n : Nat) (a : Addr) (v : Value), (W.drewN n).setCell a v = (W.setCell a v).drewN n := fun _ _ _ _ => rfl
    go_cut [7] from 22 to 30 (fun p wx => p = .pointer (some ⟨w2.heap.size, 0, none⟩) ∧ ∃ n, wx = (w2.alloc (.cells #[.int .i64 x, .int .i64 (digR b), .int .i64 (digR c)] 50)).drewN n)
    case first =>
      go_region_with (go_at_call 51; refine (dig_s _ ?_ _).mono ?_; assumption; rintro e w3 ⟨rfl, n, rfl⟩)
      all_goals
        go_wp2_with fail
        go_meet
        exact ⟨rfl, _, rfl⟩
    case rest =>
      obtain ⟨rfl, n, rfl⟩ := hcut
      have kx : KeepW w g b c ((w2.alloc (.cells #[.int .i64 x, .int .i64 (digR b), .int .i64 (digR c)] 50)).drewN n) := (k2.step (below_alloc w2 _)).step (below_drewN _ _)
      have hbx : ((w2.alloc (.cells #[.int .i64 x, .int .i64 (digR b), .int .i64 (digR c)] 50)).drewN n).heap[w2.heap.size]? = some (.cells #[.int .i64 x, .int .i64 (digR b), .int .i64 (digR c)] 50 (0, 0)) := heap_alloc_new w2 _
      generalize hwx : (w2.alloc (.cells #[.int .i64 x, .int .i64 (digR b), .int .i64 (digR c)] 50)).drewN n = wx at *
      obtain ⟨_, c0, c1, c2, _⟩ := keep6 (Below.refl _ _) hbx
      clear hwx k2 k2a n1 n2 n3 n4
      generalize hy : digR b = y at *
      generalize hz : digR c = z at *
      clear dn1 dn2 dn3 dn4 dn5 HD2 HD3 HV
      rcases Bool.eq_false_or_eq_true (okD x y z) with hk | hk
      · obtain ⟨Y, M, D, rfl, rfl, rfl, hY, hY2, hM, hD⟩ := nats_of hk
        have HI := Lib.hid (fun w => isDate_s Y M D w)
        rw [hk] at HI
        have HT := Lib.hid (fun w => ltext_s Y M D (by omega) hM hD w)
        go_wp2_with fail
        refine (HI.out _).mono ?_
        rintro e w4 ⟨rfl, b4⟩
        obtain ⟨d4, c0, c1, c2, _⟩ := keep6 b4 hbx
        have k4 := kx.step b4
        go_wp2_with fail
        refine (HT.out _).mono ?_
        rintro e w5 ⟨rfl, b5⟩
        obtain ⟨d5, c0, c1, c2, _⟩ := keep6 b5 d4
        have k5 := k4.step b5
        have t5 := k5.bel
        have o5 := k5.res
        obtain ⟨_, r0, r1, r2, s0, s1, s2⟩ := keep6 (Below.refl _ _) o5
        by_cases hts : dtext Y M D = s
        · have E := Lib.hid (rd_ok hk hts)
          have e5 : (dtext Y M D == s) = true := by simp [hts]
          clear hts HNO HI HT b4 b5 kx k4 k5 hbx d4 d5
          go_wp2_with fail
          obtain ⟨W, hW, f0, f1, f2, bW⟩ := done3 o5 (.int .i64 Y) (.int .i64 M) (.int .i64 D)
          rw [hW]
          have b9 := bW w.heap.size w (Nat.le_refl _) t5
          clear hW r0 r1 r2 s0 s1 s2 c0 c1 c2 bW
          exact bodyPost_ret (v := .tuple #[.agg #[.int .i64 Y, .int .i64 M, .int .i64 D], .int .i64 0]) (by simp [results, Tryz.results29, go_sem, f0, f1, f2]) rfl ⟨by rw [E.out], b9⟩
        · have E : Hid (rdR s = (0, 0, 0, 6)) := Lib.hid (HNO.out fun Y2 M2 D2 q1 q2 q3 q4 q5 => hts (by
            obtain rfl : Y = Y2 := by omega
            obtain rfl : M = M2 := by omega
            obtain rfl : D = D2 := by omega
            exact q5))
          have e5 : (dtext Y M D == s) = false := by simp [hts]
          clear hts HNO HI HT b4 b5 kx k4 k5 hbx d4 d5
          go_wp2_with fail
          obtain ⟨W, hW, f0, f1, f2, bW⟩ := done3 o5 (.int .i64 0) (.int .i64 0) (.int .i64 0)
          rw [hW]
          have b9 := bW w.heap.size w (Nat.le_refl _) t5
          clear hW r0 r1 r2 s0 s1 s2 c0 c1 c2 bW
          exact bodyPost_ret (v := .tuple #[.agg #[.int .i64 0, .int .i64 0, .int .i64 0], .int .i64 6]) (by simp [results, Tryz.results29, go_sem, f0, f1, f2]) rfl ⟨by rw [E.out], b9⟩
      · have HI := Lib.hid (fun w => isDate_s x y z w)
        rw [hk] at HI
        have E : Hid (rdR s = (0, 0, 0, 6)) := Lib.hid (HNO.out fun Y2 M2 D2 q1 q2 q3 q4 q5 => by
          have hx2 : x = Y2 := by omega
          have hy2 : y = M2 := by omega
          have hz2 : z = D2 := by omega
          subst hx2 hy2 hz2
          rw [hk] at q4; cases q4)
        go_wp2_with fail
        refine (HI.out _).mono ?_
        rintro e w4 ⟨rfl, b4⟩
        obtain ⟨d4, c0, c1, c2, _⟩ := keep6 b4 hbx
        have k5 := kx.step b4
        have t5 := k5.bel
        have o5 := k5.res
        obtain ⟨_, r0, r1, r2, s0, s1, s2⟩ := keep6 (Below.refl _ _) o5
        clear HNO HI b4 kx k5 hbx d4
        go_wp2_with fail
        obtain ⟨W, hW, f0, f1, f2, bW⟩ := done3 o5 (.int .i64 0) (.int .i64 0) (.int .i64 0)
        rw [hW]
        have b9 := bW w.heap.size w (Nat.le_refl _) t5
        clear hW r0 r1 r2 s0 s1 s2 c0 c1 c2 bW
        exact bodyPost_ret (v := .tuple #[.agg #[.int .i64 0, .int .i64 0, .int .i64 0], .int .i64 6]) (by simp [results, Tryz.results29, go_sem, f0, f1, f2]) rfl ⟨by rw [E.out], b9⟩
  · have E := Lib.hid (rs_len h3)
    have e3 : (((spl [] s).length : Int) != 3) = true := by simp; omega
    generalize hws : spl [] s = ws at *
    clear h3
    go_enter Tryz.func29, Tryz.ntmps29
    go_wp2_with fail
    refine (HS.out _).mono ?_
    rintro e w1 ⟨A, d, rfl, ho, b1⟩
    obtain ⟨o5, r0, r1, r2, s0, s1, s2⟩ := keep6 b1 o1
    have t5 := belowGo HB b1
    go_wp2_with fail
    obtain ⟨W, hW, g0, g1, g2, bW⟩ := done3 o5 (.int .i64 0) (.int .i64 0) (.int .i64 0)
    rw [hW]
    have b6 := bW w.heap.size w (Nat.le_refl _) t5
    clear hW o5 r0 r1 r2 s0 s1 s2 bW t5 HS ho b1 o1 HB
    exact bodyPost_ret (v := .tuple #[.agg #[.int .i64 0, .int .i64 0, .int .i64 0], .int .i64 6]) (by simp [results, Tryz.results29, go_sem, g0, g1, g2]) rfl ⟨by rw [E.out], b6⟩
end Go.Proofs.YtklhcofonkmiiaaGreatDoor

/- spec.ReadVoyage. (by gen_rvs.py) -/
namespace Go.Proofs.YtklhcofonkmiiaaGreatDoor
open Go.ChangeShapes Go.WideShapes Go.ChangeAt Go.RowKit
set_option linter.unusedVariables false

theorem split32_s (s : List UInt8) (hl : s.length ≤ 1048576) (w : World) : Calls Tryz.prog 28 #[.string ⟨s.toArray⟩, .int .u8 32] w (NewWx w (spx 32 [] s)) := splitx_s 32 s hl w
theorem split64_s (s : List UInt8) (hl : s.length ≤ 1048576) (w : World) : Calls Tryz.prog 28 #[.string ⟨s.toArray⟩, .int .u8 64] w (NewWx w (spx 64 [] s)) := splitx_s 64 s hl w
theorem split126_s (s : List UInt8) (hl : s.length ≤ 1048576) (w : World) : Calls Tryz.prog 28 #[.string ⟨s.toArray⟩, .int .u8 126] w (NewWx w (spx 126 [] s)) := splitx_s 126 s hl w
theorem rowB {W : World} {B : Nat} {xa : List UInt8} {n1 n2 : Int} (h : W.heap[B]? = some (.cells #[.string ⟨xa.toArray⟩, .int .i64 n1, .int .i64 n2] 40 (0, 0))) : StoR W (some ⟨B, 0, none⟩) [⟨xa, n1, n2⟩] := fun _ =>
  ⟨B, 0, rfl, lt_some h, fun j v hj => by
    rw [Nat.zero_add, cell_of_row _ _ _ _ _ _ h]
    simpa [Sto.cells] using hj⟩
/-- The row at hand, beside the words. -/
def RowX (lo : Nat) (WV : Value) (ws : List (List UInt8)) (v : Value) (L : List Sto) (W : World) : Prop := RowAV lo v L W ∧ W.ownsRow lo 9 1 WV ws.length (ws.map encStr) ∧ Sep v WV
def frVs (us : Nat → Value) : Act := { tmps := #[us 0, us 1, us 2, us 3, us 4, us 5, us 6, us 7, us 8, us 9, us 10, us 11, us 12, us 13, us 14, us 15, us 16, us 17, us 18, us 19, us 20, us 21, us 22, us 23, us 24, us 25, us 26, us 27, us 28, us 29, us 30, us 31, us 32, us 33, us 34, us 35, us 36, us 37, us 38, us 39, us 40, us 41, us 42, us 43, us 44, us 45, us 46, us 47, us 48, us 49, us 50, us 51, us 52, us 53, us 54, us 55, us 56, us 57, us 58, us 59, us 60, us 61, us 62, us 63, us 64, us 65, us 66, us 67, us 68, us 69, us 70, us 71], defers := [] }
theorem frVs_of {x0 x1 x2 x3 x4 x5 x6 x7 x8 x9 x10 x11 x12 x13 x14 x15 x16 x17 x18 x19 x20 x21 x22 x23 x24 x25 x26 x27 x28 x29 x30 x31 x32 x33 x34 x35 x36 x37 x38 x39 x40 x41 x42 x43 x44 x45 x46 x47 x48 x49 x50 x51 x52 x53 x54 x55 x56 x57 x58 x59 x60 x61 x62 x63 x64 x65 x66 x67 x68 x69 x70 x71 : Value} : ({ tmps := #[x0, x1, x2, x3, x4, x5, x6, x7, x8, x9, x10, x11, x12, x13, x14, x15, x16, x17, x18, x19, x20, x21, x22, x23, x24, x25, x26, x27, x28, x29, x30, x31, x32, x33, x34, x35, x36, x37, x38, x39, x40, x41, x42, x43, x44, x45, x46, x47, x48, x49, x50, x51, x52, x53, x54, x55, x56, x57, x58, x59, x60, x61, x62, x63, x64, x65, x66, x67, x68, x69, x70, x71], defers := [] } : Act) = frVs (fun k => #[x0, x1, x2, x3, x4, x5, x6, x7, x8, x9, x10, x11, x12, x13, x14, x15, x16, x17, x18, x19, x20, x21, x22, x23, x24, x25, x26, x27, x28, x29, x30, x31, x32, x33, x34, x35, x36, x37, x38, x39, x40, x41, x42, x43, x44, x45, x46, x47, x48, x49, x50, x51, x52, x53, x54, x55, x56, x57, x58, x59, x60, x61, x62, x63, x64, x65, x66, x67, x68, x69, x70, x71].getD k undef) := rfl
/-- The condition on which operations have come up. -/
structure InvVs (h13 pg g1 g2 k : Nat) (s : List UInt8) (WV PS v0 : Value) (ws : List (List UInt8)) (rs : List Sto) (xa : List UInt8) (n1 n2 : Int) (Y1 M1 E1 Y2 M2 E2 : Nat) (lo : Nat) (w : World) (d : Array Bool) (us : Nat → Value) (W : World) : Prop where
  u0 : us 0 = .string ⟨s.toArray⟩
  u1 : us 1 = undef
  u5 : us 5 = WV
  u13 : us 13 = .slice (some ⟨h13, 0, none⟩) 0 0
  u14 : us 14 = .string ⟨s.toArray⟩
  u15 : us 15 = WV
  u68 : us 68 = undef
  u69 : us 69 = undef
  u70 : us 70 = undef
  u71 : us 71 = undef
  u6 : us 6 = .int .i64 (k : Int)
  u7 : us 7 = PS
  u9 : us 9 = .pointer (some ⟨g1, 0, none⟩)
  u11 : us 11 = .pointer (some ⟨g2, 0, none⟩)
  u4 : d.getD 11 false = false → us 4 = v0
  bel : d.getD 10 false = false → Below w.heap.size w W
  belo : Below lo w W
  allR : d.getD 10 false = true → ∀ k, k < 10 → d.getD k false = true
  allL : d.getD 11 false = true → ∀ k, k < 11 → d.getD k false = true
  o0 : d.getD 0 false = true → us 57 = v0
  o1 : d.getD 1 false = true → us 58 = PS
  p2 : d.getD 2 false = true → d.getD 1 false = true
  o2 : d.getD 2 false = true → us 59 = .pointer (some ⟨pg, 0, none⟩)
  p3 : d.getD 3 false = true → d.getD 2 false = true
  o3 : d.getD 3 false = true → us 60 = .string ⟨xa.toArray⟩
  o4 : d.getD 4 false = true → us 61 = .agg #[.int .i64 (Y1 : Int), .int .i64 (M1 : Int), .int .i64 (E1 : Int)]
  p5 : d.getD 5 false = true → d.getD 4 false = true
  o5 : d.getD 5 false = true → us 62 = .int .i64 n1
  o6 : d.getD 6 false = true → us 63 = .agg #[.int .i64 (Y2 : Int), .int .i64 (M2 : Int), .int .i64 (E2 : Int)]
  p7 : d.getD 7 false = true → d.getD 6 false = true
  o7 : d.getD 7 false = true → us 64 = .int .i64 n2
  p8 : d.getD 8 false = true → d.getD 3 false = true ∧ d.getD 5 false = true ∧ d.getD 7 false = true
  o8 : d.getD 8 false = true → us 65 = .agg #[.string ⟨xa.toArray⟩, .int .i64 n1, .int .i64 n2]
  p9 : d.getD 9 false = true → d.getD 8 false = true
  o9 : d.getD 9 false = true → d.getD 10 false = false → ∃ B, us 66 = .slice (some ⟨B, 0, none⟩) 1 1 ∧ W.heap[B]? = some (.cells #[.string ⟨xa.toArray⟩, .int .i64 n1, .int .i64 n2] 40 (0, 0)) ∧ w.heap.size ≤ B
  o10 : d.getD 10 false = true → RowX lo WV ws (us 67) (rs ++ [⟨xa, n1, n2⟩]) W
  o11 : d.getD 11 false = true → us 4 = us 67

theorem made0r (w : World) (base : Nat) (e : TypeId) (size : Nat) (hb : base ≤ w.heap.size) : (w.alloc (Obj.cells #[] e)).ownsRow base e size (.slice (some ⟨w.heap.size, 0, none⟩) 0 0) 0 [] :=
  World.ownsRow_made w #[] 0 hb (by decide) (by simp)
theorem own_lowX {w : World} {base base' n : Nat} {e : TypeId} {size : Nat} {v : Value} {xs : List Value} (h : w.ownsRow base e size v n xs) (hb : base' ≤ base) : w.ownsRow base' e size v n xs := by
  refine ⟨h.1, h.2.imp id ?_⟩
  rintro ⟨g, cap, cur, h1, h2, h3⟩
  exact ⟨g, cap, cur, h1, by omega, h3⟩
theorem word_len {x : List UInt8} {r : Sto} (h : wordR x = some r) : r.p.length ≤ x.length := by
  rw [← wordR_txt h]; unfold stxt; simp
set_option maxRecDepth 100000 in
set_option maxHeartbeats 16000000 in
theorem rvoy_s (s : List UInt8) (hl : s.length ≤ 1048576) (w : World) : Calls Tryz.prog 11 #[.string ⟨s.toArray⟩] w (NewStosC w (rvR s)) := by
  have HO0 := made0r w w.heap.size 40 3 (Nat.le_refl _)
  have B0 := below_alloc w (Obj.cells #[] 40)
  have HS := Lib.hid (fun w => split32_s s hl w)
  have HML := Lib.hid (fun x (hx : x ∈ spx 32 [] s) => spx_mem s [] x hx)
  have hwl : (spx 32 [] s).length ≤ 1048577 := by have := spx_len (sep := 32) s []; omega
  have HW0 := Lib.hid (fun k x (hx : (spx 32 [] s)[k]? = some x) (h : wordR x = none) => rv_word hx h)
  have HY := Lib.hid (fun rs h hv => rv_done (s := s) (rs := rs) h hv)
  have HN := Lib.hid (fun rs h hv => rv_bad (s := s) (rs := rs) h hv)
  generalize spx 32 [] s = ws at *
  generalize rvR s = Q at *
  go_enter Tryz.func11, Tryz.ntmps11
  go_wp2_with fail
  refine (HS.out _).mono ?_
  rintro e w1 ⟨A, c, rfl, hW1, b1⟩
  have t1 := belowGo B0 b1
  have hO1 := own_below HO0 b1
  have hS1 : Sep (.slice (some ⟨w.heap.size, 0, none⟩) 0 0) (.slice A ws.length c) := by
    intro k hk hv
    have := (hW1.lt k hv).1
    simp [Value.ownBlock] at hk
    simp at this; omega
  have hW2 := own_lowX hW1 B0.size
  clear HS HO0 hW1
  go_wp2_with fail
  go_loopw [4, 6] (fun v i wr => ∃ (k : Nat) (O : Option Addr) (q : Nat) (rs : List Sto), k ≤ ws.length ∧ i = .int .i64 k ∧ v = .slice O rs.length q ∧ rs.length ≤ k ∧ StoO wr w.heap.size O rs.length q rs ∧ Sep (.slice O rs.length q) (.slice A ws.length c) ∧ wr.ownsRow w.heap.size 9 1 (.slice A ws.length c) ws.length (ws.map encStr) ∧ Hid ((ws.take k).map wordR = rs.map some) ∧ Below w.heap.size w wr) (fun _ i _ => ws.length - (intOf i).toNat)
  case atStart => exact ⟨0, some ⟨w.heap.size, 0, none⟩, 0, [], Nat.zero_le _, rfl, rfl, Nat.le_refl _, hO1, hS1, hW2, Lib.hid rfl, t1⟩
  case round =>
    clear hO1 hS1 hW2 t1 b1 B0
    obtain ⟨k, O, q, rs, hk, rfl, rfl, hrk, hown, hsep, hwo, hrs, hb⟩ := hrel
    by_cases hlt : k < ws.length
    · obtain ⟨g, off, x, rfl, hgl, hc, hx⟩ := (show Sr wr A ws from Rw.own hwo).at hlt
      have hxl : x.length ≤ 1048576 := by have := HML.out x (List.mem_of_getElem? hx.out); simp at this; omega
      have HF := Lib.hid (fun h => HW0.out k x hx.out h)
      have HNXf := Lib.hid (fun r (h : wordR x = some r) => (by rw [snoc_of hx.out, List.map_append, hrs.out, List.map_append]; simp [h] : (ws.take (k + 1)).map wordR = (rs ++ [r]).map some))
      have H64 := Lib.hid (fun w => split64_s x hxl w)
      have HM64 := Lib.hid (fun y (hy : y ∈ spx 64 [] x) => spx_mem x [] y hy)
      clear hrs hx
      go_wp2_with fail
      refine (H64.out _).mono ?_
      rintro e w2 ⟨A2, c2, rfl, hP, b2⟩
      have t2 := belowGo hb b2
      clear H64 hc
      by_cases h2 : (spx 64 [] x).length = 2
      · obtain ⟨xa, xb, e1⟩ : ∃ a b, spx 64 [] x = [a, b] := by
          match hh : spx 64 [] x, h2 with
          | [a, b], _ => exact ⟨a, b, rfl⟩
        have hal : xa.length ≤ 1048576 := by have := HM64.out xa (by rw [e1]; simp); simp at this; omega
        have hbl : xb.length ≤ 1048576 := by have := HM64.out xb (by rw [e1]; simp); simp at this; omega
        have HN2 := Lib.hid (fun h => HF.out (wordR_n2 e1 h))
        have HN3 := Lib.hid (fun c d h h3 => HF.out (wordR_n3 (c := c) (d := d) e1 h h3))
        have HSM := Lib.hid (fun c d h h3 h4 => wordR_some (c := c) (d := d) e1 h h3 h4)
        rw [e1] at hP ⊢
        obtain ⟨pg, rfl, hpl2, hpc⟩ := own_cellsX hP (by simp)
        have p0 : w2.cell? ⟨pg, 0, none⟩ = some (.string ⟨xa.toArray⟩) := hpc 0 _ rfl
        have p1 : w2.cell? ⟨pg, 1, none⟩ = some (.string ⟨xb.toArray⟩) := hpc 1 _ rfl
        have H126 := Lib.hid (fun w => split126_s xb hbl w)
        have HM126 := Lib.hid (fun y (hy : y ∈ spx 126 [] xb) => spx_mem xb [] y hy)
        have hl2 : ((([xa, xb] : List (List UInt8)).length : Int) != 2) = false := by simp
        clear HM64 hP hpc h2 HF e1
        go_wp2_with fail
        refine (H126.out _).mono ?_
        rintro e w3 ⟨A3, c3, rfl, hP3, b3⟩
        have t3 := belowGo t2 b3
        have hpl3 : pg < w3.heap.size := Nat.lt_of_lt_of_le hpl2 b3.size
        have p03 := (b3.cell (p := ⟨pg, 0, none⟩) hpl2).trans p0
        have b23 := belowGo b2 b3
        clear H126 p0 p1
        by_cases h2 : (spx 126 [] xb).length = 2
        · obtain ⟨xc, xd, e1⟩ : ∃ a b, spx 126 [] xb = [a, b] := by
            match hh : spx 126 [] xb, h2 with
            | [a, b], _ => exact ⟨a, b, rfl⟩
          have hcl : xc.length ≤ 1048576 := by have := HM126.out xc (by rw [e1]; simp); simp at this; omega
          have hdl : xd.length ≤ 1048576 := by have := HM126.out xd (by rw [e1]; simp); simp at this; omega
          have HN4 := Lib.hid (fun h3 => HN3.out xc xd e1 h3)
          have HSN := Lib.hid (fun h3 h4 => HSM.out xc xd e1 h3 h4)
          have HR1 := Lib.hid (fun w => rdate_s xc hcl w)
          have HR2 := Lib.hid (fun w => rdate_s xd hdl w)
          have HX1 := Lib.hid (fun h => rd_ex (s := xc) h)
          have HX2 := Lib.hid (fun h => rd_ex (s := xd) h)
          rw [e1] at hP3 ⊢
          obtain ⟨pg3, rfl, hpl4, hpc⟩ := own_cellsX hP3 (by simp)
          have p1 : w3.cell? ⟨pg3, 0, none⟩ = some (.string ⟨xc.toArray⟩) := hpc 0 _ rfl
          have p2 : w3.cell? ⟨pg3, 1, none⟩ = some (.string ⟨xd.toArray⟩) := hpc 1 _ rfl
          have hl3 : ((([xc, xd] : List (List UInt8)).length : Int) != 2) = false := by simp
          clear HM126 hP3 hpc h2 HN2 HN3 HSM e1
          generalize rdR xc = R1 at *
          generalize rdR xd = R2 at *
          generalize rday xc = n1 at *
          generalize rday xd = n2 at *
          obtain ⟨ya, yb, yc, ye⟩ := R1
          obtain ⟨za, zb, zc, ze⟩ := R2
          simp only at HN4 HSN HX1 HX2
          go_wp2_with fail
          refine (HR1.out _).mono ?_
          rintro e w4 ⟨rfl, b4⟩
          have p24 := (b4.cell (p := ⟨pg3, 1, none⟩) hpl4).trans p2
          have p04 := (b4.cell (p := ⟨pg, 0, none⟩) hpl3).trans p03
          have d4 := heap_alloc_new w4 (.cells #[.int .i64 ya, .int .i64 yb, .int .i64 yc] 50)
          have a4 := below_alloc w4 (.cells #[.int .i64 ya, .int .i64 yb, .int .i64 yc] 50)
          have t4 := belowGo (belowGo t3 b4) a4
          have b24 := belowGo (belowGo b23 b4) a4
          have p25 := (a4.cell (p := ⟨pg3, 1, none⟩) (Nat.lt_of_lt_of_le hpl4 b4.size)).trans p24
          have hp45 : pg < w4.heap.size := Nat.lt_of_lt_of_le hpl3 b4.size
          have p05 := (a4.cell (p := ⟨pg, 0, none⟩) hp45).trans p04
          clear HR1 p1 p2 p24 p03 p04
          go_wp2_with fail
          refine (HR2.out _).mono ?_
          rintro e w5 ⟨rfl, b5⟩
          have d5 := (keep6 b5 d4).1
          have d6 := heap_alloc_new w5 (.cells #[.int .i64 za, .int .i64 zb, .int .i64 zc] 50)
          have a6 := below_alloc w5 (.cells #[.int .i64 za, .int .i64 zb, .int .i64 zc] 50)
          have t6 := belowGo (belowGo t4 b5) a6
          have b26 := belowGo (belowGo b24 b5) a6
          have d56 := (keep6 a6 d5).1
          have p06 := (belowGo b5 a6).cell (p := ⟨pg, 0, none⟩) (Nat.lt_of_lt_of_le hp45 a4.size) |>.trans p05
          have hp06 : pg < (w5.alloc (.cells #[.int .i64 za, .int .i64 zb, .int .i64 zc] 50)).heap.size := Nat.lt_of_lt_of_le (Nat.lt_of_lt_of_le (Nat.lt_of_lt_of_le hp45 a4.size) b5.size) a6.size
          have HBX := Lib.hid t6
          clear HR2 p25 p05 d4 d5 a4 a6 t4 b24 b5 b4
          by_cases hy : ye = 0
          · by_cases hz : ze = 0
            · subst hy hz
              obtain ⟨Y1, M1, E1, g1, _, e1⟩ := HX1.out rfl
              obtain ⟨Y2, M2, E2, g2, _, e2⟩ := HX2.out rfl
              injection e1 with e1 e1b; injection e1b with e1b e1c; injection e1c with e1c _
              injection e2 with e2 e2b; injection e2b with e2b e2c; injection e2c with e2c _
              subst e1 e1b e1c e2 e2b e2c
              have HNX := Lib.hid (HNXf.out _ (HSN.out rfl rfl))
              have HF1 := Lib.hid (fun w => g1.2 ▸ day_s Y1 M1 E1 g1.1 w)
              have HF2 := Lib.hid (fun w => g2.2 ▸ day_s Y2 M2 E2 g2.1 w)
              clear HNXf HSN HN4 HX1 HX2 g1 g2
              go_wp2_with fail
              obtain ⟨wq, hwq⟩ : ∃ q, q = w5.alloc (.cells #[.int .i64 (Y2 : Int), .int .i64 (M2 : Int), .int .i64 (E2 : Int)] 50) := ⟨_, rfl⟩
              rw [← hwq] at d6 d56 p06 hp06 t6 b26 HBX ⊢
              clear hwq
              have hd1 := d56
              have hd2 := d6
              have hp0 := p06
              have hpl := hp06
              have hbq := t6
              have hlo := t6.size
              replace hown := own_below hown b26
              replace hwo := own_below hwo b26
              clear d56 d6 p06 hp06 t6 b26 hb t2 t3 b2 b3 b23
              refine region_inv (by kernel_rfl) (by kernel_rfl) (fun d a W => ∃ us, a = frVs us ∧ InvVs w.heap.size pg (w4.heap.size) (w5.heap.size) k s (.slice (some ⟨g, off, none⟩) ws.length c) (.slice (some ⟨pg, 0, none⟩) 2 c2) (.slice O rs.length q) ws rs xa n1 n2 Y1 M1 E1 Y2 M2 E2 (w.heap.size) wq d us W) ?_ ?_ ?_
              · refine ⟨_, frVs_of, ?_⟩
                have Z : ∀ k, (Array.replicate 12 false).getD k false = false := fun k => by
                  rcases Nat.lt_or_ge k 12 with h | h
                  · simp [h]
                  · simp [Array.getElem?_eq_none, h]
                have Zn : ∀ {k : Nat} {p : Prop}, (Array.replicate 12 false).getD k false = true → p := fun {k p} h => by rw [Z k] at h; cases h
                exact { u0 := rfl, u1 := rfl, u5 := rfl, u13 := rfl, u14 := rfl, u15 := rfl, u68 := rfl, u69 := rfl, u70 := rfl, u71 := rfl, u6 := rfl, u7 := rfl, u9 := rfl, u11 := rfl, u4 := fun _ => rfl, bel := fun _ => (Below.refl _ _).drew, belo := ((Below.refl wq.heap.size wq).drew).mono hlo, allR := Zn, allL := Zn, o0 := Zn, o1 := Zn, o2 := Zn, o3 := Zn, o4 := Zn, o5 := Zn, o6 := Zn, o7 := Zn, o8 := Zn, o9 := Zn, o10 := Zn, o11 := Zn, p2 := Zn, p3 := Zn, p5 := Zn, p7 := Zn, p8 := Zn, p9 := Zn }
              · intro i d a W hi hI
                obtain ⟨hun, oi, hoi, hall⟩ := mem_ready.1 hi
                have hlt : i < 12 := (Array.getElem?_eq_some_iff.1 hoi).1
                obtain ⟨us, rfl, I⟩ := hI
                have e0 := I.u0
                have e1 := I.u1
                have e5 := I.u5
                have e13 := I.u13
                have e14 := I.u14
                have e15 := I.u15
                have e68 := I.u68
                have e69 := I.u69
                have e70 := I.u70
                have e71 := I.u71
                have e6 := I.u6
                have e7 := I.u7
                have e9 := I.u9
                have e11 := I.u11
                rcases (by omega : i = 0 ∨ i = 1 ∨ i = 2 ∨ i = 3 ∨ i = 4 ∨ i = 5 ∨ i = 6 ∨ i = 7 ∨ i = 8 ∨ i = 9 ∨ i = 10 ∨ i = 11) with rfl | rfl | rfl | rfl | rfl | rfl | rfl | rfl | rfl | rfl | rfl | rfl
                all_goals
                  obtain rfl := Option.some.inj hoi
                  clear hoi hlt hi
                · skip
                  have D0 : (d.setIfInBounds 0 true).getD 0 false = true := getD_setG hun
                  have D1 : (d.setIfInBounds 0 true).getD 1 false = d.getD 1 false := getD_set_ne false (by decide)
                  have D2 : (d.setIfInBounds 0 true).getD 2 false = d.getD 2 false := getD_set_ne false (by decide)
                  have D3 : (d.setIfInBounds 0 true).getD 3 false = d.getD 3 false := getD_set_ne false (by decide)
                  have D4 : (d.setIfInBounds 0 true).getD 4 false = d.getD 4 false := getD_set_ne false (by decide)
                  have D5 : (d.setIfInBounds 0 true).getD 5 false = d.getD 5 false := getD_set_ne false (by decide)
                  have D6 : (d.setIfInBounds 0 true).getD 6 false = d.getD 6 false := getD_set_ne false (by decide)
                  have D7 : (d.setIfInBounds 0 true).getD 7 false = d.getD 7 false := getD_set_ne false (by decide)
                  have D8 : (d.setIfInBounds 0 true).getD 8 false = d.getD 8 false := getD_set_ne false (by decide)
                  have D9 : (d.setIfInBounds 0 true).getD 9 false = d.getD 9 false := getD_set_ne false (by decide)
                  have D10 : (d.setIfInBounds 0 true).getD 10 false = d.getD 10 false := getD_set_ne false (by decide)
                  have D11 : (d.setIfInBounds 0 true).getD 11 false = d.getD 11 false := getD_set_ne false (by decide)
                  have F0 := getD_tfG hun
                  have F11 : d.getD 11 false = false := by
                    cases hh : d.getD 11 false with
                    | false => rfl
                    | true => have := I.allL hh 0 (by decide); rw [F0] at this; cases this
                  have e4 := I.u4 F11
                  have F10 : d.getD 10 false = false := by
                    cases hh : d.getD 10 false with
                    | false => rfl
                    | true => have := I.allR hh 0 (by decide); rw [F0] at this; cases this
                  have hbel := I.bel F10
                  have hsz : wq.heap.size ≤ W.heap.size := hbel.size
                  have k1 := (keep6 hbel hd1)
                  have k2 := (keep6 hbel hd2)
                  have y0 := k1.2.1
                  have y1 := k1.2.2.1
                  have y2 := k1.2.2.2.1
                  have z0 := k2.2.1
                  have z1 := k2.2.2.1
                  have z2 := k2.2.2.2.1
                  have p0 := (hbel.cell (p := ⟨pg, 0, none⟩) hpl).trans hp0
                  have U0 : updG us 57 ((.slice O rs.length q)) 0 = us 0 := upd_otherG (by decide)
                  have U1 : updG us 57 ((.slice O rs.length q)) 1 = us 1 := upd_otherG (by decide)
                  have U4 : updG us 57 ((.slice O rs.length q)) 4 = us 4 := upd_otherG (by decide)
                  have U5 : updG us 57 ((.slice O rs.length q)) 5 = us 5 := upd_otherG (by decide)
                  have U6 : updG us 57 ((.slice O rs.length q)) 6 = us 6 := upd_otherG (by decide)
                  have U7 : updG us 57 ((.slice O rs.length q)) 7 = us 7 := upd_otherG (by decide)
                  have U9 : updG us 57 ((.slice O rs.length q)) 9 = us 9 := upd_otherG (by decide)
                  have U11 : updG us 57 ((.slice O rs.length q)) 11 = us 11 := upd_otherG (by decide)
                  have U13 : updG us 57 ((.slice O rs.length q)) 13 = us 13 := upd_otherG (by decide)
                  have U14 : updG us 57 ((.slice O rs.length q)) 14 = us 14 := upd_otherG (by decide)
                  have U15 : updG us 57 ((.slice O rs.length q)) 15 = us 15 := upd_otherG (by decide)
                  have U57 : updG us 57 ((.slice O rs.length q)) 57 = ((.slice O rs.length q)) := upd_sameG _ _ _
                  have U58 : updG us 57 ((.slice O rs.length q)) 58 = us 58 := upd_otherG (by decide)
                  have U59 : updG us 57 ((.slice O rs.length q)) 59 = us 59 := upd_otherG (by decide)
                  have U60 : updG us 57 ((.slice O rs.length q)) 60 = us 60 := upd_otherG (by decide)
                  have U61 : updG us 57 ((.slice O rs.length q)) 61 = us 61 := upd_otherG (by decide)
                  have U62 : updG us 57 ((.slice O rs.length q)) 62 = us 62 := upd_otherG (by decide)
                  have U63 : updG us 57 ((.slice O rs.length q)) 63 = us 63 := upd_otherG (by decide)
                  have U64 : updG us 57 ((.slice O rs.length q)) 64 = us 64 := upd_otherG (by decide)
                  have U65 : updG us 57 ((.slice O rs.length q)) 65 = us 65 := upd_otherG (by decide)
                  have U66 : updG us 57 ((.slice O rs.length q)) 66 = us 66 := upd_otherG (by decide)
                  have U67 : updG us 57 ((.slice O rs.length q)) 67 = us 67 := upd_otherG (by decide)
                  have U68 : updG us 57 ((.slice O rs.length q)) 68 = us 68 := upd_otherG (by decide)
                  have U69 : updG us 57 ((.slice O rs.length q)) 69 = us 69 := upd_otherG (by decide)
                  have U70 : updG us 57 ((.slice O rs.length q)) 70 = us 70 := upd_otherG (by decide)
                  have U71 : updG us 57 ((.slice O rs.length q)) 71 = us 71 := upd_otherG (by decide)
                  refine wpOp_step rfl (fun K hK => ?_)
                  simp only [frVs, e0, e1, e5, e13, e14, e15, e68, e69, e70, e71, e6, e7, e9, e11, e4]
                  go_simp
                  refine hK _ _ ⟨updG us 57 ((.slice O rs.length q)), by simp [frVs, updG, e0, e1, e5, e13, e14, e15, e68, e69, e70, e71, e6, e7, e9, e11, e4], { u0 := (U0.trans I.u0), u1 := (U1.trans I.u1), u5 := (U5.trans I.u5), u13 := (U13.trans I.u13), u14 := (U14.trans I.u14), u15 := (U15.trans I.u15), u68 := (U68.trans I.u68), u69 := (U69.trans I.u69), u70 := (U70.trans I.u70), u71 := (U71.trans I.u71), u6 := (U6.trans I.u6), u7 := (U7.trans I.u7), u9 := (U9.trans I.u9), u11 := (U11.trans I.u11), u4 := (fun h => U4.trans (I.u4 (D11.symm.trans h))), bel := (fun _ => hbel), belo := (I.belo), allR := (fun h => absurd (D10.symm.trans h) (by rw [F10]; exact Bool.false_ne_true)), allL := (fun h => absurd (D11.symm.trans h) (by rw [F11]; exact Bool.false_ne_true)), o0 := (fun _ => U57), o1 := (fun h => U58.trans (I.o1 (D1.symm.trans h))), p2 := (fun h => by have hh := I.p2 (D2.symm.trans h); exact D1.trans hh), o2 := (fun h => U59.trans (I.o2 (D2.symm.trans h))), p3 := (fun h => by have hh := I.p3 (D3.symm.trans h); exact D2.trans hh), o3 := (fun h => U60.trans (I.o3 (D3.symm.trans h))), o4 := (fun h => U61.trans (I.o4 (D4.symm.trans h))), p5 := (fun h => by have hh := I.p5 (D5.symm.trans h); exact D4.trans hh), o5 := (fun h => U62.trans (I.o5 (D5.symm.trans h))), o6 := (fun h => U63.trans (I.o6 (D6.symm.trans h))), p7 := (fun h => by have hh := I.p7 (D7.symm.trans h); exact D6.trans hh), o7 := (fun h => U64.trans (I.o7 (D7.symm.trans h))), p8 := (fun h => by have hh := I.p8 (D8.symm.trans h); exact ⟨D3.trans hh.1, D5.trans hh.2.1, D7.trans hh.2.2⟩), o8 := (fun h => U65.trans (I.o8 (D8.symm.trans h))), p9 := (fun h => by have hh := I.p9 (D9.symm.trans h); exact D8.trans hh), o9 := (fun h h2 => by rw [U66]; exact I.o9 (D9.symm.trans h) (D10.symm.trans h2)), o10 := (fun h => absurd (D10.symm.trans h) (by rw [F10]; exact Bool.false_ne_true)), o11 := (fun h => absurd (D11.symm.trans h) (by rw [F11]; exact Bool.false_ne_true)) }⟩
                · skip
                  have D0 : (d.setIfInBounds 1 true).getD 0 false = d.getD 0 false := getD_set_ne false (by decide)
                  have D1 : (d.setIfInBounds 1 true).getD 1 false = true := getD_setG hun
                  have D2 : (d.setIfInBounds 1 true).getD 2 false = d.getD 2 false := getD_set_ne false (by decide)
                  have D3 : (d.setIfInBounds 1 true).getD 3 false = d.getD 3 false := getD_set_ne false (by decide)
                  have D4 : (d.setIfInBounds 1 true).getD 4 false = d.getD 4 false := getD_set_ne false (by decide)
                  have D5 : (d.setIfInBounds 1 true).getD 5 false = d.getD 5 false := getD_set_ne false (by decide)
                  have D6 : (d.setIfInBounds 1 true).getD 6 false = d.getD 6 false := getD_set_ne false (by decide)
                  have D7 : (d.setIfInBounds 1 true).getD 7 false = d.getD 7 false := getD_set_ne false (by decide)
                  have D8 : (d.setIfInBounds 1 true).getD 8 false = d.getD 8 false := getD_set_ne false (by decide)
                  have D9 : (d.setIfInBounds 1 true).getD 9 false = d.getD 9 false := getD_set_ne false (by decide)
                  have D10 : (d.setIfInBounds 1 true).getD 10 false = d.getD 10 false := getD_set_ne false (by decide)
                  have D11 : (d.setIfInBounds 1 true).getD 11 false = d.getD 11 false := getD_set_ne false (by decide)
                  have F1 := getD_tfG hun
                  have F11 : d.getD 11 false = false := by
                    cases hh : d.getD 11 false with
                    | false => rfl
                    | true => have := I.allL hh 1 (by decide); rw [F1] at this; cases this
                  have e4 := I.u4 F11
                  have F10 : d.getD 10 false = false := by
                    cases hh : d.getD 10 false with
                    | false => rfl
                    | true => have := I.allR hh 1 (by decide); rw [F1] at this; cases this
                  have hbel := I.bel F10
                  have hsz : wq.heap.size ≤ W.heap.size := hbel.size
                  have k1 := (keep6 hbel hd1)
                  have k2 := (keep6 hbel hd2)
                  have y0 := k1.2.1
                  have y1 := k1.2.2.1
                  have y2 := k1.2.2.2.1
                  have z0 := k2.2.1
                  have z1 := k2.2.2.1
                  have z2 := k2.2.2.2.1
                  have p0 := (hbel.cell (p := ⟨pg, 0, none⟩) hpl).trans hp0
                  have U0 : updG us 58 ((.slice (some ⟨pg, 0, none⟩) 2 c2)) 0 = us 0 := upd_otherG (by decide)
                  have U1 : updG us 58 ((.slice (some ⟨pg, 0, none⟩) 2 c2)) 1 = us 1 := upd_otherG (by decide)
                  have U4 : updG us 58 ((.slice (some ⟨pg, 0, none⟩) 2 c2)) 4 = us 4 := upd_otherG (by decide)
                  have U5 : updG us 58 ((.slice (some ⟨pg, 0, none⟩) 2 c2)) 5 = us 5 := upd_otherG (by decide)
                  have U6 : updG us 58 ((.slice (some ⟨pg, 0, none⟩) 2 c2)) 6 = us 6 := upd_otherG (by decide)
                  have U7 : updG us 58 ((.slice (some ⟨pg, 0, none⟩) 2 c2)) 7 = us 7 := upd_otherG (by decide)
                  have U9 : updG us 58 ((.slice (some ⟨pg, 0, none⟩) 2 c2)) 9 = us 9 := upd_otherG (by decide)
                  have U11 : updG us 58 ((.slice (some ⟨pg, 0, none⟩) 2 c2)) 11 = us 11 := upd_otherG (by decide)
                  have U13 : updG us 58 ((.slice (some ⟨pg, 0, none⟩) 2 c2)) 13 = us 13 := upd_otherG (by decide)
                  have U14 : updG us 58 ((.slice (some ⟨pg, 0, none⟩) 2 c2)) 14 = us 14 := upd_otherG (by decide)
                  have U15 : updG us 58 ((.slice (some ⟨pg, 0, none⟩) 2 c2)) 15 = us 15 := upd_otherG (by decide)
                  have U57 : updG us 58 ((.slice (some ⟨pg, 0, none⟩) 2 c2)) 57 = us 57 := upd_otherG (by decide)
                  have U58 : updG us 58 ((.slice (some ⟨pg, 0, none⟩) 2 c2)) 58 = ((.slice (some ⟨pg, 0, none⟩) 2 c2)) := upd_sameG _ _ _
                  have U59 : updG us 58 ((.slice (some ⟨pg, 0, none⟩) 2 c2)) 59 = us 59 := upd_otherG (by decide)
                  have U60 : updG us 58 ((.slice (some ⟨pg, 0, none⟩) 2 c2)) 60 = us 60 := upd_otherG (by decide)
                  have U61 : updG us 58 ((.slice (some ⟨pg, 0, none⟩) 2 c2)) 61 = us 61 := upd_otherG (by decide)
                  have U62 : updG us 58 ((.slice (some ⟨pg, 0, none⟩) 2 c2)) 62 = us 62 := upd_otherG (by decide)
                  have U63 : updG us 58 ((.slice (some ⟨pg, 0, none⟩) 2 c2)) 63 = us 63 := upd_otherG (by decide)
                  have U64 : updG us 58 ((.slice (some ⟨pg, 0, none⟩) 2 c2)) 64 = us 64 := upd_otherG (by decide)
                  have U65 : updG us 58 ((.slice (some ⟨pg, 0, none⟩) 2 c2)) 65 = us 65 := upd_otherG (by decide)
                  have U66 : updG us 58 ((.slice (some ⟨pg, 0, none⟩) 2 c2)) 66 = us 66 := upd_otherG (by decide)
                  have U67 : updG us 58 ((.slice (some ⟨pg, 0, none⟩) 2 c2)) 67 = us 67 := upd_otherG (by decide)
                  have U68 : updG us 58 ((.slice (some ⟨pg, 0, none⟩) 2 c2)) 68 = us 68 := upd_otherG (by decide)
                  have U69 : updG us 58 ((.slice (some ⟨pg, 0, none⟩) 2 c2)) 69 = us 69 := upd_otherG (by decide)
                  have U70 : updG us 58 ((.slice (some ⟨pg, 0, none⟩) 2 c2)) 70 = us 70 := upd_otherG (by decide)
                  have U71 : updG us 58 ((.slice (some ⟨pg, 0, none⟩) 2 c2)) 71 = us 71 := upd_otherG (by decide)
                  refine wpOp_step rfl (fun K hK => ?_)
                  simp only [frVs, e0, e1, e5, e13, e14, e15, e68, e69, e70, e71, e6, e7, e9, e11, e4]
                  go_simp
                  refine hK _ _ ⟨updG us 58 ((.slice (some ⟨pg, 0, none⟩) 2 c2)), by simp [frVs, updG, e0, e1, e5, e13, e14, e15, e68, e69, e70, e71, e6, e7, e9, e11, e4], { u0 := (U0.trans I.u0), u1 := (U1.trans I.u1), u5 := (U5.trans I.u5), u13 := (U13.trans I.u13), u14 := (U14.trans I.u14), u15 := (U15.trans I.u15), u68 := (U68.trans I.u68), u69 := (U69.trans I.u69), u70 := (U70.trans I.u70), u71 := (U71.trans I.u71), u6 := (U6.trans I.u6), u7 := (U7.trans I.u7), u9 := (U9.trans I.u9), u11 := (U11.trans I.u11), u4 := (fun h => U4.trans (I.u4 (D11.symm.trans h))), bel := (fun _ => hbel), belo := (I.belo), allR := (fun h => absurd (D10.symm.trans h) (by rw [F10]; exact Bool.false_ne_true)), allL := (fun h => absurd (D11.symm.trans h) (by rw [F11]; exact Bool.false_ne_true)), o0 := (fun h => U57.trans (I.o0 (D0.symm.trans h))), o1 := (fun _ => U58), p2 := (fun h => by have hh := I.p2 (D2.symm.trans h); exact D1), o2 := (fun h => U59.trans (I.o2 (D2.symm.trans h))), p3 := (fun h => by have hh := I.p3 (D3.symm.trans h); exact D2.trans hh), o3 := (fun h => U60.trans (I.o3 (D3.symm.trans h))), o4 := (fun h => U61.trans (I.o4 (D4.symm.trans h))), p5 := (fun h => by have hh := I.p5 (D5.symm.trans h); exact D4.trans hh), o5 := (fun h => U62.trans (I.o5 (D5.symm.trans h))), o6 := (fun h => U63.trans (I.o6 (D6.symm.trans h))), p7 := (fun h => by have hh := I.p7 (D7.symm.trans h); exact D6.trans hh), o7 := (fun h => U64.trans (I.o7 (D7.symm.trans h))), p8 := (fun h => by have hh := I.p8 (D8.symm.trans h); exact ⟨D3.trans hh.1, D5.trans hh.2.1, D7.trans hh.2.2⟩), o8 := (fun h => U65.trans (I.o8 (D8.symm.trans h))), p9 := (fun h => by have hh := I.p9 (D9.symm.trans h); exact D8.trans hh), o9 := (fun h h2 => by rw [U66]; exact I.o9 (D9.symm.trans h) (D10.symm.trans h2)), o10 := (fun h => absurd (D10.symm.trans h) (by rw [F10]; exact Bool.false_ne_true)), o11 := (fun h => absurd (D11.symm.trans h) (by rw [F11]; exact Bool.false_ne_true)) }⟩
                · skip
                  have D0 : (d.setIfInBounds 2 true).getD 0 false = d.getD 0 false := getD_set_ne false (by decide)
                  have D1 : (d.setIfInBounds 2 true).getD 1 false = d.getD 1 false := getD_set_ne false (by decide)
                  have D2 : (d.setIfInBounds 2 true).getD 2 false = true := getD_setG hun
                  have D3 : (d.setIfInBounds 2 true).getD 3 false = d.getD 3 false := getD_set_ne false (by decide)
                  have D4 : (d.setIfInBounds 2 true).getD 4 false = d.getD 4 false := getD_set_ne false (by decide)
                  have D5 : (d.setIfInBounds 2 true).getD 5 false = d.getD 5 false := getD_set_ne false (by decide)
                  have D6 : (d.setIfInBounds 2 true).getD 6 false = d.getD 6 false := getD_set_ne false (by decide)
                  have D7 : (d.setIfInBounds 2 true).getD 7 false = d.getD 7 false := getD_set_ne false (by decide)
                  have D8 : (d.setIfInBounds 2 true).getD 8 false = d.getD 8 false := getD_set_ne false (by decide)
                  have D9 : (d.setIfInBounds 2 true).getD 9 false = d.getD 9 false := getD_set_ne false (by decide)
                  have D10 : (d.setIfInBounds 2 true).getD 10 false = d.getD 10 false := getD_set_ne false (by decide)
                  have D11 : (d.setIfInBounds 2 true).getD 11 false = d.getD 11 false := getD_set_ne false (by decide)
                  have F2 := getD_tfG hun
                  have F11 : d.getD 11 false = false := by
                    cases hh : d.getD 11 false with
                    | false => rfl
                    | true => have := I.allL hh 2 (by decide); rw [F2] at this; cases this
                  have e4 := I.u4 F11
                  have F10 : d.getD 10 false = false := by
                    cases hh : d.getD 10 false with
                    | false => rfl
                    | true => have := I.allR hh 2 (by decide); rw [F2] at this; cases this
                  have hbel := I.bel F10
                  have hsz : wq.heap.size ≤ W.heap.size := hbel.size
                  have k1 := (keep6 hbel hd1)
                  have k2 := (keep6 hbel hd2)
                  have y0 := k1.2.1
                  have y1 := k1.2.2.1
                  have y2 := k1.2.2.2.1
                  have z0 := k2.2.1
                  have z1 := k2.2.2.1
                  have z2 := k2.2.2.2.1
                  have p0 := (hbel.cell (p := ⟨pg, 0, none⟩) hpl).trans hp0
                  have h1 := hall ⟨1, .data⟩ (by simp) rfl
                  have e58 := I.o1 h1
                  have U0 : updG us 59 (.pointer (some ⟨pg, 0, none⟩)) 0 = us 0 := upd_otherG (by decide)
                  have U1 : updG us 59 (.pointer (some ⟨pg, 0, none⟩)) 1 = us 1 := upd_otherG (by decide)
                  have U4 : updG us 59 (.pointer (some ⟨pg, 0, none⟩)) 4 = us 4 := upd_otherG (by decide)
                  have U5 : updG us 59 (.pointer (some ⟨pg, 0, none⟩)) 5 = us 5 := upd_otherG (by decide)
                  have U6 : updG us 59 (.pointer (some ⟨pg, 0, none⟩)) 6 = us 6 := upd_otherG (by decide)
                  have U7 : updG us 59 (.pointer (some ⟨pg, 0, none⟩)) 7 = us 7 := upd_otherG (by decide)
                  have U9 : updG us 59 (.pointer (some ⟨pg, 0, none⟩)) 9 = us 9 := upd_otherG (by decide)
                  have U11 : updG us 59 (.pointer (some ⟨pg, 0, none⟩)) 11 = us 11 := upd_otherG (by decide)
                  have U13 : updG us 59 (.pointer (some ⟨pg, 0, none⟩)) 13 = us 13 := upd_otherG (by decide)
                  have U14 : updG us 59 (.pointer (some ⟨pg, 0, none⟩)) 14 = us 14 := upd_otherG (by decide)
                  have U15 : updG us 59 (.pointer (some ⟨pg, 0, none⟩)) 15 = us 15 := upd_otherG (by decide)
                  have U57 : updG us 59 (.pointer (some ⟨pg, 0, none⟩)) 57 = us 57 := upd_otherG (by decide)
                  have U58 : updG us 59 (.pointer (some ⟨pg, 0, none⟩)) 58 = us 58 := upd_otherG (by decide)
                  have U59 : updG us 59 (.pointer (some ⟨pg, 0, none⟩)) 59 = (.pointer (some ⟨pg, 0, none⟩)) := upd_sameG _ _ _
                  have U60 : updG us 59 (.pointer (some ⟨pg, 0, none⟩)) 60 = us 60 := upd_otherG (by decide)
                  have U61 : updG us 59 (.pointer (some ⟨pg, 0, none⟩)) 61 = us 61 := upd_otherG (by decide)
                  have U62 : updG us 59 (.pointer (some ⟨pg, 0, none⟩)) 62 = us 62 := upd_otherG (by decide)
                  have U63 : updG us 59 (.pointer (some ⟨pg, 0, none⟩)) 63 = us 63 := upd_otherG (by decide)
                  have U64 : updG us 59 (.pointer (some ⟨pg, 0, none⟩)) 64 = us 64 := upd_otherG (by decide)
                  have U65 : updG us 59 (.pointer (some ⟨pg, 0, none⟩)) 65 = us 65 := upd_otherG (by decide)
                  have U66 : updG us 59 (.pointer (some ⟨pg, 0, none⟩)) 66 = us 66 := upd_otherG (by decide)
                  have U67 : updG us 59 (.pointer (some ⟨pg, 0, none⟩)) 67 = us 67 := upd_otherG (by decide)
                  have U68 : updG us 59 (.pointer (some ⟨pg, 0, none⟩)) 68 = us 68 := upd_otherG (by decide)
                  have U69 : updG us 59 (.pointer (some ⟨pg, 0, none⟩)) 69 = us 69 := upd_otherG (by decide)
                  have U70 : updG us 59 (.pointer (some ⟨pg, 0, none⟩)) 70 = us 70 := upd_otherG (by decide)
                  have U71 : updG us 59 (.pointer (some ⟨pg, 0, none⟩)) 71 = us 71 := upd_otherG (by decide)
                  refine wpOp_step rfl (fun K hK => ?_)
                  simp only [frVs, e0, e1, e5, e13, e14, e15, e68, e69, e70, e71, e6, e7, e9, e11, e4, e58]
                  go_simp
                  refine hK _ _ ⟨updG us 59 (.pointer (some ⟨pg, 0, none⟩)), by simp [frVs, updG, e0, e1, e5, e13, e14, e15, e68, e69, e70, e71, e6, e7, e9, e11, e4, e58], { u0 := (U0.trans I.u0), u1 := (U1.trans I.u1), u5 := (U5.trans I.u5), u13 := (U13.trans I.u13), u14 := (U14.trans I.u14), u15 := (U15.trans I.u15), u68 := (U68.trans I.u68), u69 := (U69.trans I.u69), u70 := (U70.trans I.u70), u71 := (U71.trans I.u71), u6 := (U6.trans I.u6), u7 := (U7.trans I.u7), u9 := (U9.trans I.u9), u11 := (U11.trans I.u11), u4 := (fun h => U4.trans (I.u4 (D11.symm.trans h))), bel := (fun _ => hbel), belo := (I.belo), allR := (fun h => absurd (D10.symm.trans h) (by rw [F10]; exact Bool.false_ne_true)), allL := (fun h => absurd (D11.symm.trans h) (by rw [F11]; exact Bool.false_ne_true)), o0 := (fun h => U57.trans (I.o0 (D0.symm.trans h))), o1 := (fun h => U58.trans (I.o1 (D1.symm.trans h))), p2 := (fun _ => D1.trans h1), o2 := (fun _ => U59), p3 := (fun h => by have hh := I.p3 (D3.symm.trans h); exact D2), o3 := (fun h => U60.trans (I.o3 (D3.symm.trans h))), o4 := (fun h => U61.trans (I.o4 (D4.symm.trans h))), p5 := (fun h => by have hh := I.p5 (D5.symm.trans h); exact D4.trans hh), o5 := (fun h => U62.trans (I.o5 (D5.symm.trans h))), o6 := (fun h => U63.trans (I.o6 (D6.symm.trans h))), p7 := (fun h => by have hh := I.p7 (D7.symm.trans h); exact D6.trans hh), o7 := (fun h => U64.trans (I.o7 (D7.symm.trans h))), p8 := (fun h => by have hh := I.p8 (D8.symm.trans h); exact ⟨D3.trans hh.1, D5.trans hh.2.1, D7.trans hh.2.2⟩), o8 := (fun h => U65.trans (I.o8 (D8.symm.trans h))), p9 := (fun h => by have hh := I.p9 (D9.symm.trans h); exact D8.trans hh), o9 := (fun h h2 => by rw [U66]; exact I.o9 (D9.symm.trans h) (D10.symm.trans h2)), o10 := (fun h => absurd (D10.symm.trans h) (by rw [F10]; exact Bool.false_ne_true)), o11 := (fun h => absurd (D11.symm.trans h) (by rw [F11]; exact Bool.false_ne_true)) }⟩
                · skip
                  have D0 : (d.setIfInBounds 3 true).getD 0 false = d.getD 0 false := getD_set_ne false (by decide)
                  have D1 : (d.setIfInBounds 3 true).getD 1 false = d.getD 1 false := getD_set_ne false (by decide)
                  have D2 : (d.setIfInBounds 3 true).getD 2 false = d.getD 2 false := getD_set_ne false (by decide)
                  have D3 : (d.setIfInBounds 3 true).getD 3 false = true := getD_setG hun
                  have D4 : (d.setIfInBounds 3 true).getD 4 false = d.getD 4 false := getD_set_ne false (by decide)
                  have D5 : (d.setIfInBounds 3 true).getD 5 false = d.getD 5 false := getD_set_ne false (by decide)
                  have D6 : (d.setIfInBounds 3 true).getD 6 false = d.getD 6 false := getD_set_ne false (by decide)
                  have D7 : (d.setIfInBounds 3 true).getD 7 false = d.getD 7 false := getD_set_ne false (by decide)
                  have D8 : (d.setIfInBounds 3 true).getD 8 false = d.getD 8 false := getD_set_ne false (by decide)
                  have D9 : (d.setIfInBounds 3 true).getD 9 false = d.getD 9 false := getD_set_ne false (by decide)
                  have D10 : (d.setIfInBounds 3 true).getD 10 false = d.getD 10 false := getD_set_ne false (by decide)
                  have D11 : (d.setIfInBounds 3 true).getD 11 false = d.getD 11 false := getD_set_ne false (by decide)
                  have F3 := getD_tfG hun
                  have F11 : d.getD 11 false = false := by
                    cases hh : d.getD 11 false with
                    | false => rfl
                    | true => have := I.allL hh 3 (by decide); rw [F3] at this; cases this
                  have e4 := I.u4 F11
                  have F10 : d.getD 10 false = false := by
                    cases hh : d.getD 10 false with
                    | false => rfl
                    | true => have := I.allR hh 3 (by decide); rw [F3] at this; cases this
                  have hbel := I.bel F10
                  have hsz : wq.heap.size ≤ W.heap.size := hbel.size
                  have k1 := (keep6 hbel hd1)
                  have k2 := (keep6 hbel hd2)
                  have y0 := k1.2.1
                  have y1 := k1.2.2.1
                  have y2 := k1.2.2.2.1
                  have z0 := k2.2.1
                  have z1 := k2.2.2.1
                  have z2 := k2.2.2.2.1
                  have p0 := (hbel.cell (p := ⟨pg, 0, none⟩) hpl).trans hp0
                  have h2 := hall ⟨2, .data⟩ (by simp) rfl
                  have e59 := I.o2 h2
                  have U0 : updG us 60 (.string ⟨xa.toArray⟩) 0 = us 0 := upd_otherG (by decide)
                  have U1 : updG us 60 (.string ⟨xa.toArray⟩) 1 = us 1 := upd_otherG (by decide)
                  have U4 : updG us 60 (.string ⟨xa.toArray⟩) 4 = us 4 := upd_otherG (by decide)
                  have U5 : updG us 60 (.string ⟨xa.toArray⟩) 5 = us 5 := upd_otherG (by decide)
                  have U6 : updG us 60 (.string ⟨xa.toArray⟩) 6 = us 6 := upd_otherG (by decide)
                  have U7 : updG us 60 (.string ⟨xa.toArray⟩) 7 = us 7 := upd_otherG (by decide)
                  have U9 : updG us 60 (.string ⟨xa.toArray⟩) 9 = us 9 := upd_otherG (by decide)
                  have U11 : updG us 60 (.string ⟨xa.toArray⟩) 11 = us 11 := upd_otherG (by decide)
                  have U13 : updG us 60 (.string ⟨xa.toArray⟩) 13 = us 13 := upd_otherG (by decide)
                  have U14 : updG us 60 (.string ⟨xa.toArray⟩) 14 = us 14 := upd_otherG (by decide)
                  have U15 : updG us 60 (.string ⟨xa.toArray⟩) 15 = us 15 := upd_otherG (by decide)
                  have U57 : updG us 60 (.string ⟨xa.toArray⟩) 57 = us 57 := upd_otherG (by decide)
                  have U58 : updG us 60 (.string ⟨xa.toArray⟩) 58 = us 58 := upd_otherG (by decide)
                  have U59 : updG us 60 (.string ⟨xa.toArray⟩) 59 = us 59 := upd_otherG (by decide)
                  have U60 : updG us 60 (.string ⟨xa.toArray⟩) 60 = (.string ⟨xa.toArray⟩) := upd_sameG _ _ _
                  have U61 : updG us 60 (.string ⟨xa.toArray⟩) 61 = us 61 := upd_otherG (by decide)
                  have U62 : updG us 60 (.string ⟨xa.toArray⟩) 62 = us 62 := upd_otherG (by decide)
                  have U63 : updG us 60 (.string ⟨xa.toArray⟩) 63 = us 63 := upd_otherG (by decide)
                  have U64 : updG us 60 (.string ⟨xa.toArray⟩) 64 = us 64 := upd_otherG (by decide)
                  have U65 : updG us 60 (.string ⟨xa.toArray⟩) 65 = us 65 := upd_otherG (by decide)
                  have U66 : updG us 60 (.string ⟨xa.toArray⟩) 66 = us 66 := upd_otherG (by decide)
                  have U67 : updG us 60 (.string ⟨xa.toArray⟩) 67 = us 67 := upd_otherG (by decide)
                  have U68 : updG us 60 (.string ⟨xa.toArray⟩) 68 = us 68 := upd_otherG (by decide)
                  have U69 : updG us 60 (.string ⟨xa.toArray⟩) 69 = us 69 := upd_otherG (by decide)
                  have U70 : updG us 60 (.string ⟨xa.toArray⟩) 70 = us 70 := upd_otherG (by decide)
                  have U71 : updG us 60 (.string ⟨xa.toArray⟩) 71 = us 71 := upd_otherG (by decide)
                  refine wpOp_step rfl (fun K hK => ?_)
                  simp only [frVs, e0, e1, e5, e13, e14, e15, e68, e69, e70, e71, e6, e7, e9, e11, e4, e59]
                  go_simp
                  refine hK _ _ ⟨updG us 60 (.string ⟨xa.toArray⟩), by simp [frVs, updG, e0, e1, e5, e13, e14, e15, e68, e69, e70, e71, e6, e7, e9, e11, e4, e59], { u0 := (U0.trans I.u0), u1 := (U1.trans I.u1), u5 := (U5.trans I.u5), u13 := (U13.trans I.u13), u14 := (U14.trans I.u14), u15 := (U15.trans I.u15), u68 := (U68.trans I.u68), u69 := (U69.trans I.u69), u70 := (U70.trans I.u70), u71 := (U71.trans I.u71), u6 := (U6.trans I.u6), u7 := (U7.trans I.u7), u9 := (U9.trans I.u9), u11 := (U11.trans I.u11), u4 := (fun h => U4.trans (I.u4 (D11.symm.trans h))), bel := (fun _ => hbel), belo := (I.belo), allR := (fun h => absurd (D10.symm.trans h) (by rw [F10]; exact Bool.false_ne_true)), allL := (fun h => absurd (D11.symm.trans h) (by rw [F11]; exact Bool.false_ne_true)), o0 := (fun h => U57.trans (I.o0 (D0.symm.trans h))), o1 := (fun h => U58.trans (I.o1 (D1.symm.trans h))), p2 := (fun h => by have hh := I.p2 (D2.symm.trans h); exact D1.trans hh), o2 := (fun h => U59.trans (I.o2 (D2.symm.trans h))), p3 := (fun _ => D2.trans h2), o3 := (fun _ => U60), o4 := (fun h => U61.trans (I.o4 (D4.symm.trans h))), p5 := (fun h => by have hh := I.p5 (D5.symm.trans h); exact D4.trans hh), o5 := (fun h => U62.trans (I.o5 (D5.symm.trans h))), o6 := (fun h => U63.trans (I.o6 (D6.symm.trans h))), p7 := (fun h => by have hh := I.p7 (D7.symm.trans h); exact D6.trans hh), o7 := (fun h => U64.trans (I.o7 (D7.symm.trans h))), p8 := (fun h => by have hh := I.p8 (D8.symm.trans h); exact ⟨D3, D5.trans hh.2.1, D7.trans hh.2.2⟩), o8 := (fun h => U65.trans (I.o8 (D8.symm.trans h))), p9 := (fun h => by have hh := I.p9 (D9.symm.trans h); exact D8.trans hh), o9 := (fun h h2 => by rw [U66]; exact I.o9 (D9.symm.trans h) (D10.symm.trans h2)), o10 := (fun h => absurd (D10.symm.trans h) (by rw [F10]; exact Bool.false_ne_true)), o11 := (fun h => absurd (D11.symm.trans h) (by rw [F11]; exact Bool.false_ne_true)) }⟩
                · skip
                  have D0 : (d.setIfInBounds 4 true).getD 0 false = d.getD 0 false := getD_set_ne false (by decide)
                  have D1 : (d.setIfInBounds 4 true).getD 1 false = d.getD 1 false := getD_set_ne false (by decide)
                  have D2 : (d.setIfInBounds 4 true).getD 2 false = d.getD 2 false := getD_set_ne false (by decide)
                  have D3 : (d.setIfInBounds 4 true).getD 3 false = d.getD 3 false := getD_set_ne false (by decide)
                  have D4 : (d.setIfInBounds 4 true).getD 4 false = true := getD_setG hun
                  have D5 : (d.setIfInBounds 4 true).getD 5 false = d.getD 5 false := getD_set_ne false (by decide)
                  have D6 : (d.setIfInBounds 4 true).getD 6 false = d.getD 6 false := getD_set_ne false (by decide)
                  have D7 : (d.setIfInBounds 4 true).getD 7 false = d.getD 7 false := getD_set_ne false (by decide)
                  have D8 : (d.setIfInBounds 4 true).getD 8 false = d.getD 8 false := getD_set_ne false (by decide)
                  have D9 : (d.setIfInBounds 4 true).getD 9 false = d.getD 9 false := getD_set_ne false (by decide)
                  have D10 : (d.setIfInBounds 4 true).getD 10 false = d.getD 10 false := getD_set_ne false (by decide)
                  have D11 : (d.setIfInBounds 4 true).getD 11 false = d.getD 11 false := getD_set_ne false (by decide)
                  have F4 := getD_tfG hun
                  have F11 : d.getD 11 false = false := by
                    cases hh : d.getD 11 false with
                    | false => rfl
                    | true => have := I.allL hh 4 (by decide); rw [F4] at this; cases this
                  have e4 := I.u4 F11
                  have F10 : d.getD 10 false = false := by
                    cases hh : d.getD 10 false with
                    | false => rfl
                    | true => have := I.allR hh 4 (by decide); rw [F4] at this; cases this
                  have hbel := I.bel F10
                  have hsz : wq.heap.size ≤ W.heap.size := hbel.size
                  have k1 := (keep6 hbel hd1)
                  have k2 := (keep6 hbel hd2)
                  have y0 := k1.2.1
                  have y1 := k1.2.2.1
                  have y2 := k1.2.2.2.1
                  have z0 := k2.2.1
                  have z1 := k2.2.2.1
                  have z2 := k2.2.2.2.1
                  have p0 := (hbel.cell (p := ⟨pg, 0, none⟩) hpl).trans hp0
                  have U0 : updG us 61 (.agg #[.int .i64 (Y1 : Int), .int .i64 (M1 : Int), .int .i64 (E1 : Int)]) 0 = us 0 := upd_otherG (by decide)
                  have U1 : updG us 61 (.agg #[.int .i64 (Y1 : Int), .int .i64 (M1 : Int), .int .i64 (E1 : Int)]) 1 = us 1 := upd_otherG (by decide)
                  have U4 : updG us 61 (.agg #[.int .i64 (Y1 : Int), .int .i64 (M1 : Int), .int .i64 (E1 : Int)]) 4 = us 4 := upd_otherG (by decide)
                  have U5 : updG us 61 (.agg #[.int .i64 (Y1 : Int), .int .i64 (M1 : Int), .int .i64 (E1 : Int)]) 5 = us 5 := upd_otherG (by decide)
                  have U6 : updG us 61 (.agg #[.int .i64 (Y1 : Int), .int .i64 (M1 : Int), .int .i64 (E1 : Int)]) 6 = us 6 := upd_otherG (by decide)
                  have U7 : updG us 61 (.agg #[.int .i64 (Y1 : Int), .int .i64 (M1 : Int), .int .i64 (E1 : Int)]) 7 = us 7 := upd_otherG (by decide)
                  have U9 : updG us 61 (.agg #[.int .i64 (Y1 : Int), .int .i64 (M1 : Int), .int .i64 (E1 : Int)]) 9 = us 9 := upd_otherG (by decide)
                  have U11 : updG us 61 (.agg #[.int .i64 (Y1 : Int), .int .i64 (M1 : Int), .int .i64 (E1 : Int)]) 11 = us 11 := upd_otherG (by decide)
                  have U13 : updG us 61 (.agg #[.int .i64 (Y1 : Int), .int .i64 (M1 : Int), .int .i64 (E1 : Int)]) 13 = us 13 := upd_otherG (by decide)
                  have U14 : updG us 61 (.agg #[.int .i64 (Y1 : Int), .int .i64 (M1 : Int), .int .i64 (E1 : Int)]) 14 = us 14 := upd_otherG (by decide)
                  have U15 : updG us 61 (.agg #[.int .i64 (Y1 : Int), .int .i64 (M1 : Int), .int .i64 (E1 : Int)]) 15 = us 15 := upd_otherG (by decide)
                  have U57 : updG us 61 (.agg #[.int .i64 (Y1 : Int), .int .i64 (M1 : Int), .int .i64 (E1 : Int)]) 57 = us 57 := upd_otherG (by decide)
                  have U58 : updG us 61 (.agg #[.int .i64 (Y1 : Int), .int .i64 (M1 : Int), .int .i64 (E1 : Int)]) 58 = us 58 := upd_otherG (by decide)
                  have U59 : updG us 61 (.agg #[.int .i64 (Y1 : Int), .int .i64 (M1 : Int), .int .i64 (E1 : Int)]) 59 = us 59 := upd_otherG (by decide)
                  have U60 : updG us 61 (.agg #[.int .i64 (Y1 : Int), .int .i64 (M1 : Int), .int .i64 (E1 : Int)]) 60 = us 60 := upd_otherG (by decide)
                  have U61 : updG us 61 (.agg #[.int .i64 (Y1 : Int), .int .i64 (M1 : Int), .int .i64 (E1 : Int)]) 61 = (.agg #[.int .i64 (Y1 : Int), .int .i64 (M1 : Int), .int .i64 (E1 : Int)]) := upd_sameG _ _ _
                  have U62 : updG us 61 (.agg #[.int .i64 (Y1 : Int), .int .i64 (M1 : Int), .int .i64 (E1 : Int)]) 62 = us 62 := upd_otherG (by decide)
                  have U63 : updG us 61 (.agg #[.int .i64 (Y1 : Int), .int .i64 (M1 : Int), .int .i64 (E1 : Int)]) 63 = us 63 := upd_otherG (by decide)
                  have U64 : updG us 61 (.agg #[.int .i64 (Y1 : Int), .int .i64 (M1 : Int), .int .i64 (E1 : Int)]) 64 = us 64 := upd_otherG (by decide)
                  have U65 : updG us 61 (.agg #[.int .i64 (Y1 : Int), .int .i64 (M1 : Int), .int .i64 (E1 : Int)]) 65 = us 65 := upd_otherG (by decide)
                  have U66 : updG us 61 (.agg #[.int .i64 (Y1 : Int), .int .i64 (M1 : Int), .int .i64 (E1 : Int)]) 66 = us 66 := upd_otherG (by decide)
                  have U67 : updG us 61 (.agg #[.int .i64 (Y1 : Int), .int .i64 (M1 : Int), .int .i64 (E1 : Int)]) 67 = us 67 := upd_otherG (by decide)
                  have U68 : updG us 61 (.agg #[.int .i64 (Y1 : Int), .int .i64 (M1 : Int), .int .i64 (E1 : Int)]) 68 = us 68 := upd_otherG (by decide)
                  have U69 : updG us 61 (.agg #[.int .i64 (Y1 : Int), .int .i64 (M1 : Int), .int .i64 (E1 : Int)]) 69 = us 69 := upd_otherG (by decide)
                  have U70 : updG us 61 (.agg #[.int .i64 (Y1 : Int), .int .i64 (M1 : Int), .int .i64 (E1 : Int)]) 70 = us 70 := upd_otherG (by decide)
                  have U71 : updG us 61 (.agg #[.int .i64 (Y1 : Int), .int .i64 (M1 : Int), .int .i64 (E1 : Int)]) 71 = us 71 := upd_otherG (by decide)
                  refine wpOp_step rfl (fun K hK => ?_)
                  simp only [frVs, e0, e1, e5, e13, e14, e15, e68, e69, e70, e71, e6, e7, e9, e11, e4]
                  go_simp
                  refine hK _ _ ⟨updG us 61 (.agg #[.int .i64 (Y1 : Int), .int .i64 (M1 : Int), .int .i64 (E1 : Int)]), by simp [frVs, updG, e0, e1, e5, e13, e14, e15, e68, e69, e70, e71, e6, e7, e9, e11, e4], { u0 := (U0.trans I.u0), u1 := (U1.trans I.u1), u5 := (U5.trans I.u5), u13 := (U13.trans I.u13), u14 := (U14.trans I.u14), u15 := (U15.trans I.u15), u68 := (U68.trans I.u68), u69 := (U69.trans I.u69), u70 := (U70.trans I.u70), u71 := (U71.trans I.u71), u6 := (U6.trans I.u6), u7 := (U7.trans I.u7), u9 := (U9.trans I.u9), u11 := (U11.trans I.u11), u4 := (fun h => U4.trans (I.u4 (D11.symm.trans h))), bel := (fun _ => hbel), belo := (I.belo), allR := (fun h => absurd (D10.symm.trans h) (by rw [F10]; exact Bool.false_ne_true)), allL := (fun h => absurd (D11.symm.trans h) (by rw [F11]; exact Bool.false_ne_true)), o0 := (fun h => U57.trans (I.o0 (D0.symm.trans h))), o1 := (fun h => U58.trans (I.o1 (D1.symm.trans h))), p2 := (fun h => by have hh := I.p2 (D2.symm.trans h); exact D1.trans hh), o2 := (fun h => U59.trans (I.o2 (D2.symm.trans h))), p3 := (fun h => by have hh := I.p3 (D3.symm.trans h); exact D2.trans hh), o3 := (fun h => U60.trans (I.o3 (D3.symm.trans h))), o4 := (fun _ => U61), p5 := (fun h => by have hh := I.p5 (D5.symm.trans h); exact D4), o5 := (fun h => U62.trans (I.o5 (D5.symm.trans h))), o6 := (fun h => U63.trans (I.o6 (D6.symm.trans h))), p7 := (fun h => by have hh := I.p7 (D7.symm.trans h); exact D6.trans hh), o7 := (fun h => U64.trans (I.o7 (D7.symm.trans h))), p8 := (fun h => by have hh := I.p8 (D8.symm.trans h); exact ⟨D3.trans hh.1, D5.trans hh.2.1, D7.trans hh.2.2⟩), o8 := (fun h => U65.trans (I.o8 (D8.symm.trans h))), p9 := (fun h => by have hh := I.p9 (D9.symm.trans h); exact D8.trans hh), o9 := (fun h h2 => by rw [U66]; exact I.o9 (D9.symm.trans h) (D10.symm.trans h2)), o10 := (fun h => absurd (D10.symm.trans h) (by rw [F10]; exact Bool.false_ne_true)), o11 := (fun h => absurd (D11.symm.trans h) (by rw [F11]; exact Bool.false_ne_true)) }⟩
                · skip
                  have D0 : (d.setIfInBounds 5 true).getD 0 false = d.getD 0 false := getD_set_ne false (by decide)
                  have D1 : (d.setIfInBounds 5 true).getD 1 false = d.getD 1 false := getD_set_ne false (by decide)
                  have D2 : (d.setIfInBounds 5 true).getD 2 false = d.getD 2 false := getD_set_ne false (by decide)
                  have D3 : (d.setIfInBounds 5 true).getD 3 false = d.getD 3 false := getD_set_ne false (by decide)
                  have D4 : (d.setIfInBounds 5 true).getD 4 false = d.getD 4 false := getD_set_ne false (by decide)
                  have D5 : (d.setIfInBounds 5 true).getD 5 false = true := getD_setG hun
                  have D6 : (d.setIfInBounds 5 true).getD 6 false = d.getD 6 false := getD_set_ne false (by decide)
                  have D7 : (d.setIfInBounds 5 true).getD 7 false = d.getD 7 false := getD_set_ne false (by decide)
                  have D8 : (d.setIfInBounds 5 true).getD 8 false = d.getD 8 false := getD_set_ne false (by decide)
                  have D9 : (d.setIfInBounds 5 true).getD 9 false = d.getD 9 false := getD_set_ne false (by decide)
                  have D10 : (d.setIfInBounds 5 true).getD 10 false = d.getD 10 false := getD_set_ne false (by decide)
                  have D11 : (d.setIfInBounds 5 true).getD 11 false = d.getD 11 false := getD_set_ne false (by decide)
                  have F5 := getD_tfG hun
                  have F11 : d.getD 11 false = false := by
                    cases hh : d.getD 11 false with
                    | false => rfl
                    | true => have := I.allL hh 5 (by decide); rw [F5] at this; cases this
                  have e4 := I.u4 F11
                  have F10 : d.getD 10 false = false := by
                    cases hh : d.getD 10 false with
                    | false => rfl
                    | true => have := I.allR hh 5 (by decide); rw [F5] at this; cases this
                  have hbel := I.bel F10
                  have hsz : wq.heap.size ≤ W.heap.size := hbel.size
                  have k1 := (keep6 hbel hd1)
                  have k2 := (keep6 hbel hd2)
                  have y0 := k1.2.1
                  have y1 := k1.2.2.1
                  have y2 := k1.2.2.2.1
                  have z0 := k2.2.1
                  have z1 := k2.2.2.1
                  have z2 := k2.2.2.2.1
                  have p0 := (hbel.cell (p := ⟨pg, 0, none⟩) hpl).trans hp0
                  have h4 := hall ⟨4, .data⟩ (by simp) rfl
                  have e61 := I.o4 h4
                  have U0 : updG us 62 (.int .i64 n1) 0 = us 0 := upd_otherG (by decide)
                  have U1 : updG us 62 (.int .i64 n1) 1 = us 1 := upd_otherG (by decide)
                  have U4 : updG us 62 (.int .i64 n1) 4 = us 4 := upd_otherG (by decide)
                  have U5 : updG us 62 (.int .i64 n1) 5 = us 5 := upd_otherG (by decide)
                  have U6 : updG us 62 (.int .i64 n1) 6 = us 6 := upd_otherG (by decide)
                  have U7 : updG us 62 (.int .i64 n1) 7 = us 7 := upd_otherG (by decide)
                  have U9 : updG us 62 (.int .i64 n1) 9 = us 9 := upd_otherG (by decide)
                  have U11 : updG us 62 (.int .i64 n1) 11 = us 11 := upd_otherG (by decide)
                  have U13 : updG us 62 (.int .i64 n1) 13 = us 13 := upd_otherG (by decide)
                  have U14 : updG us 62 (.int .i64 n1) 14 = us 14 := upd_otherG (by decide)
                  have U15 : updG us 62 (.int .i64 n1) 15 = us 15 := upd_otherG (by decide)
                  have U57 : updG us 62 (.int .i64 n1) 57 = us 57 := upd_otherG (by decide)
                  have U58 : updG us 62 (.int .i64 n1) 58 = us 58 := upd_otherG (by decide)
                  have U59 : updG us 62 (.int .i64 n1) 59 = us 59 := upd_otherG (by decide)
                  have U60 : updG us 62 (.int .i64 n1) 60 = us 60 := upd_otherG (by decide)
                  have U61 : updG us 62 (.int .i64 n1) 61 = us 61 := upd_otherG (by decide)
                  have U62 : updG us 62 (.int .i64 n1) 62 = (.int .i64 n1) := upd_sameG _ _ _
                  have U63 : updG us 62 (.int .i64 n1) 63 = us 63 := upd_otherG (by decide)
                  have U64 : updG us 62 (.int .i64 n1) 64 = us 64 := upd_otherG (by decide)
                  have U65 : updG us 62 (.int .i64 n1) 65 = us 65 := upd_otherG (by decide)
                  have U66 : updG us 62 (.int .i64 n1) 66 = us 66 := upd_otherG (by decide)
                  have U67 : updG us 62 (.int .i64 n1) 67 = us 67 := upd_otherG (by decide)
                  have U68 : updG us 62 (.int .i64 n1) 68 = us 68 := upd_otherG (by decide)
                  have U69 : updG us 62 (.int .i64 n1) 69 = us 69 := upd_otherG (by decide)
                  have U70 : updG us 62 (.int .i64 n1) 70 = us 70 := upd_otherG (by decide)
                  have U71 : updG us 62 (.int .i64 n1) 71 = us 71 := upd_otherG (by decide)
                  refine wpOp_step rfl (fun K hK => ?_)
                  simp only [frVs, e0, e1, e5, e13, e14, e15, e68, e69, e70, e71, e6, e7, e9, e11, e4, e61]
                  go_simp
                  go_wp2_with (go_at_call 30; refine (HF1.out W).mono ?_; rintro e w2 ⟨rfl, hb2⟩)
                  exact ⟨updG us 62 (.int .i64 n1), by simp [frVs, updG, e0, e1, e5, e13, e14, e15, e68, e69, e70, e71, e6, e7, e9, e11, e4, e61], { u0 := (U0.trans I.u0), u1 := (U1.trans I.u1), u5 := (U5.trans I.u5), u13 := (U13.trans I.u13), u14 := (U14.trans I.u14), u15 := (U15.trans I.u15), u68 := (U68.trans I.u68), u69 := (U69.trans I.u69), u70 := (U70.trans I.u70), u71 := (U71.trans I.u71), u6 := (U6.trans I.u6), u7 := (U7.trans I.u7), u9 := (U9.trans I.u9), u11 := (U11.trans I.u11), u4 := (fun h => U4.trans (I.u4 (D11.symm.trans h))), bel := (fun _ => hbel.trans (hb2.mono hsz)), belo := (I.belo.trans (hb2.mono (Nat.le_trans hlo hsz))), allR := (fun h => absurd (D10.symm.trans h) (by rw [F10]; exact Bool.false_ne_true)), allL := (fun h => absurd (D11.symm.trans h) (by rw [F11]; exact Bool.false_ne_true)), o0 := (fun h => U57.trans (I.o0 (D0.symm.trans h))), o1 := (fun h => U58.trans (I.o1 (D1.symm.trans h))), p2 := (fun h => by have hh := I.p2 (D2.symm.trans h); exact D1.trans hh), o2 := (fun h => U59.trans (I.o2 (D2.symm.trans h))), p3 := (fun h => by have hh := I.p3 (D3.symm.trans h); exact D2.trans hh), o3 := (fun h => U60.trans (I.o3 (D3.symm.trans h))), o4 := (fun h => U61.trans (I.o4 (D4.symm.trans h))), p5 := (fun _ => D4.trans h4), o5 := (fun _ => U62), o6 := (fun h => U63.trans (I.o6 (D6.symm.trans h))), p7 := (fun h => by have hh := I.p7 (D7.symm.trans h); exact D6.trans hh), o7 := (fun h => U64.trans (I.o7 (D7.symm.trans h))), p8 := (fun h => by have hh := I.p8 (D8.symm.trans h); exact ⟨D3.trans hh.1, D5, D7.trans hh.2.2⟩), o8 := (fun h => U65.trans (I.o8 (D8.symm.trans h))), p9 := (fun h => by have hh := I.p9 (D9.symm.trans h); exact D8.trans hh), o9 := (fun h h2 => by rw [U66]; obtain ⟨B2, g1, g2, g3⟩ := I.o9 (D9.symm.trans h) (D10.symm.trans h2); exact ⟨B2, g1, (hb2.block B2 (lt_some g2)).trans g2, g3⟩), o10 := (fun h => absurd (D10.symm.trans h) (by rw [F10]; exact Bool.false_ne_true)), o11 := (fun h => absurd (D11.symm.trans h) (by rw [F11]; exact Bool.false_ne_true)) }⟩
                · skip
                  have D0 : (d.setIfInBounds 6 true).getD 0 false = d.getD 0 false := getD_set_ne false (by decide)
                  have D1 : (d.setIfInBounds 6 true).getD 1 false = d.getD 1 false := getD_set_ne false (by decide)
                  have D2 : (d.setIfInBounds 6 true).getD 2 false = d.getD 2 false := getD_set_ne false (by decide)
                  have D3 : (d.setIfInBounds 6 true).getD 3 false = d.getD 3 false := getD_set_ne false (by decide)
                  have D4 : (d.setIfInBounds 6 true).getD 4 false = d.getD 4 false := getD_set_ne false (by decide)
                  have D5 : (d.setIfInBounds 6 true).getD 5 false = d.getD 5 false := getD_set_ne false (by decide)
                  have D6 : (d.setIfInBounds 6 true).getD 6 false = true := getD_setG hun
                  have D7 : (d.setIfInBounds 6 true).getD 7 false = d.getD 7 false := getD_set_ne false (by decide)
                  have D8 : (d.setIfInBounds 6 true).getD 8 false = d.getD 8 false := getD_set_ne false (by decide)
                  have D9 : (d.setIfInBounds 6 true).getD 9 false = d.getD 9 false := getD_set_ne false (by decide)
                  have D10 : (d.setIfInBounds 6 true).getD 10 false = d.getD 10 false := getD_set_ne false (by decide)
                  have D11 : (d.setIfInBounds 6 true).getD 11 false = d.getD 11 false := getD_set_ne false (by decide)
                  have F6 := getD_tfG hun
                  have F11 : d.getD 11 false = false := by
                    cases hh : d.getD 11 false with
                    | false => rfl
                    | true => have := I.allL hh 6 (by decide); rw [F6] at this; cases this
                  have e4 := I.u4 F11
                  have F10 : d.getD 10 false = false := by
                    cases hh : d.getD 10 false with
                    | false => rfl
                    | true => have := I.allR hh 6 (by decide); rw [F6] at this; cases this
                  have hbel := I.bel F10
                  have hsz : wq.heap.size ≤ W.heap.size := hbel.size
                  have k1 := (keep6 hbel hd1)
                  have k2 := (keep6 hbel hd2)
                  have y0 := k1.2.1
                  have y1 := k1.2.2.1
                  have y2 := k1.2.2.2.1
                  have z0 := k2.2.1
                  have z1 := k2.2.2.1
                  have z2 := k2.2.2.2.1
                  have p0 := (hbel.cell (p := ⟨pg, 0, none⟩) hpl).trans hp0
                  have U0 : updG us 63 (.agg #[.int .i64 (Y2 : Int), .int .i64 (M2 : Int), .int .i64 (E2 : Int)]) 0 = us 0 := upd_otherG (by decide)
                  have U1 : updG us 63 (.agg #[.int .i64 (Y2 : Int), .int .i64 (M2 : Int), .int .i64 (E2 : Int)]) 1 = us 1 := upd_otherG (by decide)
                  have U4 : updG us 63 (.agg #[.int .i64 (Y2 : Int), .int .i64 (M2 : Int), .int .i64 (E2 : Int)]) 4 = us 4 := upd_otherG (by decide)
                  have U5 : updG us 63 (.agg #[.int .i64 (Y2 : Int), .int .i64 (M2 : Int), .int .i64 (E2 : Int)]) 5 = us 5 := upd_otherG (by decide)
                  have U6 : updG us 63 (.agg #[.int .i64 (Y2 : Int), .int .i64 (M2 : Int), .int .i64 (E2 : Int)]) 6 = us 6 := upd_otherG (by decide)
                  have U7 : updG us 63 (.agg #[.int .i64 (Y2 : Int), .int .i64 (M2 : Int), .int .i64 (E2 : Int)]) 7 = us 7 := upd_otherG (by decide)
                  have U9 : updG us 63 (.agg #[.int .i64 (Y2 : Int), .int .i64 (M2 : Int), .int .i64 (E2 : Int)]) 9 = us 9 := upd_otherG (by decide)
                  have U11 : updG us 63 (.agg #[.int .i64 (Y2 : Int), .int .i64 (M2 : Int), .int .i64 (E2 : Int)]) 11 = us 11 := upd_otherG (by decide)
                  have U13 : updG us 63 (.agg #[.int .i64 (Y2 : Int), .int .i64 (M2 : Int), .int .i64 (E2 : Int)]) 13 = us 13 := upd_otherG (by decide)
                  have U14 : updG us 63 (.agg #[.int .i64 (Y2 : Int), .int .i64 (M2 : Int), .int .i64 (E2 : Int)]) 14 = us 14 := upd_otherG (by decide)
                  have U15 : updG us 63 (.agg #[.int .i64 (Y2 : Int), .int .i64 (M2 : Int), .int .i64 (E2 : Int)]) 15 = us 15 := upd_otherG (by decide)
                  have U57 : updG us 63 (.agg #[.int .i64 (Y2 : Int), .int .i64 (M2 : Int), .int .i64 (E2 : Int)]) 57 = us 57 := upd_otherG (by decide)
                  have U58 : updG us 63 (.agg #[.int .i64 (Y2 : Int), .int .i64 (M2 : Int), .int .i64 (E2 : Int)]) 58 = us 58 := upd_otherG (by decide)
                  have U59 : updG us 63 (.agg #[.int .i64 (Y2 : Int), .int .i64 (M2 : Int), .int .i64 (E2 : Int)]) 59 = us 59 := upd_otherG (by decide)
                  have U60 : updG us 63 (.agg #[.int .i64 (Y2 : Int), .int .i64 (M2 : Int), .int .i64 (E2 : Int)]) 60 = us 60 := upd_otherG (by decide)
                  have U61 : updG us 63 (.agg #[.int .i64 (Y2 : Int), .int .i64 (M2 : Int), .int .i64 (E2 : Int)]) 61 = us 61 := upd_otherG (by decide)
                  have U62 : updG us 63 (.agg #[.int .i64 (Y2 : Int), .int .i64 (M2 : Int), .int .i64 (E2 : Int)]) 62 = us 62 := upd_otherG (by decide)
                  have U63 : updG us 63 (.agg #[.int .i64 (Y2 : Int), .int .i64 (M2 : Int), .int .i64 (E2 : Int)]) 63 = (.agg #[.int .i64 (Y2 : Int), .int .i64 (M2 : Int), .int .i64 (E2 : Int)]) := upd_sameG _ _ _
                  have U64 : updG us 63 (.agg #[.int .i64 (Y2 : Int), .int .i64 (M2 : Int), .int .i64 (E2 : Int)]) 64 = us 64 := upd_otherG (by decide)
                  have U65 : updG us 63 (.agg #[.int .i64 (Y2 : Int), .int .i64 (M2 : Int), .int .i64 (E2 : Int)]) 65 = us 65 := upd_otherG (by decide)
                  have U66 : updG us 63 (.agg #[.int .i64 (Y2 : Int), .int .i64 (M2 : Int), .int .i64 (E2 : Int)]) 66 = us 66 := upd_otherG (by decide)
                  have U67 : updG us 63 (.agg #[.int .i64 (Y2 : Int), .int .i64 (M2 : Int), .int .i64 (E2 : Int)]) 67 = us 67 := upd_otherG (by decide)
                  have U68 : updG us 63 (.agg #[.int .i64 (Y2 : Int), .int .i64 (M2 : Int), .int .i64 (E2 : Int)]) 68 = us 68 := upd_otherG (by decide)
                  have U69 : updG us 63 (.agg #[.int .i64 (Y2 : Int), .int .i64 (M2 : Int), .int .i64 (E2 : Int)]) 69 = us 69 := upd_otherG (by decide)
                  have U70 : updG us 63 (.agg #[.int .i64 (Y2 : Int), .int .i64 (M2 : Int), .int .i64 (E2 : Int)]) 70 = us 70 := upd_otherG (by decide)
                  have U71 : updG us 63 (.agg #[.int .i64 (Y2 : Int), .int .i64 (M2 : Int), .int .i64 (E2 : Int)]) 71 = us 71 := upd_otherG (by decide)
                  refine wpOp_step rfl (fun K hK => ?_)
                  simp only [frVs, e0, e1, e5, e13, e14, e15, e68, e69, e70, e71, e6, e7, e9, e11, e4]
                  go_simp
                  refine hK _ _ ⟨updG us 63 (.agg #[.int .i64 (Y2 : Int), .int .i64 (M2 : Int), .int .i64 (E2 : Int)]), by simp [frVs, updG, e0, e1, e5, e13, e14, e15, e68, e69, e70, e71, e6, e7, e9, e11, e4], { u0 := (U0.trans I.u0), u1 := (U1.trans I.u1), u5 := (U5.trans I.u5), u13 := (U13.trans I.u13), u14 := (U14.trans I.u14), u15 := (U15.trans I.u15), u68 := (U68.trans I.u68), u69 := (U69.trans I.u69), u70 := (U70.trans I.u70), u71 := (U71.trans I.u71), u6 := (U6.trans I.u6), u7 := (U7.trans I.u7), u9 := (U9.trans I.u9), u11 := (U11.trans I.u11), u4 := (fun h => U4.trans (I.u4 (D11.symm.trans h))), bel := (fun _ => hbel), belo := (I.belo), allR := (fun h => absurd (D10.symm.trans h) (by rw [F10]; exact Bool.false_ne_true)), allL := (fun h => absurd (D11.symm.trans h) (by rw [F11]; exact Bool.false_ne_true)), o0 := (fun h => U57.trans (I.o0 (D0.symm.trans h))), o1 := (fun h => U58.trans (I.o1 (D1.symm.trans h))), p2 := (fun h => by have hh := I.p2 (D2.symm.trans h); exact D1.trans hh), o2 := (fun h => U59.trans (I.o2 (D2.symm.trans h))), p3 := (fun h => by have hh := I.p3 (D3.symm.trans h); exact D2.trans hh), o3 := (fun h => U60.trans (I.o3 (D3.symm.trans h))), o4 := (fun h => U61.trans (I.o4 (D4.symm.trans h))), p5 := (fun h => by have hh := I.p5 (D5.symm.trans h); exact D4.trans hh), o5 := (fun h => U62.trans (I.o5 (D5.symm.trans h))), o6 := (fun _ => U63), p7 := (fun h => by have hh := I.p7 (D7.symm.trans h); exact D6), o7 := (fun h => U64.trans (I.o7 (D7.symm.trans h))), p8 := (fun h => by have hh := I.p8 (D8.symm.trans h); exact ⟨D3.trans hh.1, D5.trans hh.2.1, D7.trans hh.2.2⟩), o8 := (fun h => U65.trans (I.o8 (D8.symm.trans h))), p9 := (fun h => by have hh := I.p9 (D9.symm.trans h); exact D8.trans hh), o9 := (fun h h2 => by rw [U66]; exact I.o9 (D9.symm.trans h) (D10.symm.trans h2)), o10 := (fun h => absurd (D10.symm.trans h) (by rw [F10]; exact Bool.false_ne_true)), o11 := (fun h => absurd (D11.symm.trans h) (by rw [F11]; exact Bool.false_ne_true)) }⟩
                · skip
                  have D0 : (d.setIfInBounds 7 true).getD 0 false = d.getD 0 false := getD_set_ne false (by decide)
                  have D1 : (d.setIfInBounds 7 true).getD 1 false = d.getD 1 false := getD_set_ne false (by decide)
                  have D2 : (d.setIfInBounds 7 true).getD 2 false = d.getD 2 false := getD_set_ne false (by decide)
                  have D3 : (d.setIfInBounds 7 true).getD 3 false = d.getD 3 false := getD_set_ne false (by decide)
                  have D4 : (d.setIfInBounds 7 true).getD 4 false = d.getD 4 false := getD_set_ne false (by decide)
                  have D5 : (d.setIfInBounds 7 true).getD 5 false = d.getD 5 false := getD_set_ne false (by decide)
                  have D6 : (d.setIfInBounds 7 true).getD 6 false = d.getD 6 false := getD_set_ne false (by decide)
                  have D7 : (d.setIfInBounds 7 true).getD 7 false = true := getD_setG hun
                  have D8 : (d.setIfInBounds 7 true).getD 8 false = d.getD 8 false := getD_set_ne false (by decide)
                  have D9 : (d.setIfInBounds 7 true).getD 9 false = d.getD 9 false := getD_set_ne false (by decide)
                  have D10 : (d.setIfInBounds 7 true).getD 10 false = d.getD 10 false := getD_set_ne false (by decide)
                  have D11 : (d.setIfInBounds 7 true).getD 11 false = d.getD 11 false := getD_set_ne false (by decide)
                  have F7 := getD_tfG hun
                  have F11 : d.getD 11 false = false := by
                    cases hh : d.getD 11 false with
                    | false => rfl
                    | true => have := I.allL hh 7 (by decide); rw [F7] at this; cases this
                  have e4 := I.u4 F11
                  have F10 : d.getD 10 false = false := by
                    cases hh : d.getD 10 false with
                    | false => rfl
                    | true => have := I.allR hh 7 (by decide); rw [F7] at this; cases this
                  have hbel := I.bel F10
                  have hsz : wq.heap.size ≤ W.heap.size := hbel.size
                  have k1 := (keep6 hbel hd1)
                  have k2 := (keep6 hbel hd2)
                  have y0 := k1.2.1
                  have y1 := k1.2.2.1
                  have y2 := k1.2.2.2.1
                  have z0 := k2.2.1
                  have z1 := k2.2.2.1
                  have z2 := k2.2.2.2.1
                  have p0 := (hbel.cell (p := ⟨pg, 0, none⟩) hpl).trans hp0
                  have h6 := hall ⟨6, .data⟩ (by simp) rfl
                  have e63 := I.o6 h6
                  have U0 : updG us 64 (.int .i64 n2) 0 = us 0 := upd_otherG (by decide)
                  have U1 : updG us 64 (.int .i64 n2) 1 = us 1 := upd_otherG (by decide)
                  have U4 : updG us 64 (.int .i64 n2) 4 = us 4 := upd_otherG (by decide)
                  have U5 : updG us 64 (.int .i64 n2) 5 = us 5 := upd_otherG (by decide)
                  have U6 : updG us 64 (.int .i64 n2) 6 = us 6 := upd_otherG (by decide)
                  have U7 : updG us 64 (.int .i64 n2) 7 = us 7 := upd_otherG (by decide)
                  have U9 : updG us 64 (.int .i64 n2) 9 = us 9 := upd_otherG (by decide)
                  have U11 : updG us 64 (.int .i64 n2) 11 = us 11 := upd_otherG (by decide)
                  have U13 : updG us 64 (.int .i64 n2) 13 = us 13 := upd_otherG (by decide)
                  have U14 : updG us 64 (.int .i64 n2) 14 = us 14 := upd_otherG (by decide)
                  have U15 : updG us 64 (.int .i64 n2) 15 = us 15 := upd_otherG (by decide)
                  have U57 : updG us 64 (.int .i64 n2) 57 = us 57 := upd_otherG (by decide)
                  have U58 : updG us 64 (.int .i64 n2) 58 = us 58 := upd_otherG (by decide)
                  have U59 : updG us 64 (.int .i64 n2) 59 = us 59 := upd_otherG (by decide)
                  have U60 : updG us 64 (.int .i64 n2) 60 = us 60 := upd_otherG (by decide)
                  have U61 : updG us 64 (.int .i64 n2) 61 = us 61 := upd_otherG (by decide)
                  have U62 : updG us 64 (.int .i64 n2) 62 = us 62 := upd_otherG (by decide)
                  have U63 : updG us 64 (.int .i64 n2) 63 = us 63 := upd_otherG (by decide)
                  have U64 : updG us 64 (.int .i64 n2) 64 = (.int .i64 n2) := upd_sameG _ _ _
                  have U65 : updG us 64 (.int .i64 n2) 65 = us 65 := upd_otherG (by decide)
                  have U66 : updG us 64 (.int .i64 n2) 66 = us 66 := upd_otherG (by decide)
                  have U67 : updG us 64 (.int .i64 n2) 67 = us 67 := upd_otherG (by decide)
                  have U68 : updG us 64 (.int .i64 n2) 68 = us 68 := upd_otherG (by decide)
                  have U69 : updG us 64 (.int .i64 n2) 69 = us 69 := upd_otherG (by decide)
                  have U70 : updG us 64 (.int .i64 n2) 70 = us 70 := upd_otherG (by decide)
                  have U71 : updG us 64 (.int .i64 n2) 71 = us 71 := upd_otherG (by decide)
                  refine wpOp_step rfl (fun K hK => ?_)
                  simp only [frVs, e0, e1, e5, e13, e14, e15, e68, e69, e70, e71, e6, e7, e9, e11, e4, e63]
                  go_simp
                  go_wp2_with (go_at_call 30; refine (HF2.out W).mono ?_; rintro e w2 ⟨rfl, hb2⟩)
                  exact ⟨updG us 64 (.int .i64 n2), by simp [frVs, updG, e0, e1, e5, e13, e14, e15, e68, e69, e70, e71, e6, e7, e9, e11, e4, e63], { u0 := (U0.trans I.u0), u1 := (U1.trans I.u1), u5 := (U5.trans I.u5), u13 := (U13.trans I.u13), u14 := (U14.trans I.u14), u15 := (U15.trans I.u15), u68 := (U68.trans I.u68), u69 := (U69.trans I.u69), u70 := (U70.trans I.u70), u71 := (U71.trans I.u71), u6 := (U6.trans I.u6), u7 := (U7.trans I.u7), u9 := (U9.trans I.u9), u11 := (U11.trans I.u11), u4 := (fun h => U4.trans (I.u4 (D11.symm.trans h))), bel := (fun _ => hbel.trans (hb2.mono hsz)), belo := (I.belo.trans (hb2.mono (Nat.le_trans hlo hsz))), allR := (fun h => absurd (D10.symm.trans h) (by rw [F10]; exact Bool.false_ne_true)), allL := (fun h => absurd (D11.symm.trans h) (by rw [F11]; exact Bool.false_ne_true)), o0 := (fun h => U57.trans (I.o0 (D0.symm.trans h))), o1 := (fun h => U58.trans (I.o1 (D1.symm.trans h))), p2 := (fun h => by have hh := I.p2 (D2.symm.trans h); exact D1.trans hh), o2 := (fun h => U59.trans (I.o2 (D2.symm.trans h))), p3 := (fun h => by have hh := I.p3 (D3.symm.trans h); exact D2.trans hh), o3 := (fun h => U60.trans (I.o3 (D3.symm.trans h))), o4 := (fun h => U61.trans (I.o4 (D4.symm.trans h))), p5 := (fun h => by have hh := I.p5 (D5.symm.trans h); exact D4.trans hh), o5 := (fun h => U62.trans (I.o5 (D5.symm.trans h))), o6 := (fun h => U63.trans (I.o6 (D6.symm.trans h))), p7 := (fun _ => D6.trans h6), o7 := (fun _ => U64), p8 := (fun h => by have hh := I.p8 (D8.symm.trans h); exact ⟨D3.trans hh.1, D5.trans hh.2.1, D7⟩), o8 := (fun h => U65.trans (I.o8 (D8.symm.trans h))), p9 := (fun h => by have hh := I.p9 (D9.symm.trans h); exact D8.trans hh), o9 := (fun h h2 => by rw [U66]; obtain ⟨B2, g1, g2, g3⟩ := I.o9 (D9.symm.trans h) (D10.symm.trans h2); exact ⟨B2, g1, (hb2.block B2 (lt_some g2)).trans g2, g3⟩), o10 := (fun h => absurd (D10.symm.trans h) (by rw [F10]; exact Bool.false_ne_true)), o11 := (fun h => absurd (D11.symm.trans h) (by rw [F11]; exact Bool.false_ne_true)) }⟩
                · skip
                  have D0 : (d.setIfInBounds 8 true).getD 0 false = d.getD 0 false := getD_set_ne false (by decide)
                  have D1 : (d.setIfInBounds 8 true).getD 1 false = d.getD 1 false := getD_set_ne false (by decide)
                  have D2 : (d.setIfInBounds 8 true).getD 2 false = d.getD 2 false := getD_set_ne false (by decide)
                  have D3 : (d.setIfInBounds 8 true).getD 3 false = d.getD 3 false := getD_set_ne false (by decide)
                  have D4 : (d.setIfInBounds 8 true).getD 4 false = d.getD 4 false := getD_set_ne false (by decide)
                  have D5 : (d.setIfInBounds 8 true).getD 5 false = d.getD 5 false := getD_set_ne false (by decide)
                  have D6 : (d.setIfInBounds 8 true).getD 6 false = d.getD 6 false := getD_set_ne false (by decide)
                  have D7 : (d.setIfInBounds 8 true).getD 7 false = d.getD 7 false := getD_set_ne false (by decide)
                  have D8 : (d.setIfInBounds 8 true).getD 8 false = true := getD_setG hun
                  have D9 : (d.setIfInBounds 8 true).getD 9 false = d.getD 9 false := getD_set_ne false (by decide)
                  have D10 : (d.setIfInBounds 8 true).getD 10 false = d.getD 10 false := getD_set_ne false (by decide)
                  have D11 : (d.setIfInBounds 8 true).getD 11 false = d.getD 11 false := getD_set_ne false (by decide)
                  have F8 := getD_tfG hun
                  have F11 : d.getD 11 false = false := by
                    cases hh : d.getD 11 false with
                    | false => rfl
                    | true => have := I.allL hh 8 (by decide); rw [F8] at this; cases this
                  have e4 := I.u4 F11
                  have F10 : d.getD 10 false = false := by
                    cases hh : d.getD 10 false with
                    | false => rfl
                    | true => have := I.allR hh 8 (by decide); rw [F8] at this; cases this
                  have hbel := I.bel F10
                  have hsz : wq.heap.size ≤ W.heap.size := hbel.size
                  have k1 := (keep6 hbel hd1)
                  have k2 := (keep6 hbel hd2)
                  have y0 := k1.2.1
                  have y1 := k1.2.2.1
                  have y2 := k1.2.2.2.1
                  have z0 := k2.2.1
                  have z1 := k2.2.2.1
                  have z2 := k2.2.2.2.1
                  have p0 := (hbel.cell (p := ⟨pg, 0, none⟩) hpl).trans hp0
                  have h3 := hall ⟨3, .data⟩ (by simp) rfl
                  have e60 := I.o3 h3
                  have h5 := hall ⟨5, .data⟩ (by simp) rfl
                  have e62 := I.o5 h5
                  have h7 := hall ⟨7, .data⟩ (by simp) rfl
                  have e64 := I.o7 h7
                  have U0 : updG us 65 (.agg #[.string ⟨xa.toArray⟩, .int .i64 n1, .int .i64 n2]) 0 = us 0 := upd_otherG (by decide)
                  have U1 : updG us 65 (.agg #[.string ⟨xa.toArray⟩, .int .i64 n1, .int .i64 n2]) 1 = us 1 := upd_otherG (by decide)
                  have U4 : updG us 65 (.agg #[.string ⟨xa.toArray⟩, .int .i64 n1, .int .i64 n2]) 4 = us 4 := upd_otherG (by decide)
                  have U5 : updG us 65 (.agg #[.string ⟨xa.toArray⟩, .int .i64 n1, .int .i64 n2]) 5 = us 5 := upd_otherG (by decide)
                  have U6 : updG us 65 (.agg #[.string ⟨xa.toArray⟩, .int .i64 n1, .int .i64 n2]) 6 = us 6 := upd_otherG (by decide)
                  have U7 : updG us 65 (.agg #[.string ⟨xa.toArray⟩, .int .i64 n1, .int .i64 n2]) 7 = us 7 := upd_otherG (by decide)
                  have U9 : updG us 65 (.agg #[.string ⟨xa.toArray⟩, .int .i64 n1, .int .i64 n2]) 9 = us 9 := upd_otherG (by decide)
                  have U11 : updG us 65 (.agg #[.string ⟨xa.toArray⟩, .int .i64 n1, .int .i64 n2]) 11 = us 11 := upd_otherG (by decide)
                  have U13 : updG us 65 (.agg #[.string ⟨xa.toArray⟩, .int .i64 n1, .int .i64 n2]) 13 = us 13 := upd_otherG (by decide)
                  have U14 : updG us 65 (.agg #[.string ⟨xa.toArray⟩, .int .i64 n1, .int .i64 n2]) 14 = us 14 := upd_otherG (by decide)
                  have U15 : updG us 65 (.agg #[.string ⟨xa.toArray⟩, .int .i64 n1, .int .i64 n2]) 15 = us 15 := upd_otherG (by decide)
                  have U57 : updG us 65 (.agg #[.string ⟨xa.toArray⟩, .int .i64 n1, .int .i64 n2]) 57 = us 57 := upd_otherG (by decide)
                  have U58 : updG us 65 (.agg #[.string ⟨xa.toArray⟩, .int .i64 n1, .int .i64 n2]) 58 = us 58 := upd_otherG (by decide)
                  have U59 : updG us 65 (.agg #[.string ⟨xa.toArray⟩, .int .i64 n1, .int .i64 n2]) 59 = us 59 := upd_otherG (by decide)
                  have U60 : updG us 65 (.agg #[.string ⟨xa.toArray⟩, .int .i64 n1, .int .i64 n2]) 60 = us 60 := upd_otherG (by decide)
                  have U61 : updG us 65 (.agg #[.string ⟨xa.toArray⟩, .int .i64 n1, .int .i64 n2]) 61 = us 61 := upd_otherG (by decide)
                  have U62 : updG us 65 (.agg #[.string ⟨xa.toArray⟩, .int .i64 n1, .int .i64 n2]) 62 = us 62 := upd_otherG (by decide)
                  have U63 : updG us 65 (.agg #[.string ⟨xa.toArray⟩, .int .i64 n1, .int .i64 n2]) 63 = us 63 := upd_otherG (by decide)
                  have U64 : updG us 65 (.agg #[.string ⟨xa.toArray⟩, .int .i64 n1, .int .i64 n2]) 64 = us 64 := upd_otherG (by decide)
                  have U65 : updG us 65 (.agg #[.string ⟨xa.toArray⟩, .int .i64 n1, .int .i64 n2]) 65 = (.agg #[.string ⟨xa.toArray⟩, .int .i64 n1, .int .i64 n2]) := upd_sameG _ _ _
                  have U66 : updG us 65 (.agg #[.string ⟨xa.toArray⟩, .int .i64 n1, .int .i64 n2]) 66 = us 66 := upd_otherG (by decide)
                  have U67 : updG us 65 (.agg #[.string ⟨xa.toArray⟩, .int .i64 n1, .int .i64 n2]) 67 = us 67 := upd_otherG (by decide)
                  have U68 : updG us 65 (.agg #[.string ⟨xa.toArray⟩, .int .i64 n1, .int .i64 n2]) 68 = us 68 := upd_otherG (by decide)
                  have U69 : updG us 65 (.agg #[.string ⟨xa.toArray⟩, .int .i64 n1, .int .i64 n2]) 69 = us 69 := upd_otherG (by decide)
                  have U70 : updG us 65 (.agg #[.string ⟨xa.toArray⟩, .int .i64 n1, .int .i64 n2]) 70 = us 70 := upd_otherG (by decide)
                  have U71 : updG us 65 (.agg #[.string ⟨xa.toArray⟩, .int .i64 n1, .int .i64 n2]) 71 = us 71 := upd_otherG (by decide)
                  refine wpOp_step rfl (fun K hK => ?_)
                  simp only [frVs, e0, e1, e5, e13, e14, e15, e68, e69, e70, e71, e6, e7, e9, e11, e4, e60, e62, e64]
                  go_simp
                  refine hK _ _ ⟨updG us 65 (.agg #[.string ⟨xa.toArray⟩, .int .i64 n1, .int .i64 n2]), by simp [frVs, updG, e0, e1, e5, e13, e14, e15, e68, e69, e70, e71, e6, e7, e9, e11, e4, e60, e62, e64], { u0 := (U0.trans I.u0), u1 := (U1.trans I.u1), u5 := (U5.trans I.u5), u13 := (U13.trans I.u13), u14 := (U14.trans I.u14), u15 := (U15.trans I.u15), u68 := (U68.trans I.u68), u69 := (U69.trans I.u69), u70 := (U70.trans I.u70), u71 := (U71.trans I.u71), u6 := (U6.trans I.u6), u7 := (U7.trans I.u7), u9 := (U9.trans I.u9), u11 := (U11.trans I.u11), u4 := (fun h => U4.trans (I.u4 (D11.symm.trans h))), bel := (fun _ => hbel), belo := (I.belo), allR := (fun h => absurd (D10.symm.trans h) (by rw [F10]; exact Bool.false_ne_true)), allL := (fun h => absurd (D11.symm.trans h) (by rw [F11]; exact Bool.false_ne_true)), o0 := (fun h => U57.trans (I.o0 (D0.symm.trans h))), o1 := (fun h => U58.trans (I.o1 (D1.symm.trans h))), p2 := (fun h => by have hh := I.p2 (D2.symm.trans h); exact D1.trans hh), o2 := (fun h => U59.trans (I.o2 (D2.symm.trans h))), p3 := (fun h => by have hh := I.p3 (D3.symm.trans h); exact D2.trans hh), o3 := (fun h => U60.trans (I.o3 (D3.symm.trans h))), o4 := (fun h => U61.trans (I.o4 (D4.symm.trans h))), p5 := (fun h => by have hh := I.p5 (D5.symm.trans h); exact D4.trans hh), o5 := (fun h => U62.trans (I.o5 (D5.symm.trans h))), o6 := (fun h => U63.trans (I.o6 (D6.symm.trans h))), p7 := (fun h => by have hh := I.p7 (D7.symm.trans h); exact D6.trans hh), o7 := (fun h => U64.trans (I.o7 (D7.symm.trans h))), p8 := (fun _ => ⟨D3.trans h3, D5.trans h5, D7.trans h7⟩), o8 := (fun _ => U65), p9 := (fun h => by have hh := I.p9 (D9.symm.trans h); exact D8), o9 := (fun h h2 => by rw [U66]; exact I.o9 (D9.symm.trans h) (D10.symm.trans h2)), o10 := (fun h => absurd (D10.symm.trans h) (by rw [F10]; exact Bool.false_ne_true)), o11 := (fun h => absurd (D11.symm.trans h) (by rw [F11]; exact Bool.false_ne_true)) }⟩
                · skip
                  have D0 : (d.setIfInBounds 9 true).getD 0 false = d.getD 0 false := getD_set_ne false (by decide)
                  have D1 : (d.setIfInBounds 9 true).getD 1 false = d.getD 1 false := getD_set_ne false (by decide)
                  have D2 : (d.setIfInBounds 9 true).getD 2 false = d.getD 2 false := getD_set_ne false (by decide)
                  have D3 : (d.setIfInBounds 9 true).getD 3 false = d.getD 3 false := getD_set_ne false (by decide)
                  have D4 : (d.setIfInBounds 9 true).getD 4 false = d.getD 4 false := getD_set_ne false (by decide)
                  have D5 : (d.setIfInBounds 9 true).getD 5 false = d.getD 5 false := getD_set_ne false (by decide)
                  have D6 : (d.setIfInBounds 9 true).getD 6 false = d.getD 6 false := getD_set_ne false (by decide)
                  have D7 : (d.setIfInBounds 9 true).getD 7 false = d.getD 7 false := getD_set_ne false (by decide)
                  have D8 : (d.setIfInBounds 9 true).getD 8 false = d.getD 8 false := getD_set_ne false (by decide)
                  have D9 : (d.setIfInBounds 9 true).getD 9 false = true := getD_setG hun
                  have D10 : (d.setIfInBounds 9 true).getD 10 false = d.getD 10 false := getD_set_ne false (by decide)
                  have D11 : (d.setIfInBounds 9 true).getD 11 false = d.getD 11 false := getD_set_ne false (by decide)
                  have F9 := getD_tfG hun
                  have F11 : d.getD 11 false = false := by
                    cases hh : d.getD 11 false with
                    | false => rfl
                    | true => have := I.allL hh 9 (by decide); rw [F9] at this; cases this
                  have e4 := I.u4 F11
                  have F10 : d.getD 10 false = false := by
                    cases hh : d.getD 10 false with
                    | false => rfl
                    | true => have := I.allR hh 9 (by decide); rw [F9] at this; cases this
                  have hbel := I.bel F10
                  have hsz : wq.heap.size ≤ W.heap.size := hbel.size
                  have k1 := (keep6 hbel hd1)
                  have k2 := (keep6 hbel hd2)
                  have y0 := k1.2.1
                  have y1 := k1.2.2.1
                  have y2 := k1.2.2.2.1
                  have z0 := k2.2.1
                  have z1 := k2.2.2.1
                  have z2 := k2.2.2.2.1
                  have p0 := (hbel.cell (p := ⟨pg, 0, none⟩) hpl).trans hp0
                  have h8 := hall ⟨8, .data⟩ (by simp) rfl
                  have e65 := I.o8 h8
                  have U0 : updG us 66 (.slice (some ⟨W.heap.size, 0, none⟩) 1 1) 0 = us 0 := upd_otherG (by decide)
                  have U1 : updG us 66 (.slice (some ⟨W.heap.size, 0, none⟩) 1 1) 1 = us 1 := upd_otherG (by decide)
                  have U4 : updG us 66 (.slice (some ⟨W.heap.size, 0, none⟩) 1 1) 4 = us 4 := upd_otherG (by decide)
                  have U5 : updG us 66 (.slice (some ⟨W.heap.size, 0, none⟩) 1 1) 5 = us 5 := upd_otherG (by decide)
                  have U6 : updG us 66 (.slice (some ⟨W.heap.size, 0, none⟩) 1 1) 6 = us 6 := upd_otherG (by decide)
                  have U7 : updG us 66 (.slice (some ⟨W.heap.size, 0, none⟩) 1 1) 7 = us 7 := upd_otherG (by decide)
                  have U9 : updG us 66 (.slice (some ⟨W.heap.size, 0, none⟩) 1 1) 9 = us 9 := upd_otherG (by decide)
                  have U11 : updG us 66 (.slice (some ⟨W.heap.size, 0, none⟩) 1 1) 11 = us 11 := upd_otherG (by decide)
                  have U13 : updG us 66 (.slice (some ⟨W.heap.size, 0, none⟩) 1 1) 13 = us 13 := upd_otherG (by decide)
                  have U14 : updG us 66 (.slice (some ⟨W.heap.size, 0, none⟩) 1 1) 14 = us 14 := upd_otherG (by decide)
                  have U15 : updG us 66 (.slice (some ⟨W.heap.size, 0, none⟩) 1 1) 15 = us 15 := upd_otherG (by decide)
                  have U57 : updG us 66 (.slice (some ⟨W.heap.size, 0, none⟩) 1 1) 57 = us 57 := upd_otherG (by decide)
                  have U58 : updG us 66 (.slice (some ⟨W.heap.size, 0, none⟩) 1 1) 58 = us 58 := upd_otherG (by decide)
                  have U59 : updG us 66 (.slice (some ⟨W.heap.size, 0, none⟩) 1 1) 59 = us 59 := upd_otherG (by decide)
                  have U60 : updG us 66 (.slice (some ⟨W.heap.size, 0, none⟩) 1 1) 60 = us 60 := upd_otherG (by decide)
                  have U61 : updG us 66 (.slice (some ⟨W.heap.size, 0, none⟩) 1 1) 61 = us 61 := upd_otherG (by decide)
                  have U62 : updG us 66 (.slice (some ⟨W.heap.size, 0, none⟩) 1 1) 62 = us 62 := upd_otherG (by decide)
                  have U63 : updG us 66 (.slice (some ⟨W.heap.size, 0, none⟩) 1 1) 63 = us 63 := upd_otherG (by decide)
                  have U64 : updG us 66 (.slice (some ⟨W.heap.size, 0, none⟩) 1 1) 64 = us 64 := upd_otherG (by decide)
                  have U65 : updG us 66 (.slice (some ⟨W.heap.size, 0, none⟩) 1 1) 65 = us 65 := upd_otherG (by decide)
                  have U66 : updG us 66 (.slice (some ⟨W.heap.size, 0, none⟩) 1 1) 66 = (.slice (some ⟨W.heap.size, 0, none⟩) 1 1) := upd_sameG _ _ _
                  have U67 : updG us 66 (.slice (some ⟨W.heap.size, 0, none⟩) 1 1) 67 = us 67 := upd_otherG (by decide)
                  have U68 : updG us 66 (.slice (some ⟨W.heap.size, 0, none⟩) 1 1) 68 = us 68 := upd_otherG (by decide)
                  have U69 : updG us 66 (.slice (some ⟨W.heap.size, 0, none⟩) 1 1) 69 = us 69 := upd_otherG (by decide)
                  have U70 : updG us 66 (.slice (some ⟨W.heap.size, 0, none⟩) 1 1) 70 = us 70 := upd_otherG (by decide)
                  have U71 : updG us 66 (.slice (some ⟨W.heap.size, 0, none⟩) 1 1) 71 = us 71 := upd_otherG (by decide)
                  refine wpOp_step rfl (fun K hK => ?_)
                  simp only [frVs, e0, e1, e5, e13, e14, e15, e68, e69, e70, e71, e6, e7, e9, e11, e4, e65]
                  go_simp
                  refine hK _ _ ⟨updG us 66 (.slice (some ⟨W.heap.size, 0, none⟩) 1 1), by simp [frVs, updG, e0, e1, e5, e13, e14, e15, e68, e69, e70, e71, e6, e7, e9, e11, e4, e65], { u0 := (U0.trans I.u0), u1 := (U1.trans I.u1), u5 := (U5.trans I.u5), u13 := (U13.trans I.u13), u14 := (U14.trans I.u14), u15 := (U15.trans I.u15), u68 := (U68.trans I.u68), u69 := (U69.trans I.u69), u70 := (U70.trans I.u70), u71 := (U71.trans I.u71), u6 := (U6.trans I.u6), u7 := (U7.trans I.u7), u9 := (U9.trans I.u9), u11 := (U11.trans I.u11), u4 := (fun h => U4.trans (I.u4 (D11.symm.trans h))), bel := (fun _ => hbel.trans ((below_alloc W _).mono hsz)), belo := (I.belo.trans ((below_alloc W _).mono (Nat.le_trans hlo hsz))), allR := (fun h => absurd (D10.symm.trans h) (by rw [F10]; exact Bool.false_ne_true)), allL := (fun h => absurd (D11.symm.trans h) (by rw [F11]; exact Bool.false_ne_true)), o0 := (fun h => U57.trans (I.o0 (D0.symm.trans h))), o1 := (fun h => U58.trans (I.o1 (D1.symm.trans h))), p2 := (fun h => by have hh := I.p2 (D2.symm.trans h); exact D1.trans hh), o2 := (fun h => U59.trans (I.o2 (D2.symm.trans h))), p3 := (fun h => by have hh := I.p3 (D3.symm.trans h); exact D2.trans hh), o3 := (fun h => U60.trans (I.o3 (D3.symm.trans h))), o4 := (fun h => U61.trans (I.o4 (D4.symm.trans h))), p5 := (fun h => by have hh := I.p5 (D5.symm.trans h); exact D4.trans hh), o5 := (fun h => U62.trans (I.o5 (D5.symm.trans h))), o6 := (fun h => U63.trans (I.o6 (D6.symm.trans h))), p7 := (fun h => by have hh := I.p7 (D7.symm.trans h); exact D6.trans hh), o7 := (fun h => U64.trans (I.o7 (D7.symm.trans h))), p8 := (fun h => by have hh := I.p8 (D8.symm.trans h); exact ⟨D3.trans hh.1, D5.trans hh.2.1, D7.trans hh.2.2⟩), o8 := (fun h => U65.trans (I.o8 (D8.symm.trans h))), p9 := (fun _ => D8.trans h8), o9 := (fun _ _ => ⟨W.heap.size, U66, heap_alloc_new W _, hsz⟩), o10 := (fun h => absurd (D10.symm.trans h) (by rw [F10]; exact Bool.false_ne_true)), o11 := (fun h => absurd (D11.symm.trans h) (by rw [F11]; exact Bool.false_ne_true)) }⟩
                · skip
                  have D0 : (d.setIfInBounds 10 true).getD 0 false = d.getD 0 false := getD_set_ne false (by decide)
                  have D1 : (d.setIfInBounds 10 true).getD 1 false = d.getD 1 false := getD_set_ne false (by decide)
                  have D2 : (d.setIfInBounds 10 true).getD 2 false = d.getD 2 false := getD_set_ne false (by decide)
                  have D3 : (d.setIfInBounds 10 true).getD 3 false = d.getD 3 false := getD_set_ne false (by decide)
                  have D4 : (d.setIfInBounds 10 true).getD 4 false = d.getD 4 false := getD_set_ne false (by decide)
                  have D5 : (d.setIfInBounds 10 true).getD 5 false = d.getD 5 false := getD_set_ne false (by decide)
                  have D6 : (d.setIfInBounds 10 true).getD 6 false = d.getD 6 false := getD_set_ne false (by decide)
                  have D7 : (d.setIfInBounds 10 true).getD 7 false = d.getD 7 false := getD_set_ne false (by decide)
                  have D8 : (d.setIfInBounds 10 true).getD 8 false = d.getD 8 false := getD_set_ne false (by decide)
                  have D9 : (d.setIfInBounds 10 true).getD 9 false = d.getD 9 false := getD_set_ne false (by decide)
                  have D10 : (d.setIfInBounds 10 true).getD 10 false = true := getD_setG hun
                  have D11 : (d.setIfInBounds 10 true).getD 11 false = d.getD 11 false := getD_set_ne false (by decide)
                  have F10 := getD_tfG hun
                  have F11 : d.getD 11 false = false := by
                    cases hh : d.getD 11 false with
                    | false => rfl
                    | true => have := I.allL hh 10 (by decide); rw [F10] at this; cases this
                  have e4 := I.u4 F11
                  have hbel := I.bel F10
                  have hsz : wq.heap.size ≤ W.heap.size := hbel.size
                  have k1 := (keep6 hbel hd1)
                  have k2 := (keep6 hbel hd2)
                  have y0 := k1.2.1
                  have y1 := k1.2.2.1
                  have y2 := k1.2.2.2.1
                  have z0 := k2.2.1
                  have z1 := k2.2.2.1
                  have z2 := k2.2.2.2.1
                  have p0 := (hbel.cell (p := ⟨pg, 0, none⟩) hpl).trans hp0
                  have h0 := hall ⟨0, .data⟩ (by simp) rfl
                  have e57 := I.o0 h0
                  have h9 := hall ⟨9, .data⟩ (by simp) rfl
                  obtain ⟨B, e66, hB, hBl⟩ := I.o9 h9 F10
                  obtain q9_8 := I.p9 h9
                  have h8 := q9_8
                  obtain ⟨q8_3, q8_5, q8_7⟩ := I.p8 h8
                  have h3 := q8_3
                  have h5 := q8_5
                  have h7 := q8_7
                  obtain q7_6 := I.p7 h7
                  have h6 := q7_6
                  obtain q5_4 := I.p5 h5
                  have h4 := q5_4
                  obtain q3_2 := I.p3 h3
                  have h2 := q3_2
                  obtain q2_1 := I.p2 h2
                  have h1 := q2_1
                  have hc : ∀ k, k < 10 → d.getD k false = true := by
                    intro k hk
                    rcases (by omega : k = 0 ∨ k = 1 ∨ k = 2 ∨ k = 3 ∨ k = 4 ∨ k = 5 ∨ k = 6 ∨ k = 7 ∨ k = 8 ∨ k = 9) with rfl | rfl | rfl | rfl | rfl | rfl | rfl | rfl | rfl | rfl
                    · exact h0
                    · exact h1
                    · exact h2
                    · exact h3
                    · exact h4
                    · exact h5
                    · exact h6
                    · exact h7
                    · exact h8
                    · exact h9
                  refine wpOp_append_sto rfl rfl (.tmp 57) (.tmp 66) rfl w.heap.size (.slice O rs.length q) rs (by show us 57 = _; rw [e57]) ⟨O, q, rfl, own_below hown hbel⟩ (some ⟨B, 0, none⟩) 1 [⟨xa, n1, n2⟩] (by show us 66 = _; rw [e66]; rfl) (rowB hB) (.inr ⟨_, _, rfl⟩) (by simp; omega) (Nat.le_trans hlo hsz) ?_
                  intro v2 W2 hRr hg2 hgr hv2
                  have hR2 : RowX w.heap.size (.slice (some ⟨g, off, none⟩) ws.length c) ws v2 (rs ++ [⟨xa, n1, n2⟩]) W2 := ⟨hRr, own_sep (own_below hwo hbel) hsep hgr, sep_push (own_below hwo hbel) hsep (hv2.imp id (fun h => ⟨_, Nat.le_refl _, h⟩))⟩
                  have U0 : updG us 67 (v2) 0 = us 0 := upd_otherG (by decide)
                  have U1 : updG us 67 (v2) 1 = us 1 := upd_otherG (by decide)
                  have U4 : updG us 67 (v2) 4 = us 4 := upd_otherG (by decide)
                  have U5 : updG us 67 (v2) 5 = us 5 := upd_otherG (by decide)
                  have U6 : updG us 67 (v2) 6 = us 6 := upd_otherG (by decide)
                  have U7 : updG us 67 (v2) 7 = us 7 := upd_otherG (by decide)
                  have U9 : updG us 67 (v2) 9 = us 9 := upd_otherG (by decide)
                  have U11 : updG us 67 (v2) 11 = us 11 := upd_otherG (by decide)
                  have U13 : updG us 67 (v2) 13 = us 13 := upd_otherG (by decide)
                  have U14 : updG us 67 (v2) 14 = us 14 := upd_otherG (by decide)
                  have U15 : updG us 67 (v2) 15 = us 15 := upd_otherG (by decide)
                  have U57 : updG us 67 (v2) 57 = us 57 := upd_otherG (by decide)
                  have U58 : updG us 67 (v2) 58 = us 58 := upd_otherG (by decide)
                  have U59 : updG us 67 (v2) 59 = us 59 := upd_otherG (by decide)
                  have U60 : updG us 67 (v2) 60 = us 60 := upd_otherG (by decide)
                  have U61 : updG us 67 (v2) 61 = us 61 := upd_otherG (by decide)
                  have U62 : updG us 67 (v2) 62 = us 62 := upd_otherG (by decide)
                  have U63 : updG us 67 (v2) 63 = us 63 := upd_otherG (by decide)
                  have U64 : updG us 67 (v2) 64 = us 64 := upd_otherG (by decide)
                  have U65 : updG us 67 (v2) 65 = us 65 := upd_otherG (by decide)
                  have U66 : updG us 67 (v2) 66 = us 66 := upd_otherG (by decide)
                  have U67 : updG us 67 (v2) 67 = (v2) := upd_sameG _ _ _
                  have U68 : updG us 67 (v2) 68 = us 68 := upd_otherG (by decide)
                  have U69 : updG us 67 (v2) 69 = us 69 := upd_otherG (by decide)
                  have U70 : updG us 67 (v2) 70 = us 70 := upd_otherG (by decide)
                  have U71 : updG us 67 (v2) 71 = us 71 := upd_otherG (by decide)
                  exact ⟨updG us 67 (v2), by simp [frVs, updG, e0, e1, e5, e13, e14, e15, e68, e69, e70, e71, e6, e7, e9, e11, e4, e57, e66, Act.put], { u0 := (U0.trans I.u0), u1 := (U1.trans I.u1), u5 := (U5.trans I.u5), u13 := (U13.trans I.u13), u14 := (U14.trans I.u14), u15 := (U15.trans I.u15), u68 := (U68.trans I.u68), u69 := (U69.trans I.u69), u70 := (U70.trans I.u70), u71 := (U71.trans I.u71), u6 := (U6.trans I.u6), u7 := (U7.trans I.u7), u9 := (U9.trans I.u9), u11 := (U11.trans I.u11), u4 := (fun h => U4.trans (I.u4 (D11.symm.trans h))), bel := (fun h => by rw [D10] at h; cases h), belo := (I.belo.trans hg2), allR := (fun _ k hk => (getD_set_ne false (by omega)).trans (hc k hk)), allL := (fun h => absurd (D11.symm.trans h) (by rw [F11]; exact Bool.false_ne_true)), o0 := (fun h => U57.trans (I.o0 (D0.symm.trans h))), o1 := (fun h => U58.trans (I.o1 (D1.symm.trans h))), p2 := (fun h => by have hh := I.p2 (D2.symm.trans h); exact D1.trans hh), o2 := (fun h => U59.trans (I.o2 (D2.symm.trans h))), p3 := (fun h => by have hh := I.p3 (D3.symm.trans h); exact D2.trans hh), o3 := (fun h => U60.trans (I.o3 (D3.symm.trans h))), o4 := (fun h => U61.trans (I.o4 (D4.symm.trans h))), p5 := (fun h => by have hh := I.p5 (D5.symm.trans h); exact D4.trans hh), o5 := (fun h => U62.trans (I.o5 (D5.symm.trans h))), o6 := (fun h => U63.trans (I.o6 (D6.symm.trans h))), p7 := (fun h => by have hh := I.p7 (D7.symm.trans h); exact D6.trans hh), o7 := (fun h => U64.trans (I.o7 (D7.symm.trans h))), p8 := (fun h => by have hh := I.p8 (D8.symm.trans h); exact ⟨D3.trans hh.1, D5.trans hh.2.1, D7.trans hh.2.2⟩), o8 := (fun h => U65.trans (I.o8 (D8.symm.trans h))), p9 := (fun h => by have hh := I.p9 (D9.symm.trans h); exact D8.trans hh), o9 := (fun h h2 => by rw [D10] at h2; cases h2), o10 := (fun _ => by rw [U67]; exact hR2), o11 := (fun h => absurd (D11.symm.trans h) (by rw [F11]; exact Bool.false_ne_true)) }⟩
                · skip
                  have D0 : (d.setIfInBounds 11 true).getD 0 false = d.getD 0 false := getD_set_ne false (by decide)
                  have D1 : (d.setIfInBounds 11 true).getD 1 false = d.getD 1 false := getD_set_ne false (by decide)
                  have D2 : (d.setIfInBounds 11 true).getD 2 false = d.getD 2 false := getD_set_ne false (by decide)
                  have D3 : (d.setIfInBounds 11 true).getD 3 false = d.getD 3 false := getD_set_ne false (by decide)
                  have D4 : (d.setIfInBounds 11 true).getD 4 false = d.getD 4 false := getD_set_ne false (by decide)
                  have D5 : (d.setIfInBounds 11 true).getD 5 false = d.getD 5 false := getD_set_ne false (by decide)
                  have D6 : (d.setIfInBounds 11 true).getD 6 false = d.getD 6 false := getD_set_ne false (by decide)
                  have D7 : (d.setIfInBounds 11 true).getD 7 false = d.getD 7 false := getD_set_ne false (by decide)
                  have D8 : (d.setIfInBounds 11 true).getD 8 false = d.getD 8 false := getD_set_ne false (by decide)
                  have D9 : (d.setIfInBounds 11 true).getD 9 false = d.getD 9 false := getD_set_ne false (by decide)
                  have D10 : (d.setIfInBounds 11 true).getD 10 false = d.getD 10 false := getD_set_ne false (by decide)
                  have D11 : (d.setIfInBounds 11 true).getD 11 false = true := getD_setG hun
                  have F11 := getD_tfG hun
                  have h10 := hall ⟨10, .data⟩ (by simp) rfl
                  have U0 : updG us 4 (us 67) 0 = us 0 := upd_otherG (by decide)
                  have U1 : updG us 4 (us 67) 1 = us 1 := upd_otherG (by decide)
                  have U4 : updG us 4 (us 67) 4 = (us 67) := upd_sameG _ _ _
                  have U5 : updG us 4 (us 67) 5 = us 5 := upd_otherG (by decide)
                  have U6 : updG us 4 (us 67) 6 = us 6 := upd_otherG (by decide)
                  have U7 : updG us 4 (us 67) 7 = us 7 := upd_otherG (by decide)
                  have U9 : updG us 4 (us 67) 9 = us 9 := upd_otherG (by decide)
                  have U11 : updG us 4 (us 67) 11 = us 11 := upd_otherG (by decide)
                  have U13 : updG us 4 (us 67) 13 = us 13 := upd_otherG (by decide)
                  have U14 : updG us 4 (us 67) 14 = us 14 := upd_otherG (by decide)
                  have U15 : updG us 4 (us 67) 15 = us 15 := upd_otherG (by decide)
                  have U57 : updG us 4 (us 67) 57 = us 57 := upd_otherG (by decide)
                  have U58 : updG us 4 (us 67) 58 = us 58 := upd_otherG (by decide)
                  have U59 : updG us 4 (us 67) 59 = us 59 := upd_otherG (by decide)
                  have U60 : updG us 4 (us 67) 60 = us 60 := upd_otherG (by decide)
                  have U61 : updG us 4 (us 67) 61 = us 61 := upd_otherG (by decide)
                  have U62 : updG us 4 (us 67) 62 = us 62 := upd_otherG (by decide)
                  have U63 : updG us 4 (us 67) 63 = us 63 := upd_otherG (by decide)
                  have U64 : updG us 4 (us 67) 64 = us 64 := upd_otherG (by decide)
                  have U65 : updG us 4 (us 67) 65 = us 65 := upd_otherG (by decide)
                  have U66 : updG us 4 (us 67) 66 = us 66 := upd_otherG (by decide)
                  have U67 : updG us 4 (us 67) 67 = us 67 := upd_otherG (by decide)
                  have U68 : updG us 4 (us 67) 68 = us 68 := upd_otherG (by decide)
                  have U69 : updG us 4 (us 67) 69 = us 69 := upd_otherG (by decide)
                  have U70 : updG us 4 (us 67) 70 = us 70 := upd_otherG (by decide)
                  have U71 : updG us 4 (us 67) 71 = us 71 := upd_otherG (by decide)
                  refine wpOp_step rfl (fun K hK => ?_)
                  simp only [frVs, e0, e1, e5, e13, e14, e15, e68, e69, e70, e71, e6, e7, e9, e11]
                  go_simp
                  refine hK _ _ ⟨updG us 4 (us 67), by simp [frVs, updG, e0, e1, e5, e13, e14, e15, e68, e69, e70, e71, e6, e7, e9, e11], { u0 := (U0.trans I.u0), u1 := (U1.trans I.u1), u5 := (U5.trans I.u5), u13 := (U13.trans I.u13), u14 := (U14.trans I.u14), u15 := (U15.trans I.u15), u68 := (U68.trans I.u68), u69 := (U69.trans I.u69), u70 := (U70.trans I.u70), u71 := (U71.trans I.u71), u6 := (U6.trans I.u6), u7 := (U7.trans I.u7), u9 := (U9.trans I.u9), u11 := (U11.trans I.u11), u4 := (fun h => by rw [D11] at h; cases h), bel := (fun h => I.bel (D10.symm.trans h)), belo := (I.belo), allR := (fun h k hk => (getD_set_ne false (by omega)).trans (I.allR (D10.symm.trans h) k hk)), allL := (fun _ k hk => (getD_set_ne false (by omega)).trans ((Nat.lt_or_ge k 10).elim (fun h1 => I.allR h10 k h1) (fun h1 => (show 10 = k by omega) ▸ h10))), o0 := (fun h => U57.trans (I.o0 (D0.symm.trans h))), o1 := (fun h => U58.trans (I.o1 (D1.symm.trans h))), p2 := (fun h => by have hh := I.p2 (D2.symm.trans h); exact D1.trans hh), o2 := (fun h => U59.trans (I.o2 (D2.symm.trans h))), p3 := (fun h => by have hh := I.p3 (D3.symm.trans h); exact D2.trans hh), o3 := (fun h => U60.trans (I.o3 (D3.symm.trans h))), o4 := (fun h => U61.trans (I.o4 (D4.symm.trans h))), p5 := (fun h => by have hh := I.p5 (D5.symm.trans h); exact D4.trans hh), o5 := (fun h => U62.trans (I.o5 (D5.symm.trans h))), o6 := (fun h => U63.trans (I.o6 (D6.symm.trans h))), p7 := (fun h => by have hh := I.p7 (D7.symm.trans h); exact D6.trans hh), o7 := (fun h => U64.trans (I.o7 (D7.symm.trans h))), p8 := (fun h => by have hh := I.p8 (D8.symm.trans h); exact ⟨D3.trans hh.1, D5.trans hh.2.1, D7.trans hh.2.2⟩), o8 := (fun h => U65.trans (I.o8 (D8.symm.trans h))), p9 := (fun h => by have hh := I.p9 (D9.symm.trans h); exact D8.trans hh), o9 := (fun h h2 => by first | (rw [D10] at h2; cases h2) | (rw [D10, h10] at h2; cases h2)), o10 := (fun h => by rw [U67]; exact I.o10 (D10.symm.trans h)), o11 := (fun _ => by rw [U4, U67]) }⟩
              · intro d a W hd hall hI
                obtain ⟨us, rfl, I⟩ := hI
                have D : ∀ k, k < 12 → d.getD k false = true := fun k hk => by
                  have := hall k hk
                  have hk2 : k < d.size := by rw [hd]; exact hk
                  simp [hk2] at this ⊢; exact this
                obtain ⟨hRr, hwo', hsep'⟩ := I.o10 (D 10 (by decide))
                obtain ⟨O', q', e67, hO⟩ := hRr
                have e4 := (I.o11 (D 11 (by decide))).trans e67
                have e0 := I.u0
                have e1 := I.u1
                have e5 := I.u5
                have e6 := I.u6
                have e7 := I.u7
                have e9 := I.u9
                have e11 := I.u11
                have e13 := I.u13
                have e14 := I.u14
                have e15 := I.u15
                have e68 := I.u68
                have e69 := I.u69
                have e70 := I.u70
                have e71 := I.u71
                have hbelo := I.belo
                rw [e67] at hsep'
                clear I hall D e67 hd
                simp only [frVs, e4, e0, e1, e5, e6, e7, e9, e11, e13, e14, e15, e68, e69, e70, e71]
                go_wp2_with fail
                go_roundw
                case rel => exact ⟨k + 1, O', q', rs ++ [⟨xa, n1, n2⟩], by omega, by go_num, rfl, by simp; omega, hO, hsep', hwo', HNX, hbq.trans hbelo⟩
                case measure => simp [intOf]; omega
            · have E := Lib.hid (HN4.out (fun h => hz h.2))
              have e5 : (ze != 0) = true := by simpa using hz
              subst hy
              clear HNXf HSN HN4 HX1 HX2
              go_wp2_with fail
              go_ret2
              rw [E.out]
              exact ⟨none, 0, rfl, World.ownsRow_nil _ _ _ _, HBX.out⟩
          · have E := Lib.hid (HN4.out (fun h => hy h.1))
            have e5 : (ye != 0) = true := by simpa using hy
            clear HNXf HSN HN4 HX1 HX2
            go_wp2_with fail
            go_ret2
            rw [E.out]
            exact ⟨none, 0, rfl, World.ownsRow_nil _ _ _ _, HBX.out⟩
        · have E := Lib.hid (HN2.out h2)
          have HBX := Lib.hid t3
          have hl3 : (((spx 126 [] xb).length : Int) != 2) = true := by rw [bne_iff_ne]; omega
          clear HNXf HN2 HN3 HSM HM126 hP3 h2
          generalize (spx 126 [] xb).length = L at *
          go_wp2_with fail
          go_ret2
          rw [E.out]
          exact ⟨none, 0, rfl, World.ownsRow_nil _ _ _ _, HBX.out⟩
      · have E := Lib.hid (HF.out (wordR_n1 h2))
        have HBX := Lib.hid t2
        have hl3 : (((spx 64 [] x).length : Int) != 2) = true := by rw [bne_iff_ne]; omega
        clear HNXf HF HM64 hP h2
        generalize (spx 64 [] x).length = L at *
        go_wp2_with fail
        go_ret2
        rw [E.out]
        exact ⟨none, 0, rfl, World.ownsRow_nil _ _ _ _, HBX.out⟩
    · have hrs2 : ws.map wordR = rs.map some := by have := hrs.out; rwa [take_all hk hlt] at this
      have tb : VTbl wr O rs := ⟨StoO.row hown, fun p hp => by
        obtain ⟨j, hj⟩ := List.getElem?_of_mem hp
        have h9 : (ws.map wordR)[j]? = some (some p) := by rw [hrs2, List.getElem?_map, hj]; rfl
        rw [List.getElem?_map] at h9
        cases hwj : ws[j]? with
        | none => rw [hwj] at h9; cases h9
        | some x =>
          rw [hwj] at h9
          have h8 := word_len (Option.some.inj h9)
          have h7 := HML.out x (List.mem_of_getElem? hwj)
          simp at h7
          unfold Sto.sz; omega, by omega⟩
      rcases Bool.eq_false_or_eq_true (voyB rs) with hvv | hvv
      · have E := Lib.hid (HY.out rs hrs2 hvv)
        have HV := Lib.hid (voyS_q (c := q) tb hvv)
        have HOW := Lib.hid hown
        clear hrs2 tb hvv hwo hsep hrs hown HY HN
        go_wp2_with fail
        refine HV.out.mono ?_
        rintro e w3 ⟨rfl, b3⟩
        go_wp2_with fail
        go_ret2
        rw [E.out]
        exact ⟨O, q, rfl, HOW.out.below b3, belowGo hb b3⟩
      · have E := Lib.hid (HN.out rs hrs2 hvv)
        have HV := Lib.hid (voyS_q (c := q) tb hvv)
        clear hrs2 tb hvv hwo hsep hrs hown HY HN
        go_wp2_with fail
        refine HV.out.mono ?_
        rintro e w3 ⟨rfl, b3⟩
        go_wp2_with fail
        go_ret2
        rw [E.out]
        exact ⟨none, 0, rfl, World.ownsRow_nil _ _ _ _, belowGo hb b3⟩
end Go.Proofs.YtklhcofonkmiiaaGreatDoor

