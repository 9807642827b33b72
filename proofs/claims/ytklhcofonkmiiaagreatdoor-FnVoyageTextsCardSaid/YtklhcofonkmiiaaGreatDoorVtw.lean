/- The law FnVoyageTexts. -/
import Derived.Test.YtklhcofonkmiiaaGreatDoorVlk
import Derived.Test.YtklhcofonkmiiaaGreatDoorRvi
import Derived.Test.YtklhcofonkmiiaaGreatDoorMRds
import Derived.Test.YtklhcofonkmiiaaGreatDoorMParse
namespace Go.Proofs.YtklhcofonkmiiaaGreatDoor
open Go.ChangeShapes Go.WideShapes Go.ChangeAt Go.RowKit
set_option linter.unusedVariables false

set_option maxRecDepth 100000 in
set_option maxHeartbeats 8000000 in
theorem law_FnVoyageTexts (A : Option Addr) (c : Nat) (bs : List Int) (w : World) (hA : Rw w A (bs.map (Value.int .u8))) (hm : bs.length ≤ maxLen) (hb : ∀ b ∈ bs, 0 ≤ b ∧ b ≤ 255) (hB : bs ≠ [] → Bd A w.heap.size)
    (ht : Tab w) (hs : ErrVar "strconv.ErrSyntax" w) (hr : ErrVar "strconv.ErrRange" w) :
    Calls Tryz.prog 3 #[.slice A bs.length c] w fun e w' => e = .returned (.bool true) ∧ Below w.heap.size w w' := by
  by_cases hl : 4096 < bs.length
  · have hd : decide (4096 < bs.length) = true := by simpa using hl
    go_enter Tryz.func3, Tryz.ntmps3
    go_wp2_with (go_at_call 5; refine (big_p _ _ _ _ hm).mono ?_; rintro e w' ⟨rfl, rfl⟩)
    go_ret
    exact ⟨rfl, Below.refl _ _⟩
  · have hd : decide (4096 < bs.length) = false := by simpa using hl
    have h0 : Code0 w A bs := ⟨hA, hB, hb, by omega⟩
    have L0 := Lib.hid (show Lib3 w from ⟨ht, hs, hr⟩)
    clear hA hB hb ht hs hr
    go_enter Tryz.func3, Tryz.ntmps3
    go_wp2_with (go_at_call 5; refine (big_p _ _ _ _ hm).mono ?_; rintro e w' ⟨rfl, rfl⟩)
    refine (drawVoyageText A c bs _ h0).mono ?_
    rintro e w1 ⟨B, d, x, rfl, hx, t1⟩
    have hx11 : x.length ≤ 11 := hx.1
    have V1 := Lib.hid hx.tbl
    clear hx
    have HTI := Lib.hid (fun w h g => vtext_i B d x w h g)
    have HTS := Lib.hid (fun w h => vtext_s B d x w h)
    have HTV := Lib.hid (@voyT_inv x)
    have HVI := Lib.hid (fun w (h : VTbl w B x) => isVoy_i B d x w h)
    rw [voyT_code x] at HVI
    generalize voyT x = r at *
    obtain ⟨t, bad⟩ := r
    simp only at HVI
    go_wp2_with fail
    refine (HTI.out _ V1.out (L0.out.below t1).tab).mono ?_
    rintro e w2 ⟨rfl, b2⟩
    have V2 := Lib.hid (V1.out.below b2)
    have t2 := belowGo t1 b2
    clear b2 V1 t1 HTI
    go_wp2_with fail
    refine (HTS.out _ V2.out).mono ?_
    rintro e w3 ⟨rfl, b3⟩
    have V3 := Lib.hid (V2.out.below b3)
    have t3 := belowGo t2 b3
    have h3 := h0.below t3
    clear b3 V2 t2 HTS
    go_wp2_with fail
    refine (drawReadVoyage A c bs _ h3).mono ?_
    rintro e w4 ⟨s, rfl, hsl, b4⟩
    have V4 := Lib.hid (V3.out.below b4)
    have t4 := belowGo t3 b4
    have HRI := Lib.hid (fun w h => rvoy_i s (by omega) w h)
    have HRS := Lib.hid (fun w => rvoy_s s (by omega) w)
    have HRV := Lib.hid (@rvR_inv s)
    have hyl := rvR_len s
    generalize rvR s = r at *
    obtain ⟨y, one⟩ := r
    simp only at hyl
    clear b4 V3 t3 h3 h0
    go_wp2_with fail
    refine (HRI.out _ (L0.out.below t4)).mono ?_
    rintro e w5 ⟨C5, d5, rfl, o5, b5⟩
    simp only at o5
    have V5 := Lib.hid (V4.out.below b5)
    have t5 := belowGo t4 b5
    clear b5 V4 t4 HRI
    go_wp2_with fail
    refine (HRS.out _).mono ?_
    rintro e w6 ⟨C6, d6, rfl, o6, b6⟩
    simp only at o6
    have V6 := Lib.hid (V5.out.below b6)
    have t6 := belowGo t5 b6
    have O5 := Lib.hid (o5.below b6)
    have O6 := Lib.hid o6
    clear b6 V5 t5 HRS o5 o6
    have n1 : (bad != bad) = false := by simp
    have n3 : (one != one) = false := by simp
    have n4 : (t != t) = false := by simp
    have n5 : (s != s) = false := by simp
    have n6 : ((bad == 0) != (bad == 0)) = false := by simp
    go_wp2_with fail
    refine (likeV C5 C6 d5 d6 y _ O5.out.row O6.out.row (by omega)).mono ?_
    rintro e w7 ⟨rfl, b7⟩
    have V7 := Lib.hid (V6.out.below b7)
    have t7 := belowGo t6 b7
    have O7 := Lib.hid (O5.out.below b7)
    clear b7 V6 t6 O5 O6
    go_wp2_with fail
    refine (HVI.out _ V7.out.tbl).mono ?_
    rintro e w8 ⟨rfl, b8⟩
    have V8 := Lib.hid (V7.out.below b8)
    have t8 := belowGo t7 b8
    have O8 := Lib.hid (O7.out.below b8)
    clear b8 V7 t7 O7 HVI
    by_cases h1 : one = 0
    · subst h1
      obtain ⟨hv, hvs⟩ := HRV.out rfl
      have HT2 := Lib.hid (fun w h g => vtext_i C5 d5 y w h g)
      rw [show voyT y = (s, 0) from hv] at HT2
      have VY := Lib.hid (vtbl_of O8.out hvs (by omega))
      clear hv hvs HRV O8
      go_wp2_with fail
      refine (HT2.out _ VY.out (L0.out.below t8).tab).mono ?_
      rintro e w9 ⟨rfl, b9⟩
      have V9 := Lib.hid (V8.out.below b9)
      have t9 := belowGo t8 b9
      clear b9 V8 t8 VY HT2
      by_cases h2 : bad = 0
      · subst h2
        obtain ⟨hq, hql⟩ := HTV.out rfl
        have HR2 := Lib.hid (fun w h => rvoy_i t (Nat.le_trans hql (by omega)) w h)
        rw [show rvR t = (x, 0) from hq] at HR2
        clear hq HTV
        go_wp2_with fail
        refine (HR2.out _ (L0.out.below t9)).mono ?_
        rintro e w10 ⟨C10, d10, rfl, o10, b10⟩
        simp only at o10
        have VA := Lib.hid (V9.out.below b10)
        have t10 := belowGo t9 b10
        have O10 := Lib.hid o10
        clear HR2 b10 V9 t9 o10
        go_wp2_with fail
        refine (likeV C10 B d10 d x _ O10.out.row VA.out.row (by omega)).mono ?_
        rintro e w11 ⟨rfl, b11⟩
        go_wp2_with fail
        go_ret
        exact ⟨rfl, belowGo t10 b11⟩
      · have h2 : (bad != 0) = true := bne_iff_ne.2 h2
        go_wp2_with fail
        go_ret
        exact ⟨rfl, t9⟩
    · have h1 : (one == 0) = false := beq_eq_false_iff_ne.2 h1
      by_cases h2 : bad = 0
      · subst h2
        obtain ⟨hq, hql⟩ := HTV.out rfl
        have HR2 := Lib.hid (fun w h => rvoy_i t (Nat.le_trans hql (by omega)) w h)
        rw [show rvR t = (x, 0) from hq] at HR2
        clear hq HTV
        go_wp2_with fail
        refine (HR2.out _ (L0.out.below t8)).mono ?_
        rintro e w10 ⟨C10, d10, rfl, o10, b10⟩
        simp only at o10
        have VA := Lib.hid (V8.out.below b10)
        have t10 := belowGo t8 b10
        have O10 := Lib.hid o10
        clear HR2 b10 V8 t8 o10
        go_wp2_with fail
        refine (likeV C10 B d10 d x _ O10.out.row VA.out.row (by omega)).mono ?_
        rintro e w11 ⟨rfl, b11⟩
        go_wp2_with fail
        go_ret
        exact ⟨rfl, belowGo t10 b11⟩
      · have h2 : (bad != 0) = true := bne_iff_ne.2 h2
        go_wp2_with fail
        go_ret
        exact ⟨rfl, t8⟩
end Go.Proofs.YtklhcofonkmiiaaGreatDoor
