/- spec.l07Text, spec.VoyageText. (by gen_vts.py) -/
import Derived.Test.YtklhcofonkmiiaaDoorVtx
import Derived.Test.YtklhcofonkmiiaaDoorVos
namespace Go.Proofs.YtklhcofonkmiiaaDoor
open Go.ChangeShapes Go.WideShapes Go.ChangeAt Go.RowKit
set_option linter.unusedVariables false

theorem date_y {S : World → Prop} {n : Int} {Y M D : Nat} (h : DIs n Y M D) (y : Sub S) (hS : ∀ w', Below y.w.heap.size y.w w' → S w') : Calls Tryd.prog 21 #[.int .i64 n] y.w fun e w' => e = .returned (.agg #[.int .i64 Y, .int .i64 M, .int .i64 D]) ∧ ∃ z : Sub S, w' = z.w := by
  have hn := numd_in h.1
  rw [h.2] at hn
  refine (date_s n y.w hn.1 hn.2).mono ?_
  rintro e w' ⟨a, b, c, rfl, h1, h2, h3⟩
  obtain ⟨rfl, rfl, rfl⟩ := numd_inj h1 h.1 (h2.trans h.2.symm)
  exact ⟨rfl, ⟨w', hS w' h3⟩, rfl⟩
def TB (Y M D : Nat) : Prop := 1970 ≤ Y ∧ Y ≤ 2069 ∧ M < 100 ∧ D < 100
theorem text_y {S : World → Prop} {Y M D : Nat} (h : TB Y M D) (y : Sub S) (hS : ∀ w', Below y.w.heap.size y.w w' → S w') : Calls Tryd.prog 20 #[.agg #[.int .i64 Y, .int .i64 M, .int .i64 D]] y.w fun e w' => e = .returned (.string ⟨(dtext Y M D).toArray⟩) ∧ ∃ z : Sub S, w' = z.w := by
  obtain ⟨a, b, c, d⟩ := h
  exact (ltext_s Y M D (by omega) c d y.w).mono fun e w' k => ⟨k.1, ⟨w', hS w' k.2⟩, rfl⟩
set_option maxRecDepth 100000 in
set_option maxHeartbeats 4000000 in
theorem ltextV_s (A : Option Addr) (c : Nat) (ps : List Sto) (w : World) (hR : StoR w A ps) (hok : ∀ p ∈ ps, p.ok = true) (hn : ps.length ≤ 11) :
    Calls Tryd.prog 11 #[.slice A ps.length c] w (Gives1 w (vtxt ps)) := by
  have HR := Lib.hid hR
  have HOK := Lib.hid (fun (k : Nat) (r : Sto) (hr : ps[k]? = some r) => hok r (List.mem_of_getElem? hr))
  have HTL := Lib.hid (vtxt_leK hok)
  clear hR hok
  go_enter Tryd.func11, Tryd.ntmps11
  go_wp2_with fail
  go_loopw [3, 4] (fun o i wr => ∃ k : Nat, k ≤ ps.length ∧ i = .int .i64 k ∧ o = .string ⟨(vtxt (ps.take k)).toArray⟩ ∧ Below w.heap.size w wr) (fun _ i _ => ps.length - (intOf i).toNat)
  case atStart => exact ⟨0, Nat.zero_le _, rfl, rfl, Below.refl _ _⟩
  case round =>
    obtain ⟨k, hk, rfl, rfl, hb⟩ := hrel
    by_cases hlt : k < ps.length
    · obtain ⟨b, off, p, rfl, hl, hp, h4⟩ := (HR.out.below hb).at hlt
      obtain ⟨hpc, ⟨i0, i1⟩, ⟨o0, o1⟩, hio⟩ := sok (HOK.out k p hp.out)
      have lc : p.p.length ≤ 6 := (pcode_iff.1 hpc).1.2
      obtain ⟨Y1, M1, D1, hd1⟩ := date_exI (inr_iff.2 ⟨i0, i1⟩)
      obtain ⟨Y2, M2, D2, hd2⟩ := date_exI (inr_iff.2 ⟨o0, o1⟩)
      have ld1 := dtext_le (M := M1) (D := D1) hd1.bd.2.1
      have ld2 := dtext_le (M := M2) (D := D2) hd2.bd.2.1
      have q0 : ∀ y : Sub (Bel wr), y.w.cell? ⟨b, off + k * 3, none⟩ = some (.string ⟨p.p.toArray⟩) := fun y => (h4.below hl y.h).c0
      have q1 : ∀ y : Sub (Bel wr), y.w.cell? ⟨b, off + k * 3 + 1, none⟩ = some (.int .i64 p.i) := fun y => (h4.below hl y.h).c1
      have q2 : ∀ y : Sub (Bel wr), y.w.cell? ⟨b, off + k * 3 + 2, none⟩ = some (.int .i64 p.o) := fun y => (h4.below hl y.h).c2
      have HB := Lib.hid (fun y : Sub (Bel wr) => (belowGo hb y.h : Below w.heap.size w y.w))
      have hw : True := trivial
      clear hpc hio i0 i1 o0 o1
      by_cases hk0 : k = 0
      · obtain ⟨o2, ho⟩ : ∃ o2 : List UInt8, o2 = vtxt (ps.take k) := ⟨_, rfl⟩
        have HO2 : Hid (o2 = vtxt (ps.take k) ++ []) := Lib.hid (by rw [ho, List.append_nil])
        have HNX : Hid (vtxt (ps.take (k + 1)) = o2 ++ stxt p) := Lib.hid (by rw [snoc_of hp.out, ho, hk0, List.take_zero, List.nil_append, vtxt_one]; rfl)
        have hz : decide (0 < k) = false := by rw [decide_eq_false_iff_not]; omega
        rw [← ho]
        clear ho hk0
        have hL := HTL.out k (by omega)
        have ho2 : o2.length ≤ 700 := by rw [HO2.out]; simp only [List.length_append, List.length_cons, List.length_nil]; omega
        have g1 : ¬9223372036854775807 < o2.length + p.p.length := by omega
        have g2 : ¬9223372036854775807 < o2.length + p.p.length + 1 := by omega
        have g3 : ¬9223372036854775807 < o2.length + p.p.length + 1 + (dtext Y1 M1 D1).length := by omega
        have g4 : ¬9223372036854775807 < o2.length + p.p.length + 1 + (dtext Y1 M1 D1).length + 1 := by omega
        have g5 : ¬9223372036854775807 < o2.length + p.p.length + 1 + (dtext Y1 M1 D1).length + 1 + (dtext Y2 M2 D2).length := by omega
        have HS : Hid ((⟨o2.toArray⟩ ++ ⟨p.p.toArray⟩ ++ ⟨#[64]⟩ ++ ⟨(dtext Y1 M1 D1).toArray⟩ ++ ⟨#[126]⟩ ++ ⟨(dtext Y2 M2 D2).toArray⟩ : ByteArray) = ⟨(vtxt (ps.take (k + 1))).toArray⟩) := Lib.hid (by
          rw [show (⟨#[64]⟩ : ByteArray) = ⟨[64].toArray⟩ from rfl, show (⟨#[126]⟩ : ByteArray) = ⟨[126].toArray⟩ from rfl, str_app, str_app, str_app, str_app, str_app, HNX.out]
          congr 2
          unfold stxt
          rw [dayT_of hd1, dayT_of hd2]
          simp)
        have tb1 : TB Y1 M1 D1 := hd1.bd
        have tb2 : TB Y2 M2 D2 := hd2.bd
        have HT := Lib.hid (fun (Y M D : Nat) (h : TB Y M D) (y : Sub (Bel wr)) => text_y (S := Bel wr) h y (fun w' b => Bel.step y b))
        have HD := Lib.hid (fun (n : Int) (Y M D : Nat) (h : DIs n Y M D) (y : Sub (Bel wr)) => date_y (S := Bel wr) h y (fun w' b => Bel.step y b))
        clear hp h4 hw hL HTL ho2 HO2 HNX lc ld1 ld2
        go_wp2_with fail
        refine region_held (Bel wr) (by kernel_rfl) (by kernel_rfl) (Bel.drew wr) ?_
        repeat (go_big_quiet_step ((first | rfl | (go_at_call 21; exact HD.out _ _ _ _ (by assumption) _) | (go_at_call 20; exact HT.out _ _ _ (by assumption) _))))
        refine wpQuiet_nil ?_
        rintro _ ⟨y, rfl⟩
        go_wp2_with fail
        go_roundw
        case rel => exact ⟨k + 1, by omega, by go_num, by rw [HS.out], HB.out y⟩
        case measure => simp [intOf]; omega
      · obtain ⟨o2, ho⟩ : ∃ o2 : List UInt8, o2 = vtxt (ps.take k) ++ [32] := ⟨_, rfl⟩
        have HO2 : Hid (o2 = vtxt (ps.take k) ++ [32]) := Lib.hid ho
        have hne : ps.take k ≠ [] := fun e => by
          have h9 : (ps.take k).length = k := by rw [List.length_take]; omega
          rw [e] at h9
          exact hk0 h9.symm
        have HNX : Hid (vtxt (ps.take (k + 1)) = o2 ++ stxt p) := Lib.hid (by rw [snoc_of hp.out, vtxt_snoc hne, ho]; simp)
        have hz : decide (0 < k) = true := by rw [decide_eq_true_eq]; omega
        have s0 : (⟨(vtxt (ps.take k)).toArray⟩ ++ ⟨#[32]⟩ : ByteArray) = ⟨o2.toArray⟩ := by rw [ho]; exact str_app _ [32]
        have hL0 : (vtxt (ps.take k)).length ≤ 61 * k := HTL.out k (by omega)
        have g0 : ¬9223372036854775807 < (vtxt (ps.take k)).length + 1 := by omega
        clear ho hne hk0
        have hL := HTL.out k (by omega)
        have ho2 : o2.length ≤ 700 := by rw [HO2.out]; simp only [List.length_append, List.length_cons, List.length_nil]; omega
        have g1 : ¬9223372036854775807 < o2.length + p.p.length := by omega
        have g2 : ¬9223372036854775807 < o2.length + p.p.length + 1 := by omega
        have g3 : ¬9223372036854775807 < o2.length + p.p.length + 1 + (dtext Y1 M1 D1).length := by omega
        have g4 : ¬9223372036854775807 < o2.length + p.p.length + 1 + (dtext Y1 M1 D1).length + 1 := by omega
        have g5 : ¬9223372036854775807 < o2.length + p.p.length + 1 + (dtext Y1 M1 D1).length + 1 + (dtext Y2 M2 D2).length := by omega
        have HS : Hid ((⟨o2.toArray⟩ ++ ⟨p.p.toArray⟩ ++ ⟨#[64]⟩ ++ ⟨(dtext Y1 M1 D1).toArray⟩ ++ ⟨#[126]⟩ ++ ⟨(dtext Y2 M2 D2).toArray⟩ : ByteArray) = ⟨(vtxt (ps.take (k + 1))).toArray⟩) := Lib.hid (by
          rw [show (⟨#[64]⟩ : ByteArray) = ⟨[64].toArray⟩ from rfl, show (⟨#[126]⟩ : ByteArray) = ⟨[126].toArray⟩ from rfl, str_app, str_app, str_app, str_app, str_app, HNX.out]
          congr 2
          unfold stxt
          rw [dayT_of hd1, dayT_of hd2]
          simp)
        have tb1 : TB Y1 M1 D1 := hd1.bd
        have tb2 : TB Y2 M2 D2 := hd2.bd
        have HT := Lib.hid (fun (Y M D : Nat) (h : TB Y M D) (y : Sub (Bel wr)) => text_y (S := Bel wr) h y (fun w' b => Bel.step y b))
        have HD := Lib.hid (fun (n : Int) (Y M D : Nat) (h : DIs n Y M D) (y : Sub (Bel wr)) => date_y (S := Bel wr) h y (fun w' b => Bel.step y b))
        clear hp h4 hw hL HTL ho2 HO2 HNX lc ld1 ld2
        go_wp2_with fail
        clear s0 g0 hL0
        refine region_held (Bel wr) (by kernel_rfl) (by kernel_rfl) (Bel.drew wr) ?_
        repeat (go_big_quiet_step ((first | rfl | (go_at_call 21; exact HD.out _ _ _ _ (by assumption) _) | (go_at_call 20; exact HT.out _ _ _ (by assumption) _))))
        refine wpQuiet_nil ?_
        rintro _ ⟨y, rfl⟩
        go_wp2_with fail
        go_roundw
        case rel => exact ⟨k + 1, by omega, by go_num, by rw [HS.out], HB.out y⟩
        case measure => simp [intOf]; omega
    · have E : Hid (vtxt (ps.take k) = vtxt ps) := Lib.hid (by rw [take_all hk hlt])
      clear HR HOK HTL
      go_wp2_with fail
      go_ret
      exact ⟨by rw [E.out] <;> rfl, hb⟩
theorem vtext_s (A : Option Addr) (c : Nat) (ps : List Sto) (w : World) (h : VTblC w A c ps) :
    Calls Tryd.prog 5 #[.slice A ps.length c] w (Text2 w (voyT ps)) := by
  have HR := Lib.hid h.row
  have h := h.tbl
  rcases Bool.eq_false_or_eq_true (voyB ps) with hv | hv
  · have E := Lib.hid (voyT_ok hv)
    obtain ⟨hn1, hn10⟩ := (voy_iff.1 hv).2
    have HT := Lib.hid (fun W hR => ltextV_s A c ps W hR (voy_all_ok hv) (by omega))
    have HV := Lib.hid (voyS_q (c := c) h hv)
    generalize voyT ps = r at *
    clear h hv
    go_enter Tryd.func5, Tryd.ntmps5
    go_wp2_with fail
    refine HV.out.mono ?_
    rintro e w1 ⟨rfl, b1⟩
    go_wp2_with fail
    refine (HT.out _ (HR.out.below b1)).mono ?_
    rintro e w2 ⟨rfl, b2⟩
    go_wp2_with fail
    go_ret2
    exact ⟨by rw [E.out] <;> rfl, belowGo b1 b2⟩
  · have E := Lib.hid (voyT_no hv)
    have HV := Lib.hid (voyS_q (c := c) h hv)
    generalize voyT ps = r at *
    clear h hv
    go_enter Tryd.func5, Tryd.ntmps5
    go_wp2_with fail
    refine HV.out.mono ?_
    rintro e w1 ⟨rfl, b1⟩
    go_wp2_with fail
    go_ret2
    exact ⟨by rw [E.out] <;> rfl, b1⟩
end Go.Proofs.YtklhcofonkmiiaaDoor
