/- impl.InsertRefuge. -/
import Derived.Test.YtklhcofonkmiiaaWst
namespace Go.Proofs.Ytklhcofonkmiiaa
open Go.ChangeShapes Go.WideShapes Go.ChangeAt Go.RowKit
set_option linter.unusedVariables false

set_option maxRecDepth 100000 in
set_option maxHeartbeats 4000000 in
theorem refuge_i (A : Option Addr) (c : Nat) (ps : List Sto) (x : Sto) (w : World) (h : VTblC w A c ps) (hx : x.sz ≤ 1048600) :
    Calls Try.prog 21 #[.slice A ps.length c, .agg #[.string ⟨x.p.toArray⟩, .int .i64 x.i, .int .i64 x.o]] w (NewStosC w (insR ps x)) := by
  have kb := KeepV.new w x
  have h0 := (h.below kb.bel).tbl
  have hst := h.tbl.txt
  have hcap := h.cap
  have HR0 := Lib.hid h.row
  rcases Bool.eq_false_or_eq_true (voyB ps) with hv | hv
  · obtain ⟨hn1, hn10⟩ := (voy_iff.1 hv).2
    have HT := Lib.hid (voyI_q (c := c) h0 hv)
    have HS := Lib.hid (fun W hR => searchV_i A c ps x.i W hR (by omega) hv)
    have HEnd := Lib.hid (fun he => insV_end (s := x) hv he)
    have HMid := Lib.hid (fun a b => insV_mid (s := x) hv a b)
    have hple := plc_leV ps x.i
    obtain ⟨k, hkk⟩ : ∃ k, k = plcV ps x.i := ⟨_, rfl⟩
    rw [← hkk] at HS HEnd HMid hple
    clear h h0 hv hkk
    by_cases hend : k = 0 ∨ k = ps.length
    · have E := Lib.hid (HEnd.out hend)
      have z : ((k : Int) == 0) = true ∨ (((k : Int) == 0) = false ∧ ((k : Int) == (ps.length : Int)) = true) := by
        by_cases hk0 : k = 0
        · exact .inl (by rw [beq_iff_eq]; omega)
        · exact .inr ⟨beq_eq_false_iff_ne.2 (by omega), by rw [beq_iff_eq]; omega⟩
      clear HEnd HMid hend
      rcases z with z0 | ⟨z0, z1⟩
      all_goals
        go_enter Try.func21, Try.ntmps21
        go_wp2_with fail
        refine HT.out.mono ?_
        rintro e w1 ⟨rfl, b1⟩
        have kb1 := kb.step b1
        have c0 := kb1.cells.c0; have c1 := kb1.cells.c1; have c2 := kb1.cells.c2
        go_wp2_with fail
        refine (HS.out _ (HR0.out.below kb1.bel)).mono ?_
        rintro e w2 ⟨rfl, b2⟩
        have kb2 := kb1.step b2
        clear c0 c1 c2 HS HT
        go_wp2_with fail
        go_ret2
        rw [E.out]
        exact ⟨none, 0, rfl, World.ownsRow_nil _ _ _ _, kb2.bel⟩
    · have hk0 : k ≠ 0 := fun e => hend (.inl e)
      have hkn : k ≠ ps.length := fun e => hend (.inr e)
      have hklt : k < ps.length := by omega
      have z0 : ((k : Int) == 0) = false := beq_eq_false_iff_ne.2 (by omega)
      have z1 : ((k : Int) == (ps.length : Int)) = false := beq_eq_false_iff_ne.2 (by omega)
      have HM := Lib.hid (HMid.out hk0 hkn)
      have htx := Lib.hid (insAt_sz (k := k) hst hx)
      have HL := Lib.hid (insAt_len x (show k ≤ ps.length by omega))
      clear HEnd HMid hend hk0 hkn
      have hbA : ∃ b off, A = some ⟨b, off, none⟩ := by
        obtain ⟨b, off, r, e, _⟩ := HR0.out.at hklt; exact ⟨b, off, e⟩
      obtain ⟨b, off, rfl⟩ := hbA
      go_enter Try.func21, Try.ntmps21
      go_wp2_with fail
      refine HT.out.mono ?_
      rintro e w1 ⟨rfl, b1⟩
      have kb1 := kb.step b1
      have c0 := kb1.cells.c0; have c1 := kb1.cells.c1; have c2 := kb1.cells.c2
      go_wp2_with fail
      refine (HS.out _ (HR0.out.below kb1.bel)).mono ?_
      rintro e w2 ⟨rfl, b2⟩
      have kb2 := kb1.step b2
      clear c0 c1 c2 HS HT
      have c0 := kb2.cells.c0; have c1 := kb2.cells.c1; have c2 := kb2.cells.c2
      go_wp2_with fail
      refine (withStop_i b off c k ps x _ (HR0.out.below kb2.bel) (by omega) hcap hklt).mono ?_
      rintro e w3 ⟨O, q, rfl, ho, b3⟩
      have kb3 := kb2.bel.trans (b3.mono kb2.bel.size)
      have ho' := ho.mono kb2.bel.size
      have hq : (insAt ps k x).length = ps.length + 1 := HL.out
      rw [← hq] at ho'
      have tb : VTbl w3 O (insAt ps k x) := ⟨ho'.row, htx.out, by rw [hq]; omega⟩
      rcases Bool.eq_false_or_eq_true (voyB (insAt ps k x)) with hb | hb
      · have E : Hid (insR ps x = (insAt ps k x, 0)) := Lib.hid (by rw [HM.out, if_pos hb])
        have HV := Lib.hid (voyI_q (c := q) tb hb)
        rw [hq] at HV
        have HO := Lib.hid ho'
        clear c0 c1 c2 ho ho' tb hq HM htx hb b3
        go_wp2_with (go_at_call 33; refine HV.out.mono ?_; rintro e w4 ⟨rfl, b4⟩)
        go_ret2
        rw [E.out]
        exact ⟨O, q, by rw [HL.out] <;> rfl, HO.out.below b4, belowGo kb3 b4⟩
      · have E : Hid (insR ps x = ([], 5)) := Lib.hid (by rw [HM.out, if_neg (by rw [hb]; decide)])
        have HV := Lib.hid (voyI_q (c := q) tb hb)
        rw [hq] at HV
        clear c0 c1 c2 ho ho' tb hq HM htx hb b3
        go_wp2_with (go_at_call 33; refine HV.out.mono ?_; rintro e w4 ⟨rfl, b4⟩)
        go_ret2
        rw [E.out]
        exact ⟨none, 0, rfl, World.ownsRow_nil _ _ _ _, belowGo kb3 b4⟩
  · have HT := Lib.hid (voyI_q (c := c) h0 hv)
    have E := Lib.hid (insR_no (s := x) hv)
    clear h h0 hv
    go_enter Try.func21, Try.ntmps21
    go_wp2_with (go_at_call 33; refine HT.out.mono ?_; rintro e w1 ⟨rfl, b1⟩; have kb1 := kb.step b1)
    go_ret2
    rw [E.out]
    exact ⟨none, 0, rfl, World.ownsRow_nil _ _ _ _, kb1.bel⟩
end Go.Proofs.Ytklhcofonkmiiaa
