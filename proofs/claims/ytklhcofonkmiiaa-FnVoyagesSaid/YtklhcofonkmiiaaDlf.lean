/- DelayBy of impl. (by gen_dly.py) -/
import Derived.Test.YtklhcofonkmiiaaDly
namespace Go.Proofs.Ytklhcofonkmiiaa
open Go.ChangeShapes Go.WideShapes Go.ChangeAt Go.RowKit
set_option linter.unusedVariables false

set_option maxRecDepth 100000 in
set_option maxHeartbeats 8000000 in
theorem delay_go_i (A : Option Addr) (c : Nat) (ps : List Sto) (k : Nat) (r : Sto) (d : Int) (w : World) (h : VTblC w A c ps) (hv : voyB ps = true) (h1 : inr d 0 1000 = true) (h2 : inr (k : Int) 0 ((ps.length : Int) - 1) = true) (hk : k < ps.length) (hr : ps[k]? = some r)
    (Q : List Sto × Int) (hQ0 : voyB (dlyV ps k d ps.length) = true → Q = (dlyV ps k d ps.length, 0)) (hQ1 : voyB (dlyV ps k d ps.length) = false → Q = ([], 3)) :
    Calls Try.prog 24 #[.slice A ps.length c, .int .i64 (k : Int), .int .i64 d] w (NewStosC w Q) := by
  have HR0 := Lib.hid h.row
  obtain ⟨hn1, hn10⟩ := (voy_iff.1 hv).2
  have HT := Lib.hid (voyI_q (c := c) h.tbl hv)
  have hd := inr_iff.1 h1
  have HOK := Lib.hid (fun (m : Nat) (q : Sto) (hq : ps[m]? = some q) => (voy_ok hv hq).2)
  have HX := Lib.hid hr
  have htx := Lib.hid (dly_sz (k := k) (d := d) (j := ps.length) h.tbl.txt)
  have HQ0 := Lib.hid hQ0
  have HQ1 := Lib.hid hQ1
  obtain ⟨⟨ri0, ri1⟩, ⟨ro0, ro1⟩, rio⟩ := HOK.out k r hr
  have HD0 := Lib.hid (dly_0 (d := d) hr)
  have HDS := Lib.hid (fun (j : Nat) (q : Sto) (hj : k < j) (hq : ps[j]? = some q) => dly_s (d := d) hj hq)
  have HDA := Lib.hid (fun (j : Nat) (q : Sto) (hj : k < j) (hq : ps[j]? = some q) => (by have := dly_at (k := k) (d := d) (j := j) hq; rw [if_neg (by omega), if_neg (by omega)] at this; exact this : (dlyV ps k d j)[j]? = some q))
  have HDL := Lib.hid (fun (j : Nat) => dly_len ps k d j)
  obtain ⟨b, off, rfl⟩ : ∃ b off, A = some ⟨b, off, none⟩ := by obtain ⟨b, off, r, e, _⟩ := HR0.out.at hk; exact ⟨b, off, e⟩
  obtain ⟨n, hnn⟩ : ∃ n, n = ps.length := ⟨_, rfl⟩
  clear h hv hr hQ0 hQ1
  go_enter Try.func24, Try.ntmps24
  clear hnn
  go_wp2_with fail
  refine HT.out.mono ?_
  rintro e w1 ⟨rfl, b1⟩
  clear HT
  go_wp2_with (go_at_call 52; refine (within_q (by assumption) _).mono ?_; rintro e w2 ⟨rfl, rfl⟩)
  refine (cloneV_i b off c ps _ (HR0.out.below b1) (by omega) (by omega)).mono ?_
  rintro e w3 ⟨g, q, rfl, ho, b3⟩
  have B3 := b1.trans (b3.mono b1.size)
  have D3 : DRow w3 w.heap.size g q ps := ⟨ho.mono b1.size⟩
  have hnq := sto_cap ho
  obtain ⟨c1, c2, f1, f2, hgw⟩ := D3.read HX.out
  have HP := Lib.hid (D3.put1 HX.out (r.o + d))
  rw [HD0.out] at HP
  have HB4 := Lib.hid (B3.setCell (p := ⟨g, k * 3 + 2, none⟩) hgw (.int .i64 (r.o + d)))
  have hL : Hid ((dlyV ps k d (k + 1)).length = ps.length) := Lib.hid (HDL.out _)
  have hk1 : (k : Int) + 1 ≤ (ps.length : Int) := by omega
  clear D3 B3 HD0 ho b3 b1
  by_cases hqk : q = k + 1
  · subst hqk
    have HLE : Hid (ps.length = k + 1) := Lib.hid (by omega)
    go_wp2_with fail
    go_loopw [42] (fun i wr => i = .int .i64 0 ∧ DRow wr w.heap.size g (k + 1) (dlyV ps k d (k + 1)) ∧ Below w.heap.size w wr) (fun i _ => 0)
    case atStart => exact ⟨rfl, HP.out, HB4.out⟩
    case round =>
      clear HP HB4 c1 c2 f1 f2 hgw HX HOK HDS HDA
      obtain ⟨rfl, hD', hb⟩ := hrel
      have hD : DRow wr w.heap.size g (k + 1) (dlyV ps k d ps.length) := by have e := HLE.out; rw [e]; exact hD'
      clear hD'
      have HO5 := hD.own
      rw [HDL.out] at HO5
      have tb : VTbl wr (some ⟨g, 0, none⟩) (dlyV ps k d ps.length) := ⟨HO5.row, htx.out, by rw [HDL.out]; omega⟩
      rcases Bool.eq_false_or_eq_true (voyB (dlyV ps k d ps.length)) with hvv | hvv
      · have E := Lib.hid (HQ0.out hvv)
        have HV := Lib.hid (voyI_q (c := k + 1) tb hvv)
        rw [HDL.out] at HV
        have HOO := Lib.hid HO5
        clear HO5 tb hD hvv
        go_wp2_with (go_at_call 33; refine HV.out.mono ?_; rintro e w4 ⟨rfl, b4⟩)
        go_ret2
        rw [E.out]
        refine ⟨some ⟨g, 0, none⟩, k + 1, by rw [HDL.out] <;> rfl, ?_, belowGo hb b4⟩
        rw [HDL.out]
        exact HOO.out.below b4
      · have E := Lib.hid (HQ1.out hvv)
        have HV := Lib.hid (voyI_q (c := k + 1) tb hvv)
        rw [HDL.out] at HV
        clear HO5 tb hD hvv
        go_wp2_with (go_at_call 33; refine HV.out.mono ?_; rintro e w4 ⟨rfl, b4⟩)
        go_ret2
        rw [E.out]
        exact ⟨none, 0, rfl, World.ownsRow_nil _ _ _ _, belowGo hb b4⟩
  · have hqk2 : ¬ (q = k + 1) := hqk
    go_wp2_with fail
    go_loopw [42] (fun i wr => ∃ j : Nat, k + 1 + j ≤ ps.length ∧ i = .int .i64 j ∧ DRow wr w.heap.size g q (dlyV ps k d (k + 1 + j)) ∧ Below w.heap.size w wr) (fun i _ => ps.length - (k + 1) - (intOf i).toNat)
    case atStart => exact ⟨0, by omega, rfl, HP.out, HB4.out⟩
    case round =>
      clear HP HB4 c1 c2 f1 f2 hgw
      obtain ⟨j, hj, rfl, hD, hb⟩ := hrel
      by_cases hlt : k + 1 + j < ps.length
      · obtain ⟨r2, hr2⟩ : ∃ r2, ps[k + 1 + j]? = some r2 := ⟨_, List.getElem?_eq_getElem hlt⟩
        obtain ⟨c1, c2, f1, f2, hgw⟩ := hD.read (HDA.out _ _ (by omega) hr2)
        have HP := Lib.hid (hD.put2 (HDA.out _ _ (by omega) hr2) (r2.i + d) (r2.o + d))
        have HS := Lib.hid (HDS.out _ _ (by omega) hr2)
        unfold shf at HS
        rw [HS.out] at HP
        obtain ⟨⟨si0, si1⟩, ⟨so0, so1⟩, sio⟩ := HOK.out _ r2 hr2
        have HB5 := Lib.hid ((hb.setCell (p := ⟨g, (k + 1 + j) * 3 + 1, none⟩) hgw (.int .i64 (r2.i + d))).setCell (p := ⟨g, (k + 1 + j) * 3 + 2, none⟩) hgw (.int .i64 (r2.o + d)))
        have ha : (k + 1 + j) * 3 = (k + 1) * 3 + j * 3 := by omega
        rw [ha] at c1 c2 f1 f2 HP HB5
        have hj2 : j < ps.length - (k + 1) := by omega
        clear hD hr2 hb HS ha
        go_wp2_with fail
        go_roundw
        case rel => exact ⟨j + 1, by omega, by go_num, HP.out, HB5.out⟩
        case measure => simp [intOf]; omega
      · have hje : k + 1 + j = ps.length := by omega
        rw [hje] at hD
        have hdz : decide ((j : Int) < ((ps.length - (k + 1) : Nat) : Int)) = false := by rw [decide_eq_false_iff_not]; omega
        clear hje
        clear HX HOK HDS HDA
        have HO5 := hD.own
        rw [HDL.out] at HO5
        have tb : VTbl wr (some ⟨g, 0, none⟩) (dlyV ps k d ps.length) := ⟨HO5.row, htx.out, by rw [HDL.out]; omega⟩
        rcases Bool.eq_false_or_eq_true (voyB (dlyV ps k d ps.length)) with hvv | hvv
        · have E := Lib.hid (HQ0.out hvv)
          have HV := Lib.hid (voyI_q (c := q) tb hvv)
          rw [HDL.out] at HV
          have HOO := Lib.hid HO5
          clear HO5 tb hD hvv
          go_wp2_with (go_at_call 33; refine HV.out.mono ?_; rintro e w4 ⟨rfl, b4⟩)
          go_ret2
          rw [E.out]
          refine ⟨some ⟨g, 0, none⟩, q, by rw [HDL.out] <;> rfl, ?_, belowGo hb b4⟩
          rw [HDL.out]
          exact HOO.out.below b4
        · have E := Lib.hid (HQ1.out hvv)
          have HV := Lib.hid (voyI_q (c := q) tb hvv)
          rw [HDL.out] at HV
          clear HO5 tb hD hvv
          go_wp2_with (go_at_call 33; refine HV.out.mono ?_; rintro e w4 ⟨rfl, b4⟩)
          go_ret2
          rw [E.out]
          exact ⟨none, 0, rfl, World.ownsRow_nil _ _ _ _, belowGo hb b4⟩
set_option maxHeartbeats 1000000 in
theorem delay_i (A : Option Addr) (c : Nat) (ps : List Sto) (x d : Int) (w : World) (h : VTblC w A c ps) :
    Calls Try.prog 24 #[.slice A ps.length c, .int .i64 x, .int .i64 d] w (NewStosC w (dlyR ps x d)) := by
  have W := dway ps x d
  obtain ⟨Q, hQ⟩ : ∃ Q, Q = dlyR ps x d := ⟨_, rfl⟩
  rw [← hQ] at W
  rw [← hQ]
  clear hQ
  cases W with
  | bad hv =>
    have HT := Lib.hid (voyI_q (c := c) h.tbl hv)
    clear h hv
    go_enter Try.func24, Try.ntmps24
    go_wp2_with (go_at_call 33; refine HT.out.mono ?_; rintro e w1 ⟨rfl, b1⟩)
    go_ret2
    exact ⟨none, 0, rfl, World.ownsRow_nil _ _ _ _, b1⟩
  | days hv h1 =>
    have HT := Lib.hid (voyI_q (c := c) h.tbl hv)
    clear h hv
    go_enter Try.func24, Try.ntmps24
    go_wp2_with (first | (go_at_call 33; refine HT.out.mono ?_; rintro e w1 ⟨rfl, b1⟩) | (go_at_call 52; refine (within_q (by assumption) _).mono ?_; rintro e w2 ⟨rfl, rfl⟩))
    go_ret2
    exact ⟨none, 0, rfl, World.ownsRow_nil _ _ _ _, b1⟩
  | idx hv h1 h2 =>
    have HT := Lib.hid (voyI_q (c := c) h.tbl hv)
    obtain ⟨hn1, hn10⟩ := (voy_iff.1 hv).2
    clear h hv
    go_enter Try.func24, Try.ntmps24
    go_wp2_with (first | (go_at_call 33; refine HT.out.mono ?_; rintro e w1 ⟨rfl, b1⟩) | (go_at_call 52; refine (within_q (by assumption) _).mono ?_; rintro e w2 ⟨rfl, rfl⟩))
    go_ret2
    exact ⟨none, 0, rfl, World.ownsRow_nil _ _ _ _, b1⟩
  | lim k r hv h1 h2 e hk hr h3 =>
    subst e
    exact delay_go_i A c ps k r d w h hv h1 h2 hk hr _ (fun g => by rw [h3] at g; cases g) (fun _ => rfl)
  | ok k r hv h1 h2 e hk hr h3 =>
    subst e
    exact delay_go_i A c ps k r d w h hv h1 h2 hk hr _ (fun _ => rfl) (fun g => by rw [h3] at g; cases g)
end Go.Proofs.Ytklhcofonkmiiaa
