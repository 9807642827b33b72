/- DelayBy of spec. (by gen_dly.py) -/
import Derived.Test.YtklhcofonkmiiaaDly
namespace Go.Proofs.Ytklhcofonkmiiaa
open Go.ChangeShapes Go.WideShapes Go.ChangeAt Go.RowKit
set_option linter.unusedVariables false

set_option maxRecDepth 100000 in
set_option maxHeartbeats 8000000 in
theorem delay_go_s (A : Option Addr) (c : Nat) (ps : List Sto) (k : Nat) (r : Sto) (d : Int) (w : World) (h : VTblC w A c ps) (hv : voyB ps = true) (h1 : inr d 0 1000 = true) (h2 : inr (k : Int) 0 ((ps.length : Int) - 1) = true) (hk : k < ps.length) (hr : ps[k]? = some r)
    (Q : List Sto × Int) (hQ0 : voyB (dlyV ps k d ps.length) = true → Q = (dlyV ps k d ps.length, 0)) (hQ1 : voyB (dlyV ps k d ps.length) = false → Q = ([], 3)) :
    Calls Try.prog 25 #[.slice A ps.length c, .int .i64 (k : Int), .int .i64 d] w (NewStosC w Q) := by
  have HR0 := Lib.hid h.row
  obtain ⟨hn1, hn10⟩ := (voy_iff.1 hv).2
  have HT := Lib.hid (voyS_q (c := c) h.tbl hv)
  have hd := inr_iff.1 h1
  have HOK := Lib.hid (fun (m : Nat) (q : Sto) (hq : ps[m]? = some q) => (voy_ok hv hq).2)
  have HX := Lib.hid hr
  have htx := Lib.hid (dly_sz (k := k) (d := d) (j := ps.length) h.tbl.txt)
  have HQ0 := Lib.hid hQ0
  have HQ1 := Lib.hid hQ1
  obtain ⟨⟨ri0, ri1⟩, ⟨ro0, ro1⟩, rio⟩ := HOK.out k r hr
  have HD0 := Lib.hid (dly_0 (d := d) hr)
  have HDS := Lib.hid (fun (j : Nat) (q : Sto) (hj : k < j) (hq : ps[j]? = some q) => dly_s (d := d) hj hq)
  have HDA := Lib.hid (fun (j : Nat) (q : Sto) (hj : k < j) (hq : ps[j]? = some q) => (by have := dly_at (k := k) (d := d) (j := j) hq; rw [if_neg (by omega), if_neg (by omega)] at this; exact this : (dlyV ps k d j)[j]? = some q))
  have HDL := Lib.hid (fun (j : Nat) => dly_len ps k d j)
  obtain ⟨b, off, rfl⟩ : ∃ b off, A = some ⟨b, off, none⟩ := by obtain ⟨b, off, r, e, _⟩ := HR0.out.at hk; exact ⟨b, off, e⟩
  obtain ⟨n, hnn⟩ : ∃ n, n = ps.length := ⟨_, rfl⟩
  clear h hv hr hQ0 hQ1
  go_enter Try.func25, Try.ntmps25
  clear hnn
  go_wp2_with fail
  refine HT.out.mono ?_
  rintro e w1 ⟨rfl, b1⟩
  clear HT
  have HO := Lib.hid (made0s w1 w.heap.size 35 3 b1.size)
  have HSZ : Hid (w.heap.size ≤ (w1.alloc (Obj.cells #[] 35)).heap.size) := Lib.hid (by have := b1.size; simp; omega)
  have HB := Lib.hid (b1.trans ((below_alloc w1 (Obj.cells #[] 35)).mono b1.size))
  have HC := Lib.hid (HR0.out.below HB.out)
  clear b1
  go_wp2_with (first | (go_at_call 54; refine (inn_q (by assumption) _).mono ?_; rintro e w2 ⟨rfl, rfl⟩) | (at_builtin; refine wpList_append_cl _ rfl (.tmp 24) (.tmp 25) rfl w.heap.size _ rfl HO.out b off c ps rfl HC.out (by omega) (by omega) HSZ.out ?_; intro g q w3 D3 hnq B3; obtain ⟨c1, c2, f1, f2, hgw⟩ := D3.read HX.out))
  replace B3 := HB.out.trans B3
  clear HO HSZ HB HC
  have HP := Lib.hid (D3.put1 HX.out (r.o + d))
  rw [HD0.out] at HP
  have HB4 := Lib.hid (B3.setCell (p := ⟨g, k * 3 + 2, none⟩) hgw (.int .i64 (r.o + d)))
  have hL : Hid ((dlyV ps k d (k + 1)).length = ps.length) := Lib.hid (HDL.out _)
  have hk1 : (k : Int) + 1 ≤ (ps.length : Int) := by omega
  clear D3 B3 HD0 
  go_loopw [9] (fun i wr => ∃ m : Nat, k < m ∧ m ≤ ps.length ∧ i = .int .i64 m ∧ DRow wr w.heap.size g q (dlyV ps k d m) ∧ Below w.heap.size w wr) (fun i _ => ps.length - (intOf i).toNat)
  case atStart => exact ⟨k + 1, by omega, by omega, by go_num, HP.out, HB4.out⟩
  case round =>
    clear HP HB4 c1 c2 f1 f2 hgw
    obtain ⟨m, hm1, hm2, rfl, hD, hb⟩ := hrel
    by_cases hlt : m < ps.length
    · obtain ⟨r2, hr2⟩ : ∃ r2, ps[m]? = some r2 := ⟨_, List.getElem?_eq_getElem hlt⟩
      obtain ⟨c1, c2, f1, f2, hgw⟩ := hD.read (HDA.out _ _ (by omega) hr2)
      have HP := Lib.hid (hD.put2 (HDA.out _ _ (by omega) hr2) (r2.i + d) (r2.o + d))
      have HS := Lib.hid (HDS.out _ _ (by omega) hr2)
      unfold shf at HS
      rw [HS.out] at HP
      obtain ⟨⟨si0, si1⟩, ⟨so0, so1⟩, sio⟩ := HOK.out _ r2 hr2
      have HB5 := Lib.hid ((hb.setCell (p := ⟨g, m * 3 + 1, none⟩) hgw (.int .i64 (r2.i + d))).setCell (p := ⟨g, m * 3 + 2, none⟩) hgw (.int .i64 (r2.o + d)))
      clear hD hr2 hb HS
      go_wp2_with fail
      go_roundw
      case rel => exact ⟨m + 1, by omega, by omega, by go_num, HP.out, HB5.out⟩
      case measure => simp [intOf]; omega
    · obtain rfl : m = ps.length := by omega
      have HO5 := hD.own
      rw [HDL.out] at HO5
      have tb : VTbl wr (some ⟨g, 0, none⟩) (dlyV ps k d ps.length) := ⟨HO5.row, htx.out, by rw [HDL.out]; omega⟩
      rcases Bool.eq_false_or_eq_true (voyB (dlyV ps k d ps.length)) with hvv | hvv
      · have E := Lib.hid (HQ0.out hvv)
        have HV := Lib.hid (voyS_q (c := q) tb hvv)
        rw [HDL.out] at HV
        have HOO := Lib.hid HO5
        clear HO5 tb hD hvv
        go_wp2_with (go_at_call 31; refine HV.out.mono ?_; rintro e w4 ⟨rfl, b4⟩)
        go_ret2
        rw [E.out]
        refine ⟨some ⟨g, 0, none⟩, q, by rw [HDL.out] <;> rfl, ?_, belowGo hb b4⟩
        rw [HDL.out]
        exact HOO.out.below b4
      · have E := Lib.hid (HQ1.out hvv)
        have HV := Lib.hid (voyS_q (c := q) tb hvv)
        rw [HDL.out] at HV
        clear HO5 tb hD hvv
        go_wp2_with (go_at_call 31; refine HV.out.mono ?_; rintro e w4 ⟨rfl, b4⟩)
        go_ret2
        rw [E.out]
        exact ⟨none, 0, rfl, World.ownsRow_nil _ _ _ _, belowGo hb b4⟩
set_option maxHeartbeats 1000000 in
theorem delay_s (A : Option Addr) (c : Nat) (ps : List Sto) (x d : Int) (w : World) (h : VTblC w A c ps) :
    Calls Try.prog 25 #[.slice A ps.length c, .int .i64 x, .int .i64 d] w (NewStosC w (dlyR ps x d)) := by
  have W := dway ps x d
  obtain ⟨Q, hQ⟩ : ∃ Q, Q = dlyR ps x d := ⟨_, rfl⟩
  rw [← hQ] at W
  rw [← hQ]
  clear hQ
  cases W with
  | bad hv =>
    have HT := Lib.hid (voyS_q (c := c) h.tbl hv)
    clear h hv
    go_enter Try.func25, Try.ntmps25
    go_wp2_with (go_at_call 31; refine HT.out.mono ?_; rintro e w1 ⟨rfl, b1⟩)
    go_ret2
    exact ⟨none, 0, rfl, World.ownsRow_nil _ _ _ _, b1⟩
  | days hv h1 =>
    have HT := Lib.hid (voyS_q (c := c) h.tbl hv)
    clear h hv
    go_enter Try.func25, Try.ntmps25
    go_wp2_with (first | (go_at_call 31; refine HT.out.mono ?_; rintro e w1 ⟨rfl, b1⟩) | (go_at_call 54; refine (inn_q (by assumption) _).mono ?_; rintro e w2 ⟨rfl, rfl⟩))
    go_ret2
    exact ⟨none, 0, rfl, World.ownsRow_nil _ _ _ _, b1⟩
  | idx hv h1 h2 =>
    have HT := Lib.hid (voyS_q (c := c) h.tbl hv)
    obtain ⟨hn1, hn10⟩ := (voy_iff.1 hv).2
    clear h hv
    go_enter Try.func25, Try.ntmps25
    go_wp2_with (first | (go_at_call 31; refine HT.out.mono ?_; rintro e w1 ⟨rfl, b1⟩) | (go_at_call 54; refine (inn_q (by assumption) _).mono ?_; rintro e w2 ⟨rfl, rfl⟩))
    go_ret2
    exact ⟨none, 0, rfl, World.ownsRow_nil _ _ _ _, b1⟩
  | lim k r hv h1 h2 e hk hr h3 =>
    subst e
    exact delay_go_s A c ps k r d w h hv h1 h2 hk hr _ (fun g => by rw [h3] at g; cases g) (fun _ => rfl)
  | ok k r hv h1 h2 e hk hr h3 =>
    subst e
    exact delay_go_s A c ps k r d w h hv h1 h2 hk hr _ (fun _ => rfl) (fun g => by rw [h3] at g; cases g)
end Go.Proofs.Ytklhcofonkmiiaa
