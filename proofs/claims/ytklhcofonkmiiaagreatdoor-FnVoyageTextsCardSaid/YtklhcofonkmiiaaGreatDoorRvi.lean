/- impl.readDay, impl.readStop, impl.ReadVoyage. -/
import Derived.Test.YtklhcofonkmiiaaGreatDoorRvt
import Derived.Test.YtklhcofonkmiiaaGreatDoorVti
import Derived.Test.YtklhcofonkmiiaaGreatDoorRdi
namespace Go.Proofs.YtklhcofonkmiiaaGreatDoor
open Go.ChangeShapes Go.WideShapes Go.ChangeAt Go.RowKit
set_option linter.unusedVariables false

theorem readDay_i (s : List UInt8) (hl : s.length ≤ 1048576) (w : World) (h : Lib3 w) : Calls Tryz.prog 49 #[.string ⟨s.toArray⟩] w fun e w' => e = .returned (.int .i64 (rday s)) ∧ Below w.heap.size w w' := by
  have HR := Lib.hid (rdate_i s hl w h)
  have E : Hid (rday s = (dayR (rdR s).1 (rdR s).2.1 (rdR s).2.2.1).1) := Lib.hid rfl
  obtain ⟨⟨y, m, d, c⟩, hR⟩ : ∃ R, R = rdR s := ⟨_, rfl⟩
  rw [← hR] at HR E
  clear hR
  simp only at E
  have HD := Lib.hid (fun w => dayOf_i y m d w)
  generalize dayR y m d = q at *
  go_enter Tryz.func49, Tryz.ntmps49
  go_wp2_with fail
  refine HR.out.mono ?_
  rintro e w1 ⟨rfl, b1⟩
  have bX := Lib.hid (b1.alloc b1.size (.cells #[.int .i64 y, .int .i64 m, .int .i64 d] 50))
  clear HR
  go_wp2_with fail
  refine (HD.out _).mono ?_
  rintro e w2 ⟨rfl, b2⟩
  go_wp2_with fail
  go_ret
  exact ⟨by rw [E.out] <;> rfl, belowGo bX.out b2⟩
set_option maxHeartbeats 2000000 in
theorem readStop_i (s : List UInt8) (hl : s.length ≤ 1048576) (w : World) (h : Lib3 w) :
    Calls Tryz.prog 27 #[.string ⟨s.toArray⟩] w (Gives w (.agg #[.string ⟨(rstop s).p.toArray⟩, .int .i64 (rstop s).i, .int .i64 (rstop s).o])) := by
  have h0 := heap_alloc_new w (.cells #[.string ⟨#[]⟩, .int .i64 0, .int .i64 0] 40)
  have B0 := below_alloc w (.cells #[.string ⟨#[]⟩, .int .i64 0, .int .i64 0] 40)
  have L0 := Lib.hid (h.below B0)
  have HC1 := Lib.hid (fun w => cut_i s 64 w hl)
  have E : Hid (rstop s = ⟨(cutL s 64).1, rday (cutL (cutL s 64).2.1 126).1, rday (cutL (cutL s 64).2.1 126).2.1⟩) := Lib.hid rfl
  have hl1 := cut_len s 64
  obtain ⟨⟨a, r, f⟩, hR⟩ : ∃ R, R = cutL s 64 := ⟨_, rfl⟩
  rw [← hR] at HC1 E hl1
  clear hR
  simp only at E hl1
  have HC2 := Lib.hid (fun w => cut_i r 126 w (by omega))
  have hl2 := cut_len r 126
  obtain ⟨⟨b, d, f2⟩, hR⟩ : ∃ R, R = cutL r 126 := ⟨_, rfl⟩
  rw [← hR] at HC2 E hl2
  clear hR
  simp only at E hl2
  have HD1 := Lib.hid (fun w h => readDay_i b (by omega) w h)
  have HD2 := Lib.hid (fun w h => readDay_i d (by omega) w h)
  generalize rday b = n1 at *
  generalize rday d = n2 at *
  go_enter Tryz.func27, Tryz.ntmps27
  go_wp2_with fail
  refine (HC1.out _).mono ?_
  rintro e w1 ⟨rfl, b1⟩
  have t1 := belowGo B0 b1
  have o1 := (keep6 b1 h0).1
  clear h0 HC1
  go_wp2_with fail
  refine (HC2.out _).mono ?_
  rintro e w2 ⟨rfl, b2⟩
  have t2 := belowGo t1 b2
  have o2 := (keep6 b2 o1).1
  have L2 := Lib.hid (h.below t2)
  clear o1 HC2 L0
  go_wp2_with fail
  refine (HD1.out _ L2.out).mono ?_
  rintro e w3 ⟨rfl, b3⟩
  have t3 := belowGo t2 b3
  have o3 := (keep6 b3 o2).1
  have L3 := Lib.hid (h.below t3)
  clear o2 HD1 L2
  go_wp2_with fail
  refine (HD2.out _ L3.out).mono ?_
  rintro e w4 ⟨rfl, b4⟩
  have t4 := belowGo t3 b4
  obtain ⟨o4, c0, c1, c2, f0, f1, f2⟩ := keep6 b4 o3
  clear o3 HD2 L3
  go_wp2_with fail
  obtain ⟨W, hW, g0, g1, g2, bW⟩ := done3 o4 (.string ⟨a.toArray⟩) (.int .i64 n1) (.int .i64 n2)
  rw [hW]
  have b6 := bW w.heap.size w (Nat.le_refl _) t4
  clear hW o4 c0 c1 c2 f0 f1 f2 bW t1 t2 t3 t4 b1 b2 b3 b4 B0 h
  exact bodyPost_ret (v := .agg #[.string ⟨a.toArray⟩, .int .i64 n1, .int .i64 n2]) (by simp [results, Tryz.results27, go_sem, g0, g1, g2]) rfl ⟨by rw [E.out], b6⟩
set_option maxRecDepth 100000 in
set_option maxHeartbeats 8000000 in
theorem rvoy_i (s : List UInt8) (hl : s.length ≤ 1048576) (w : World) (h : Lib3 w) : Calls Tryz.prog 10 #[.string ⟨s.toArray⟩] w (NewStosC w (rvR s)) := by
  obtain ⟨i0, hi, hz0, hz1, hz2⟩ := info_parts stoInfo
  have HO0 := made0t w w.heap.size 40 3 (Nat.le_refl _)
  have B0 := below_alloc w (Obj.cells #[] 40)
  have HS := Lib.hid (fun w => splitn_i s hl w)
  have EW : Hid (spn (if s.length < 10 then s.length else 10) s = wordsI s) := Lib.hid rfl
  rw [EW.out] at HS
  have HML := Lib.hid (fun x (hx : x ∈ wordsI s) => spn_mem _ s x (by rw [EW.out]; exact hx))
  have hwl : (wordsI s).length ≤ 11 := by
    have hK : (if s.length < 10 then s.length else 10) ≤ 10 := by split <;> omega
    have := spn_len (if s.length < 10 then s.length else 10) s
    rw [← EW.out]; omega
  have HY := Lib.hid (fun h => rv_yes (s := s) h)
  have HN := Lib.hid (fun h => rv_none (s := s) h)
  clear EW
  generalize wordsI s = ws at *
  generalize rvR s = Q at *
  go_enter Tryz.func10, Tryz.ntmps10
  go_wp2_with fail
  refine (HS.out _).mono ?_
  rintro e w1 ⟨A, c, rfl, hW1, b1⟩
  have t1 := belowGo B0 b1
  have hO1 := own_below HO0 b1
  have hS1 : Sep (.slice (some ⟨w.heap.size, 0, none⟩) 0 0) (.slice A ws.length c) := by
    intro k hk hv
    have := (hW1.lt k hv).1
    simp [Value.ownBlock] at hk
    simp at this; omega
  have hW1' := hW1
  clear HS HO0
  go_wp2_with fail
  go_loopw [4, 13] (fun v i wr => ∃ (k : Nat) (O : Option Addr) (q : Nat) (rs : List Sto), k ≤ ws.length ∧ i = .int .i64 k ∧ v = .slice O rs.length q ∧ rs.length ≤ k ∧ StoO wr w.heap.size O rs.length q rs ∧ Sep (.slice O rs.length q) (.slice A ws.length c) ∧ wr.ownsRow (w.alloc (Obj.cells #[] 40)).heap.size 9 1 (.slice A ws.length c) ws.length (ws.map encStr) ∧ Hid (rs = (ws.take k).map rstop) ∧ Below w.heap.size w wr) (fun _ i _ => ws.length - (intOf i).toNat)
  case atStart => exact ⟨0, some ⟨w.heap.size, 0, none⟩, 0, [], Nat.zero_le _, rfl, rfl, Nat.le_refl _, hO1, hS1, hW1, Lib.hid rfl, t1⟩
  case round =>
    clear hO1 hS1 hW1 hW1' t1 b1 B0
    obtain ⟨k, O, q, rs, hk, rfl, rfl, hrk, hown, hsep, hwo, hrs, hb⟩ := hrel
    by_cases hlt : k < ws.length
    · obtain ⟨g, off, x, rfl, hgl, hc, hx⟩ := (show Sr wr A ws from Rw.own hwo).at hlt
      have hxl : x.length ≤ 1048576 := Nat.le_trans (HML.out x (List.mem_of_getElem? hx.out)) hl
      have HRS := Lib.hid (readStop_i x hxl wr (h.below hb))
      have HNX : Hid (rs ++ [rstop x] = (ws.take (k + 1)).map rstop) := Lib.hid (by rw [snoc_of hx.out, List.map_append, hrs.out]; rfl)
      generalize rstop x = r at *
      clear hrs hx
      go_wp2_with fail
      refine HRS.out.mono ?_
      rintro e w3 ⟨rfl, b3⟩
      have hb3 := belowGo hb b3
      have hown3 : w3.ownsRow w.heap.size 40 3 (.slice O rs.length q) rs.length (rs.flatMap Sto.cells) := own_below hown b3
      have hwo3 := own_below hwo b3
      have hsz3 := hb3.size
      clear HRS hown hwo hb b3 hc
      go_wp2_with (at_builtin; refine wpList_push2 _ rfl (.tmp 17) (.tmp 20) 24 rfl w.heap.size 40 i0 _ 3 32 Tryz.underlying24 hi hz0 hz1 hz2 rfl (by decide) (.slice O rs.length q) rs.length _ rfl hown3 [.string ⟨r.p.toArray⟩, .int .i64 r.i, .int .i64 r.o] rfl (by simp [Value.oneCell']) rfl (by unfold maxLen; omega) (by omega) hsz3 ?_; intro v' w' hown' hg' hv')
      obtain ⟨O', q', rfl⟩ := own_form hown'
      have hwo' := own_sep hwo3 hsep hg'
      have hsep' := sep_push hwo3 hsep hv'
      have hb' := hb3.grown hg' hsz3 (fun k hk => (hown3.lt k hk).1)
      go_roundw
      case rel => exact ⟨k + 1, O', q', rs ++ [r], by omega, by go_num, by simp, by simp; omega, by simpa [StoO, Sto.cells] using hown', by simpa using hsep', hwo', HNX, hb'⟩
      case measure => simp [intOf]; omega
    · have hrs2 : rs = ws.map rstop := by have := hrs.out; rwa [take_all hk hlt] at this
      have hrl : rs.length ≤ 11 := by omega
      have tb : VTblC wr O q rs := ⟨⟨StoO.row hown, fun p hp => by
        rw [hrs2] at hp
        obtain ⟨x, hx, rfl⟩ := List.mem_map.1 hp
        exact Nat.le_trans (rstop_sz x) (Nat.le_trans (HML.out x hx) (by omega)), by omega⟩, sto_cap hown⟩
      have HT := Lib.hid (vtext_i O q rs wr tb (h.below hb).tab)
      rw [← hrs2] at HY HN
      obtain ⟨⟨T, tc⟩, hT⟩ : ∃ R, R = voyT rs := ⟨_, rfl⟩
      rw [← hT] at HT HY HN
      have HOW := Lib.hid hown
      clear hT tb hrs2 hwo hsep hrs hown
      go_wp2_with fail
      refine HT.out.mono ?_
      rintro e w3 ⟨rfl, b3⟩
      by_cases htc : tc = 0
      · subst htc
        by_cases hts : T = s
        · have E := Lib.hid (HY.out (by rw [hts]))
          have e5 : (T == s) = true := by simp [hts]
          clear HY HN hts
          go_wp2_with fail
          go_ret2
          rw [E.out]
          exact ⟨O, q, rfl, HOW.out.below b3, belowGo hb b3⟩
        · have E := Lib.hid (HN.out (fun e => hts (Prod.mk.inj e).1))
          have e5 : (T == s) = false := by simp [hts]
          clear HY HN hts
          go_wp2_with fail
          go_ret2
          rw [E.out]
          exact ⟨none, 0, rfl, World.ownsRow_nil _ _ _ _, belowGo hb b3⟩
      · have E := Lib.hid (HN.out (fun e => htc (Prod.mk.inj e).2))
        have e5 : (tc != 0) = true := by simpa using htc
        clear HY HN
        go_wp2_with fail
        go_ret2
        rw [E.out]
        exact ⟨none, 0, rfl, World.ownsRow_nil _ _ _ _, belowGo hb b3⟩
end Go.Proofs.YtklhcofonkmiiaaGreatDoor
