/- impl.codesWhere over ClientsOf's closure. (by gen_cw.py) -/
import Derived.Test.YtjgagiigpijaiaaDoorPof
namespace Go.Proofs.YtjgagiigpijaiaaDoor
open Go.ChangeShapes Go.WideShapes Go.ChangeAt Go.RowKit
set_option linter.unusedVariables false

theorem clo_agent (p : Pty) (x : List UInt8) (g : Nat) (w : World) (hc : w.cell? ⟨g, 0, none⟩ = some (.string ⟨x.toArray⟩)) (hg : g < w.heap.size) :
    Calls Tryd.prog 58 #[.agg #[.string ⟨p.c.toArray⟩, .int .i64 p.k, .string ⟨p.a.toArray⟩], .pointer (some ⟨g, 0, none⟩)] w (Gives w (.bool (p.a == x))) := by
  have B : ∀ o, Hid (Below w.heap.size w (w.alloc o)) := fun o => Lib.hid ((Below.refl _ _).alloc (Nat.le_refl _) _)
  have hc2 : ∀ o, (w.alloc o).cell? ⟨g, 0, none⟩ = some (.string ⟨x.toArray⟩) := fun o => ((B o).out.cell (p := ⟨g, 0, none⟩) hg).trans hc
  go_enter Tryd.func58, Tryd.ntmps58
  go_wp2_with fail
  go_ret
  exact ⟨rfl, (B _).out⟩
set_option maxRecDepth 100000 in
set_option maxHeartbeats 2000000 in
theorem where_agent (A : Option Addr) (c : Nat) (ps : List Pty) (x : List UInt8) (g : Nat) (w : World) (hR : PtyR w A ps) (hn : ps.length ≤ 1048576) (hc : w.cell? ⟨g, 0, none⟩ = some (.string ⟨x.toArray⟩)) (hg : g < w.heap.size) :
    Calls Tryd.prog 57 #[.slice A ps.length c, .func (.func 58) #[] #[.pointer (some ⟨g, 0, none⟩)]] w fun e w' => ∃ O d, e = .returned (.slice O (codesP (fun p => p.a == x) ps).length d) ∧ Ost w' w.heap.size O (codesP (fun p => p.a == x) ps).length d (codesP (fun p => p.a == x) ps) ∧ Below w.heap.size w w' := by
  obtain ⟨i0, hi, hz0, hz1, hz2⟩ := info_parts strInfo
  go_enter Tryd.func57, Tryd.ntmps57
  go_wp2_with fail
  go_loopw [5, 11] (fun o i wr => ∃ (k : Nat) (ys : List (List UInt8)), k ≤ ps.length ∧ i = .int .i64 k ∧ wr.ownsRow w.heap.size 9 1 o ys.length (ys.map encStr) ∧ Hid (ys = codesP (fun p => p.a == x) (ps.take k)) ∧ Below w.heap.size w wr) (fun _ i _ => ps.length - (intOf i).toNat)
  case atStart => exact ⟨0, [], Nat.zero_le _, rfl, made0p _ _ _ _ (Nat.le_refl _), Lib.hid rfl, (Below.refl _ _).alloc (Nat.le_refl _) _⟩
  case round =>
    obtain ⟨k, ys, hk, rfl, hown, hys, hb⟩ := hrel
    obtain ⟨O, q, rfl⟩ := own_form hown
    have hyl : ys.length ≤ k := by rw [hys.out]; have := codesP_len (fun p => p.a == x) (ps.take k); rw [List.length_take] at this; omega
    by_cases hlt : k < ps.length
    · obtain ⟨b, off, p, rfl, hl, hp, h4⟩ := (hR.below hb).at hlt
      have c0 := h4.c0; have c1 := h4.c1; have c2 := h4.c2
      have kn := KeepP.new wr p
      have HS := Lib.hid (codesP_snoc (fun p => p.a == x) (ps.take k) p)
      rw [← snoc_of hp.out, ← hys.out] at HS
      have hsz0 : g < (wr.alloc (.cells #[.string ⟨p.c.toArray⟩, .int .i64 p.k, .string ⟨p.a.toArray⟩] 35)).heap.size := Nat.lt_of_lt_of_le hg (Nat.le_trans hb.size kn.bel.size)
      have HC := Lib.hid (clo_agent p x g (wr.alloc (.cells #[.string ⟨p.c.toArray⟩, .int .i64 p.k, .string ⟨p.a.toArray⟩] 35)) (((belowGo hb kn.bel).cell (p := ⟨g, 0, none⟩) hg).trans hc) hsz0)
      have HO := Lib.hid (own_below hown kn.bel)
      have HB := Lib.hid (belowGo hb kn.bel)
      have HK := Lib.hid kn
      clear hR h4 hp hys hown kn hsz0
      rcases Bool.eq_false_or_eq_true (p.a == x) with he | he
      · have HS2 : Hid (ys ++ [p.c] = codesP (fun p => p.a == x) (ps.take (k + 1))) := Lib.hid (by rw [HS.out]; simp [he])
        rw [he] at HC
        clear HS he
        go_wp2_with fail
        refine HC.out.mono ?_
        rintro e w1 ⟨rfl, b1⟩
        have hown2 := own_below HO.out b1
        have d0 := (HK.out.step b1).cells.c0
        have hb2 := HB.out.trans (b1.mono HB.out.size)
        have hsz := hb2.size
        clear HC HO HK
        go_wp2_with (at_builtin; refine wpList_push _ rfl (.tmp 18) (.tmp 21) 41 rfl w.heap.size 9 i0 _ 1 16 Tryd.underlying41 hi hz0 hz1 hz2 rfl (by decide) _ ys.length _ rfl hown2 [.string ⟨p.c.toArray⟩] rfl (by simp [Value.oneCell']) rfl (by unfold maxLen; omega) (by omega) hsz ?_; intro v' w' hown' hb')
        go_roundw
        case rel => exact ⟨k + 1, ys ++ [p.c], by omega, by go_num, by simpa [encStr] using hown', HS2, hb2.trans hb'⟩
        case measure => simp [intOf]; omega
      · have HS2 : Hid (ys = codesP (fun p => p.a == x) (ps.take (k + 1))) := Lib.hid (by rw [HS.out]; simp [he])
        rw [he] at HC
        clear HS he
        go_wp2_with fail
        refine HC.out.mono ?_
        rintro e w1 ⟨rfl, b1⟩
        have hown2 := own_below HO.out b1
        have hb2 := HB.out.trans (b1.mono HB.out.size)
        clear HC HO HK
        go_wp2_with fail
        go_roundw
        case rel => exact ⟨k + 1, ys, by omega, by go_num, hown2, HS2, hb2⟩
        case measure => simp [intOf]; omega
    · have HY : Hid (codesP (fun p => p.a == x) ps = ys) := Lib.hid (by rw [hys.out, take_all hk hlt])
      clear hys hR
      go_wp2_with fail
      go_ret
      rw [HY.out]
      exact ⟨O, q, rfl, hown, hb⟩
end Go.Proofs.YtjgagiigpijaiaaDoor
