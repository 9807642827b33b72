/- impl.AddRate: one way of its walk. -/
import Derived.Test.YtaehkkcaoniphaaAdh
import Derived.Deep.CutRange
namespace Go.Proofs.Ytaehkkcaoniphaa
open Go.ChangeShapes Go.WideShapes Go.ChangeAt Go.RowKit
set_option linter.unusedVariables false

set_option maxRecDepth 100000 in
set_option maxHeartbeats 8000000 in
theorem addRate_wa  (r : Rt) (w : World) (h : Tbl w none []) (hrl : r.c.length ≤ 1048576) (ht : tabB [] = true) 
    (HB : ∀ w, Rr w none [] → Calls Try.prog 51 #[.slice none 0 0, .agg #[.string ⟨r.c.toArray⟩, .int .i64 r.day, .int .i64 r.num, .int .i64 r.den], .func (.func 52) #[] #[]] w (fun e w' => e = .returned (.tuple #[.int .i64 0, .bool false]) ∧ Below w.heap.size w w'))
    (hput0 : addL [] r = putAt [] r 0 false) :
    Calls Try.prog 11 #[.slice none 0 0, .agg #[.string ⟨r.c.toArray⟩, .int .i64 r.day, .int .i64 r.num, .int .i64 r.den]] w (NewRatesC w (addR [] r)) := by
  have kb := KeepB.new w #[.string ⟨r.c.toArray⟩, .int .i64 r.day, .int .i64 r.num, .int .i64 r.den] 30
  have h0 := h.below kb.bel
  have HT := Lib.hid (tabI_q (c := 0) h0 ht)
  have H1 := Lib.hid (fun h2 => @addR_1 [] r ht h2)
  have H0 := Lib.hid (fun h2 => @addR_0 [] r ht h2)
  have hn : ([] : List Rt).length ≤ 20 := Nat.zero_le _
  have HX := Lib.hid (addL_txt (r := r) h0.txt hrl)
  have HBB := Lib.hid HB
  have hput := Lib.hid hput0
  clear ht h HB hput0
  go_enter Try.func11, Try.ntmps11
  go_wp2_with (first
    | (go_at_call 17; refine HT.out.mono ?_; rintro e w1 ⟨rfl, b1⟩; have kb1 := kb.step b1; have h1 := h0.below b1; have c0 := kb1.all.1; have c1 := kb1.all.2.1; have c2 := kb1.all.2.2.1; have c3 := kb1.all.2.2.2.1)
    | (go_at_call 51; refine (HBB.out _ h1.row).mono ?_; rintro e w2 ⟨rfl, b2⟩; have h2 := (h1.below b2).row; have kb2 := kb1.step b2; have c0 := kb2.all.1; have c1 := kb2.all.2.1; have c2 := kb2.all.2.2.1; have c3 := kb2.all.2.2.2.1; clear HBB HT))
  have q1 : Rr w2 none [] := Rr.none
  have q3 : Rr w2 none [] := Rr.none
  have l1 : ([] : List Rt).length = 0 := rfl
  have l3 : ([] : List Rt).length = 0 := rfl
  have hj : joinP [(none, 0, []), (some ⟨w2.heap.size, 0, none⟩, 1, [r]), (none, 0, [])] = addL [] r := by rw [hput.out]; simp [joinP, putAt]
  have HCQ := Lib.hid (concat_q (g := w2.heap.size + 1) (n := 3) (c := 3) (L := addL [] r) ((pieces3 (w := w2) (A1 := none) (A3 := none) (c1 := 0) (c3 := 0) (n1 := 0) (n3 := 0) r q1 q3 (.inl rfl) (.inl rfl) l1 l3).below (Below.refl _ _).drew) rfl (by decide) hj (by have := addL_len (r := r) hn; omega))
  have HBL := ((kb2.bel.alloc kb2.bel.size (.cells #[.string ⟨r.c.toArray⟩, .int .i64 r.day, .int .i64 r.num, .int .i64 r.den] 30)).alloc (Nat.le_trans kb2.bel.size (by simp)) (.cells #[.slice (none) 0 0, .slice (some ⟨w2.heap.size, 0, none⟩) 1 1, .slice (none) 0 0] 24)).drew
  go_cut [9] from 25 to 33 (fun v wx => ∃ O q, v = .slice O (addL [] r).length q ∧ Or wx w.heap.size O (addL [] r).length q (addL [] r) ∧ Below w.heap.size w wx)
  case first =>
    go_region_with (go_at_call 53; refine HCQ.out.mono ?_; rintro e w3 ⟨O, q, rfl, ho, b3⟩)
    all_goals
      go_wp2_with fail
      go_meet
      exact ⟨O, q, rfl, ho.mono HBL.size, belowGo HBL b3⟩
  case rest =>
    obtain ⟨O, q, rfl, ho, hbel⟩ := hcut
    have tb3 : Tbl _ O (addL [] r) := ⟨Or.rr ho, HX.out, by have := addL_len (r := r) hn; omega⟩
    rcases Bool.eq_false_or_eq_true (tabB (addL [] r)) with hb | hb
    · have E := Lib.hid (H0.out hb)
      go_wp2_with (go_at_call 17; refine (tabI_q tb3 hb).mono ?_; rintro e w4 ⟨rfl, b4⟩)
      go_ret2
      unfold NewRatesC
      rw [E.out]
      exact ⟨O, q, rfl, Or.below ho b4, belowGo hbel b4⟩
    · have E := Lib.hid (H1.out hb)
      go_wp2_with (go_at_call 17; refine (tabI_q tb3 hb).mono ?_; rintro e w4 ⟨rfl, b4⟩)
      go_ret2
      unfold NewRatesC
      rw [E.out]
      exact ⟨none, 0, rfl, Or.nil _ _, belowGo hbel b4⟩
end Go.Proofs.Ytaehkkcaoniphaa
