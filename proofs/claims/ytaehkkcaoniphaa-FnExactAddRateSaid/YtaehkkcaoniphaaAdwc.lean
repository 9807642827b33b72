/- impl.AddRate: one way of its walk. -/
import Derived.Test.YtaehkkcaoniphaaAdh
import Derived.Deep.CutRange
namespace Go.Proofs.Ytaehkkcaoniphaa
open Go.ChangeShapes Go.WideShapes Go.ChangeAt Go.RowKit
set_option linter.unusedVariables false

set_option maxRecDepth 100000 in
set_option maxHeartbeats 8000000 in
theorem addRate_wc (g off c p : Nat) (rs : List Rt) (r : Rt) (w : World) (h : Tbl w (some ⟨g, off, none⟩) rs) (hrl : r.c.length ≤ 1048576) (ht : tabB rs = true) (hp : p ≤ rs.length) (hc : rs.length ≤ c) (e1 : p ≠ c) (e2 : p < c)
    (HB : ∀ w, Rr w (some ⟨g, off, none⟩) rs → Calls Try.prog 51 #[.slice (some ⟨g, off, none⟩) rs.length c, .agg #[.string ⟨r.c.toArray⟩, .int .i64 r.day, .int .i64 r.num, .int .i64 r.den], .func (.func 52) #[] #[]] w (fun e w' => e = .returned (.tuple #[.int .i64 p, .bool false]) ∧ Below w.heap.size w w'))
    (hput0 : addL rs r = putAt rs r p false) :
    Calls Try.prog 11 #[.slice (some ⟨g, off, none⟩) rs.length c, .agg #[.string ⟨r.c.toArray⟩, .int .i64 r.day, .int .i64 r.num, .int .i64 r.den]] w (NewRatesC w (addR rs r)) := by
  have kb := KeepB.new w #[.string ⟨r.c.toArray⟩, .int .i64 r.day, .int .i64 r.num, .int .i64 r.den] 30
  have h0 := h.below kb.bel
  have HT := Lib.hid (tabI_q (c := c) h0 ht)
  have H1 := Lib.hid (fun h2 => @addR_1 rs r ht h2)
  have H0 := Lib.hid (fun h2 => @addR_0 rs r ht h2)
  have hn : rs.length ≤ 20 := (tabB_iff.1 ht).2
  have HX := Lib.hid (addL_txt (r := r) h0.txt hrl)
  have HBB := Lib.hid HB
  have hput := Lib.hid hput0
  clear ht h HB hput0
  go_enter Try.func11, Try.ntmps11
  go_wp2_with (first
    | (go_at_call 17; refine HT.out.mono ?_; rintro e w1 ⟨rfl, b1⟩; have kb1 := kb.step b1; have h1 := h0.below b1; have c0 := kb1.all.1; have c1 := kb1.all.2.1; have c2 := kb1.all.2.2.1; have c3 := kb1.all.2.2.2.1)
    | (go_at_call 51; refine (HBB.out _ h1.row).mono ?_; rintro e w2 ⟨rfl, b2⟩; have h2 := (h1.below b2).row; have kb2 := kb1.step b2; have c0 := kb2.all.1; have c1 := kb2.all.2.1; have c2 := kb2.all.2.2.1; have c3 := kb2.all.2.2.2.1; clear HBB HT))
  have q1 := h2.take p
  have q3 := h2.drop p
  have l1 : (rs.take p).length = p := by rw [List.length_take]; omega
  have l3 : (rs.drop p).length = rs.length - p := List.length_drop
  have hj : joinP [(some ⟨g, off, none⟩, c, rs.take p), (some ⟨w2.heap.size, 0, none⟩, 1, [r]), (some ⟨g, off + p * 4, none⟩, (c - p), rs.drop p)] = addL rs r := by rw [hput.out]; simp [joinP, putAt]
  have HCQ := Lib.hid (concat_q (g := w2.heap.size + 1) (n := 3) (c := 3) (L := addL rs r) ((pieces3 (w := w2) (A1 := some ⟨g, off, none⟩) (A3 := some ⟨g, off + p * 4, none⟩) (c1 := c) (c3 := (c - p)) (n1 := p) (n3 := (rs.length - p)) r q1 q3 (.inr ⟨_, _, rfl⟩) (.inr ⟨_, _, rfl⟩) l1 l3).below (Below.refl _ _).drew) rfl (by decide) hj (by have := addL_len (r := r) hn; omega))
  have HBL := ((kb2.bel.alloc kb2.bel.size (.cells #[.string ⟨r.c.toArray⟩, .int .i64 r.day, .int .i64 r.num, .int .i64 r.den] 30)).alloc (Nat.le_trans kb2.bel.size (by simp)) (.cells #[.slice (some ⟨g, off, none⟩) p c, .slice (some ⟨w2.heap.size, 0, none⟩) 1 1, .slice (some ⟨g, off + p * 4, none⟩) (rs.length - p) (c - p)] 24)).drew
  go_cut [9] from 25 to 33 (fun v wx => ∃ O q, v = .slice O (addL rs r).length q ∧ Or wx w.heap.size O (addL rs r).length q (addL rs r) ∧ Below w.heap.size w wx)
  case first =>
    go_region_with (go_at_call 53; refine HCQ.out.mono ?_; rintro e w3 ⟨O, q, rfl, ho, b3⟩)
    all_goals
      go_wp2_with fail
      go_meet
      exact ⟨O, q, rfl, ho.mono HBL.size, belowGo HBL b3⟩
  case rest =>
    obtain ⟨O, q, rfl, ho, hbel⟩ := hcut
    have tb3 : Tbl _ O (addL rs r) := ⟨Or.rr ho, HX.out, by have := addL_len (r := r) hn; omega⟩
    rcases Bool.eq_false_or_eq_true (tabB (addL rs r)) with hb | hb
    · have E := Lib.hid (H0.out hb)
      go_wp2_with (go_at_call 17; refine (tabI_q tb3 hb).mono ?_; rintro e w4 ⟨rfl, b4⟩)
      go_ret2
      unfold NewRatesC
      rw [E.out]
      exact ⟨O, q, rfl, Or.below ho b4, belowGo hbel b4⟩
    · have E := Lib.hid (H1.out hb)
      go_wp2_with (go_at_call 17; refine (tabI_q tb3 hb).mono ?_; rintro e w4 ⟨rfl, b4⟩)
      go_ret2
      unfold NewRatesC
      rw [E.out]
      exact ⟨none, 0, rfl, Or.nil _ _, belowGo hbel b4⟩
end Go.Proofs.Ytaehkkcaoniphaa
