import Derived.Test.YtaehkkcaoniphaaPe
import Derived.Deep.CutRange
import Derived.RegionTactic
import Derived.ChangeAlike
/- impl.AddRate: what its walk needs: slices of the table, the three pieces, Concat of them. -/
namespace Go.Proofs.Ytaehkkcaoniphaa
open Go.ChangeShapes Go.WideShapes Go.ChangeAt Go.RowKit
set_option linter.unusedVariables false

theorem bin_ways {p n c : Nat} {b : Bool} (hp : p ≤ n) (hc : n ≤ c) (hend : p = n → b = false) :
    (b = false ∧ p = c) ∨ (b = false ∧ p ≠ c ∧ p < c) ∨ (b = true ∧ p < n ∧ c - p = 1 ∧ p ≠ c) ∨ (b = true ∧ p < n ∧ c - p ≠ 1 ∧ p ≠ c ∧ 1 < c - p) := by
  cases b
  · simp; omega
  · have : p ≠ n := fun e => by have := hend e; cases this
    simp; omega
theorem Rr.drop {w : World} {g off : Nat} {rs : List Rt} (h : Rr w (some ⟨g, off, none⟩) rs) (k : Nat) : Rr w (some ⟨g, off + k * 4, none⟩) (rs.drop k) := fun hp => by
  have hl := flat_len Rt.cells 4 (fun _ => rfl) rs
  have hl2 := flat_len Rt.cells 4 (fun _ => rfl) (rs.drop k)
  rw [List.length_drop] at hl2
  obtain ⟨b, o, e, hb, hcell⟩ := h (by omega)
  simp only [Option.some.injEq, Addr.mk.injEq, and_true] at e
  obtain ⟨rfl, rfl⟩ := e
  refine ⟨g, off + k * 4, rfl, hb, fun j v hj => ?_⟩
  have hsp : rs.flatMap Rt.cells = (rs.take k).flatMap Rt.cells ++ (rs.drop k).flatMap Rt.cells := by rw [← List.flatMap_append, List.take_append_drop]
  have hlt := flat_len Rt.cells 4 (fun _ => rfl) (rs.take k)
  rw [List.length_take, Nat.min_eq_left (by omega)] at hlt
  rw [Nat.add_assoc]
  refine hcell (k * 4 + j) v ?_
  rw [hsp, List.getElem?_append_right (by omega), hlt, Nat.add_sub_cancel_left]
  exact hj
theorem Rr.take {w : World} {A : Option Addr} {rs : List Rt} (h : Rr w A rs) (k : Nat) : Rr w A (rs.take k) := fun hp => by
  have hsp : rs.flatMap Rt.cells = (rs.take k).flatMap Rt.cells ++ (rs.drop k).flatMap Rt.cells := by rw [← List.flatMap_append, List.take_append_drop]
  obtain ⟨b, o, e, hb, hcell⟩ := h (by rw [hsp, List.length_append]; omega)
  refine ⟨b, o, e, hb, fun j v hj => hcell j v ?_⟩
  rw [hsp, List.getElem?_append_left (List.getElem?_eq_some_iff.1 hj).1]; exact hj
theorem Rr.none {w : World} {A : Option Addr} : Rr w A [] := fun hp => absurd hp (by simp)
theorem Rr.alloc {w : World} {A : Option Addr} {rs : List Rt} (h : Rr w A rs) (o : Obj) : Rr (w.alloc o) A rs := h.below (below_alloc w o)
theorem pieces3 {w : World} {A1 A3 : Option Addr} {c1 c3 n1 n3 : Nat} {l1 l3 : List Rt} (r : Rt) (h1 : Rr w A1 l1) (h3 : Rr w A3 l3) (a1 : A1 = none ∨ ∃ b off, A1 = some ⟨b, off, none⟩) (a3 : A3 = none ∨ ∃ b off, A3 = some ⟨b, off, none⟩) (e1 : l1.length = n1) (e3 : l3.length = n3) :
    Pieces ((w.alloc (.cells #[.string ⟨r.c.toArray⟩, .int .i64 r.day, .int .i64 r.num, .int .i64 r.den] 30)).alloc (.cells #[.slice A1 n1 c1, .slice (some ⟨w.heap.size, 0, none⟩) 1 1, .slice A3 n3 c3] 24)) (w.heap.size + 1)
      [(A1, c1, l1), (some ⟨w.heap.size, 0, none⟩, 1, [r]), (A3, c3, l3)] := by
  subst e1 e3
  refine ⟨by simp, ?_, ?_⟩
  · have hb : ((w.alloc (.cells #[.string ⟨r.c.toArray⟩, .int .i64 r.day, .int .i64 r.num, .int .i64 r.den] 30)).alloc (.cells #[.slice A1 l1.length c1, .slice (some ⟨w.heap.size, 0, none⟩) 1 1, .slice A3 l3.length c3] 24)).heap[w.heap.size + 1]? = some (.cells #[.slice A1 l1.length c1, .slice (some ⟨w.heap.size, 0, none⟩) 1 1, .slice A3 l3.length c3] 24) := heap_alloc2_new w _ _
    intro k s hs
    rw [cell_of_row _ _ _ _ _ _ hb]
    match k, hs with
    | 0, hs => simp at hs; subst hs; rfl
    | 1, hs => simp at hs; subst hs; rfl
    | 2, hs => simp at hs; subst hs; rfl
    | k + 3, hs => simp at hs
  · intro s hs
    simp only [List.mem_cons, List.not_mem_nil, or_false] at hs
    rcases hs with rfl | rfl | rfl
    · exact ⟨(h1.alloc _).alloc _, a1⟩
    · refine ⟨Rr.alloc (fun _ => ⟨w.heap.size, 0, rfl, by simp, fun j v hj => ?_⟩) _, .inr ⟨_, _, rfl⟩⟩
      rw [Nat.zero_add, cell_of_row _ _ _ _ _ _ (heap_alloc_new w _)]
      simpa [Rt.cells] using hj
    · exact ⟨(h3.alloc _).alloc _, a3⟩

theorem concat_q {g : Nat} {ss : List (Option Addr × Nat × List Rt)} {n c : Nat} {w : World} {L : List Rt} (h : Pieces w g ss) (hn : ss.length = n) (hn2 : n ≤ 10) (hL : joinP ss = L) (hj : L.length ≤ 900) :
    Calls Try.prog 53 #[.slice (some ⟨g, 0, none⟩) n c] w fun e w' => ∃ O q, e = .returned (.slice O L.length q) ∧ Or w' w.heap.size O L.length q L ∧ Below w.heap.size w w' := by
  subst hL hn
  exact concat_i g ss c w h hn2 hj
theorem addL_txt {rs : List Rt} {r : Rt} (h : ∀ q ∈ rs, q.c.length ≤ 1048576) (hr : r.c.length ≤ 1048576) : ∀ q ∈ addL rs r, q.c.length ≤ 1048576 := by
  have h1 := addS_all (P := fun q => q.c.length ≤ 1048576) hr rs h
  unfold addL
  split
  · exact h1
  · intro q hq
    rcases List.mem_append.1 hq with hq | hq
    · exact h1 q hq
    · simp at hq; subst hq; exact hr
theorem addL_len {rs : List Rt} {r : Rt} (h : rs.length ≤ 20) : (addL rs r).length ≤ 41 := by
  have := addS_len r rs
  unfold addL
  split
  · omega
  · simp; omega

end Go.Proofs.Ytaehkkcaoniphaa

/- impl.AddRate: one way of its walk. -/
namespace Go.Proofs.Ytaehkkcaoniphaa
open Go.ChangeShapes Go.WideShapes Go.ChangeAt Go.RowKit
set_option linter.unusedVariables false

set_option maxRecDepth 100000 in
set_option maxHeartbeats 8000000 in
theorem addRate_wa  (r : Rt) (w : World) (h : Tbl w none []) (hrl : r.c.length ≤ 1048576) (ht : tabB [] = true) 
    (HB : ∀ w, Rr w none [] → Calls Try.prog 51 #[.slice none 0 0, .agg #[.string ⟨r.c.toArray⟩, .int .i64 r.day, .int .i64 r.num, .int .i64 r.den], .func (.func 52) #[] #[]] w (fun e w' => e = .returned (.tuple #[.int .i64 0, .bool false]) ∧ Below w.heap.size w w'))
    (hput0 : addL [] r = putAt [] r 0 false) :
    Calls Try.prog 11 #[.slice none 0 0, .agg #[.string ⟨r.c.toArray⟩, .int .i64 r.day, .int .i64 r.num, .int .i64 r.den]] w (NewRatesC w (addR [] r)) := by
  have kb := KeepB.new w #[.string ⟨r.c.toArray⟩, .int .i64 r.day, .int .i64 r.num, .int .i64 r.den] 30
  have h0 := h.below kb.bel
  have HT := Lib.hid (tabI_q (c := 0) h0 ht)
  have H1 := Lib.hid (fun h2 => @addR_1 [] r ht h2)
  have H0 := Lib.hid (fun h2 => @addR_0 [] r ht h2)
  have hn : ([] : List Rt).length ≤ 20 := Nat.zero_le _
  have HX := Lib.hid (addL_txt (r := r) h0.txt hrl)
  have HBB := Lib.hid HB
  have hput := Lib.hid hput0
  clear ht h HB hput0
  go_enter Try.func11, Try.ntmps11
  go_wp2_with (first
    | (go_at_call 17; refine HT.out.mono ?_; rintro e w1 ⟨rfl, b1⟩; have kb1 := kb.step b1; have h1 := h0.below b1; have c0 := kb1.all.1; have c1 := kb1.all.2.1; have c2 := kb1.all.2.2.1; have c3 := kb1.all.2.2.2.1)
    | (go_at_call 51; refine (HBB.out _ h1.row).mono ?_; rintro e w2 ⟨rfl, b2⟩; have h2 := (h1.below b2).row; have kb2 := kb1.step b2; have c0 := kb2.all.1; have c1 := kb2.all.2.1; have c2 := kb2.all.2.2.1; have c3 := kb2.all.2.2.2.1; clear HBB HT))
  have q1 : Rr w2 none [] := Rr.none
  have q3 : Rr w2 none [] := Rr.none
  have l1 : ([] : List Rt).length = 0 := rfl
  have l3 : ([] : List Rt).length = 0 := rfl
  have hj : joinP [(none, 0, []), (some ⟨w2.heap.size, 0, none⟩, 1, [r]), (none, 0, [])] = addL [] r := by rw [hput.out]; simp [joinP, putAt]
  have HCQ := Lib.hid (concat_q (g := w2.heap.size + 1) (n := 3) (c := 3) (L := addL [] r) ((pieces3 (w := w2) (A1 := none) (A3 := none) (c1 := 0) (c3 := 0) (n1 := 0) (n3 := 0) r q1 q3 (.inl rfl) (.inl rfl) l1 l3).below (Below.refl _ _).drew) rfl (by decide) hj (by have := addL_len (r := r) hn; omega))
  have HBL := ((kb2.bel.alloc kb2.bel.size (.cells #[.string ⟨r.c.toArray⟩, .int .i64 r.day, .int .i64 r.num, .int .i64 r.den] 30)).alloc (Nat.le_trans kb2.bel.size (by simp)) (.cells #[.slice (none) 0 0, .slice (some ⟨w2.heap.size, 0, none⟩) 1 1, .slice (none) 0 0] 24)).drew
  go_cut [9] from 25 to 33 (fun v wx => ∃ O q, v = .slice O (addL [] r).length q ∧ Or wx w.heap.size O (addL [] r).length q (addL [] r) ∧ Below w.heap.size w wx)
  case first =>
    go_region_with (go_at_call 53; refine HCQ.out.mono ?_; rintro e w3 ⟨O, q, rfl, ho, b3⟩)
    all_goals
      go_wp2_with fail
      go_meet
      exact ⟨O, q, rfl, ho.mono HBL.size, belowGo HBL b3⟩
  case rest =>
    obtain ⟨O, q, rfl, ho, hbel⟩ := hcut
    have tb3 : Tbl _ O (addL [] r) := ⟨Or.rr ho, HX.out, by have := addL_len (r := r) hn; omega⟩
    rcases Bool.eq_false_or_eq_true (tabB (addL [] r)) with hb | hb
    · have E := Lib.hid (H0.out hb)
      go_wp2_with (go_at_call 17; refine (tabI_q tb3 hb).mono ?_; rintro e w4 ⟨rfl, b4⟩)
      go_ret2
      unfold NewRatesC
      rw [E.out]
      exact ⟨O, q, rfl, Or.below ho b4, belowGo hbel b4⟩
    · have E := Lib.hid (H1.out hb)
      go_wp2_with (go_at_call 17; refine (tabI_q tb3 hb).mono ?_; rintro e w4 ⟨rfl, b4⟩)
      go_ret2
      unfold NewRatesC
      rw [E.out]
      exact ⟨none, 0, rfl, Or.nil _ _, belowGo hbel b4⟩
end Go.Proofs.Ytaehkkcaoniphaa

/- impl.AddRate: one way of its walk. -/
namespace Go.Proofs.Ytaehkkcaoniphaa
open Go.ChangeShapes Go.WideShapes Go.ChangeAt Go.RowKit
set_option linter.unusedVariables false

set_option maxRecDepth 100000 in
set_option maxHeartbeats 8000000 in
theorem addRate_wb (g off : Nat) (rs : List Rt) (r : Rt) (w : World) (h : Tbl w (some ⟨g, off, none⟩) rs) (hrl : r.c.length ≤ 1048576) (ht : tabB rs = true) 
    (HB : ∀ w, Rr w (some ⟨g, off, none⟩) rs → Calls Try.prog 51 #[.slice (some ⟨g, off, none⟩) rs.length rs.length, .agg #[.string ⟨r.c.toArray⟩, .int .i64 r.day, .int .i64 r.num, .int .i64 r.den], .func (.func 52) #[] #[]] w (fun e w' => e = .returned (.tuple #[.int .i64 rs.length, .bool false]) ∧ Below w.heap.size w w'))
    (hput0 : addL rs r = putAt rs r rs.length false) :
    Calls Try.prog 11 #[.slice (some ⟨g, off, none⟩) rs.length rs.length, .agg #[.string ⟨r.c.toArray⟩, .int .i64 r.day, .int .i64 r.num, .int .i64 r.den]] w (NewRatesC w (addR rs r)) := by
  have kb := KeepB.new w #[.string ⟨r.c.toArray⟩, .int .i64 r.day, .int .i64 r.num, .int .i64 r.den] 30
  have h0 := h.below kb.bel
  have HT := Lib.hid (tabI_q (c := rs.length) h0 ht)
  have H1 := Lib.hid (fun h2 => @addR_1 rs r ht h2)
  have H0 := Lib.hid (fun h2 => @addR_0 rs r ht h2)
  have hn : rs.length ≤ 20 := (tabB_iff.1 ht).2
  have HX := Lib.hid (addL_txt (r := r) h0.txt hrl)
  have HBB := Lib.hid HB
  have hput := Lib.hid hput0
  clear ht h HB hput0
  go_enter Try.func11, Try.ntmps11
  go_wp2_with (first
    | (go_at_call 17; refine HT.out.mono ?_; rintro e w1 ⟨rfl, b1⟩; have kb1 := kb.step b1; have h1 := h0.below b1; have c0 := kb1.all.1; have c1 := kb1.all.2.1; have c2 := kb1.all.2.2.1; have c3 := kb1.all.2.2.2.1)
    | (go_at_call 51; refine (HBB.out _ h1.row).mono ?_; rintro e w2 ⟨rfl, b2⟩; have h2 := (h1.below b2).row; have kb2 := kb1.step b2; have c0 := kb2.all.1; have c1 := kb2.all.2.1; have c2 := kb2.all.2.2.1; have c3 := kb2.all.2.2.2.1; clear HBB HT))
  have q1 := h2
  have q3 : Rr w2 (some ⟨g, off, none⟩) [] := Rr.none
  have l1 : rs.length = rs.length := rfl
  have l3 : ([] : List Rt).length = 0 := rfl
  have hj : joinP [(some ⟨g, off, none⟩, rs.length, rs), (some ⟨w2.heap.size, 0, none⟩, 1, [r]), (some ⟨g, off, none⟩, 0, [])] = addL rs r := by rw [hput.out]; simp [joinP, putAt]
  have HCQ := Lib.hid (concat_q (g := w2.heap.size + 1) (n := 3) (c := 3) (L := addL rs r) ((pieces3 (w := w2) (A1 := some ⟨g, off, none⟩) (A3 := some ⟨g, off, none⟩) (c1 := rs.length) (c3 := 0) (n1 := rs.length) (n3 := 0) r q1 q3 (.inr ⟨_, _, rfl⟩) (.inr ⟨_, _, rfl⟩) l1 l3).below (Below.refl _ _).drew) rfl (by decide) hj (by have := addL_len (r := r) hn; omega))
  have HBL := ((kb2.bel.alloc kb2.bel.size (.cells #[.string ⟨r.c.toArray⟩, .int .i64 r.day, .int .i64 r.num, .int .i64 r.den] 30)).alloc (Nat.le_trans kb2.bel.size (by simp)) (.cells #[.slice (some ⟨g, off, none⟩) rs.length rs.length, .slice (some ⟨w2.heap.size, 0, none⟩) 1 1, .slice (some ⟨g, off, none⟩) 0 0] 24)).drew
  go_cut [9] from 25 to 33 (fun v wx => ∃ O q, v = .slice O (addL rs r).length q ∧ Or wx w.heap.size O (addL rs r).length q (addL rs r) ∧ Below w.heap.size w wx)
  case first =>
    go_region_with (go_at_call 53; refine HCQ.out.mono ?_; rintro e w3 ⟨O, q, rfl, ho, b3⟩)
    all_goals
      go_wp2_with fail
      go_meet
      exact ⟨O, q, rfl, ho.mono HBL.size, belowGo HBL b3⟩
  case rest =>
    obtain ⟨O, q, rfl, ho, hbel⟩ := hcut
    have tb3 : Tbl _ O (addL rs r) := ⟨Or.rr ho, HX.out, by have := addL_len (r := r) hn; omega⟩
    rcases Bool.eq_false_or_eq_true (tabB (addL rs r)) with hb | hb
    · have E := Lib.hid (H0.out hb)
      go_wp2_with (go_at_call 17; refine (tabI_q tb3 hb).mono ?_; rintro e w4 ⟨rfl, b4⟩)
      go_ret2
      unfold NewRatesC
      rw [E.out]
      exact ⟨O, q, rfl, Or.below ho b4, belowGo hbel b4⟩
    · have E := Lib.hid (H1.out hb)
      go_wp2_with (go_at_call 17; refine (tabI_q tb3 hb).mono ?_; rintro e w4 ⟨rfl, b4⟩)
      go_ret2
      unfold NewRatesC
      rw [E.out]
      exact ⟨none, 0, rfl, Or.nil _ _, belowGo hbel b4⟩
end Go.Proofs.Ytaehkkcaoniphaa

/- impl.AddRate: one way of its walk. -/
namespace Go.Proofs.Ytaehkkcaoniphaa
open Go.ChangeShapes Go.WideShapes Go.ChangeAt Go.RowKit
set_option linter.unusedVariables false

set_option maxRecDepth 100000 in
set_option maxHeartbeats 8000000 in
theorem addRate_wc (g off c p : Nat) (rs : List Rt) (r : Rt) (w : World) (h : Tbl w (some ⟨g, off, none⟩) rs) (hrl : r.c.length ≤ 1048576) (ht : tabB rs = true) (hp : p ≤ rs.length) (hc : rs.length ≤ c) (e1 : p ≠ c) (e2 : p < c)
    (HB : ∀ w, Rr w (some ⟨g, off, none⟩) rs → Calls Try.prog 51 #[.slice (some ⟨g, off, none⟩) rs.length c, .agg #[.string ⟨r.c.toArray⟩, .int .i64 r.day, .int .i64 r.num, .int .i64 r.den], .func (.func 52) #[] #[]] w (fun e w' => e = .returned (.tuple #[.int .i64 p, .bool false]) ∧ Below w.heap.size w w'))
    (hput0 : addL rs r = putAt rs r p false) :
    Calls Try.prog 11 #[.slice (some ⟨g, off, none⟩) rs.length c, .agg #[.string ⟨r.c.toArray⟩, .int .i64 r.day, .int .i64 r.num, .int .i64 r.den]] w (NewRatesC w (addR rs r)) := by
  have kb := KeepB.new w #[.string ⟨r.c.toArray⟩, .int .i64 r.day, .int .i64 r.num, .int .i64 r.den] 30
  have h0 := h.below kb.bel
  have HT := Lib.hid (tabI_q (c := c) h0 ht)
  have H1 := Lib.hid (fun h2 => @addR_1 rs r ht h2)
  have H0 := Lib.hid (fun h2 => @addR_0 rs r ht h2)
  have hn : rs.length ≤ 20 := (tabB_iff.1 ht).2
  have HX := Lib.hid (addL_txt (r := r) h0.txt hrl)
  have HBB := Lib.hid HB
  have hput := Lib.hid hput0
  clear ht h HB hput0
  go_enter Try.func11, Try.ntmps11
  go_wp2_with (first
    | (go_at_call 17; refine HT.out.mono ?_; rintro e w1 ⟨rfl, b1⟩; have kb1 := kb.step b1; have h1 := h0.below b1; have c0 := kb1.all.1; have c1 := kb1.all.2.1; have c2 := kb1.all.2.2.1; have c3 := kb1.all.2.2.2.1)
    | (go_at_call 51; refine (HBB.out _ h1.row).mono ?_; rintro e w2 ⟨rfl, b2⟩; have h2 := (h1.below b2).row; have kb2 := kb1.step b2; have c0 := kb2.all.1; have c1 := kb2.all.2.1; have c2 := kb2.all.2.2.1; have c3 := kb2.all.2.2.2.1; clear HBB HT))
  have q1 := h2.take p
  have q3 := h2.drop p
  have l1 : (rs.take p).length = p := by rw [List.length_take]; omega
  have l3 : (rs.drop p).length = rs.length - p := List.length_drop
  have hj : joinP [(some ⟨g, off, none⟩, c, rs.take p), (some ⟨w2.heap.size, 0, none⟩, 1, [r]), (some ⟨g, off + p * 4, none⟩, (c - p), rs.drop p)] = addL rs r := by rw [hput.out]; simp [joinP, putAt]
  have HCQ := Lib.hid (concat_q (g := w2.heap.size + 1) (n := 3) (c := 3) (L := addL rs r) ((pieces3 (w := w2) (A1 := some ⟨g, off, none⟩) (A3 := some ⟨g, off + p * 4, none⟩) (c1 := c) (c3 := (c - p)) (n1 := p) (n3 := (rs.length - p)) r q1 q3 (.inr ⟨_, _, rfl⟩) (.inr ⟨_, _, rfl⟩) l1 l3).below (Below.refl _ _).drew) rfl (by decide) hj (by have := addL_len (r := r) hn; omega))
  have HBL := ((kb2.bel.alloc kb2.bel.size (.cells #[.string ⟨r.c.toArray⟩, .int .i64 r.day, .int .i64 r.num, .int .i64 r.den] 30)).alloc (Nat.le_trans kb2.bel.size (by simp)) (.cells #[.slice (some ⟨g, off, none⟩) p c, .slice (some ⟨w2.heap.size, 0, none⟩) 1 1, .slice (some ⟨g, off + p * 4, none⟩) (rs.length - p) (c - p)] 24)).drew
  go_cut [9] from 25 to 33 (fun v wx => ∃ O q, v = .slice O (addL rs r).length q ∧ Or wx w.heap.size O (addL rs r).length q (addL rs r) ∧ Below w.heap.size w wx)
  case first =>
    go_region_with (go_at_call 53; refine HCQ.out.mono ?_; rintro e w3 ⟨O, q, rfl, ho, b3⟩)
    all_goals
      go_wp2_with fail
      go_meet
      exact ⟨O, q, rfl, ho.mono HBL.size, belowGo HBL b3⟩
  case rest =>
    obtain ⟨O, q, rfl, ho, hbel⟩ := hcut
    have tb3 : Tbl _ O (addL rs r) := ⟨Or.rr ho, HX.out, by have := addL_len (r := r) hn; omega⟩
    rcases Bool.eq_false_or_eq_true (tabB (addL rs r)) with hb | hb
    · have E := Lib.hid (H0.out hb)
      go_wp2_with (go_at_call 17; refine (tabI_q tb3 hb).mono ?_; rintro e w4 ⟨rfl, b4⟩)
      go_ret2
      unfold NewRatesC
      rw [E.out]
      exact ⟨O, q, rfl, Or.below ho b4, belowGo hbel b4⟩
    · have E := Lib.hid (H1.out hb)
      go_wp2_with (go_at_call 17; refine (tabI_q tb3 hb).mono ?_; rintro e w4 ⟨rfl, b4⟩)
      go_ret2
      unfold NewRatesC
      rw [E.out]
      exact ⟨none, 0, rfl, Or.nil _ _, belowGo hbel b4⟩
end Go.Proofs.Ytaehkkcaoniphaa

/- impl.AddRate: one way of its walk. -/
namespace Go.Proofs.Ytaehkkcaoniphaa
open Go.ChangeShapes Go.WideShapes Go.ChangeAt Go.RowKit
set_option linter.unusedVariables false

set_option maxRecDepth 100000 in
set_option maxHeartbeats 8000000 in
theorem addRate_wd (g off c p : Nat) (rs : List Rt) (r : Rt) (w : World) (h : Tbl w (some ⟨g, off, none⟩) rs) (hrl : r.c.length ≤ 1048576) (ht : tabB rs = true) (hp : p ≤ rs.length) (hc : rs.length ≤ c) (e1 : p < rs.length) (e2 : c - p = 1) (e3 : p ≠ c)
    (HB : ∀ w, Rr w (some ⟨g, off, none⟩) rs → Calls Try.prog 51 #[.slice (some ⟨g, off, none⟩) rs.length c, .agg #[.string ⟨r.c.toArray⟩, .int .i64 r.day, .int .i64 r.num, .int .i64 r.den], .func (.func 52) #[] #[]] w (fun e w' => e = .returned (.tuple #[.int .i64 p, .bool true]) ∧ Below w.heap.size w w'))
    (hput0 : addL rs r = putAt rs r p true) :
    Calls Try.prog 11 #[.slice (some ⟨g, off, none⟩) rs.length c, .agg #[.string ⟨r.c.toArray⟩, .int .i64 r.day, .int .i64 r.num, .int .i64 r.den]] w (NewRatesC w (addR rs r)) := by
  have kb := KeepB.new w #[.string ⟨r.c.toArray⟩, .int .i64 r.day, .int .i64 r.num, .int .i64 r.den] 30
  have h0 := h.below kb.bel
  have HT := Lib.hid (tabI_q (c := c) h0 ht)
  have H1 := Lib.hid (fun h2 => @addR_1 rs r ht h2)
  have H0 := Lib.hid (fun h2 => @addR_0 rs r ht h2)
  have hn : rs.length ≤ 20 := (tabB_iff.1 ht).2
  have HX := Lib.hid (addL_txt (r := r) h0.txt hrl)
  have HBB := Lib.hid HB
  have hput := Lib.hid hput0
  clear ht h HB hput0
  go_enter Try.func11, Try.ntmps11
  go_wp2_with (first
    | (go_at_call 17; refine HT.out.mono ?_; rintro e w1 ⟨rfl, b1⟩; have kb1 := kb.step b1; have h1 := h0.below b1; have c0 := kb1.all.1; have c1 := kb1.all.2.1; have c2 := kb1.all.2.2.1; have c3 := kb1.all.2.2.2.1)
    | (go_at_call 51; refine (HBB.out _ h1.row).mono ?_; rintro e w2 ⟨rfl, b2⟩; have h2 := (h1.below b2).row; have kb2 := kb1.step b2; have c0 := kb2.all.1; have c1 := kb2.all.2.1; have c2 := kb2.all.2.2.1; have c3 := kb2.all.2.2.2.1; clear HBB HT))
  have q1 := h2.take p
  have q3 : Rr w2 (some ⟨g, off + p * 4, none⟩) [] := Rr.none
  have l1 : (rs.take p).length = p := by rw [List.length_take]; omega
  have hd : rs.drop (p + 1) = [] := List.drop_eq_nil_of_le (by omega)
  have l3 : ([] : List Rt).length = rs.length - p - 1 := by simp; omega
  have hj : joinP [(some ⟨g, off, none⟩, c, rs.take p), (some ⟨w2.heap.size, 0, none⟩, 1, [r]), (some ⟨g, off + p * 4, none⟩, 0, [])] = addL rs r := by rw [hput.out]; simp [joinP, putAt, hd]
  have HCQ := Lib.hid (concat_q (g := w2.heap.size + 1) (n := 3) (c := 3) (L := addL rs r) ((pieces3 (w := w2) (A1 := some ⟨g, off, none⟩) (A3 := some ⟨g, off + p * 4, none⟩) (c1 := c) (c3 := 0) (n1 := p) (n3 := (rs.length - p - 1)) r q1 q3 (.inr ⟨_, _, rfl⟩) (.inr ⟨_, _, rfl⟩) l1 l3).below (Below.refl _ _).drew) rfl (by decide) hj (by have := addL_len (r := r) hn; omega))
  have HBL := ((kb2.bel.alloc kb2.bel.size (.cells #[.string ⟨r.c.toArray⟩, .int .i64 r.day, .int .i64 r.num, .int .i64 r.den] 30)).alloc (Nat.le_trans kb2.bel.size (by simp)) (.cells #[.slice (some ⟨g, off, none⟩) p c, .slice (some ⟨w2.heap.size, 0, none⟩) 1 1, .slice (some ⟨g, off + p * 4, none⟩) (rs.length - p - 1) 0] 24)).drew
  go_cut [9] from 25 to 33 (fun v wx => ∃ O q, v = .slice O (addL rs r).length q ∧ Or wx w.heap.size O (addL rs r).length q (addL rs r) ∧ Below w.heap.size w wx)
  case first =>
    go_region_with (go_at_call 53; refine HCQ.out.mono ?_; rintro e w3 ⟨O, q, rfl, ho, b3⟩)
    all_goals
      go_wp2_with fail
      go_meet
      exact ⟨O, q, rfl, ho.mono HBL.size, belowGo HBL b3⟩
  case rest =>
    obtain ⟨O, q, rfl, ho, hbel⟩ := hcut
    have tb3 : Tbl _ O (addL rs r) := ⟨Or.rr ho, HX.out, by have := addL_len (r := r) hn; omega⟩
    rcases Bool.eq_false_or_eq_true (tabB (addL rs r)) with hb | hb
    · have E := Lib.hid (H0.out hb)
      go_wp2_with (go_at_call 17; refine (tabI_q tb3 hb).mono ?_; rintro e w4 ⟨rfl, b4⟩)
      go_ret2
      unfold NewRatesC
      rw [E.out]
      exact ⟨O, q, rfl, Or.below ho b4, belowGo hbel b4⟩
    · have E := Lib.hid (H1.out hb)
      go_wp2_with (go_at_call 17; refine (tabI_q tb3 hb).mono ?_; rintro e w4 ⟨rfl, b4⟩)
      go_ret2
      unfold NewRatesC
      rw [E.out]
      exact ⟨none, 0, rfl, Or.nil _ _, belowGo hbel b4⟩
end Go.Proofs.Ytaehkkcaoniphaa

/- impl.AddRate: one way of its walk. -/
namespace Go.Proofs.Ytaehkkcaoniphaa
open Go.ChangeShapes Go.WideShapes Go.ChangeAt Go.RowKit
set_option linter.unusedVariables false

set_option maxRecDepth 100000 in
set_option maxHeartbeats 8000000 in
theorem addRate_we (g off c p : Nat) (rs : List Rt) (r : Rt) (w : World) (h : Tbl w (some ⟨g, off, none⟩) rs) (hrl : r.c.length ≤ 1048576) (ht : tabB rs = true) (hp : p ≤ rs.length) (hc : rs.length ≤ c) (e1 : p < rs.length) (e2 : c - p ≠ 1) (e3 : p ≠ c) (e4 : 1 < c - p)
    (HB : ∀ w, Rr w (some ⟨g, off, none⟩) rs → Calls Try.prog 51 #[.slice (some ⟨g, off, none⟩) rs.length c, .agg #[.string ⟨r.c.toArray⟩, .int .i64 r.day, .int .i64 r.num, .int .i64 r.den], .func (.func 52) #[] #[]] w (fun e w' => e = .returned (.tuple #[.int .i64 p, .bool true]) ∧ Below w.heap.size w w'))
    (hput0 : addL rs r = putAt rs r p true) :
    Calls Try.prog 11 #[.slice (some ⟨g, off, none⟩) rs.length c, .agg #[.string ⟨r.c.toArray⟩, .int .i64 r.day, .int .i64 r.num, .int .i64 r.den]] w (NewRatesC w (addR rs r)) := by
  have kb := KeepB.new w #[.string ⟨r.c.toArray⟩, .int .i64 r.day, .int .i64 r.num, .int .i64 r.den] 30
  have h0 := h.below kb.bel
  have HT := Lib.hid (tabI_q (c := c) h0 ht)
  have H1 := Lib.hid (fun h2 => @addR_1 rs r ht h2)
  have H0 := Lib.hid (fun h2 => @addR_0 rs r ht h2)
  have hn : rs.length ≤ 20 := (tabB_iff.1 ht).2
  have HX := Lib.hid (addL_txt (r := r) h0.txt hrl)
  have HBB := Lib.hid HB
  have hput := Lib.hid hput0
  clear ht h HB hput0
  go_enter Try.func11, Try.ntmps11
  go_wp2_with (first
    | (go_at_call 17; refine HT.out.mono ?_; rintro e w1 ⟨rfl, b1⟩; have kb1 := kb.step b1; have h1 := h0.below b1; have c0 := kb1.all.1; have c1 := kb1.all.2.1; have c2 := kb1.all.2.2.1; have c3 := kb1.all.2.2.2.1)
    | (go_at_call 51; refine (HBB.out _ h1.row).mono ?_; rintro e w2 ⟨rfl, b2⟩; have h2 := (h1.below b2).row; have kb2 := kb1.step b2; have c0 := kb2.all.1; have c1 := kb2.all.2.1; have c2 := kb2.all.2.2.1; have c3 := kb2.all.2.2.2.1; clear HBB HT))
  have q1 := h2.take p
  have q3 : Rr w2 (some ⟨g, off + p * 4 + 4, none⟩) (rs.drop (p + 1)) := by have := h2.drop (p + 1); rwa [show off + (p + 1) * 4 = off + p * 4 + 4 by omega] at this
  have l1 : (rs.take p).length = p := by rw [List.length_take]; omega
  have l3 : (rs.drop (p + 1)).length = rs.length - p - 1 := by rw [List.length_drop]; omega
  have hj : joinP [(some ⟨g, off, none⟩, c, rs.take p), (some ⟨w2.heap.size, 0, none⟩, 1, [r]), (some ⟨g, off + p * 4 + 4, none⟩, (c - p - 1), rs.drop (p + 1))] = addL rs r := by rw [hput.out]; simp [joinP, putAt]
  have HCQ := Lib.hid (concat_q (g := w2.heap.size + 1) (n := 3) (c := 3) (L := addL rs r) ((pieces3 (w := w2) (A1 := some ⟨g, off, none⟩) (A3 := some ⟨g, off + p * 4 + 4, none⟩) (c1 := c) (c3 := (c - p - 1)) (n1 := p) (n3 := (rs.length - p - 1)) r q1 q3 (.inr ⟨_, _, rfl⟩) (.inr ⟨_, _, rfl⟩) l1 l3).below (Below.refl _ _).drew) rfl (by decide) hj (by have := addL_len (r := r) hn; omega))
  have HBL := ((kb2.bel.alloc kb2.bel.size (.cells #[.string ⟨r.c.toArray⟩, .int .i64 r.day, .int .i64 r.num, .int .i64 r.den] 30)).alloc (Nat.le_trans kb2.bel.size (by simp)) (.cells #[.slice (some ⟨g, off, none⟩) p c, .slice (some ⟨w2.heap.size, 0, none⟩) 1 1, .slice (some ⟨g, off + p * 4 + 4, none⟩) (rs.length - p - 1) (c - p - 1)] 24)).drew
  go_cut [9] from 25 to 33 (fun v wx => ∃ O q, v = .slice O (addL rs r).length q ∧ Or wx w.heap.size O (addL rs r).length q (addL rs r) ∧ Below w.heap.size w wx)
  case first =>
    go_region_with (go_at_call 53; refine HCQ.out.mono ?_; rintro e w3 ⟨O, q, rfl, ho, b3⟩)
    all_goals
      go_wp2_with fail
      go_meet
      exact ⟨O, q, rfl, ho.mono HBL.size, belowGo HBL b3⟩
  case rest =>
    obtain ⟨O, q, rfl, ho, hbel⟩ := hcut
    have tb3 : Tbl _ O (addL rs r) := ⟨Or.rr ho, HX.out, by have := addL_len (r := r) hn; omega⟩
    rcases Bool.eq_false_or_eq_true (tabB (addL rs r)) with hb | hb
    · have E := Lib.hid (H0.out hb)
      go_wp2_with (go_at_call 17; refine (tabI_q tb3 hb).mono ?_; rintro e w4 ⟨rfl, b4⟩)
      go_ret2
      unfold NewRatesC
      rw [E.out]
      exact ⟨O, q, rfl, Or.below ho b4, belowGo hbel b4⟩
    · have E := Lib.hid (H1.out hb)
      go_wp2_with (go_at_call 17; refine (tabI_q tb3 hb).mono ?_; rintro e w4 ⟨rfl, b4⟩)
      go_ret2
      unfold NewRatesC
      rw [E.out]
      exact ⟨none, 0, rfl, Or.nil _ _, belowGo hbel b4⟩
end Go.Proofs.Ytaehkkcaoniphaa

/- impl.AddRate: all its ways. -/
namespace Go.Proofs.Ytaehkkcaoniphaa
open Go.ChangeShapes Go.WideShapes Go.ChangeAt Go.RowKit
set_option linter.unusedVariables false

/-- The place of a rate in a table. -/
def lowP (rs : List Rt) (r : Rt) : Nat := (rs.takeWhile (fun q => bef q r)).length
def hitP (rs : List Rt) (r : Rt) : Bool := match rs[lowP rs r]? with | some q => ordR q r == 0 | none => false
theorem low_of {r : Rt} : ∀ (rs : List Rt) (p : Nat), p ≤ rs.length → (∀ (i : Nat) (q : Rt), i < p → rs[i]? = some q → bef q r = true) → (∀ (i : Nat) (q : Rt), p ≤ i → rs[i]? = some q → bef q r = false) → lowP rs r = p := by
  intro rs
  induction rs with
  | nil => intro p hp _ _; simp at hp; subst hp; rfl
  | cons x xs ih =>
    intro p hp hlo hhi
    cases p with
    | zero =>
      have := hhi 0 x (Nat.le_refl _) rfl
      simp [lowP, this]
    | succ p =>
      have h0 := hlo 0 x (by omega) rfl
      have := ih p (by simp at hp; omega) (fun i q hi hq => hlo (i + 1) q (by omega) (by simpa using hq)) (fun i q hi hq => hhi (i + 1) q (by omega) (by simpa using hq))
      simp only [lowP] at this ⊢
      rw [List.takeWhile_cons_of_pos (by simpa using h0), List.length_cons, this]
theorem low_lo {r : Rt} : ∀ (rs : List Rt) (i : Nat) (q : Rt), i < lowP rs r → rs[i]? = some q → bef q r = true := by
  intro rs
  induction rs with
  | nil => intro i q hi; simp [lowP] at hi
  | cons x xs ih =>
    intro i q hi hq
    cases hx : bef x r with
    | false => simp [lowP, hx] at hi
    | true =>
      cases i with
      | zero => simp at hq; subst hq; exact hx
      | succ i =>
        simp only [lowP] at hi ih
        rw [List.takeWhile_cons_of_pos (by simpa using hx), List.length_cons] at hi
        exact ih i q (by omega) (by simpa using hq)
theorem low_at {r : Rt} : ∀ (rs : List Rt) (q : Rt), rs[lowP rs r]? = some q → bef q r = false := by
  intro rs
  induction rs with
  | nil => intro q hq; simp at hq
  | cons x xs ih =>
    intro q hq
    cases hx : bef x r with
    | false =>
      simp [lowP, hx] at hq; subst hq; exact hx
    | true =>
      simp only [lowP] at hq ih
      rw [List.takeWhile_cons_of_pos (by simpa using hx), List.length_cons] at hq
      exact ih q (by simpa using hq)
theorem low_le (rs : List Rt) (r : Rt) : lowP rs r ≤ rs.length := (List.takeWhile_sublist _).length_le
theorem low_hi {r : Rt} {rs : List Rt} (ht : tabB rs = true) (i : Nat) (q : Rt) (hi : lowP rs r ≤ i) (hq : rs[i]? = some q) : bef q r = false := by
  have hl : i < rs.length := (List.getElem?_eq_some_iff.1 hq).1
  have hp : rs[lowP rs r]? = some rs[lowP rs r] := List.getElem?_eq_getElem (by omega)
  have h0 := low_at rs _ hp
  rcases Nat.lt_or_ge (lowP rs r) i with h | h
  · cases hb : bef q r with
    | false => rfl
    | true => have := bef_trans (tab_before ht h hp hq) hb; rw [h0] at this; cases this
  · obtain rfl : i = lowP rs r := by omega
    rw [hp] at hq; cases hq; exact h0
theorem hit_at {rs : List Rt} {r q : Rt} (hq : rs[lowP rs r]? = some q) : hitP rs r = (ordR q r == 0) := by unfold hitP; rw [hq]
theorem hit_end {rs : List Rt} {r : Rt} (h : lowP rs r = rs.length) : hitP rs r = false := by
  unfold hitP; rw [h, List.getElem?_eq_none (Nat.le_refl _)]
theorem addL_low {rs : List Rt} (r : Rt) (ht : tabB rs = true) : addL rs r = putAt rs r (lowP rs r) (hitP rs r) :=
  addL_put ht (low_le rs r) (low_lo rs) (low_hi ht) (fun q hq => hit_at hq) hit_end
theorem bin_q (A : Option Addr) (c : Nat) (rs : List Rt) (r : Rt) (ht : tabB rs = true) (w : World) (h : Rr w A rs) :
    Calls Try.prog 51 #[.slice A rs.length c, .agg #[.string ⟨r.c.toArray⟩, .int .i64 r.day, .int .i64 r.num, .int .i64 r.den], .func (.func 52) #[] #[]] w (fun e w' => e = .returned (.tuple #[.int .i64 (lowP rs r : Nat), .bool (hitP rs r)]) ∧ Below w.heap.size w w') := by
  have hn : rs.length ≤ 20 := (tabB_iff.1 ht).2
  refine (bin_i A c rs r w h hn (fun i j q p hij hq hp hb => bef_trans (tab_before ht hij hq hp) hb)).mono ?_
  rintro e w' ⟨p, b, rfl, hb, hp, hlo, hhi, heq, hend⟩
  have hl := low_of rs p hp hlo hhi
  subst hl
  have : b = hitP rs r := by
    cases hq : rs[lowP rs r]? with
    | some q => rw [heq q hq, hit_at hq]
    | none =>
      have hl2 := List.getElem?_eq_none_iff.1 hq
      have := low_le rs r
      rw [hend (by omega), hit_end (by omega)]
  subst this
  exact ⟨rfl, hb⟩

theorem addRate_i (A : Option Addr) (c : Nat) (rs : List Rt) (r : Rt) (w : World) (h : Tbl w A rs) (hA : (A = none ∧ c = 0) ∨ ∃ b off, A = some ⟨b, off, none⟩) (hc : rs.length ≤ c) (hrl : r.c.length ≤ 1048576) :
    Calls Try.prog 11 #[.slice A rs.length c, .agg #[.string ⟨r.c.toArray⟩, .int .i64 r.day, .int .i64 r.num, .int .i64 r.den]] w (NewRatesC w (addR rs r)) := by
  rcases Bool.eq_false_or_eq_true (tabB rs) with ht | ht
  · have HB := bin_q A c rs r ht
    have HP := addL_low r ht
    have hle := low_le rs r
    rcases hA with ⟨rfl, rfl⟩ | ⟨g, off, rfl⟩
    · have hl0 : rs.length = 0 := by omega
      have e0 : lowP rs r = 0 := by omega
      have e1 : hitP rs r = false := hit_end (by omega)
      rw [e0, e1] at HB HP
      obtain rfl : rs = [] := List.eq_nil_of_length_eq_zero hl0
      exact addRate_wa r w h hrl ht HB HP
    · have hend : lowP rs r = rs.length → hitP rs r = false := hit_end
      generalize lowP rs r = p at *
      generalize hitP rs r = b at *
      rcases bin_ways hle hc hend with ⟨rfl, e1⟩ | ⟨rfl, e1, e2⟩ | ⟨rfl, e1, e2, e3⟩ | ⟨rfl, e1, e2, e3, e4⟩
      · obtain rfl : p = rs.length := by omega
        obtain rfl : c = rs.length := by omega
        exact addRate_wb g off rs r w h hrl ht HB HP
      · exact addRate_wc g off c p rs r w h hrl ht hle hc e1 e2 HB HP
      · exact addRate_wd g off c p rs r w h hrl ht hle hc e1 e2 e3 HB HP
      · exact addRate_we g off c p rs r w h hrl ht hle hc e1 e2 e3 e4 HB HP
  · have kb := KeepB.new w #[.string ⟨r.c.toArray⟩, .int .i64 r.day, .int .i64 r.num, .int .i64 r.den] 30
    have h0 := h.below kb.bel
    have HT := Lib.hid (tabI_q (c := c) h0 ht)
    have E := Lib.hid (@addR_no rs r ht)
    clear ht h
    go_enter Try.func11, Try.ntmps11
    go_wp2_with (go_at_call 17; refine HT.out.mono ?_; rintro e w1 ⟨rfl, b1⟩)
    go_ret2
    unfold NewRatesC
    rw [E.out]
    exact ⟨none, 0, rfl, Or.nil _ _, belowGo kb.bel b1⟩
end Go.Proofs.Ytaehkkcaoniphaa

/- The law of AddRate. -/
namespace Go.Proofs.Ytaehkkcaoniphaa
open Go.ChangeShapes Go.WideShapes Go.ChangeAt Go.RowKit
set_option linter.unusedVariables false

theorem addR_len (rs : List Rt) (r : Rt) : (addR rs r).1.length ≤ 41 := by
  rcases Bool.eq_false_or_eq_true (tabB rs) with h | h
  · rcases Bool.eq_false_or_eq_true (tabB (addL rs r)) with h2 | h2
    · rw [addR_0 h h2]; exact addL_len (tabB_iff.1 h).2
    · rw [addR_1 h h2]; simp
  · rw [addR_no h]; simp
theorem Or.adr {w : World} {base n c : Nat} {A : Option Addr} {rs : List Rt} (h : Or w base A n c rs) : (A = none ∧ c = 0) ∨ ∃ b off, A = some ⟨b, off, none⟩ := by
  rcases h.2 with ⟨h1, h2⟩ | ⟨g, cap, cur, h1, _⟩
  · injection h1 with h1 _ h3; exact .inl ⟨h1, h3⟩
  · injection h1 with h1; exact .inr ⟨g, 0, h1⟩
theorem Or.kept {w w' : World} {base n c m d : Nat} {A B : Option Addr} {rs : List Rt} (h : Or w base A n c rs) (hg : w.grownBy w' (Value.slice B m d).ownBlock) (hB : Bd B base) : Or w' base A n c rs :=
  World.ownsRow.kept h hg (by
    cases A with
    | none => exact .inl rfl
    | some a =>
      right
      cases B with
      | none => simp [Value.ownBlock]
      | some b =>
        intro e
        have h1 := h.lo a.block rfl
        have h2 := hB b rfl
        simp [Value.ownBlock] at e
        omega)
theorem addRate_iq {A : Option Addr} {c base : Nat} {rs : List Rt} (r : Rt) {w : World} (o : Or w base A rs.length c rs) (htx : ∀ q ∈ rs, q.c.length ≤ 1048576) (hn : rs.length ≤ 1048576) (hrl : r.c.length ≤ 1048576) :
    Calls Try.prog 11 #[.slice A rs.length c, .agg #[.string ⟨r.c.toArray⟩, .int .i64 r.day, .int .i64 r.num, .int .i64 r.den]] w (NewRatesC w (addR rs r)) :=
  addRate_i A c rs r w ⟨o.rr, htx, hn⟩ o.adr (own_room o) hrl

set_option maxRecDepth 100000 in
set_option maxHeartbeats 8000000 in
theorem law_FnExactAddRate (A : Option Addr) (c : Nat) (rs : List Rt) (r : Rt) (w : World) (hR : Rr w A rs) (hm : rs.length ≤ maxLen) (hw : ∀ r ∈ rs, r.wf) (hr : r.wf) :
    Calls Try.prog 5 #[.slice A rs.length c, .agg #[.string ⟨r.c.toArray⟩, .int .i64 r.day, .int .i64 r.num, .int .i64 r.den]] w fun e w' => e = .returned (.bool true) ∧ Below w.heap.size w w' := by
  have kb := KeepB.new w #[.string ⟨r.c.toArray⟩, .int .i64 r.day, .int .i64 r.num, .int .i64 r.den] 58
  have HZ := Lib.hid (szRateS_l A c rs 1048576 _ (hR.below kb.bel) (rok_of hw) hm (by omega) (by omega))
  have HO := Lib.hid (@szT_ok rs)
  have hmx := Lib.hid (fun h : 0 ≤ szT rs 1048576 => (szT_bd h).1)
  have hrm := hr.1
  generalize szT rs 1048576 = m at *
  go_enter Try.func5, Try.ntmps5
  go_wp2_with fail
  refine HZ.out.mono ?_
  rintro e w0 ⟨rfl, b0⟩
  have k0 := kb.step b0
  by_cases hneg : m < 0
  · have hbl := k0.bel
    go_wp2_with fail
    go_ret
    exact ⟨rfl, hbl⟩
  obtain ⟨hn, htx⟩ := HO.out (by omega)
  have hm1 := hmx.out (by omega)
  have HS1 := Lib.hid (szRate_l r m w0 (by omega) (by omega) hrm)
  clear HZ HO hm hw kb
  have c0 := k0.all.1; have c1 := k0.all.2.1; have c2 := k0.all.2.2.1; have c3 := k0.all.2.2.2.1
  by_cases hneg2 : m - r.c.length < 0
  · rw [if_pos hneg2] at HS1
    go_wp2_with fail
    refine HS1.out.mono ?_
    rintro e w1 ⟨rfl, b1⟩
    have hbl := (k0.step b1).bel
    go_wp2_with fail
    go_ret
    exact ⟨rfl, hbl⟩
  rw [if_neg hneg2] at HS1
  have hrl : r.c.length ≤ 1048576 := by omega
  go_wp2_with fail
  refine HS1.out.mono ?_
  rintro e w1 ⟨rfl, b1⟩
  have k1 := k0.step b1
  clear HS1 c0 c1 c2 c3 k0 hneg hmx
  have hal := addR_len rs r
  have HSP := Lib.hid (fun A d w h => addRate_s A d rs r w h hrl)
  have HIM := Lib.hid (fun A c base w o => @addRate_iq A c base rs r w o htx hn hrl)
  generalize addR rs r = p at hal HSP HIM
  have c0 := k1.all.1; have c1 := k1.all.2.1; have c2 := k1.all.2.2.1; have c3 := k1.all.2.2.2.1
  have hbw := k1.bel.drew
  have kd := k1.drew
  go_wp2_with fail
  go_cut [6, 7] from 26 to 33 (fun u v wx => ∃ C q, u = .slice C p.1.length q ∧ v = .int .i64 p.2 ∧ Or wx w.heap.size C p.1.length q p.1 ∧ KeepB w #[.string ⟨r.c.toArray⟩, .int .i64 r.day, .int .i64 r.num, .int .i64 r.den] 58 wx)
  case first =>
    go_region_with (first
      | (go_at_call 34; refine (toRateS_l A c rs _ (hR.below hbw) hn).mono ?_; rintro e wS ⟨AS, cS, rfl, oS, bS⟩; have hbw := belowGo hbw bS; have kd := kd.step bS; have c0 := kd.all.1; have c1 := kd.all.2.1; have c2 := kd.all.2.2.1; have c3 := kd.all.2.2.2.1)
      | (go_at_call 35; refine (toRate_l r _).mono ?_; rintro e wT ⟨rfl, bT⟩; have hbw := belowGo hbw bT; have kd := kd.step bT; have c0 := kd.all.1; have c1 := kd.all.2.1; have c2 := kd.all.2.2.1; have c3 := kd.all.2.2.2.1)
      | (go_at_call 12; refine (HSP.out AS cS _ ⟨by first | exact oS.rr | exact (oS.below bT).rr, htx, hn⟩).mono ?_; rintro e wA ⟨AA, cA, rfl, oA, bA⟩))
    all_goals
      go_wp2_with fail
      go_meet
      exact ⟨AA, cA, rfl, rfl, oA.mono hbw.size, kd.step bA⟩
  case rest =>
    obtain ⟨C2, c2', rfl, rfl, o2, kc⟩ := hcut
    have t2 := kc.bel
    have bd2 := o2.bd
    have hlt : w.heap.size < wc.heap.size := lt_some kc.a
    clear k1 kd hbw c0 c1 c2 c3
    go_wp2_with fail
    refine (toRateS_l A c rs _ (hR.below t2) hn).mono ?_
    rintro e w3 ⟨X3, x3, rfl, o3, b3⟩
    have t3 := belowGo t2 b3
    have k3 := kc.step b3
    have c0 := k3.all.1; have c1 := k3.all.2.1; have c2 := k3.all.2.2.1; have c3 := k3.all.2.2.2.1
    go_wp2_with fail
    refine (toRate_l r _).mono ?_
    rintro e w4 ⟨rfl, b4⟩
    have t4 := belowGo t3 b4
    have k4 := k3.step b4
    have o34 := o3.below b4
    have bx4 := o34.bd
    clear c0 c1 c2 c3
    go_wp2_with fail
    refine (HIM.out X3 x3 _ w4 o34).mono ?_
    rintro e w5 ⟨G5, g5, rfl, o5, b5⟩
    have t5 := belowGo t4 b5
    have k5 := k4.step b5
    have i5 := ((o2.below b3).below b4).below b5
    have x5 := o34.below b5
    go_wp2_with fail
    refine (eqRateS_l G5 C2 g5 c2' p.1 w5 o5.rr i5.rr (by omega)).mono ?_
    rintro e w6 ⟨rfl, b6⟩
    have t6 := belowGo t5 b6
    have k6 := k5.step b6
    go_wp2_with fail
    refine (toRateS_l A c rs _ (hR.below t6) hn).mono ?_
    rintro e w7 ⟨X7, x7, rfl, o7, b7⟩
    have t7 := belowGo t6 b7
    have k7 := k6.step b7
    go_wp2_with fail
    refine (eqRateS_l X3 X7 x3 x7 rs w7 ((x5.below b6).below b7).rr o7.rr (by omega)).mono ?_
    rintro e w8 ⟨rfl, b8⟩
    have t8 := belowGo t7 b8
    have k8 := k7.step b8
    have xx := ((x5.below b6).below b7).below b8
    go_wp2_with fail
    refine (markRateS_l X3 _ x3 1 rs _ w8 xx hn (by omega) (by omega)).mono ?_
    rintro e w9 ⟨rfl, o9, g9⟩
    have s23 : wc.heap.size ≤ w3.heap.size := b3.size
    have s38 : w3.heap.size ≤ w8.heap.size := Nat.le_trans b4.size (Nat.le_trans b5.size (Nat.le_trans b6.size (Nat.le_trans b7.size b8.size)))
    have s48 : w4.heap.size ≤ w8.heap.size := Nat.le_trans b5.size (Nat.le_trans b6.size (Nat.le_trans b7.size b8.size))
    have f9 : Below wc.heap.size w8 w9 := xx.far g9 (Nat.le_refl _) (by omega)
    have t9 : Below w.heap.size w w9 := Or.wrote t8 xx g9 t2.size t8.size
    have k9 : KeepB w #[.string ⟨r.c.toArray⟩, .int .i64 r.day, .int .i64 r.num, .int .i64 r.den] 58 w9 := ⟨(f9.block _ hlt).trans k8.a, t9⟩
    have g9' : Or w9 w4.heap.size G5 p.1.length g5 p.1 := (((o5.below b6).below b7).below b8).kept g9 bx4
    have i9 : Rr w9 C2 p.1 := Rw.keepB (((i5.below b6).below b7).below b8).rr bd2 f9
    have hk : decide (((1 + 4 * rs.length : Nat) : Int) < 0) = false := by simp; omega
    clear o9 f9 kc k3 k4 k5 k6 k7 k8 xx o34 o3 o2
    go_wp2_with fail
    refine (eqRateS_l G5 C2 g5 c2' p.1 w9 g9'.rr i9 (by omega)).mono ?_
    rintro e w10 ⟨rfl, b10⟩
    have t10 := belowGo t9 b10
    have k10 := k9.step b10
    have g10 := g9'.below b10
    have i10 : Rr w10 C2 p.1 := i9.below b10
    clear g9' i9
    go_wp2_with fail
    refine (markRateS_l G5 _ g5 1 p.1 _ w10 g10 (by omega) (by omega) (by omega)).mono ?_
    rintro e w11 ⟨rfl, o11, g11⟩
    have s9 : w4.heap.size ≤ w10.heap.size := Nat.le_trans s48 (Nat.le_trans g9.size b10.size)
    have s34 : w3.heap.size ≤ w4.heap.size := b4.size
    have f11 : Below wc.heap.size w10 w11 := g10.far g11 (by omega) (by omega)
    have t11 : Below w.heap.size w w11 := g10.wrote t10 g11 t4.size t10.size
    have k11 : KeepB w #[.string ⟨r.c.toArray⟩, .int .i64 r.day, .int .i64 r.num, .int .i64 r.den] 58 w11 := ⟨(f11.block _ hlt).trans k10.a, t11⟩
    have i11 := Rw.keepB i10 bd2 f11
    clear f11 g10
    go_wp2_with fail
    refine (heldRateS_l G5 _ g5 1 w11 o11.rr (by omega) (by omega) (by omega)).mono ?_
    rintro e w12 ⟨rfl, b12⟩
    have k12 := k11.step b12
    have t12 := k12.bel
    have i12 : Rr w12 C2 p.1 := Rw.below i11 b12
    have o12 := o11.below b12
    have hk2 : decide (((1 + 4 * p.1.length : Nat) : Int) < 0) = false := by simp; omega
    have hk3 : ((((1 + 4 * p.1.length : Nat) : Int)) != ((1 + 4 * p.1.length : Nat) : Int)) = false := by simp
    have c0 := k12.all.1; have c1 := k12.all.2.1; have c2 := k12.all.2.2.1; have c3 := k12.all.2.2.2.1
    have hbw := t12.drew
    have kd := k12.drew
    have hod := o12.below (Below.refl _ _).drew
    have hid := Rw.below i12 (Below.refl _ _).drew
    go_wp2_with fail
    go_cut [14, 15] from 84 to 91 (fun u v wx => ∃ C q, u = .slice C p.1.length q ∧ v = .int .i64 p.2 ∧ Rr wx C p.1 ∧ Below w12.heap.size w12 wx)
    case first =>
      have hbx := (Below.refl w12.heap.size w12).drew
      go_region_with (first
        | (go_at_call 34; refine (toRateS_l A c rs _ (hR.below hbw) hn).mono ?_; rintro e wS ⟨AS, cS, rfl, oS, bS⟩; have hbw := belowGo hbw bS; have hbx := belowGo hbx bS; have kd := kd.step bS; have c0 := kd.all.1; have c1 := kd.all.2.1; have c2 := kd.all.2.2.1; have c3 := kd.all.2.2.2.1)
        | (go_at_call 35; refine (toRate_l r _).mono ?_; rintro e wT ⟨rfl, bT⟩; have hbw := belowGo hbw bT; have hbx := belowGo hbx bT; have kd := kd.step bT; have c0 := kd.all.1; have c1 := kd.all.2.1; have c2 := kd.all.2.2.1; have c3 := kd.all.2.2.2.1)
        | (go_at_call 11; refine (HIM.out AS cS _ _ (by first | exact oS | exact (oS.below bT))).mono ?_; rintro e wA ⟨AA, cA, rfl, oA, bA⟩))
      all_goals
        go_wp2_with fail
        go_meet
        exact ⟨AA, cA, rfl, rfl, oA.rr, belowGo hbx bA⟩
    case rest =>
      obtain ⟨H13, h13, rfl, rfl, r13, b13⟩ := hcut
      have t13 := belowGo t12 b13
      have o13 := o12.below b13
      have i13 : Rr _ C2 p.1 := Rw.below i12 b13
      clear kd hbw c0 c1 c2 c3
      go_wp2_with fail
      refine (eqRateS_l H13 C2 h13 c2' p.1 _ r13 i13 (by omega)).mono ?_
      rintro e w14 ⟨rfl, b14⟩
      have t14 := belowGo t13 b14
      go_wp2_with fail
      refine (heldRateS_l G5 _ g5 1 w14 (o13.below b14).rr (by omega) (by omega) (by omega)).mono ?_
      rintro e w15 ⟨rfl, b15⟩
      have t15 := belowGo t14 b15
      go_wp2_with fail
      go_ret
      exact ⟨rfl, t15⟩
end Go.Proofs.Ytaehkkcaoniphaa

/- The source of drawn numbers: whatever it holds, what it gives lies in its range, and it writes into its own block alone. -/
namespace Go.Proofs.Ytaehkkcaoniphaa
open Go.ChangeShapes Go.WideShapes Go.ChangeAt Go.RowKit
set_option linter.unusedVariables false

theorem Rw.keepC {w w' : World} {A : Option Addr} {bs : List Int} {B : Nat} (h : Rw w A (bs.map (Value.int .u8))) (hA : bs ≠ [] → Bd A B) (hb : Below B w w') : Rw w' A (bs.map (Value.int .u8)) := by
  by_cases h0 : bs = []
  · subst h0; intro hp; simp at hp
  · exact h.keepB (hA h0) hb
theorem ne_nil {bs : List Int} {k : Nat} (h : k < bs.length) : bs ≠ [] := by rintro rfl; simp at h
/-- A source in block g, whose code lies below 'base'. -/
def Src (w : World) (base g : Nat) (A : Option Addr) (c : Nat) (bs : List Int) : Prop :=
  base ≤ g ∧ Rw w A (bs.map (Value.int .u8)) ∧ (bs ≠ [] → Bd A base) ∧ (∀ b ∈ bs, 0 ≤ b ∧ b ≤ 255) ∧ bs.length ≤ 4096 ∧
  ∃ (p : Nat) (s : Int), w.heap[g]? = some (.cells #[.slice A bs.length c, .int .i64 p, .int .i64 s] 90 (0, 0)) ∧ p ≤ bs.length ∧ 0 ≤ s ∧ s ≤ 2147483646

section
variable {w w' : World} {base g : Nat} {A : Option Addr} {c : Nat} {bs : List Int}
theorem Src.lt (h : Src w base g A c bs) : g < w.heap.size := by
  obtain ⟨_, _, _, _, _, p, s, hg, _⟩ := h
  rcases Nat.lt_or_ge g w.heap.size with hlt | hge
  · exact hlt
  · rw [Array.getElem?_eq_none hge] at hg; cases hg
theorem Src.drewN (h : Src w base g A c bs) (n : Nat) : Src (w.drewN n) base g A c bs := h
theorem Src.keep (h : Src w base g A c bs) (hb : Below (g + 1) w w') : Src w' base g A c bs := by
  have hl := h.lt
  obtain ⟨h1, h2, h3, h4, h5, p, s, hg, h6⟩ := h
  refine ⟨h1, h2.keepC h3 (hb.mono (by omega)), h3, h4, h5, p, s, ?_, h6⟩
  rw [hb.block g (by omega)]; exact hg
theorem Src.below (h : Src w base g A c bs) (hb : Below w.heap.size w w') : Src w' base g A c bs := h.keep (hb.mono (by have := h.lt; omega))
theorem Src.write (h : Src w base g A c bs) {j : Nat} {u : Value} (p : Nat) (s : Int) (hp : p ≤ bs.length) (h0 : 0 ≤ s) (h1 : s ≤ 2147483646)
    (hw : (w.setCell ⟨g, j, none⟩ u).heap[g]? = some (.cells #[.slice A bs.length c, .int .i64 p, .int .i64 s] 90 (0, 0))) :
    Src (w.setCell ⟨g, j, none⟩ u) base g A c bs ∧ w.grownBy (w.setCell ⟨g, j, none⟩ u) (some g) := by
  obtain ⟨g1, g2, g3, g4, g5, _⟩ := h
  refine ⟨⟨g1, g2.keepC g3 ?_, g3, g4, g5, p, s, hw, hp, h0, h1⟩, ⟨rfl, rfl, rfl, by simp, fun k _ hk => heap_setCell_other w ⟨g, j, none⟩ k u (fun e => hk (by simp [e]))⟩⟩
  exact (Below.refl _ _).setCell (by simpa using g1) _
end

theorem grown_drewN {w w' : World} {row : Option Nat} (h : w.grownBy w' row) (n : Nat) : w.grownBy (w'.drewN n) row := ⟨h.os, h.tape, h.output, h.size, h.block⟩

/-- What a draw leaves: a number in its range; the source goes on; nothing else is written. -/
def Drew (w : World) (base g : Nat) (A : Option Addr) (c : Nat) (bs : List Int) (lo hi : Int) (e : Ending) (w' : World) : Prop :=
  ∃ r : Int, e = .returned (.int .i64 r) ∧ lo ≤ r ∧ r ≤ hi ∧ Src w' base g A c bs ∧ w.grownBy w' (some g)

theorem mod_in {x n : Int} (hn : 1 < n) : 0 ≤ x % n ∧ x % n ≤ n - 1 := ⟨Int.emod_nonneg _ (by omega), by have := Int.emod_lt_of_pos x (by omega : 0 < n); omega⟩

set_option maxHeartbeats 1000000 in
theorem next_any (g : Nat) (n : Int) (base : Nat) (A : Option Addr) (c : Nat) (bs : List Int) (w : World) (h : Src w base g A c bs) (hn : n ≤ 9000000000000000000) :
    Calls Try.prog 65 #[.pointer (some ⟨g, 0, none⟩), .int .i64 n] w (Drew w base g A c bs 0 (max (n - 1) 0)) := by
  by_cases h1 : n ≤ 1
  · go_enter Try.func65, Try.ntmps65
    go_wp2_with fail
    go_ret
    exact ⟨0, rfl, by omega, by omega, h, World.grownBy.refl _ _⟩
  · have H := Lib.hid h
    obtain ⟨_, hA, _, hbs, hbl, p, s, hg, hp, s0, s1⟩ := h
    have c0 := cell_of_row w g 0 _ _ _ hg
    have c1 := cell_of_row w g 1 _ _ _ hg
    have c2 := cell_of_row w g 2 _ _ _ hg
    have f1 := frozen_of_row w g 1 _ _ hg
    have f2 := frozen_of_row w g 2 _ _ hg
    simp only [List.getElem?_toArray, List.getElem?_cons_zero, List.getElem?_cons_succ] at c0 c1 c2
    have HS := Lib.hid (H.out.write (j := 2) (u := .int .i64 ((s * 48271 + 29) % 2147483647)) p ((s * 48271 + 29) % 2147483647) hp (by omega) (by omega) (by rw [heap_setCell_same w g 2 _ _ _ hg]; rfl))
    have m0 : 0 ≤ (s * 48271 + 29) % 2147483647 := by omega
    have m1 : (s * 48271 + 29) % 2147483647 ≤ 2147483646 := by omega
    have h2g : Hid ((w.setCell ⟨g, 2, none⟩ (.int .i64 ((s * 48271 + 29) % 2147483647))).heap[g]? = some (.cells #[.slice A bs.length c, .int .i64 p, .int .i64 ((s * 48271 + 29) % 2147483647)] 90 (0, 0))) := Lib.hid (by rw [heap_setCell_same w g 2 _ _ _ hg]; rfl)
    clear hg
    by_cases hlt : p < bs.length
    · obtain ⟨b, off, rfl, hbl2, hcell⟩ := hA (by simp; omega)
      have hbg : b < g := Nat.lt_of_lt_of_le (H.out.2.2.1 (ne_nil hlt) _ rfl) H.out.1
      have hbne : b ≠ g := by omega
      have hx := hcell p (.int .u8 bs[p]) (by simp [hlt])
      have hxb := hbs bs[p] (List.getElem_mem hlt)
      generalize bs[p] = x at hx hxb
      obtain ⟨x0, x1⟩ := hxb
      have hd : decide ((p : Int) < (bs.length : Int)) = true := by simp; omega
      clear hcell hbs
      have HS2 : Hid (∀ a, Src (((w.setCell ⟨g, 2, none⟩ (.int .i64 ((s * 48271 + 29) % 2147483647))).drewN a).setCell ⟨g, 1, none⟩ (.int .i64 ((p : Int) + 1))) base g (some ⟨b, off, none⟩) c bs ∧
          w.grownBy (((w.setCell ⟨g, 2, none⟩ (.int .i64 ((s * 48271 + 29) % 2147483647))).drewN a).setCell ⟨g, 1, none⟩ (.int .i64 ((p : Int) + 1))) (some g)) := Lib.hid (fun a => by
        have h3 := (HS.out.1.drewN a).write (j := 1) (u := .int .i64 ((p : Int) + 1)) (p + 1) ((s * 48271 + 29) % 2147483647) (by omega) (by omega) (by omega) (by rw [heap_setCell_same ((w.setCell ⟨g, 2, none⟩ (.int .i64 ((s * 48271 + 29) % 2147483647))).drewN a) g 1 _ _ _ h2g.out]; simp)
        exact ⟨h3.1, (grown_drewN HS.out.2 a).trans h3.2⟩)
      by_cases h2 : n ≤ 256
      · by_cases h3 : ((p : Int) + 1) % 2 = 0
        · have h3' : (((p : Int) + 1) % 2 == 0) = true := by simpa using h3
          clear h3
          go_enter Try.func65, Try.ntmps65
          go_wp2_with fail
          go_quiet (fail)
          go_wp2_with fail
          go_quiet (fail)
          go_wp2_with fail
          go_quiet (fail)
          go_wp2_with fail
          go_ret
          exact ⟨_, rfl, (mod_in (by omega)).1, Int.le_trans (mod_in (by omega)).2 (by omega), (HS2.out _).1.drewN _, grown_drewN (HS2.out _).2 _⟩
        · have h3' : (((p : Int) + 1) % 2 == 0) = false := by simpa using h3
          clear h3
          go_enter Try.func65, Try.ntmps65
          go_wp2_with fail
          go_quiet (fail)
          go_wp2_with fail
          go_quiet (fail)
          go_wp2_with fail
          go_ret
          exact ⟨_, rfl, (mod_in (by omega)).1, Int.le_trans (mod_in (by omega)).2 (by omega), (HS2.out _).1, (HS2.out _).2⟩
      · go_enter Try.func65, Try.ntmps65
        go_wp2_with fail
        go_quiet (fail)
        go_wp2_with fail
        go_quiet (fail)
        go_wp2_with fail
        go_ret
        exact ⟨_, rfl, (mod_in (by omega)).1, Int.le_trans (mod_in (by omega)).2 (by omega), (HS2.out _).1, (HS2.out _).2⟩
    · have hd : decide ((p : Int) < (bs.length : Int)) = false := by simp; omega
      obtain ⟨r0, r1⟩ := mod_in (x := (s * 48271 + 29) % 2147483647 / 31) (n := n) (by omega)
      go_enter Try.func65, Try.ntmps65
      go_wp2_with fail
      go_quiet (fail)
      go_wp2_with fail
      go_ret
      exact ⟨_, rfl, r0, by omega, HS.out.1.drewN _, grown_drewN HS.out.2 _⟩

def NewSrc (w : World) (A : Option Addr) (c : Nat) (bs : List Int) (e : Ending) (w' : World) : Prop :=
  ∃ g, e = .returned (.pointer (some ⟨g, 0, none⟩)) ∧ Src w' w.heap.size g A c bs ∧ Below w.heap.size w w'

set_option maxHeartbeats 1000000 in
theorem from_any (A : Option Addr) (c : Nat) (bs : List Int) (w : World) (hA : Rw w A (bs.map (Value.int .u8))) (hB : bs ≠ [] → Bd A w.heap.size) (hbs : ∀ b ∈ bs, 0 ≤ b ∧ b ≤ 255) (hl : bs.length ≤ 4096) :
    Calls Try.prog 39 #[.slice A bs.length c] w (NewSrc w A c bs) := by
  have H0 : Hid (Src (w.alloc (Obj.cells #[.slice A bs.length c, .int .i64 0, .int .i64 41017] 90)) w.heap.size w.heap.size A c bs) := Lib.hid
    ⟨Nat.le_refl _, hA.below ((Below.refl _ _).alloc (Nat.le_refl _) _), hB, hbs, hl, 0, 41017, heap_alloc_new _ _, by omega, by omega, by omega⟩
  go_enter Try.func39, Try.ntmps39
  go_wp2_with fail
  go_loopw [4] (fun i wr => ∃ k : Nat, k ≤ bs.length ∧ k ≤ 64 ∧ i = .int .i64 k ∧ Src wr w.heap.size w.heap.size A c bs ∧ Below w.heap.size w wr) (fun i _ => bs.length - (intOf i).toNat)
  case atStart => exact ⟨0, Nat.zero_le _, by omega, rfl, H0.out, (Below.refl _ _).alloc (Nat.le_refl _) _⟩
  case round =>
    obtain ⟨k, hk, hk2, rfl, hsrc, hb⟩ := hrel
    by_cases hlt : k < bs.length
    · by_cases hlt2 : k < 64
      · have H := Lib.hid hsrc
        obtain ⟨_, hA2, _, _, _, p, s, hg, hp, s0, s1⟩ := hsrc
        obtain ⟨b, off, rfl, hbl2, hcell⟩ := hA2 (by simp; omega)
        have c2 := cell_of_row wr w.heap.size 2 _ _ _ hg
        have f2 := frozen_of_row wr w.heap.size 2 _ _ hg
        simp only [List.getElem?_toArray, List.getElem?_cons_zero, List.getElem?_cons_succ] at c2
        have hx := hcell k (.int .u8 bs[k]) (by simp [hlt])
        have hxb := hbs bs[k] (List.getElem_mem hlt)
        generalize bs[k] = x at hx hxb
        obtain ⟨x0, x1⟩ := hxb
        have HS := Lib.hid (H.out.write (j := 2) (u := .int .i64 ((s * 67 + x) % 2147483647)) p ((s * 67 + x) % 2147483647) hp (by omega) (by omega) (by rw [heap_setCell_same wr w.heap.size 2 _ _ _ hg]; rfl))
        clear hA hB hbs hcell hg hA2
        go_wp2_with fail
        go_region
        go_wp2_with fail
        go_roundw
        case rel => exact ⟨k + 1, by omega, by omega, by go_num, HS.out.1.drewN 1, (hb.grown HS.out.2 hb.size (by simp)).drew⟩
        case measure => simp [intOf]; omega
      · have hd : decide ((k : Int) < 64) = false := by simp; omega
        go_wp2_with fail
        go_ret
        exact ⟨_, rfl, hsrc, hb⟩
    · go_wp2_with fail
      go_ret
      exact ⟨_, rfl, hsrc, hb⟩

theorem drew_chain {w w1 w2 : World} {g : Nat} (h : w.grownBy w1 (some g)) (k : w1.grownBy w2 (some g)) : w.grownBy w2 (some g) := h.trans k
theorem grown_alloc {w w1 : World} {g : Nat} (h : w.grownBy w1 (some g)) (o : Obj) : w.grownBy (w1.alloc o) (some g) := h.trans (World.grownBy_alloc w1 o _)
theorem Src.alloc {w : World} {base g : Nat} {A : Option Addr} {c : Nat} {bs : List Int} (h : Src w base g A c bs) (o : Obj) : Src (w.alloc o) base g A c bs :=
  h.below ((Below.refl _ _).alloc (Nat.le_refl _) _)
/-- Pick: one of the numbers. -/
theorem pick_any (g : Nat) (B : Option Addr) (d n : Nat) (xs : List Int) (lo hi : Int) (base : Nat) (A : Option Addr) (c : Nat) (bs : List Int) (w : World) (h : Src w base g A c bs) (hx : Ir w B xs) (hn : xs.length = n)
    (hne : ∀ a, B = some a → a.block ≠ g) (h0 : 0 < n) (h1 : n ≤ 1000) (hb : ∀ x ∈ xs, lo ≤ x ∧ x ≤ hi) :
    Calls Try.prog 66 #[.pointer (some ⟨g, 0, none⟩), .slice B n d] w (Drew w base g A c bs lo hi) := by
  subst hn
  go_enter Try.func66, Try.ntmps66
  go_wp2_with fail
  refine (next_any g _ base A c bs _ h (by omega)).mono ?_
  rintro e w1 ⟨r, rfl, r0, r1, hs1, hg1⟩
  obtain ⟨k, rfl⟩ := Int.eq_ofNat_of_zero_le r0
  have hk : k < xs.length := by omega
  obtain ⟨b, off, x, rfl, hc, hxk⟩ := Ir.at (Rw.grown hx hg1 hne) hk
  go_wp2_with fail
  go_ret
  have hxb := hb x (List.mem_of_getElem? hxk.out)
  exact ⟨x, rfl, hxb.1, hxb.2, hs1, hg1⟩

/-- Pick from numbers that the call has just laid. -/
theorem pick_new (g : Nat) (n : Nat) (xs : List Int) (lo hi : Int) (base : Nat) (A : Option Addr) (c : Nat) (bs : List Int) (w : World) (h : Src w base g A c bs) (hn : xs.length = n) (h0 : 0 < n) (h1 : n ≤ 1000)
    (hb : ∀ x ∈ xs, lo ≤ x ∧ x ≤ hi) :
    Calls Try.prog 66 #[.pointer (some ⟨g, 0, none⟩), .slice (some ⟨w.heap.size, 0, none⟩) n n] (w.alloc (.cells (xs.map (Value.int .i64)).toArray 2)) (Drew w base g A c bs lo hi) := by
  refine (pick_any g _ n n xs lo hi base A c bs _ (h.alloc _) (Rw.new w _ _ _) hn (by rintro a ⟨rfl⟩; have := h.lt; show w.heap.size ≠ g; omega) h0 h1 hb).mono ?_
  rintro e w' ⟨r, rfl, r0, r1, hs, hg⟩
  exact ⟨r, rfl, r0, r1, hs, (World.grownBy_alloc w _ _).trans hg⟩

theorem grown_below {w wr w' : World} {g : Nat} (h : w.grownBy wr (some g)) (hb : Below w.heap.size wr w') : w.grownBy w' (some g) :=
  ⟨hb.os.trans h.os, hb.tape.trans h.tape, hb.output.trans h.output, Nat.le_trans h.size hb.size, fun k hk hn => (hb.block k hk).trans (h.block k hk hn)⟩

theorem keepG {w w' : World} {g k : Nat} {o : Obj} (hg : w.grownBy w' (some g)) (h : w.heap[k]? = some o) (hne : k ≠ g) : w'.heap[k]? = some o :=
  (hg.block k (by
    rcases Nat.lt_or_ge k w.heap.size with hlt | hge
    · exact hlt
    · rw [Array.getElem?_eq_none hge] at h; cases h) (by simpa using hne)).trans h
/-- The code of a law: bytes, not many. -/
def Code0 (w : World) (A : Option Addr) (bs : List Int) : Prop := Rw w A (bs.map (Value.int .u8)) ∧ (bs ≠ [] → Bd A w.heap.size) ∧ (∀ b ∈ bs, 0 ≤ b ∧ b ≤ 255) ∧ bs.length ≤ 4096
theorem Code0.below {w w' : World} {A : Option Addr} {bs : List Int} (h : Code0 w A bs) (hb : Below w.heap.size w w') : Code0 w' A bs :=
  ⟨h.1.below hb, fun hn => (h.2.1 hn).mono hb.size, h.2.2⟩
theorem code_from (A : Option Addr) (c : Nat) (bs : List Int) (w : World) (h : Code0 w A bs) : Calls Try.prog 39 #[.slice A bs.length c] w (NewSrc w A c bs) :=
  from_any A c bs w h.1 h.2.1 h.2.2.1 h.2.2.2
theorem src_below {w w1 w2 : World} {g : Nat} (h : Below w.heap.size w w1) (hg : w1.grownBy w2 (some g)) (hl : w.heap.size ≤ g) : Below w.heap.size w w2 :=
  h.grown hg h.size (by simpa using hl)

end Go.Proofs.Ytaehkkcaoniphaa

