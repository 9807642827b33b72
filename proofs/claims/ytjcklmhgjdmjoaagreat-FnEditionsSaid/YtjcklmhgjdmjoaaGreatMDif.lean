import Derived.Test.YtjcklmhgjdmjoaaGreatMClm
import Derived.Test.YtjcklmhgjdmjoaaGreatMCll
namespace Go.Proofs.YtjcklmhgjdmjoaaGreat
open Go.ChangeShapes Go.WideShapes Go.ChangeAt Go.RowKit
set_option linter.unusedVariables false
theorem chain_last {ps : List Cls} (h : RB ps) (e : Evt) : ∀ (n k : Nat), k < ps.length -> 13 <= n + k -> ∃ xs j p, chainC ps e n k = xs ++ [((j : Nat) : Int)] /\ ps[j]? = some p /\ (p.e == 3) = false
 | 0, k, hk, hn => by have := h.hi; omega
 | n + 1, k, hk, hn => by
  have hj := h.first hk e
  have hge := first_ge ps k e
  have hp : ps[firstC ps k e]? = some ps[firstC ps k e] := List.getElem?_eq_getElem hj
  rcases Bool.eq_false_or_eq_true (ps[firstC ps k e].e == 3) with he | he
  ·
   have hbd := h.to _ _ hp (by simpa using he)
   have hbd2 := (fndIC_bd ps ps[firstC ps k e].t).2
   obtain ⟨xs, j, p, h1, h2, h3⟩ := chain_last h e n (fndIC ps ps[firstC ps k e].t).toNat (by omega) (by omega)
   exact ⟨(firstC ps k e : Int) :: xs, j, p, by rw [chain_go hp he, h1]; rfl, h2, h3⟩
  ·
   exact ⟨[], _, _, by rw [chain_stop hp he]; rfl, hp, he⟩
def resC (ps : List Cls) (e : Evt) : Int :=
 match (chainL ps e).getLast? with
 | some j => match ps[j.toNat]? with
  | some p => p.e
  | none => 0
 | none => 0
theorem resC_of {ps : List Cls} {e : Evt} {xs : List Int} {j : Nat} {p : Cls} (h : chainL ps e = xs ++ [(j : Int)]) (hp : ps[j]? = some p) : resC ps e = p.e := by
 unfold resC; rw [h]; simp [hp]
set_option maxRecDepth 100000 in
set_option maxHeartbeats 4000000 in
theorem res_s (A : Option Addr) (c : Nat) (ps : List Cls) (q : Evt) (w : World) (h : CTbl w A ps) (hrb : RB ps) :
  Calls Tryz.prog 58 #[.slice A ps.length c, .agg #[.int .i64 q.d, .int .i64 q.k, .string ⟨q.c.toArray⟩, .int .i64 q.a, .bool q.p, .bool q.v, .bool q.r]] w (Gives w (.int .i64 (resC ps q))) := by
 have h12 := hrb.hi
 have h1 := hrb.lo
 have kb := KeepE.new w q
 have HC := Lib.hid (chain_s A c ps q _ (h.below kb.bel) hrb)
 obtain ⟨xs, j, p, e1, e2, e3⟩ := chain_last hrb q 13 0 (by omega) (by omega)
 have hj := (List.getElem?_eq_some_iff.1 e2).1
 have E := Lib.hid (resC_of e1 e2)
 have EL : Hid (chainL ps q = xs ++ [(j : Int)]) := Lib.hid e1
 obtain ⟨b, off, p', rfl, hl, hp, h4⟩ := h.row.at hj
 obtain rfl : p = p' := by have a := hp.out; rw [e2] at a; exact Option.some.inj a
 have HR := Lib.hid (fun W (hb : Below w.heap.size w W) => (h4.below hl hb).c5)
 have HLn : Hid (xs.length <= 12) := Lib.hid (by have := chain_len ps q 13 0; rw [e1, List.length_append] at this; simp at this; omega)
 clear h hrb e1 e2 e3 hp h4
 rw [EL.out] at HC
 have c0 := kb.cells.c0; have c1 := kb.cells.c1; have c2 := kb.cells.c2; have c3 := kb.cells.c3; have c4 := kb.cells.c4; have c5 := kb.cells.c5; have c6 := kb.cells.c6
 go_enter Tryz.func58, Tryz.ntmps58
 go_wp2_with fail
 refine HC.out.mono ?_
 rintro e w1 ⟨C, cc, rfl, o1, b1⟩
 have t1 := kb.bel.trans (b1.mono kb.bel.size)
 obtain ⟨g, o, x, hC, hc, hx⟩ := o1.ir.at (k := xs.length) (by simp)
 have hx2 : x = (j : Int) := by have a := hx.out; simpa using a.symm
 subst hx2
 have r5 := HR.out _ t1
 have hlen : (xs ++ [(j : Int)]).length = xs.length + 1 := by simp
 have hL := HLn.out
 rw [hlen]
 subst hC
 have T1 := Lib.hid t1
 clear o1 b1 hx hlen t1 HC c0 c1 c2 c3 c4 c5 c6
 go_wp2_with fail
 go_ret
 exact ⟨by rw [E.out] <;> rfl, T1.out⟩
end Go.Proofs.YtjcklmhgjdmjoaaGreat

namespace Go.Proofs.YtjcklmhgjdmjoaaGreat
open Go.ChangeShapes Go.WideShapes Go.ChangeAt Go.RowKit
set_option linter.unusedVariables false
def evtD (k m : Nat) : Evt := ⟨0, (k : Int), [], 0, (m : Int) / 4 == 1, (m : Int) / 2 % 2 == 1, (m : Int) % 2 == 1⟩
def evtZ : Evt := ⟨0, 0, [], 0, false, false, false⟩
def neqD (a b : List Cls) (i : Nat) : Bool := resC a (evtD (i / 8) (i % 8)) != resC b (evtD (i / 8) (i % 8))
def difI (a b : List Cls) : Option Nat := (List.range 56).find? (neqD a b)
def difE (a b : List Cls) : Evt × Bool := match difI a b with | some i => (evtD (i / 8) (i % 8), true) | none => (evtZ, false)
theorem neqD_at (a b : List Cls) (k j : Nat) (hj : j < 8) : neqD a b (k * 8 + j) = (resC a (evtD k j) != resC b (evtD k j)) := by
 unfold neqD
 rw [show (k * 8 + j) / 8 = k by omega, show (k * 8 + j) % 8 = j by omega]
theorem difE_yes {a b : List Cls} {k j : Nat} (hk : k < 7) (hj : j < 8) (h : neqD a b (k * 8 + j) = true) (hn : ∀ i, i < k * 8 + j -> neqD a b i = false) : difE a b = (evtD k j, true) := by
 have : difI a b = some (k * 8 + j) := by
  unfold difI
  rw [List.find?_range_eq_some]
  exact ⟨h, by simpa using (by omega : k * 8 + j < 56), fun i hi => by rw [hn i hi]; rfl⟩
 unfold difE
 rw [this]
 show (evtD ((k * 8 + j) / 8) ((k * 8 + j) % 8), true) = _
 rw [show (k * 8 + j) / 8 = k by omega, show (k * 8 + j) % 8 = j by omega]
theorem difE_none {a b : List Cls} (hn : ∀ i, i < 56 -> neqD a b i = false) : difE a b = (evtZ, false) := by
 have : difI a b = none := by
  unfold difI
  rw [List.find?_eq_none]
  intro i hi
  rw [hn i (by simpa using hi)]; decide
 unfold difE
 rw [this]
structure KeepD (w : World) (g : Nat) (q z : Evt) (W : World) : Prop where
 a : W.heap[g]? = some (.cells #[.int .i64 q.d, .int .i64 q.k, .string ⟨q.c.toArray⟩, .int .i64 q.a, .bool q.p, .bool q.v, .bool q.r] 30 (0, 0))
 z : W.heap[w.heap.size]? = some (.cells #[.int .i64 z.d, .int .i64 z.k, .string ⟨z.c.toArray⟩, .int .i64 z.a, .bool z.p, .bool z.v, .bool z.r] 30 (0, 0))
 bel : Below w.heap.size w W
theorem KeepD.step {w W w' : World} {g : Nat} {q z : Evt} (k : KeepD w g q z W) (b : Below W.heap.size W w') : KeepD w g q z w' := ⟨(b.block _ (lt_some k.a)).trans k.a, (b.block _ (lt_some k.z)).trans k.z, belowGo k.bel b⟩
theorem KeepD.drew {w W : World} {g : Nat} {q z : Evt} (k : KeepD w g q z W) : KeepD w g q z W.drew := ⟨k.a, k.z, k.bel.drew⟩
theorem KeepD.at {w W : World} {g : Nat} {q z : Evt} (k : KeepD w g q z W) : EvtC W g 0 q :=
 ⟨by rw [cell_of_row _ _ _ _ _ _ k.a]; rfl, by rw [cell_of_row _ _ _ _ _ _ k.a]; rfl, by rw [cell_of_row _ _ _ _ _ _ k.a]; rfl, by rw [cell_of_row _ _ _ _ _ _ k.a]; rfl, by rw [cell_of_row _ _ _ _ _ _ k.a]; rfl, by rw [cell_of_row _ _ _ _ _ _ k.a]; rfl, by rw [cell_of_row _ _ _ _ _ _ k.a]; rfl⟩
theorem seven_done {w1 : World} {g : Nat} {x0 x1 x2 x3 x4 x5 x6 : Value} {t : TypeId} (h : w1.heap[g]? = some (.cells #[x0, x1, x2, x3, x4, x5, x6] t (0, 0))) (a0 a1 a2 a3 a4 a5 a6 : Value) :
  ∃ W, (((((((w1.setCell ⟨g, 0, none⟩ a0).setCell ⟨g, 1, none⟩ a1).setCell ⟨g, 2, none⟩ a2).setCell ⟨g, 3, none⟩ a3).setCell ⟨g, 4, none⟩ a4).setCell ⟨g, 5, none⟩ a5).setCell ⟨g, 6, none⟩ a6) = W /\
   W.heap[g]? = some (.cells #[a0, a1, a2, a3, a4, a5, a6] t (0, 0)) /\ ∀ (B : Nat) (w : World), B <= g -> Below B w w1 -> Below B w W := by
 refine ⟨_, rfl, ?_, fun B w hB hb => ((((((hb.setCell (by simpa using hB) _).setCell (by simpa using hB) _).setCell (by simpa using hB) _).setCell (by simpa using hB) _).setCell (by simpa using hB) _).setCell (by simpa using hB) _).setCell (by simpa using hB) _⟩
 have h0 : (w1.setCell ⟨g, 0, none⟩ a0).heap[g]? = some (.cells #[a0, x1, x2, x3, x4, x5, x6] t (0, 0)) := by rw [heap_setCell_same _ _ _ _ _ _ h]; rfl
 have h1 := heap_setCell_same _ g 1 _ _ a1 h0
 have h2 := heap_setCell_same _ g 2 _ _ a2 h1
 have h3 := heap_setCell_same _ g 3 _ _ a3 h2
 have h4 := heap_setCell_same _ g 4 _ _ a4 h3
 have h5 := heap_setCell_same _ g 5 _ _ a5 h4
 have h6 := heap_setCell_same _ g 6 _ _ a6 h5
 rw [h6]; rfl
structure KZ (w W : World) : Prop where
 z : W.heap[w.heap.size]? = some (.cells #[.int .i64 evtZ.d, .int .i64 evtZ.k, .string ⟨evtZ.c.toArray⟩, .int .i64 evtZ.a, .bool evtZ.p, .bool evtZ.v, .bool evtZ.r] 30 (0, 0))
 bel : Below w.heap.size w W
theorem KZ.step {w W w' : World} (k : KZ w W) (b : Below W.heap.size W w') : KZ w w' := ⟨(b.block _ (lt_some k.z)).trans k.z, belowGo k.bel b⟩
theorem KZ.new (w : World) : KZ w (w.alloc (.cells #[.int .i64 0, .int .i64 0, .string ⟨#[]⟩, .int .i64 0, .bool false, .bool false, .bool false] 30)) := ⟨heap_alloc_new _ _, (Below.refl _ _).alloc (Nat.le_refl _) _⟩
theorem KZ.event {w W : World} (k : KZ w W) (q : Evt) : KeepD w W.heap.size q evtZ (W.alloc (.cells #[.int .i64 q.d, .int .i64 q.k, .string ⟨q.c.toArray⟩, .int .i64 q.a, .bool q.p, .bool q.v, .bool q.r] 30)) :=
 ⟨heap_alloc_new _ _, ((below_alloc _ _).block _ (lt_some k.z)).trans k.z, belowGo k.bel (below_alloc _ _)⟩
theorem resE_y {w wr : World} {g : Nat} {q z : Evt} {A : Option Addr} {c : Nat} {ps : List Cls} {e : Evt} (h : CTbl w A ps) (hrb : RB ps) (y : Sub (KeepD w g q z)) :
  Calls Tryz.prog 58 #[.slice A ps.length c, .agg #[.int .i64 e.d, .int .i64 e.k, .string ⟨e.c.toArray⟩, .int .i64 e.a, .bool e.p, .bool e.v, .bool e.r]] y.w fun x w' => x = .returned (.int .i64 (resC ps e)) /\ ∃ z' : Sub (KeepD w g q z), w' = z'.w :=
 (res_s A c ps e y.w (h.below y.h.bel) hrb).mono fun x w' k => ⟨k.1, ⟨w', y.h.step k.2⟩, rfl⟩
set_option maxRecDepth 100000 in
set_option maxHeartbeats 8000000 in
theorem dif_s (A B : Option Addr) (c d : Nat) (as1 bs1 : List Cls) (w : World) (ha : CTbl w A as1) (hb' : CTbl w B bs1) (hra : RB as1) (hrb : RB bs1) :
  Calls Tryz.prog 31 #[.slice A as1.length c, .slice B bs1.length d] w (Gives w (.tuple #[.agg #[.int .i64 (difE as1 bs1).1.d, .int .i64 (difE as1 bs1).1.k, .string ⟨(difE as1 bs1).1.c.toArray⟩, .int .i64 (difE as1 bs1).1.a, .bool (difE as1 bs1).1.p, .bool (difE as1 bs1).1.v, .bool (difE as1 bs1).1.r], .bool (difE as1 bs1).2])) := by
 have kz := KZ.new w
 go_enter Tryz.func31, Tryz.ntmps31
 go_wp2_with fail
 go_loopw [6] (fun i wr => ∃ k : Nat, k <= 7 /\ i = .int .i64 (k : Int) /\ Hid (∀ i, i < k * 8 -> neqD as1 bs1 i = false) /\ KZ w wr) (fun i _ => 7 - (intOf i).toNat)
 case atStart => exact ⟨0, by omega, rfl, Lib.hid (fun i hi => by omega), kz⟩
 case round =>
  clear kz
  obtain ⟨k, hk, rfl, hno, kz⟩ := hrel
  by_cases hlt : k < 7
  ·
   have hk6 : decide ((k : Int) <= 6) = true := by simp; omega
   go_wp2_with fail
   go_loopw [7] (fun i wr => ∃ j : Nat, j <= 8 /\ i = .int .i64 (j : Int) /\ Hid (∀ i, i < k * 8 + j -> neqD as1 bs1 i = false) /\ KZ w wr) (fun i _ => 8 - (intOf i).toNat)
   case atStart => exact ⟨0, by omega, rfl, Lib.hid (fun i hi => hno.out i (by omega)), kz⟩
   case round =>
    clear kz
    obtain ⟨j, hj, rfl, hrow, kz⟩ := hrel
    by_cases hlt2 : j < 8
    ·
     have kd : KeepD w wr.heap.size (evtD k j) evtZ (wr.alloc (.cells #[.int .i64 0, .int .i64 (k : Int), .string ⟨#[]⟩, .int .i64 0, .bool ((j : Int) / 4 == 1), .bool ((j : Int) / 2 % 2 == 1), .bool ((j : Int) % 2 == 1)] 30)).drew := (kz.event (evtD k j)).drew
     have HA : Hid (∀ y : Sub (KeepD w wr.heap.size (evtD k j) evtZ), Calls Tryz.prog 58 #[.slice A as1.length c, .agg #[.int .i64 0, .int .i64 (k : Int), .string ⟨#[]⟩, .int .i64 0, .bool ((j : Int) / 4 == 1), .bool ((j : Int) / 2 % 2 == 1), .bool ((j : Int) % 2 == 1)]] y.w fun x w' => x = .returned (.int .i64 (resC as1 (evtD k j))) /\ ∃ z' : Sub (KeepD w wr.heap.size (evtD k j) evtZ), w' = z'.w) :=
      Lib.hid (fun y => resE_y (wr := wr) (c := c) (e := evtD k j) ha hra y)
     have HB : Hid (∀ y : Sub (KeepD w wr.heap.size (evtD k j) evtZ), Calls Tryz.prog 58 #[.slice B bs1.length d, .agg #[.int .i64 0, .int .i64 (k : Int), .string ⟨#[]⟩, .int .i64 0, .bool ((j : Int) / 4 == 1), .bool ((j : Int) / 2 % 2 == 1), .bool ((j : Int) % 2 == 1)]] y.w fun x w' => x = .returned (.int .i64 (resC bs1 (evtD k j))) /\ ∃ z' : Sub (KeepD w wr.heap.size (evtD k j) evtZ), w' = z'.w) :=
      Lib.hid (fun y => resE_y (wr := wr) (c := d) (e := evtD k j) hb' hrb y)
     have HN := Lib.hid (neqD_at as1 bs1 k j hlt2)
     have HY : Hid (neqD as1 bs1 (k * 8 + j) = true -> difE as1 bs1 = (⟨0, (k : Int), [], 0, (j : Int) / 4 == 1, (j : Int) / 2 % 2 == 1, (j : Int) % 2 == 1⟩, true)) := Lib.hid (fun h => @difE_yes as1 bs1 k j hlt hlt2 h hrow.out)
     have HS : Hid (neqD as1 bs1 (k * 8 + j) = false -> ∀ i, i < k * 8 + (j + 1) -> neqD as1 bs1 i = false) := Lib.hid (fun h i hi => by
      by_cases hq : i < k * 8 + j
      ·
       exact hrow.out i hq
      ·
       obtain rfl : i = k * 8 + j := by omega
       exact h)
     have q0 : ∀ y : Sub (KeepD w wr.heap.size (evtD k j) evtZ), y.w.cell? ⟨wr.heap.size, 0, none⟩ = some (.int .i64 0) := fun y => y.h.at.c0
     have q1 : ∀ y : Sub (KeepD w wr.heap.size (evtD k j) evtZ), y.w.cell? ⟨wr.heap.size, 1, none⟩ = some (.int .i64 (k : Int)) := fun y => y.h.at.c1
     have q2 : ∀ y : Sub (KeepD w wr.heap.size (evtD k j) evtZ), y.w.cell? ⟨wr.heap.size, 2, none⟩ = some (.string ⟨#[]⟩) := fun y => y.h.at.c2
     have q3 : ∀ y : Sub (KeepD w wr.heap.size (evtD k j) evtZ), y.w.cell? ⟨wr.heap.size, 3, none⟩ = some (.int .i64 0) := fun y => y.h.at.c3
     have q4 : ∀ y : Sub (KeepD w wr.heap.size (evtD k j) evtZ), y.w.cell? ⟨wr.heap.size, 4, none⟩ = some (.bool ((j : Int) / 4 == 1)) := fun y => y.h.at.c4
     have q5 : ∀ y : Sub (KeepD w wr.heap.size (evtD k j) evtZ), y.w.cell? ⟨wr.heap.size, 5, none⟩ = some (.bool ((j : Int) / 2 % 2 == 1)) := fun y => y.h.at.c5
     have q6 : ∀ y : Sub (KeepD w wr.heap.size (evtD k j) evtZ), y.w.cell? ⟨wr.heap.size, 6, none⟩ = some (.bool ((j : Int) % 2 == 1)) := fun y => y.h.at.c6
     generalize resC as1 (evtD k j) = ra at *
     generalize resC bs1 (evtD k j) = rb at *
     generalize evtD k j = q at *
     clear hrow hno kz ha hb' hra hrb
     by_cases hne : ra = rb
     ·
      subst hne
      have z0 : (ra != ra) = false := by simp
      have HR := Lib.hid (HS.out (HN.out.trans z0))
      clear HS HN HY
      go_wp2_with fail
      refine region_held (KeepD w wr.heap.size q evtZ) (by kernel_rfl) (by kernel_rfl) kd ?_
      repeat (go_big_quiet_step ((first | rfl | (go_at_call 58; first | with_reducible exact HA.out _ | with_reducible exact HB.out _))))
      refine wpQuiet_nil ?_
      rintro _ ⟨y, rfl⟩
      go_wp2_with fail
      go_roundw
      case rel => exact ⟨j + 1, by omega, by go_num, HR, ⟨y.h.z, y.h.bel⟩⟩
      case measure => simp [intOf]; omega
     ·
      have z0 : (ra != rb) = true := bne_iff_ne.2 hne
      have HR := Lib.hid (HY.out (HN.out.trans z0))
      clear HS HN HY hne
      go_wp2_with fail
      refine region_held (KeepD w wr.heap.size q evtZ) (by kernel_rfl) (by kernel_rfl) kd ?_
      repeat (go_big_quiet_step ((first | rfl | (go_at_call 58; first | with_reducible exact HA.out _ | with_reducible exact HB.out _))))
      refine wpQuiet_nil ?_
      rintro _ ⟨y, rfl⟩
      have x0 := q0 y; have x1 := q1 y; have x2 := q2 y; have x3 := q3 y; have x4 := q4 y; have x5 := q5 y; have x6 := q6 y
      have y0 : y.w.cell? ⟨w.heap.size, 0, none⟩ = some (.int .i64 0) := by rw [cell_of_row _ _ _ _ _ _ y.h.z]; rfl
      have y1 : y.w.cell? ⟨w.heap.size, 1, none⟩ = some (.int .i64 0) := by rw [cell_of_row _ _ _ _ _ _ y.h.z]; rfl
      have y2 : y.w.cell? ⟨w.heap.size, 2, none⟩ = some (.string ⟨#[]⟩) := by rw [cell_of_row _ _ _ _ _ _ y.h.z]; rfl
      have y3 : y.w.cell? ⟨w.heap.size, 3, none⟩ = some (.int .i64 0) := by rw [cell_of_row _ _ _ _ _ _ y.h.z]; rfl
      have y4 : y.w.cell? ⟨w.heap.size, 4, none⟩ = some (.bool false) := by rw [cell_of_row _ _ _ _ _ _ y.h.z]; rfl
      have y5 : y.w.cell? ⟨w.heap.size, 5, none⟩ = some (.bool false) := by rw [cell_of_row _ _ _ _ _ _ y.h.z]; rfl
      have y6 : y.w.cell? ⟨w.heap.size, 6, none⟩ = some (.bool false) := by rw [cell_of_row _ _ _ _ _ _ y.h.z]; rfl
      have f0 := frozen_of_row y.w w.heap.size 0 _ _ y.h.z; have f1 := frozen_of_row y.w w.heap.size 1 _ _ y.h.z; have f2 := frozen_of_row y.w w.heap.size 2 _ _ y.h.z; have f3 := frozen_of_row y.w w.heap.size 3 _ _ y.h.z; have f4 := frozen_of_row y.w w.heap.size 4 _ _ y.h.z; have f5 := frozen_of_row y.w w.heap.size 5 _ _ y.h.z; have f6 := frozen_of_row y.w w.heap.size 6 _ _ y.h.z
      clear q0 q1 q2 q3 q4 q5 q6 kd HA HB
      have Z := Lib.hid y.h.z
      have BL := Lib.hid y.h.bel
      go_wp2_with fail
      obtain ⟨W, hW, hh, hbel⟩ := seven_done Z.out (.int .i64 0) (.int .i64 (k : Int)) (.string ⟨#[]⟩) (.int .i64 0) (.bool ((j : Int) / 4 == 1)) (.bool ((j : Int) / 2 % 2 == 1)) (.bool ((j : Int) % 2 == 1))
      rw [hW]
      have r0 : W.cell? ⟨w.heap.size, 0, none⟩ = some (.int .i64 0) := by rw [cell_of_row _ _ _ _ _ _ hh]; rfl
      have r1 : W.cell? ⟨w.heap.size, 1, none⟩ = some (.int .i64 (k : Int)) := by rw [cell_of_row _ _ _ _ _ _ hh]; rfl
      have r2 : W.cell? ⟨w.heap.size, 2, none⟩ = some (.string ⟨#[]⟩) := by rw [cell_of_row _ _ _ _ _ _ hh]; rfl
      have r3 : W.cell? ⟨w.heap.size, 3, none⟩ = some (.int .i64 0) := by rw [cell_of_row _ _ _ _ _ _ hh]; rfl
      have r4 : W.cell? ⟨w.heap.size, 4, none⟩ = some (.bool ((j : Int) / 4 == 1)) := by rw [cell_of_row _ _ _ _ _ _ hh]; rfl
      have r5 : W.cell? ⟨w.heap.size, 5, none⟩ = some (.bool ((j : Int) / 2 % 2 == 1)) := by rw [cell_of_row _ _ _ _ _ _ hh]; rfl
      have r6 : W.cell? ⟨w.heap.size, 6, none⟩ = some (.bool ((j : Int) % 2 == 1)) := by rw [cell_of_row _ _ _ _ _ _ hh]; rfl
      rw [HR.out]
      exact bodyPost_ret (v := .tuple #[.agg #[.int .i64 0, .int .i64 (k : Int), .string ⟨#[]⟩, .int .i64 0, .bool ((j : Int) / 4 == 1), .bool ((j : Int) / 2 % 2 == 1), .bool ((j : Int) % 2 == 1)], .bool true]) (by simp [results, Tryz.results31, go_sem, r0, r1, r2, r3, r4, r5, r6]) rfl ⟨rfl, hbel _ _ (Nat.le_refl _) BL.out⟩
    ·
     have hr8 : Hid (∀ i, i < (k + 1) * 8 -> neqD as1 bs1 i = false) := Lib.hid (fun i hi => hrow.out i (by omega))
     clear hno hrow
     go_wp2_with fail
     go_roundw
     case rel => exact ⟨k + 1, by omega, by go_num, hr8, kz⟩
     case measure => simp [intOf]; omega
  ·
   have HR := Lib.hid (difE_none (a := as1) (b := bs1) (fun i hi => hno.out i (by omega)))
   clear hno
   have y0 : wr.cell? ⟨w.heap.size, 0, none⟩ = some (.int .i64 0) := by rw [cell_of_row _ _ _ _ _ _ kz.z]; rfl
   have y1 : wr.cell? ⟨w.heap.size, 1, none⟩ = some (.int .i64 0) := by rw [cell_of_row _ _ _ _ _ _ kz.z]; rfl
   have y2 : wr.cell? ⟨w.heap.size, 2, none⟩ = some (.string ⟨#[]⟩) := by rw [cell_of_row _ _ _ _ _ _ kz.z]; rfl
   have y3 : wr.cell? ⟨w.heap.size, 3, none⟩ = some (.int .i64 0) := by rw [cell_of_row _ _ _ _ _ _ kz.z]; rfl
   have y4 : wr.cell? ⟨w.heap.size, 4, none⟩ = some (.bool false) := by rw [cell_of_row _ _ _ _ _ _ kz.z]; rfl
   have y5 : wr.cell? ⟨w.heap.size, 5, none⟩ = some (.bool false) := by rw [cell_of_row _ _ _ _ _ _ kz.z]; rfl
   have y6 : wr.cell? ⟨w.heap.size, 6, none⟩ = some (.bool false) := by rw [cell_of_row _ _ _ _ _ _ kz.z]; rfl
   have f0 := frozen_of_row wr w.heap.size 0 _ _ kz.z; have f1 := frozen_of_row wr w.heap.size 1 _ _ kz.z; have f2 := frozen_of_row wr w.heap.size 2 _ _ kz.z; have f3 := frozen_of_row wr w.heap.size 3 _ _ kz.z; have f4 := frozen_of_row wr w.heap.size 4 _ _ kz.z; have f5 := frozen_of_row wr w.heap.size 5 _ _ kz.z; have f6 := frozen_of_row wr w.heap.size 6 _ _ kz.z
   have hk6 : decide ((k : Int) <= 6) = false := by simp; omega
   go_wp2_with fail
   obtain ⟨W, hW, hh, hbel⟩ := seven_done kz.z (.int .i64 0) (.int .i64 0) (.string ⟨#[]⟩) (.int .i64 0) (.bool false) (.bool false) (.bool false)
   rw [hW]
   have r0 : W.cell? ⟨w.heap.size, 0, none⟩ = some (.int .i64 0) := by rw [cell_of_row _ _ _ _ _ _ hh]; rfl
   have r1 : W.cell? ⟨w.heap.size, 1, none⟩ = some (.int .i64 0) := by rw [cell_of_row _ _ _ _ _ _ hh]; rfl
   have r2 : W.cell? ⟨w.heap.size, 2, none⟩ = some (.string ⟨#[]⟩) := by rw [cell_of_row _ _ _ _ _ _ hh]; rfl
   have r3 : W.cell? ⟨w.heap.size, 3, none⟩ = some (.int .i64 0) := by rw [cell_of_row _ _ _ _ _ _ hh]; rfl
   have r4 : W.cell? ⟨w.heap.size, 4, none⟩ = some (.bool false) := by rw [cell_of_row _ _ _ _ _ _ hh]; rfl
   have r5 : W.cell? ⟨w.heap.size, 5, none⟩ = some (.bool false) := by rw [cell_of_row _ _ _ _ _ _ hh]; rfl
   have r6 : W.cell? ⟨w.heap.size, 6, none⟩ = some (.bool false) := by rw [cell_of_row _ _ _ _ _ _ hh]; rfl
   rw [HR.out]
   exact bodyPost_ret (v := .tuple #[.agg #[.int .i64 0, .int .i64 0, .string ⟨#[]⟩, .int .i64 0, .bool false, .bool false, .bool false], .bool false]) (by simp [results, Tryz.results31, go_sem, r0, r1, r2, r3, r4, r5, r6]) rfl ⟨rfl, hbel _ _ (Nat.le_refl _) kz.bel⟩
end Go.Proofs.YtjcklmhgjdmjoaaGreat

namespace Go.Proofs.YtjcklmhgjdmjoaaGreat
open Go.ChangeShapes Go.WideShapes Go.ChangeAt Go.RowKit
set_option linter.unusedVariables false
def sdR (ps qs : List Cls) : Bool × Int := if rbB ps = true /\ rbB qs = true then (!(difE ps qs).2, 0) else (false, 1)
theorem sdR_no {ps qs : List Cls} (h : rbB ps = false ∨ rbB qs = false) : sdR ps qs = (false, 1) := by
 unfold sdR; rw [if_neg]; rintro ⟨h1, h2⟩; rcases h with h | h <;> simp_all
theorem sdR_ok {ps qs : List Cls} (h : rbB ps = true) (h1 : rbB qs = true) : sdR ps qs = (!(difE ps qs).2, 0) := by unfold sdR; rw [if_pos ⟨h, h1⟩]
def fdR (ps qs : List Cls) : Evt × Int := if rbB ps = true /\ rbB qs = true then (if (difE ps qs).2 = true then ((difE ps qs).1, 0) else (evtZ, 4)) else (evtZ, 1)
theorem fdR_no {ps qs : List Cls} (h : rbB ps = false ∨ rbB qs = false) : fdR ps qs = (evtZ, 1) := by
 unfold fdR; rw [if_neg]; rintro ⟨h1, h2⟩; rcases h with h | h <;> simp_all
theorem fdR_none {ps qs : List Cls} (h : rbB ps = true) (h1 : rbB qs = true) (h2 : (difE ps qs).2 = false) : fdR ps qs = (evtZ, 4) := by unfold fdR; rw [if_pos ⟨h, h1⟩, if_neg (by rw [h2]; decide)]
theorem fdR_ok {ps qs : List Cls} (h : rbB ps = true) (h1 : rbB qs = true) (h2 : (difE ps qs).2 = true) : fdR ps qs = ((difE ps qs).1, 0) := by unfold fdR; rw [if_pos ⟨h, h1⟩, if_pos h2]
set_option maxHeartbeats 2000000 in
theorem sd_s (A B : Option Addr) (c d : Nat) (ps qs : List Cls) (w : World) (ha : CTbl w A ps) (hb : CTbl w B qs) :
  Calls Tryz.prog 7 #[.slice A ps.length c, .slice B qs.length d] w (Gives w (.tuple #[.bool (sdR ps qs).1, .int .i64 (sdR ps qs).2])) := by
 rcases Bool.eq_false_or_eq_true (rbB ps) with h | h
 ·
  have HA := Lib.hid (rbS_q (c := c) ha h)
  rcases Bool.eq_false_or_eq_true (rbB qs) with h1 | h1
  ·
   have HB := Lib.hid (fun W (b : Below w.heap.size w W) => rbS_q (c := d) (hb.below b) h1)
   have HD := Lib.hid (fun W (b : Below w.heap.size w W) => dif_s A B c d ps qs W (ha.below b) (hb.below b) (rb_of h) (rb_of h1))
   have E := Lib.hid (sdR_ok h h1)
   generalize difE ps qs = D at *
   clear ha hb h h1
   go_enter Tryz.func7, Tryz.ntmps7
   go_wp2_with (first
    | (go_at_call 30; refine (HB.out _ b1).mono ?_; rintro e w2 ⟨rfl, b2⟩; have t2 := belowGo b1 b2)
    | (go_at_call 30; refine HA.out.mono ?_; rintro e w1 ⟨rfl, b1⟩)
    | (go_at_call 31; refine (HD.out _ t2).mono ?_; rintro e w3 ⟨rfl, b3⟩; have t3 := Lib.hid (belowGo (belowGo t2 b3) (below_alloc _ (.cells #[.int .i64 D.1.d, .int .i64 D.1.k, .string ⟨D.1.c.toArray⟩, .int .i64 D.1.a, .bool D.1.p, .bool D.1.v, .bool D.1.r] 30)))))
   go_ret2
   exact ⟨by rw [E.out] <;> rfl, t3.out⟩
  ·
   have HB := Lib.hid (fun W (b : Below w.heap.size w W) => rbS_q (c := d) (hb.below b) h1)
   have E := Lib.hid (@sdR_no ps qs (.inr h1))
   clear ha hb h h1
   go_enter Tryz.func7, Tryz.ntmps7
   go_wp2_with (first
    | (go_at_call 30; refine (HB.out _ b1).mono ?_; rintro e w2 ⟨rfl, b2⟩; have t2 := belowGo b1 b2)
    | (go_at_call 30; refine HA.out.mono ?_; rintro e w1 ⟨rfl, b1⟩))
   go_ret2
   exact ⟨by rw [E.out] <;> rfl, t2⟩
 ·
  have HA := Lib.hid (rbS_q (c := c) ha h)
  have E := Lib.hid (@sdR_no ps qs (.inl h))
  clear ha hb h
  go_enter Tryz.func7, Tryz.ntmps7
  go_wp2_with (go_at_call 30; refine HA.out.mono ?_; rintro e w1 ⟨rfl, b1⟩)
  go_ret2
  exact ⟨by rw [E.out] <;> rfl, b1⟩
theorem KZ.done {w W : World} (k : KZ w W) (q : Evt) : ∃ W', (((((((W.setCell ⟨w.heap.size, 0, none⟩ (.int .i64 q.d)).setCell ⟨w.heap.size, 1, none⟩ (.int .i64 q.k)).setCell ⟨w.heap.size, 2, none⟩ (.string ⟨q.c.toArray⟩)).setCell ⟨w.heap.size, 3, none⟩ (.int .i64 q.a)).setCell ⟨w.heap.size, 4, none⟩ (.bool q.p)).setCell ⟨w.heap.size, 5, none⟩ (.bool q.v)).setCell ⟨w.heap.size, 6, none⟩ (.bool q.r)) = W' /\
  EvtC W' w.heap.size 0 q /\ Below w.heap.size w W' := by
 obtain ⟨W', hW, hh, hbel⟩ := seven_done k.z (.int .i64 q.d) (.int .i64 q.k) (.string ⟨q.c.toArray⟩) (.int .i64 q.a) (.bool q.p) (.bool q.v) (.bool q.r)
 exact ⟨W', hW, ⟨by rw [cell_of_row _ _ _ _ _ _ hh]; rfl, by rw [cell_of_row _ _ _ _ _ _ hh]; rfl, by rw [cell_of_row _ _ _ _ _ _ hh]; rfl, by rw [cell_of_row _ _ _ _ _ _ hh]; rfl, by rw [cell_of_row _ _ _ _ _ _ hh]; rfl, by rw [cell_of_row _ _ _ _ _ _ hh]; rfl, by rw [cell_of_row _ _ _ _ _ _ hh]; rfl⟩, hbel _ _ (Nat.le_refl _) k.bel⟩
structure Z7 (w W : World) : Prop where
 c0 : W.cell? ⟨w.heap.size, 0, none⟩ = some (.int .i64 0)
 c1 : W.cell? ⟨w.heap.size, 1, none⟩ = some (.int .i64 0)
 c2 : W.cell? ⟨w.heap.size, 2, none⟩ = some (.string ⟨#[]⟩)
 c3 : W.cell? ⟨w.heap.size, 3, none⟩ = some (.int .i64 0)
 c4 : W.cell? ⟨w.heap.size, 4, none⟩ = some (.bool false)
 c5 : W.cell? ⟨w.heap.size, 5, none⟩ = some (.bool false)
 c6 : W.cell? ⟨w.heap.size, 6, none⟩ = some (.bool false)
 f0 : W.frozen? ⟨w.heap.size, 0, none⟩ = false
 f1 : W.frozen? ⟨w.heap.size, 1, none⟩ = false
 f2 : W.frozen? ⟨w.heap.size, 2, none⟩ = false
 f3 : W.frozen? ⟨w.heap.size, 3, none⟩ = false
 f4 : W.frozen? ⟨w.heap.size, 4, none⟩ = false
 f5 : W.frozen? ⟨w.heap.size, 5, none⟩ = false
 f6 : W.frozen? ⟨w.heap.size, 6, none⟩ = false
theorem KZ.at {w W : World} (k : KZ w W) : Z7 w W :=
 ⟨by rw [cell_of_row _ _ _ _ _ _ k.z]; rfl, by rw [cell_of_row _ _ _ _ _ _ k.z]; rfl, by rw [cell_of_row _ _ _ _ _ _ k.z]; rfl, by rw [cell_of_row _ _ _ _ _ _ k.z]; rfl, by rw [cell_of_row _ _ _ _ _ _ k.z]; rfl, by rw [cell_of_row _ _ _ _ _ _ k.z]; rfl, by rw [cell_of_row _ _ _ _ _ _ k.z]; rfl,
  frozen_of_row W _ 0 _ _ k.z, frozen_of_row W _ 1 _ _ k.z, frozen_of_row W _ 2 _ _ k.z, frozen_of_row W _ 3 _ _ k.z, frozen_of_row W _ 4 _ _ k.z, frozen_of_row W _ 5 _ _ k.z, frozen_of_row W _ 6 _ _ k.z⟩
set_option maxHeartbeats 4000000 in
theorem fd_s (A B : Option Addr) (c d : Nat) (ps qs : List Cls) (w : World) (ha : CTbl w A ps) (hb : CTbl w B qs) :
  Calls Tryz.prog 9 #[.slice A ps.length c, .slice B qs.length d] w (Gives w (.tuple #[.agg #[.int .i64 (fdR ps qs).1.d, .int .i64 (fdR ps qs).1.k, .string ⟨(fdR ps qs).1.c.toArray⟩, .int .i64 (fdR ps qs).1.a, .bool (fdR ps qs).1.p, .bool (fdR ps qs).1.v, .bool (fdR ps qs).1.r], .int .i64 (fdR ps qs).2])) := by
 have kz := KZ.new w
 rcases Bool.eq_false_or_eq_true (rbB ps) with h | h
 ·
  have HA := Lib.hid (rbS_q (c := c) (ha.below kz.bel) h)
  rcases Bool.eq_false_or_eq_true (rbB qs) with h1 | h1
  ·
   have HB := Lib.hid (fun W (b : Below w.heap.size w W) => rbS_q (c := d) (hb.below b) h1)
   have HD := Lib.hid (fun W (b : Below w.heap.size w W) => dif_s A B c d ps qs W (ha.below b) (hb.below b) (rb_of h) (rb_of h1))
   have E1 := Lib.hid (@fdR_none ps qs h h1)
   have E2 := Lib.hid (@fdR_ok ps qs h h1)
   generalize difE ps qs = D at *
   clear ha hb h h1
   rcases Bool.eq_false_or_eq_true D.2 with hd | hd
   ·
    have E := Lib.hid (E2.out hd)
    rw [hd] at HD
    clear E1 E2 hd
    go_enter Tryz.func9, Tryz.ntmps9
    go_wp2_with (first
     | (go_at_call 30; refine (HB.out _ k1.bel).mono ?_; rintro e w2 ⟨rfl, b2⟩; have k2 := k1.step b2; obtain ⟨d0, d1, d2, d3, d4, d5, d6, h0, h1, h2, h3, h4, h5, h6⟩ := k2.at)
     | (go_at_call 30; refine HA.out.mono ?_; rintro e w1 ⟨rfl, b1⟩; have k1 := kz.step b1; obtain ⟨c0, c1, c2, c3, c4, c5, c6, f0, f1, f2, f3, f4, f5, f6⟩ := k1.at)
     | (go_at_call 31; refine (HD.out _ k2.bel).mono ?_; rintro e w3 ⟨rfl, b3⟩; have k3 := k2.step b3; have k4 := k3.step (below_alloc _ (.cells #[.int .i64 (D.1).d, .int .i64 (D.1).k, .string ⟨(D.1).c.toArray⟩, .int .i64 (D.1).a, .bool (D.1).p, .bool (D.1).v, .bool (D.1).r] 30)); obtain ⟨e0, e1, e2, e3, e4, e5, e6, i0, i1, i2, i3, i4, i5, i6⟩ := k4.at))
    obtain ⟨W', hW, ec, bw⟩ := k4.done D.1
    rw [hW]
    have g0 := ec.c0; have g1 := ec.c1; have g2 := ec.c2; have g3 := ec.c3; have g4 := ec.c4; have g5 := ec.c5; have g6 := ec.c6
    rw [E.out]
    refine bodyPost_ret (v := .tuple #[.agg #[.int .i64 (D.1).d, .int .i64 (D.1).k, .string ⟨(D.1).c.toArray⟩, .int .i64 (D.1).a, .bool (D.1).p, .bool (D.1).v, .bool (D.1).r], .int .i64 0]) ?_ rfl ⟨rfl, bw⟩
    simp [results, Tryz.results9, go_sem, g0, g1, g2, g3, g4, g5, g6, evtZ]
   ·
    have E := Lib.hid (E1.out hd)
    rw [hd] at HD
    clear E1 E2 hd
    go_enter Tryz.func9, Tryz.ntmps9
    go_wp2_with (first
     | (go_at_call 30; refine (HB.out _ k1.bel).mono ?_; rintro e w2 ⟨rfl, b2⟩; have k2 := k1.step b2; obtain ⟨d0, d1, d2, d3, d4, d5, d6, h0, h1, h2, h3, h4, h5, h6⟩ := k2.at)
     | (go_at_call 30; refine HA.out.mono ?_; rintro e w1 ⟨rfl, b1⟩; have k1 := kz.step b1; obtain ⟨c0, c1, c2, c3, c4, c5, c6, f0, f1, f2, f3, f4, f5, f6⟩ := k1.at)
     | (go_at_call 31; refine (HD.out _ k2.bel).mono ?_; rintro e w3 ⟨rfl, b3⟩; have k3 := k2.step b3; have k4 := k3.step (below_alloc _ (.cells #[.int .i64 (D.1).d, .int .i64 (D.1).k, .string ⟨(D.1).c.toArray⟩, .int .i64 (D.1).a, .bool (D.1).p, .bool (D.1).v, .bool (D.1).r] 30)); obtain ⟨e0, e1, e2, e3, e4, e5, e6, i0, i1, i2, i3, i4, i5, i6⟩ := k4.at))
    obtain ⟨W', hW, ec, bw⟩ := k4.done evtZ
    simp only [evtZ] at hW; erw [hW]
    have g0 := ec.c0; have g1 := ec.c1; have g2 := ec.c2; have g3 := ec.c3; have g4 := ec.c4; have g5 := ec.c5; have g6 := ec.c6
    rw [E.out]
    refine bodyPost_ret (v := .tuple #[.agg #[.int .i64 0, .int .i64 0, .string ⟨#[]⟩, .int .i64 0, .bool false, .bool false, .bool false], .int .i64 4]) ?_ rfl ⟨rfl, bw⟩
    simp [results, Tryz.results9, go_sem, g0, g1, g2, g3, g4, g5, g6, evtZ]
  ·
   have HB := Lib.hid (fun W (b : Below w.heap.size w W) => rbS_q (c := d) (hb.below b) h1)
   have E := Lib.hid (@fdR_no ps qs (.inr h1))
   clear ha hb h h1
   go_enter Tryz.func9, Tryz.ntmps9
   go_wp2_with (first
    | (go_at_call 30; refine (HB.out _ k1.bel).mono ?_; rintro e w2 ⟨rfl, b2⟩; have k2 := k1.step b2; obtain ⟨d0, d1, d2, d3, d4, d5, d6, h0, h1, h2, h3, h4, h5, h6⟩ := k2.at)
    | (go_at_call 30; refine HA.out.mono ?_; rintro e w1 ⟨rfl, b1⟩; have k1 := kz.step b1; obtain ⟨c0, c1, c2, c3, c4, c5, c6, f0, f1, f2, f3, f4, f5, f6⟩ := k1.at))
   obtain ⟨W', hW, ec, bw⟩ := k2.done evtZ
   simp only [evtZ] at hW; erw [hW]
   have g0 := ec.c0; have g1 := ec.c1; have g2 := ec.c2; have g3 := ec.c3; have g4 := ec.c4; have g5 := ec.c5; have g6 := ec.c6
   rw [E.out]
   refine bodyPost_ret (v := .tuple #[.agg #[.int .i64 0, .int .i64 0, .string ⟨#[]⟩, .int .i64 0, .bool false, .bool false, .bool false], .int .i64 1]) ?_ rfl ⟨rfl, bw⟩
   simp [results, Tryz.results9, go_sem, g0, g1, g2, g3, g4, g5, g6, evtZ]
 ·
  have HA := Lib.hid (rbS_q (c := c) (ha.below kz.bel) h)
  have E := Lib.hid (@fdR_no ps qs (.inl h))
  clear ha hb h
  go_enter Tryz.func9, Tryz.ntmps9
  go_wp2_with (go_at_call 30; refine HA.out.mono ?_; rintro e w1 ⟨rfl, b1⟩; have k1 := kz.step b1; obtain ⟨c0, c1, c2, c3, c4, c5, c6, f0, f1, f2, f3, f4, f5, f6⟩ := k1.at)
  obtain ⟨W', hW, ec, bw⟩ := k1.done evtZ
  simp only [evtZ] at hW; erw [hW]
  have g0 := ec.c0; have g1 := ec.c1; have g2 := ec.c2; have g3 := ec.c3; have g4 := ec.c4; have g5 := ec.c5; have g6 := ec.c6
  rw [E.out]
  refine bodyPost_ret (v := .tuple #[.agg #[.int .i64 0, .int .i64 0, .string ⟨#[]⟩, .int .i64 0, .bool false, .bool false, .bool false], .int .i64 1]) ?_ rfl ⟨rfl, bw⟩
  simp [results, Tryz.results9, go_sem, g0, g1, g2, g3, g4, g5, g6, evtZ]
end Go.Proofs.YtjcklmhgjdmjoaaGreat

