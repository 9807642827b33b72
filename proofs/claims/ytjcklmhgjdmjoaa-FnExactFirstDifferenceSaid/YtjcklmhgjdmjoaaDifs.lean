/- The first event that is decided differently: spec.l10Difference, SameDecisions, FirstDifference. -/
import Derived.Test.YtjcklmhgjdmjoaaDif
namespace Go.Proofs.Ytjcklmhgjdmjoaa
open Go.ChangeShapes Go.WideShapes Go.ChangeAt Go.RowKit
set_option linter.unusedVariables false

def evtD (k m : Nat) : Evt := ⟨0, (k : Int), [], 0, (m : Int) / 4 == 1, (m : Int) / 2 % 2 == 1, (m : Int) % 2 == 1⟩
def evtZ : Evt := ⟨0, 0, [], 0, false, false, false⟩
def neqD (a b : List Cls) (i : Nat) : Bool := resC a (evtD (i / 8) (i % 8)) != resC b (evtD (i / 8) (i % 8))
/-- The first of the events, by its number, that is decided differently. -/
def difI (a b : List Cls) : Option Nat := (List.range 56).find? (neqD a b)
def difE (a b : List Cls) : Evt × Bool := match difI a b with | some i => (evtD (i / 8) (i % 8), true) | none => (evtZ, false)
theorem neqD_at (a b : List Cls) (k j : Nat) (hj : j < 8) : neqD a b (k * 8 + j) = (resC a (evtD k j) != resC b (evtD k j)) := by
  unfold neqD
  rw [show (k * 8 + j) / 8 = k by omega, show (k * 8 + j) % 8 = j by omega]
theorem difE_yes {a b : List Cls} {k j : Nat} (hk : k < 7) (hj : j < 8) (h : neqD a b (k * 8 + j) = true) (hn : ∀ i, i < k * 8 + j → neqD a b i = false) : difE a b = (evtD k j, true) := by
  have : difI a b = some (k * 8 + j) := by
    unfold difI
    rw [List.find?_range_eq_some]
    exact ⟨h, by simpa using (by omega : k * 8 + j < 56), fun i hi => by rw [hn i hi]; rfl⟩
  unfold difE
  rw [this]
  show (evtD ((k * 8 + j) / 8) ((k * 8 + j) % 8), true) = _
  rw [show (k * 8 + j) / 8 = k by omega, show (k * 8 + j) % 8 = j by omega]
theorem difE_none {a b : List Cls} (hn : ∀ i, i < 56 → neqD a b i = false) : difE a b = (evtZ, false) := by
  have : difI a b = none := by
    unfold difI
    rw [List.find?_eq_none]
    intro i hi
    rw [hn i (by simpa using hi)]; decide
  unfold difE
  rw [this]
/-- An event lies at g, nothing yet at the answer's place. -/
structure KeepD (w : World) (g : Nat) (q z : Evt) (W : World) : Prop where
  a : W.heap[g]? = some (.cells #[.int .i64 q.d, .int .i64 q.k, .string ⟨q.c.toArray⟩, .int .i64 q.a, .bool q.p, .bool q.v, .bool q.r] 26 (0, 0))
  z : W.heap[w.heap.size]? = some (.cells #[.int .i64 z.d, .int .i64 z.k, .string ⟨z.c.toArray⟩, .int .i64 z.a, .bool z.p, .bool z.v, .bool z.r] 26 (0, 0))
  bel : Below w.heap.size w W
theorem KeepD.step {w W w' : World} {g : Nat} {q z : Evt} (k : KeepD w g q z W) (b : Below W.heap.size W w') : KeepD w g q z w' := ⟨(b.block _ (lt_some k.a)).trans k.a, (b.block _ (lt_some k.z)).trans k.z, belowGo k.bel b⟩
theorem KeepD.drew {w W : World} {g : Nat} {q z : Evt} (k : KeepD w g q z W) : KeepD w g q z W.drew := ⟨k.a, k.z, k.bel.drew⟩
theorem KeepD.at {w W : World} {g : Nat} {q z : Evt} (k : KeepD w g q z W) : EvtC W g 0 q :=
  ⟨by rw [cell_of_row _ _ _ _ _ _ k.a]; rfl, by rw [cell_of_row _ _ _ _ _ _ k.a]; rfl, by rw [cell_of_row _ _ _ _ _ _ k.a]; rfl, by rw [cell_of_row _ _ _ _ _ _ k.a]; rfl, by rw [cell_of_row _ _ _ _ _ _ k.a]; rfl, by rw [cell_of_row _ _ _ _ _ _ k.a]; rfl, by rw [cell_of_row _ _ _ _ _ _ k.a]; rfl⟩
theorem seven_done {w1 : World} {g : Nat} {x0 x1 x2 x3 x4 x5 x6 : Value} {t : TypeId} (h : w1.heap[g]? = some (.cells #[x0, x1, x2, x3, x4, x5, x6] t (0, 0))) (a0 a1 a2 a3 a4 a5 a6 : Value) :
    ∃ W, (((((((w1.setCell ⟨g, 0, none⟩ a0).setCell ⟨g, 1, none⟩ a1).setCell ⟨g, 2, none⟩ a2).setCell ⟨g, 3, none⟩ a3).setCell ⟨g, 4, none⟩ a4).setCell ⟨g, 5, none⟩ a5).setCell ⟨g, 6, none⟩ a6) = W ∧
      W.heap[g]? = some (.cells #[a0, a1, a2, a3, a4, a5, a6] t (0, 0)) ∧ ∀ (B : Nat) (w : World), B ≤ g → Below B w w1 → Below B w W := by
  refine ⟨_, rfl, ?_, fun B w hB hb => ((((((hb.setCell (by simpa using hB) _).setCell (by simpa using hB) _).setCell (by simpa using hB) _).setCell (by simpa using hB) _).setCell (by simpa using hB) _).setCell (by simpa using hB) _).setCell (by simpa using hB) _⟩
  have h0 : (w1.setCell ⟨g, 0, none⟩ a0).heap[g]? = some (.cells #[a0, x1, x2, x3, x4, x5, x6] t (0, 0)) := by rw [heap_setCell_same _ _ _ _ _ _ h]; rfl
  have h1 := heap_setCell_same _ g 1 _ _ a1 h0
  have h2 := heap_setCell_same _ g 2 _ _ a2 h1
  have h3 := heap_setCell_same _ g 3 _ _ a3 h2
  have h4 := heap_setCell_same _ g 4 _ _ a4 h3
  have h5 := heap_setCell_same _ g 5 _ _ a5 h4
  have h6 := heap_setCell_same _ g 6 _ _ a6 h5
  rw [h6]; rfl
structure KZ (w W : World) : Prop where
  z : W.heap[w.heap.size]? = some (.cells #[.int .i64 evtZ.d, .int .i64 evtZ.k, .string ⟨evtZ.c.toArray⟩, .int .i64 evtZ.a, .bool evtZ.p, .bool evtZ.v, .bool evtZ.r] 26 (0, 0))
  bel : Below w.heap.size w W
theorem KZ.step {w W w' : World} (k : KZ w W) (b : Below W.heap.size W w') : KZ w w' := ⟨(b.block _ (lt_some k.z)).trans k.z, belowGo k.bel b⟩
theorem KZ.new (w : World) : KZ w (w.alloc (.cells #[.int .i64 0, .int .i64 0, .string ⟨#[]⟩, .int .i64 0, .bool false, .bool false, .bool false] 26)) := ⟨heap_alloc_new _ _, (Below.refl _ _).alloc (Nat.le_refl _) _⟩
theorem KZ.event {w W : World} (k : KZ w W) (q : Evt) : KeepD w W.heap.size q evtZ (W.alloc (.cells #[.int .i64 q.d, .int .i64 q.k, .string ⟨q.c.toArray⟩, .int .i64 q.a, .bool q.p, .bool q.v, .bool q.r] 26)) :=
  ⟨heap_alloc_new _ _, ((below_alloc _ _).block _ (lt_some k.z)).trans k.z, belowGo k.bel (below_alloc _ _)⟩
theorem resE_y {w wr : World} {g : Nat} {q z : Evt} {A : Option Addr} {c : Nat} {ps : List Cls} {e : Evt} (h : CTbl w A ps) (hrb : RB ps) (y : Sub (KeepD w g q z)) :
    Calls Try.prog 77 #[.slice A ps.length c, .agg #[.int .i64 e.d, .int .i64 e.k, .string ⟨e.c.toArray⟩, .int .i64 e.a, .bool e.p, .bool e.v, .bool e.r]] y.w fun x w' => x = .returned (.int .i64 (resC ps e)) ∧ ∃ z' : Sub (KeepD w g q z), w' = z'.w :=
  (res_s A c ps e y.w (h.below y.h.bel) hrb).mono fun x w' k => ⟨k.1, ⟨w', y.h.step k.2⟩, rfl⟩
set_option maxRecDepth 100000 in
set_option maxHeartbeats 8000000 in
theorem dif_s (A B : Option Addr) (c d : Nat) (as1 bs1 : List Cls) (w : World) (ha : CTbl w A as1) (hb' : CTbl w B bs1) (hra : RB as1) (hrb : RB bs1) :
    Calls Try.prog 102 #[.slice A as1.length c, .slice B bs1.length d] w (Gives w (.tuple #[.agg #[.int .i64 (difE as1 bs1).1.d, .int .i64 (difE as1 bs1).1.k, .string ⟨(difE as1 bs1).1.c.toArray⟩, .int .i64 (difE as1 bs1).1.a, .bool (difE as1 bs1).1.p, .bool (difE as1 bs1).1.v, .bool (difE as1 bs1).1.r], .bool (difE as1 bs1).2])) := by
  have kz := KZ.new w
  go_enter Try.func102, Try.ntmps102
  go_wp2_with fail
  go_loopw [6] (fun i wr => ∃ k : Nat, k ≤ 7 ∧ i = .int .i64 (k : Int) ∧ Hid (∀ i, i < k * 8 → neqD as1 bs1 i = false) ∧ KZ w wr) (fun i _ => 7 - (intOf i).toNat)
  case atStart => exact ⟨0, by omega, rfl, Lib.hid (fun i hi => by omega), kz⟩
  case round =>
    clear kz
    obtain ⟨k, hk, rfl, hno, kz⟩ := hrel
    by_cases hlt : k < 7
    · have hk6 : decide ((k : Int) ≤ 6) = true := by simp; omega
      go_wp2_with fail
      go_loopw [7] (fun i wr => ∃ j : Nat, j ≤ 8 ∧ i = .int .i64 (j : Int) ∧ Hid (∀ i, i < k * 8 + j → neqD as1 bs1 i = false) ∧ KZ w wr) (fun i _ => 8 - (intOf i).toNat)
      case atStart => exact ⟨0, by omega, rfl, Lib.hid (fun i hi => hno.out i (by omega)), kz⟩
      case round =>
        clear kz
        obtain ⟨j, hj, rfl, hrow, kz⟩ := hrel
        by_cases hlt2 : j < 8
        · have kd : KeepD w wr.heap.size (evtD k j) evtZ (wr.alloc (.cells #[.int .i64 0, .int .i64 (k : Int), .string ⟨#[]⟩, .int .i64 0, .bool ((j : Int) / 4 == 1), .bool ((j : Int) / 2 % 2 == 1), .bool ((j : Int) % 2 == 1)] 26)).drew := (kz.event (evtD k j)).drew
          have HA : Hid (∀ y : Sub (KeepD w wr.heap.size (evtD k j) evtZ), Calls Try.prog 77 #[.slice A as1.length c, .agg #[.int .i64 0, .int .i64 (k : Int), .string ⟨#[]⟩, .int .i64 0, .bool ((j : Int) / 4 == 1), .bool ((j : Int) / 2 % 2 == 1), .bool ((j : Int) % 2 == 1)]] y.w fun x w' => x = .returned (.int .i64 (resC as1 (evtD k j))) ∧ ∃ z' : Sub (KeepD w wr.heap.size (evtD k j) evtZ), w' = z'.w) :=
            Lib.hid (fun y => resE_y (wr := wr) (c := c) (e := evtD k j) ha hra y)
          have HB : Hid (∀ y : Sub (KeepD w wr.heap.size (evtD k j) evtZ), Calls Try.prog 77 #[.slice B bs1.length d, .agg #[.int .i64 0, .int .i64 (k : Int), .string ⟨#[]⟩, .int .i64 0, .bool ((j : Int) / 4 == 1), .bool ((j : Int) / 2 % 2 == 1), .bool ((j : Int) % 2 == 1)]] y.w fun x w' => x = .returned (.int .i64 (resC bs1 (evtD k j))) ∧ ∃ z' : Sub (KeepD w wr.heap.size (evtD k j) evtZ), w' = z'.w) :=
            Lib.hid (fun y => resE_y (wr := wr) (c := d) (e := evtD k j) hb' hrb y)
          have HN := Lib.hid (neqD_at as1 bs1 k j hlt2)
          have HY : Hid (neqD as1 bs1 (k * 8 + j) = true → difE as1 bs1 = (⟨0, (k : Int), [], 0, (j : Int) / 4 == 1, (j : Int) / 2 % 2 == 1, (j : Int) % 2 == 1⟩, true)) := Lib.hid (fun h => @difE_yes as1 bs1 k j hlt hlt2 h hrow.out)
          have HS : Hid (neqD as1 bs1 (k * 8 + j) = false → ∀ i, i < k * 8 + (j + 1) → neqD as1 bs1 i = false) := Lib.hid (fun h i hi => by
            by_cases hq : i < k * 8 + j
            · exact hrow.out i hq
            · obtain rfl : i = k * 8 + j := by omega
              exact h)
          have q0 : ∀ y : Sub (KeepD w wr.heap.size (evtD k j) evtZ), y.w.cell? ⟨wr.heap.size, 0, none⟩ = some (.int .i64 0) := fun y => y.h.at.c0
          have q1 : ∀ y : Sub (KeepD w wr.heap.size (evtD k j) evtZ), y.w.cell? ⟨wr.heap.size, 1, none⟩ = some (.int .i64 (k : Int)) := fun y => y.h.at.c1
          have q2 : ∀ y : Sub (KeepD w wr.heap.size (evtD k j) evtZ), y.w.cell? ⟨wr.heap.size, 2, none⟩ = some (.string ⟨#[]⟩) := fun y => y.h.at.c2
          have q3 : ∀ y : Sub (KeepD w wr.heap.size (evtD k j) evtZ), y.w.cell? ⟨wr.heap.size, 3, none⟩ = some (.int .i64 0) := fun y => y.h.at.c3
          have q4 : ∀ y : Sub (KeepD w wr.heap.size (evtD k j) evtZ), y.w.cell? ⟨wr.heap.size, 4, none⟩ = some (.bool ((j : Int) / 4 == 1)) := fun y => y.h.at.c4
          have q5 : ∀ y : Sub (KeepD w wr.heap.size (evtD k j) evtZ), y.w.cell? ⟨wr.heap.size, 5, none⟩ = some (.bool ((j : Int) / 2 % 2 == 1)) := fun y => y.h.at.c5
          have q6 : ∀ y : Sub (KeepD w wr.heap.size (evtD k j) evtZ), y.w.cell? ⟨wr.heap.size, 6, none⟩ = some (.bool ((j : Int) % 2 == 1)) := fun y => y.h.at.c6
          generalize resC as1 (evtD k j) = ra at *
          generalize resC bs1 (evtD k j) = rb at *
          generalize evtD k j = q at *
          clear hrow hno kz ha hb' hra hrb
          by_cases hne : ra = rb
          · subst hne
            have z0 : (ra != ra) = false := by simp
            have HR := Lib.hid (HS.out (HN.out.trans z0))
            clear HS HN HY
            go_wp2_with fail
            refine region_held (KeepD w wr.heap.size q evtZ) (by kernel_rfl) (by kernel_rfl) kd ?_
            repeat (go_big_quiet_step ((first | rfl | (go_at_call 77; first | with_reducible exact HA.out _ | with_reducible exact HB.out _))))
            refine wpQuiet_nil ?_
            rintro _ ⟨y, rfl⟩
            go_wp2_with fail
            go_roundw
            case rel => exact ⟨j + 1, by omega, by go_num, HR, ⟨y.h.z, y.h.bel⟩⟩
            case measure => simp [intOf]; omega
          · have z0 : (ra != rb) = true := bne_iff_ne.2 hne
            have HR := Lib.hid (HY.out (HN.out.trans z0))
            clear HS HN HY hne
            go_wp2_with fail
            refine region_held (KeepD w wr.heap.size q evtZ) (by kernel_rfl) (by kernel_rfl) kd ?_
            repeat (go_big_quiet_step ((first | rfl | (go_at_call 77; first | with_reducible exact HA.out _ | with_reducible exact HB.out _))))
            refine wpQuiet_nil ?_
            rintro _ ⟨y, rfl⟩
            have x0 := q0 y; have x1 := q1 y; have x2 := q2 y; have x3 := q3 y; have x4 := q4 y; have x5 := q5 y; have x6 := q6 y
            have y0 : y.w.cell? ⟨w.heap.size, 0, none⟩ = some (.int .i64 0) := by rw [cell_of_row _ _ _ _ _ _ y.h.z]; rfl
            have y1 : y.w.cell? ⟨w.heap.size, 1, none⟩ = some (.int .i64 0) := by rw [cell_of_row _ _ _ _ _ _ y.h.z]; rfl
            have y2 : y.w.cell? ⟨w.heap.size, 2, none⟩ = some (.string ⟨#[]⟩) := by rw [cell_of_row _ _ _ _ _ _ y.h.z]; rfl
            have y3 : y.w.cell? ⟨w.heap.size, 3, none⟩ = some (.int .i64 0) := by rw [cell_of_row _ _ _ _ _ _ y.h.z]; rfl
            have y4 : y.w.cell? ⟨w.heap.size, 4, none⟩ = some (.bool false) := by rw [cell_of_row _ _ _ _ _ _ y.h.z]; rfl
            have y5 : y.w.cell? ⟨w.heap.size, 5, none⟩ = some (.bool false) := by rw [cell_of_row _ _ _ _ _ _ y.h.z]; rfl
            have y6 : y.w.cell? ⟨w.heap.size, 6, none⟩ = some (.bool false) := by rw [cell_of_row _ _ _ _ _ _ y.h.z]; rfl
            have f0 := frozen_of_row y.w w.heap.size 0 _ _ y.h.z; have f1 := frozen_of_row y.w w.heap.size 1 _ _ y.h.z; have f2 := frozen_of_row y.w w.heap.size 2 _ _ y.h.z; have f3 := frozen_of_row y.w w.heap.size 3 _ _ y.h.z; have f4 := frozen_of_row y.w w.heap.size 4 _ _ y.h.z; have f5 := frozen_of_row y.w w.heap.size 5 _ _ y.h.z; have f6 := frozen_of_row y.w w.heap.size 6 _ _ y.h.z
            clear q0 q1 q2 q3 q4 q5 q6 kd HA HB
            have Z := Lib.hid y.h.z
            have BL := Lib.hid y.h.bel
            go_wp2_with fail
            obtain ⟨W, hW, hh, hbel⟩ := seven_done Z.out (.int .i64 0) (.int .i64 (k : Int)) (.string ⟨#[]⟩) (.int .i64 0) (.bool ((j : Int) / 4 == 1)) (.bool ((j : Int) / 2 % 2 == 1)) (.bool ((j : Int) % 2 == 1))
            rw [hW]
            have r0 : W.cell? ⟨w.heap.size, 0, none⟩ = some (.int .i64 0) := by rw [cell_of_row _ _ _ _ _ _ hh]; rfl
            have r1 : W.cell? ⟨w.heap.size, 1, none⟩ = some (.int .i64 (k : Int)) := by rw [cell_of_row _ _ _ _ _ _ hh]; rfl
            have r2 : W.cell? ⟨w.heap.size, 2, none⟩ = some (.string ⟨#[]⟩) := by rw [cell_of_row _ _ _ _ _ _ hh]; rfl
            have r3 : W.cell? ⟨w.heap.size, 3, none⟩ = some (.int .i64 0) := by rw [cell_of_row _ _ _ _ _ _ hh]; rfl
            have r4 : W.cell? ⟨w.heap.size, 4, none⟩ = some (.bool ((j : Int) / 4 == 1)) := by rw [cell_of_row _ _ _ _ _ _ hh]; rfl
            have r5 : W.cell? ⟨w.heap.size, 5, none⟩ = some (.bool ((j : Int) / 2 % 2 == 1)) := by rw [cell_of_row _ _ _ _ _ _ hh]; rfl
            have r6 : W.cell? ⟨w.heap.size, 6, none⟩ = some (.bool ((j : Int) % 2 == 1)) := by rw [cell_of_row _ _ _ _ _ _ hh]; rfl
            rw [HR.out]
            exact bodyPost_ret (v := .tuple #[.agg #[.int .i64 0, .int .i64 (k : Int), .string ⟨#[]⟩, .int .i64 0, .bool ((j : Int) / 4 == 1), .bool ((j : Int) / 2 % 2 == 1), .bool ((j : Int) % 2 == 1)], .bool true]) (by simp [results, Try.results102, go_sem, r0, r1, r2, r3, r4, r5, r6]) rfl ⟨rfl, hbel _ _ (Nat.le_refl _) BL.out⟩
        · have hr8 : Hid (∀ i, i < (k + 1) * 8 → neqD as1 bs1 i = false) := Lib.hid (fun i hi => hrow.out i (by omega))
          clear hno hrow
          go_wp2_with fail
          go_roundw
          case rel => exact ⟨k + 1, by omega, by go_num, hr8, kz⟩
          case measure => simp [intOf]; omega
    · have HR := Lib.hid (difE_none (a := as1) (b := bs1) (fun i hi => hno.out i (by omega)))
      clear hno
      have y0 : wr.cell? ⟨w.heap.size, 0, none⟩ = some (.int .i64 0) := by rw [cell_of_row _ _ _ _ _ _ kz.z]; rfl
      have y1 : wr.cell? ⟨w.heap.size, 1, none⟩ = some (.int .i64 0) := by rw [cell_of_row _ _ _ _ _ _ kz.z]; rfl
      have y2 : wr.cell? ⟨w.heap.size, 2, none⟩ = some (.string ⟨#[]⟩) := by rw [cell_of_row _ _ _ _ _ _ kz.z]; rfl
      have y3 : wr.cell? ⟨w.heap.size, 3, none⟩ = some (.int .i64 0) := by rw [cell_of_row _ _ _ _ _ _ kz.z]; rfl
      have y4 : wr.cell? ⟨w.heap.size, 4, none⟩ = some (.bool false) := by rw [cell_of_row _ _ _ _ _ _ kz.z]; rfl
      have y5 : wr.cell? ⟨w.heap.size, 5, none⟩ = some (.bool false) := by rw [cell_of_row _ _ _ _ _ _ kz.z]; rfl
      have y6 : wr.cell? ⟨w.heap.size, 6, none⟩ = some (.bool false) := by rw [cell_of_row _ _ _ _ _ _ kz.z]; rfl
      have f0 := frozen_of_row wr w.heap.size 0 _ _ kz.z; have f1 := frozen_of_row wr w.heap.size 1 _ _ kz.z; have f2 := frozen_of_row wr w.heap.size 2 _ _ kz.z; have f3 := frozen_of_row wr w.heap.size 3 _ _ kz.z; have f4 := frozen_of_row wr w.heap.size 4 _ _ kz.z; have f5 := frozen_of_row wr w.heap.size 5 _ _ kz.z; have f6 := frozen_of_row wr w.heap.size 6 _ _ kz.z
      have hk6 : decide ((k : Int) ≤ 6) = false := by simp; omega
      go_wp2_with fail
      obtain ⟨W, hW, hh, hbel⟩ := seven_done kz.z (.int .i64 0) (.int .i64 0) (.string ⟨#[]⟩) (.int .i64 0) (.bool false) (.bool false) (.bool false)
      rw [hW]
      have r0 : W.cell? ⟨w.heap.size, 0, none⟩ = some (.int .i64 0) := by rw [cell_of_row _ _ _ _ _ _ hh]; rfl
      have r1 : W.cell? ⟨w.heap.size, 1, none⟩ = some (.int .i64 0) := by rw [cell_of_row _ _ _ _ _ _ hh]; rfl
      have r2 : W.cell? ⟨w.heap.size, 2, none⟩ = some (.string ⟨#[]⟩) := by rw [cell_of_row _ _ _ _ _ _ hh]; rfl
      have r3 : W.cell? ⟨w.heap.size, 3, none⟩ = some (.int .i64 0) := by rw [cell_of_row _ _ _ _ _ _ hh]; rfl
      have r4 : W.cell? ⟨w.heap.size, 4, none⟩ = some (.bool false) := by rw [cell_of_row _ _ _ _ _ _ hh]; rfl
      have r5 : W.cell? ⟨w.heap.size, 5, none⟩ = some (.bool false) := by rw [cell_of_row _ _ _ _ _ _ hh]; rfl
      have r6 : W.cell? ⟨w.heap.size, 6, none⟩ = some (.bool false) := by rw [cell_of_row _ _ _ _ _ _ hh]; rfl
      rw [HR.out]
      exact bodyPost_ret (v := .tuple #[.agg #[.int .i64 0, .int .i64 0, .string ⟨#[]⟩, .int .i64 0, .bool false, .bool false, .bool false], .bool false]) (by simp [results, Try.results102, go_sem, r0, r1, r2, r3, r4, r5, r6]) rfl ⟨rfl, hbel _ _ (Nat.le_refl _) kz.bel⟩
end Go.Proofs.Ytjcklmhgjdmjoaa
