/- spec.l02Date: the date with a number. -/
import Derived.Test.YtifioecofeojpaaDoorBox
namespace Go.Proofs.YtifioecofeojpaaDoor
open Go.ChangeShapes Go.WideShapes Go.ChangeAt Go.RowKit
set_option linter.unusedVariables false

/-- The call has laid two dates: its result, which is still zero, and the one that it works on. -/
def Two (w wr : World) (y m d : Int) : Prop :=
  wr.heap[w.heap.size]? = some (.cells #[.int .i64 0, .int .i64 0, .int .i64 0] 43 (0, 0)) ∧
  wr.heap[w.heap.size + 1]? = some (.cells #[.int .i64 y, .int .i64 m, .int .i64 d] 43 (0, 0)) ∧ Below w.heap.size w wr
theorem Two.new (w : World) (y m d : Int) : Two w ((w.alloc (.cells #[.int .i64 0, .int .i64 0, .int .i64 0] 43)).alloc (.cells #[.int .i64 y, .int .i64 m, .int .i64 d] 43)) y m d := by
  refine ⟨?_, ?_, below2 _ _ _⟩
  · rw [Below.heap_alloc _ _ _ (by simp)]; exact heap_alloc_new _ _
  · have := heap_alloc_new (w.alloc (.cells #[.int .i64 0, .int .i64 0, .int .i64 0] 43)) (.cells #[.int .i64 y, .int .i64 m, .int .i64 d] 43)
    rw [World.size_alloc] at this; exact this
theorem Two.below {w wr w' : World} {y m d : Int} (h : Two w wr y m d) (hb : Below wr.heap.size wr w') : Two w w' y m d :=
  ⟨(hb.block _ (lt_of_some h.1)).trans h.1, (hb.block _ (lt_of_some h.2.1)).trans h.2.1, belowGo h.2.2 hb⟩
theorem Two.set {w wr : World} {y m d : Int} (h : Two w wr y m d) (j : Nat) (v : Value) (y' m' d' : Int) (hs : #[Value.int .i64 y, .int .i64 m, .int .i64 d].setIfInBounds j v = #[.int .i64 y', .int .i64 m', .int .i64 d']) :
    Two w (wr.setCell ⟨w.heap.size + 1, j, none⟩ v) y' m' d' := by
  refine ⟨?_, ?_, h.2.2.setCell (by simp) _⟩
  · rw [Below.heap_setCell _ _ _ _ (by simp)]; exact h.1
  · rw [heap_setCell_same wr _ j _ _ _ h.2.1, hs]
theorem Two.cells {w wr : World} {y m d : Int} (h : Two w wr y m d) :
    wr.cell? ⟨w.heap.size + 1, 0, none⟩ = some (.int .i64 y) ∧ wr.cell? ⟨w.heap.size + 1, 1, none⟩ = some (.int .i64 m) ∧ wr.cell? ⟨w.heap.size + 1, 2, none⟩ = some (.int .i64 d) ∧
    wr.frozen? ⟨w.heap.size + 1, 0, none⟩ = false ∧ wr.frozen? ⟨w.heap.size + 1, 1, none⟩ = false ∧ wr.frozen? ⟨w.heap.size + 1, 2, none⟩ = false := by
  refine ⟨?_, ?_, ?_, frozen_of_row wr _ 0 _ _ h.2.1, frozen_of_row wr _ 1 _ _ h.2.1, frozen_of_row wr _ 2 _ _ h.2.1⟩ <;>
    (rw [cell_of_row _ _ _ _ _ _ h.2.1]; rfl)

theorem Two.res {w wr : World} {y m d : Int} (h : Two w wr y m d) :
    wr.cell? ⟨w.heap.size, 0, none⟩ = some (.int .i64 0) ∧ wr.cell? ⟨w.heap.size, 1, none⟩ = some (.int .i64 0) ∧ wr.cell? ⟨w.heap.size, 2, none⟩ = some (.int .i64 0) ∧
    wr.frozen? ⟨w.heap.size, 0, none⟩ = false ∧ wr.frozen? ⟨w.heap.size, 1, none⟩ = false ∧ wr.frozen? ⟨w.heap.size, 2, none⟩ = false := by
  refine ⟨?_, ?_, ?_, frozen_of_row wr _ 0 _ _ h.1, frozen_of_row wr _ 1 _ _ h.1, frozen_of_row wr _ 2 _ _ h.1⟩ <;>
    (rw [cell_of_row _ _ _ _ _ _ h.1]; rfl)

theorem Two.done {w wr : World} {y m d : Int} (h : Two w wr y m d) (v a b c : Value) :
    ∃ W, ((((wr.setCell ⟨w.heap.size + 1, 2, none⟩ v).setCell ⟨w.heap.size, 0, none⟩ a).setCell ⟨w.heap.size, 1, none⟩ b).setCell ⟨w.heap.size, 2, none⟩ c) = W ∧
      W.cell? ⟨w.heap.size, 0, none⟩ = some a ∧ W.cell? ⟨w.heap.size, 1, none⟩ = some b ∧ W.cell? ⟨w.heap.size, 2, none⟩ = some c ∧ Below w.heap.size w W := by
  refine ⟨_, rfl, ?_⟩
  have h1 : (wr.setCell ⟨w.heap.size + 1, 2, none⟩ v).heap[w.heap.size]? = some (.cells #[.int .i64 0, .int .i64 0, .int .i64 0] 43 (0, 0)) := by
    rw [Below.heap_setCell _ _ _ _ (by simp)]; exact h.1
  have h2 : ((wr.setCell ⟨w.heap.size + 1, 2, none⟩ v).setCell ⟨w.heap.size, 0, none⟩ a).heap[w.heap.size]? = some (.cells #[a, .int .i64 0, .int .i64 0] 43 (0, 0)) := by
    rw [heap_setCell_same _ _ _ _ _ _ h1]; rfl
  have h3 : (((wr.setCell ⟨w.heap.size + 1, 2, none⟩ v).setCell ⟨w.heap.size, 0, none⟩ a).setCell ⟨w.heap.size, 1, none⟩ b).heap[w.heap.size]? = some (.cells #[a, b, .int .i64 0] 43 (0, 0)) := by
    rw [heap_setCell_same _ _ _ _ _ _ h2]; rfl
  have h4 : ((((wr.setCell ⟨w.heap.size + 1, 2, none⟩ v).setCell ⟨w.heap.size, 0, none⟩ a).setCell ⟨w.heap.size, 1, none⟩ b).setCell ⟨w.heap.size, 2, none⟩ c).heap[w.heap.size]? = some (.cells #[a, b, c] 43 (0, 0)) := by
    rw [heap_setCell_same _ _ _ _ _ _ h3]; rfl
  refine ⟨?_, ?_, ?_, (((h.2.2.setCell (by simp) _).setCell (by simp) _).setCell (by simp) _).setCell (by simp) _⟩ <;>
    (rw [cell_of_row _ _ _ _ _ _ h4]; rfl)

def GiveN (w : World) (n : Int) (e : Ending) (w' : World) : Prop :=
  ∃ y m d : Int, e = .returned (.agg #[.int .i64 y, .int .i64 m, .int .i64 d]) ∧ okd y m d ∧ numd y m d = n ∧ Below w.heap.size w w'

theorem okd_of {y m r n : Int} (y0 : 1970 ≤ y) (y1 : y ≤ 2069) (m0 : 1 ≤ m) (m1 : m ≤ 12) (hr : n = start y + cum y m + r) (r0 : 0 ≤ r) (r1 : r < dlen y m) : okd y m (r + 1) ∧ numd y m (r + 1) = n :=
  ⟨⟨y0, y1, m0, m1, by omega, by omega⟩, by unfold numd; omega⟩
theorem month_in {y m n : Int} (y0 : 1970 ≤ y) (m1 : m ≤ 12) (h : start y + cum y m + dlen y m ≤ n) (hn : n < start (y + 1)) : m < 12 := by
  by_cases h12 : m = 12
  · subst h12
    have := cum_end y y0
    have : dlen y 12 = 31 := by simp [dlen]
    omega
  · omega
theorem year_in {y n : Int} (h : start (y + 1) ≤ n) (hn : n ≤ 36524) : y < 2069 := by
  by_cases hy : 2069 ≤ y
  · have := start_mono (show 2070 ≤ y + 1 by omega)
    rw [start_end] at this; omega
  · omega

set_option maxHeartbeats 1000000 in
theorem date_s (n : Int) (w : World) (n0 : 0 ≤ n) (n1 : n ≤ 36524) : Calls Tryd.prog 18 #[.int .i64 n] w (GiveN w n) := by
  have HN := Lib.hid (Two.new w 1970 1 1)
  have HS := Lib.hid (fun k (h0 : 1970 ≤ k) => start_step h0)
  have HT := Lib.hid (fun k (h0 : 1970 ≤ k) (h1 : k ≤ 2070) => start_in h0 h1)
  have HY := Lib.hid (fun y (h : start (y + 1) ≤ n) => year_in h n1)
  have HD := Lib.hid (fun y k => dlen_in y k)
  have HL := Lib.hid (fun y k w (y0 : 0 ≤ y) (y1 : y ≤ 1000000000000) (k0 : 1 ≤ k) (k1 : k ≤ 12) => len_s y k w y0 y1 k0 k1)
  go_enter Tryd.func18, Tryd.ntmps18
  go_wp2_with fail
  go_loopw [0] (fun v wr => ∃ y : Int, v = .int .i64 (n - start y) ∧ 1970 ≤ y ∧ y ≤ 2069 ∧ start y ≤ n ∧ Two w wr y 1 1) (fun v _ => (intOf v).toNat)
  case atStart => exact ⟨1970, by simp [start_0], by omega, by omega, by rw [start_0]; exact n0, HN.out⟩
  case round =>
    obtain ⟨y, rfl, y0, y1, hs, ht⟩ := hrel
    obtain ⟨c0, c1, c2, f0, f1, f2⟩ := ht.cells
    obtain ⟨l0, l1⟩ := HD.out y 2
    obtain ⟨s0, s1⟩ := HT.out y y0 (by omega)
    have HT1 := Lib.hid ht
    clear ht
    by_cases hy : 337 + dlen y 2 ≤ n - start y
    · have hst := Lib.hid (HS.out y y0)
      have hy2 := HY.out y (by rw [hst.out]; omega)
      go_wp2_with fail
      refine (HL.out _ _ _ (by omega) (by omega) (by omega) (by omega)).mono ?_
      rintro e w1 ⟨rfl, b1⟩
      have HT2 := Lib.hid (HT1.out.below b1)
      clear c0 c1 c2 f0 f1 f2
      obtain ⟨c0, c1, c2, f0, f1, f2⟩ := HT2.out.cells
      go_wp2_with fail
      refine (HL.out _ _ _ (by omega) (by omega) (by omega) (by omega)).mono ?_
      rintro e w2 ⟨rfl, b2⟩
      have HT3 := Lib.hid (HT2.out.below b2)
      clear c0 c1 c2 f0 f1 f2
      obtain ⟨c0, c1, c2, f0, f1, f2⟩ := HT3.out.cells
      go_wp2_with fail
      go_roundw
      case rel => exact ⟨y + 1, by rw [hst.out]; congr 1; omega, by omega, by omega, by rw [hst.out]; omega, HT3.out.set 0 _ (y + 1) 1 1 rfl⟩
      case measure => simp [intOf]; omega
    · have hn : n < start (y + 1) := by rw [HS.out y y0]; omega
      have HM := Lib.hid (fun m (h1 : m ≤ 12) (h : start y + cum y m + dlen y m ≤ n) => month_in y0 h1 h hn)
      have HC := Lib.hid (fun k (h0 : 1 ≤ k) (h1 : k ≤ 12) => cum_step (y := y) h0 h1)
      have HI := Lib.hid (fun k (h0 : 1 ≤ k) (h1 : k ≤ 12) => cum_in (y := y) h0 h1)
      have HO := Lib.hid (fun m r (m0 : 1 ≤ m) (m1 : m ≤ 12) (hr : n = start y + cum y m + r) (r0 : 0 ≤ r) (r1 : r < dlen y m) => okd_of y0 y1 m0 m1 hr r0 r1)
      have E0 := Lib.hid (cum_1 y)
      clear hn HS HT HY
      go_wp2_with fail
      refine (HL.out _ _ _ (by omega) (by omega) (by omega) (by omega)).mono ?_
      rintro e w1 ⟨rfl, b1⟩
      have HT2 := Lib.hid (HT1.out.below b1)
      clear c0 c1 c2 f0 f1 f2 HT1
      generalize start y = S at *
      generalize cum y = C at *
      go_wp2_with fail
      go_loopw [0] (fun v wr => ∃ m : Int, v = .int .i64 (n - S - C m) ∧ 1 ≤ m ∧ m ≤ 12 ∧ S + C m ≤ n ∧ Two w wr y m 1) (fun v _ => (intOf v).toNat)
      case atStart => exact ⟨1, by rw [E0.out]; simp, by omega, by omega, by rw [E0.out]; omega, HT2.out⟩
      case round =>
        clear HT2
        obtain ⟨m, rfl, m0, m1, hs, ht⟩ := hrel
        obtain ⟨c0, c1, c2, f0, f1, f2⟩ := ht.cells
        obtain ⟨l0, l1⟩ := HD.out y m
        obtain ⟨i0, i1⟩ := HI.out m m0 (by omega)
        have HT1 := Lib.hid ht
        clear ht
        by_cases hm : dlen y m ≤ n - S - C m
        · have hm2 := HM.out m m1 (by omega)
          have hst := Lib.hid (HC.out m m0 m1)
          go_wp2_with fail
          refine (HL.out _ _ _ (by omega) (by omega) (by omega) (by omega)).mono ?_
          rintro e w1 ⟨rfl, b1⟩
          have HT2 := Lib.hid (HT1.out.below b1)
          clear c0 c1 c2 f0 f1 f2
          obtain ⟨c0, c1, c2, f0, f1, f2⟩ := HT2.out.cells
          go_wp2_with fail
          refine (HL.out _ _ _ (by omega) (by omega) (by omega) (by omega)).mono ?_
          rintro e w2 ⟨rfl, b2⟩
          have HT3 := Lib.hid (HT2.out.below b2)
          clear c0 c1 c2 f0 f1 f2
          obtain ⟨c0, c1, c2, f0, f1, f2⟩ := HT3.out.cells
          go_wp2_with fail
          go_roundw
          case rel => exact ⟨m + 1, by rw [hst.out]; congr 1; omega, by omega, by omega, by rw [hst.out]; omega, HT3.out.set 1 _ y (m + 1) 1 rfl⟩
          case measure => simp [intOf]; omega
        · have ho := Lib.hid (HO.out m (n - S - C m) m0 m1 (by omega) (by omega) (by omega))
          go_wp2_with fail
          refine (HL.out _ _ _ (by omega) (by omega) (by omega) (by omega)).mono ?_
          rintro e w1 ⟨rfl, b1⟩
          have HT2 := Lib.hid (HT1.out.below b1)
          clear c0 c1 c2 f0 f1 f2
          obtain ⟨c0, c1, c2, f0, f1, f2⟩ := HT2.out.cells
          obtain ⟨k0, k1, k2, r0, r1, r2⟩ := HT2.out.res
          go_wp2_with fail
          obtain ⟨W, hW, e0, e1, e2, bW⟩ := HT2.out.done (.int .i64 (n - S - C m + 1)) (.int .i64 y) (.int .i64 m) (.int .i64 (n - S - C m + 1))
          rw [hW]
          clear hW HT2 HL HD HI HC HM HO HN
          exact bodyPost_ret (v := .agg #[.int .i64 y, .int .i64 m, .int .i64 (n - S - C m + 1)]) (by simp [results, Tryd.results18, go_sem, e0, e1, e2]) rfl ⟨y, m, _, rfl, ho.out.1, ho.out.2, bW⟩

end Go.Proofs.YtifioecofeojpaaDoor
