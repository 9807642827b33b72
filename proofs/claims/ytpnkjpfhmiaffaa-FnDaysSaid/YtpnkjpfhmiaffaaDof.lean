/- DateOf: the date with a number. -/
import Derived.Test.YtpnkjpfhmiaffaaDateb
import Derived.Test.YtpnkjpfhmiaffaaBus
namespace Go.Proofs.Ytpnkjpfhmiaffaa
open Go.ChangeShapes Go.WideShapes Go.ChangeAt Go.RowKit
set_option linter.unusedVariables false

/-- The call has laid two dates: its result, which is still zero, and the one that it works on. -/
def Two (w wr : World) (y m d : Int) : Prop :=
  wr.heap[w.heap.size]? = some (.cells #[.int .i64 0, .int .i64 0, .int .i64 0] 25 (0, 0)) ∧
  wr.heap[w.heap.size + 1]? = some (.cells #[.int .i64 y, .int .i64 m, .int .i64 d] 25 (0, 0)) ∧ Below w.heap.size w wr
theorem lt_of_some {wr : World} {g : Nat} {o : Obj} (h : wr.heap[g]? = some o) : g < wr.heap.size := by
  rcases Nat.lt_or_ge g wr.heap.size with hlt | hge
  · exact hlt
  · rw [Array.getElem?_eq_none hge] at h; cases h
theorem Two.new (w : World) (y m d : Int) : Two w ((w.alloc (.cells #[.int .i64 0, .int .i64 0, .int .i64 0] 25)).alloc (.cells #[.int .i64 y, .int .i64 m, .int .i64 d] 25)) y m d := by
  refine ⟨?_, ?_, below2 _ _ _⟩
  · rw [Below.heap_alloc _ _ _ (by simp)]; exact heap_alloc_new _ _
  · have := heap_alloc_new (w.alloc (.cells #[.int .i64 0, .int .i64 0, .int .i64 0] 25)) (.cells #[.int .i64 y, .int .i64 m, .int .i64 d] 25)
    rw [World.size_alloc] at this; exact this
theorem Two.below {w wr w' : World} {y m d : Int} (h : Two w wr y m d) (hb : Below wr.heap.size wr w') : Two w w' y m d :=
  ⟨(hb.block _ (lt_of_some h.1)).trans h.1, (hb.block _ (lt_of_some h.2.1)).trans h.2.1, belowGo h.2.2 hb⟩
theorem Two.set {w wr : World} {y m d : Int} (h : Two w wr y m d) (j : Nat) (v : Value) (y' m' d' : Int) (hs : #[Value.int .i64 y, .int .i64 m, .int .i64 d].setIfInBounds j v = #[.int .i64 y', .int .i64 m', .int .i64 d']) :
    Two w (wr.setCell ⟨w.heap.size + 1, j, none⟩ v) y' m' d' := by
  refine ⟨?_, ?_, h.2.2.setCell (by simp) _⟩
  · rw [Below.heap_setCell _ _ _ _ (by simp)]; exact h.1
  · rw [heap_setCell_same wr _ j _ _ _ h.2.1, hs]
theorem Two.cells {w wr : World} {y m d : Int} (h : Two w wr y m d) :
    wr.cell? ⟨w.heap.size + 1, 0, none⟩ = some (.int .i64 y) ∧ wr.cell? ⟨w.heap.size + 1, 1, none⟩ = some (.int .i64 m) ∧ wr.cell? ⟨w.heap.size + 1, 2, none⟩ = some (.int .i64 d) ∧
    wr.frozen? ⟨w.heap.size + 1, 0, none⟩ = false ∧ wr.frozen? ⟨w.heap.size + 1, 1, none⟩ = false ∧ wr.frozen? ⟨w.heap.size + 1, 2, none⟩ = false := by
  refine ⟨?_, ?_, ?_, frozen_of_row wr _ 0 _ _ h.2.1, frozen_of_row wr _ 1 _ _ h.2.1, frozen_of_row wr _ 2 _ _ h.2.1⟩ <;>
    (rw [cell_of_row _ _ _ _ _ _ h.2.1]; rfl)

theorem Two.res {w wr : World} {y m d : Int} (h : Two w wr y m d) :
    wr.cell? ⟨w.heap.size, 0, none⟩ = some (.int .i64 0) ∧ wr.cell? ⟨w.heap.size, 1, none⟩ = some (.int .i64 0) ∧ wr.cell? ⟨w.heap.size, 2, none⟩ = some (.int .i64 0) ∧
    wr.frozen? ⟨w.heap.size, 0, none⟩ = false ∧ wr.frozen? ⟨w.heap.size, 1, none⟩ = false ∧ wr.frozen? ⟨w.heap.size, 2, none⟩ = false := by
  refine ⟨?_, ?_, ?_, frozen_of_row wr _ 0 _ _ h.1, frozen_of_row wr _ 1 _ _ h.1, frozen_of_row wr _ 2 _ _ h.1⟩ <;>
    (rw [cell_of_row _ _ _ _ _ _ h.1]; rfl)

theorem Two.done {w wr : World} {y m d : Int} (h : Two w wr y m d) (v a b c : Value) :
    ∃ W, ((((wr.setCell ⟨w.heap.size + 1, 2, none⟩ v).setCell ⟨w.heap.size, 0, none⟩ a).setCell ⟨w.heap.size, 1, none⟩ b).setCell ⟨w.heap.size, 2, none⟩ c) = W ∧
      W.cell? ⟨w.heap.size, 0, none⟩ = some a ∧ W.cell? ⟨w.heap.size, 1, none⟩ = some b ∧ W.cell? ⟨w.heap.size, 2, none⟩ = some c ∧ Below w.heap.size w W := by
  refine ⟨_, rfl, ?_⟩
  have h1 : (wr.setCell ⟨w.heap.size + 1, 2, none⟩ v).heap[w.heap.size]? = some (.cells #[.int .i64 0, .int .i64 0, .int .i64 0] 25 (0, 0)) := by
    rw [Below.heap_setCell _ _ _ _ (by simp)]; exact h.1
  have h2 : ((wr.setCell ⟨w.heap.size + 1, 2, none⟩ v).setCell ⟨w.heap.size, 0, none⟩ a).heap[w.heap.size]? = some (.cells #[a, .int .i64 0, .int .i64 0] 25 (0, 0)) := by
    rw [heap_setCell_same _ _ _ _ _ _ h1]; rfl
  have h3 : (((wr.setCell ⟨w.heap.size + 1, 2, none⟩ v).setCell ⟨w.heap.size, 0, none⟩ a).setCell ⟨w.heap.size, 1, none⟩ b).heap[w.heap.size]? = some (.cells #[a, b, .int .i64 0] 25 (0, 0)) := by
    rw [heap_setCell_same _ _ _ _ _ _ h2]; rfl
  have h4 : ((((wr.setCell ⟨w.heap.size + 1, 2, none⟩ v).setCell ⟨w.heap.size, 0, none⟩ a).setCell ⟨w.heap.size, 1, none⟩ b).setCell ⟨w.heap.size, 2, none⟩ c).heap[w.heap.size]? = some (.cells #[a, b, c] 25 (0, 0)) := by
    rw [heap_setCell_same _ _ _ _ _ _ h3]; rfl
  refine ⟨?_, ?_, ?_, (((h.2.2.setCell (by simp) _).setCell (by simp) _).setCell (by simp) _).setCell (by simp) _⟩ <;>
    (rw [cell_of_row _ _ _ _ _ _ h4]; rfl)

def GiveN (w : World) (n : Int) (e : Ending) (w' : World) : Prop :=
  ∃ y m d : Int, e = .returned (.agg #[.int .i64 y, .int .i64 m, .int .i64 d]) ∧ okd y m d ∧ numd y m d = n ∧ Below w.heap.size w w'

theorem okd_of {y m r n : Int} (y0 : 1970 ≤ y) (y1 : y ≤ 2069) (m0 : 1 ≤ m) (m1 : m ≤ 12) (hr : n = start y + cum y m + r) (r0 : 0 ≤ r) (r1 : r < dlen y m) : okd y m (r + 1) ∧ numd y m (r + 1) = n :=
  ⟨⟨y0, y1, m0, m1, by omega, by omega⟩, by unfold numd; omega⟩
theorem month_in {y m n : Int} (y0 : 1970 ≤ y) (m1 : m ≤ 12) (h : start y + cum y m + dlen y m ≤ n) (hn : n < start (y + 1)) : m < 12 := by
  by_cases h12 : m = 12
  · subst h12
    have := cum_end y y0
    have : dlen y 12 = 31 := by simp [dlen]
    omega
  · omega
theorem year_in {y n : Int} (h : start (y + 1) ≤ n) (hn : n ≤ 36524) : y < 2069 := by
  by_cases hy : 2069 ≤ y
  · have := start_mono (show 2070 ≤ y + 1 by omega)
    rw [start_end] at this; omega
  · omega

set_option maxHeartbeats 1000000 in
theorem date_s (n : Int) (w : World) (n0 : 0 ≤ n) (n1 : n ≤ 36524) : Calls Try.prog 38 #[.int .i64 n] w (GiveN w n) := by
  have HN := Lib.hid (Two.new w 1970 1 1)
  have HS := Lib.hid (fun k (h0 : 1970 ≤ k) => start_step h0)
  have HT := Lib.hid (fun k (h0 : 1970 ≤ k) (h1 : k ≤ 2070) => start_in h0 h1)
  have HY := Lib.hid (fun y (h : start (y + 1) ≤ n) => year_in h n1)
  have HD := Lib.hid (fun y k => dlen_in y k)
  have HL := Lib.hid (fun y k w (y0 : 0 ≤ y) (y1 : y ≤ 1000000000000) (k0 : 1 ≤ k) (k1 : k ≤ 12) => len_s y k w y0 y1 k0 k1)
  go_enter Try.func38, Try.ntmps38
  go_wp2_with fail
  go_loopw [0] (fun v wr => ∃ y : Int, v = .int .i64 (n - start y) ∧ 1970 ≤ y ∧ y ≤ 2069 ∧ start y ≤ n ∧ Two w wr y 1 1) (fun v _ => (intOf v).toNat)
  case atStart => exact ⟨1970, by simp [start_0], by omega, by omega, by rw [start_0]; exact n0, HN.out⟩
  case round =>
    obtain ⟨y, rfl, y0, y1, hs, ht⟩ := hrel
    obtain ⟨c0, c1, c2, f0, f1, f2⟩ := ht.cells
    obtain ⟨l0, l1⟩ := HD.out y 2
    obtain ⟨s0, s1⟩ := HT.out y y0 (by omega)
    have HT1 := Lib.hid ht
    clear ht
    by_cases hy : 337 + dlen y 2 ≤ n - start y
    · have hst := Lib.hid (HS.out y y0)
      have hy2 := HY.out y (by rw [hst.out]; omega)
      go_wp2_with fail
      refine (HL.out _ _ _ (by omega) (by omega) (by omega) (by omega)).mono ?_
      rintro e w1 ⟨rfl, b1⟩
      have HT2 := Lib.hid (HT1.out.below b1)
      clear c0 c1 c2 f0 f1 f2
      obtain ⟨c0, c1, c2, f0, f1, f2⟩ := HT2.out.cells
      go_wp2_with fail
      refine (HL.out _ _ _ (by omega) (by omega) (by omega) (by omega)).mono ?_
      rintro e w2 ⟨rfl, b2⟩
      have HT3 := Lib.hid (HT2.out.below b2)
      clear c0 c1 c2 f0 f1 f2
      obtain ⟨c0, c1, c2, f0, f1, f2⟩ := HT3.out.cells
      go_wp2_with fail
      go_roundw
      case rel => exact ⟨y + 1, by rw [hst.out]; congr 1; omega, by omega, by omega, by rw [hst.out]; omega, HT3.out.set 0 _ (y + 1) 1 1 rfl⟩
      case measure => simp [intOf]; omega
    · have hn : n < start (y + 1) := by rw [HS.out y y0]; omega
      have HM := Lib.hid (fun m (h1 : m ≤ 12) (h : start y + cum y m + dlen y m ≤ n) => month_in y0 h1 h hn)
      have HC := Lib.hid (fun k (h0 : 1 ≤ k) (h1 : k ≤ 12) => cum_step (y := y) h0 h1)
      have HI := Lib.hid (fun k (h0 : 1 ≤ k) (h1 : k ≤ 12) => cum_in (y := y) h0 h1)
      have HO := Lib.hid (fun m r (m0 : 1 ≤ m) (m1 : m ≤ 12) (hr : n = start y + cum y m + r) (r0 : 0 ≤ r) (r1 : r < dlen y m) => okd_of y0 y1 m0 m1 hr r0 r1)
      have E0 := Lib.hid (cum_1 y)
      clear hn HS HT HY
      go_wp2_with fail
      refine (HL.out _ _ _ (by omega) (by omega) (by omega) (by omega)).mono ?_
      rintro e w1 ⟨rfl, b1⟩
      have HT2 := Lib.hid (HT1.out.below b1)
      clear c0 c1 c2 f0 f1 f2 HT1
      generalize start y = S at *
      generalize cum y = C at *
      go_wp2_with fail
      go_loopw [0] (fun v wr => ∃ m : Int, v = .int .i64 (n - S - C m) ∧ 1 ≤ m ∧ m ≤ 12 ∧ S + C m ≤ n ∧ Two w wr y m 1) (fun v _ => (intOf v).toNat)
      case atStart => exact ⟨1, by rw [E0.out]; simp, by omega, by omega, by rw [E0.out]; omega, HT2.out⟩
      case round =>
        clear HT2
        obtain ⟨m, rfl, m0, m1, hs, ht⟩ := hrel
        obtain ⟨c0, c1, c2, f0, f1, f2⟩ := ht.cells
        obtain ⟨l0, l1⟩ := HD.out y m
        obtain ⟨i0, i1⟩ := HI.out m m0 (by omega)
        have HT1 := Lib.hid ht
        clear ht
        by_cases hm : dlen y m ≤ n - S - C m
        · have hm2 := HM.out m m1 (by omega)
          have hst := Lib.hid (HC.out m m0 m1)
          go_wp2_with fail
          refine (HL.out _ _ _ (by omega) (by omega) (by omega) (by omega)).mono ?_
          rintro e w1 ⟨rfl, b1⟩
          have HT2 := Lib.hid (HT1.out.below b1)
          clear c0 c1 c2 f0 f1 f2
          obtain ⟨c0, c1, c2, f0, f1, f2⟩ := HT2.out.cells
          go_wp2_with fail
          refine (HL.out _ _ _ (by omega) (by omega) (by omega) (by omega)).mono ?_
          rintro e w2 ⟨rfl, b2⟩
          have HT3 := Lib.hid (HT2.out.below b2)
          clear c0 c1 c2 f0 f1 f2
          obtain ⟨c0, c1, c2, f0, f1, f2⟩ := HT3.out.cells
          go_wp2_with fail
          go_roundw
          case rel => exact ⟨m + 1, by rw [hst.out]; congr 1; omega, by omega, by omega, by rw [hst.out]; omega, HT3.out.set 1 _ y (m + 1) 1 rfl⟩
          case measure => simp [intOf]; omega
        · have ho := Lib.hid (HO.out m (n - S - C m) m0 m1 (by omega) (by omega) (by omega))
          go_wp2_with fail
          refine (HL.out _ _ _ (by omega) (by omega) (by omega) (by omega)).mono ?_
          rintro e w1 ⟨rfl, b1⟩
          have HT2 := Lib.hid (HT1.out.below b1)
          clear c0 c1 c2 f0 f1 f2
          obtain ⟨c0, c1, c2, f0, f1, f2⟩ := HT2.out.cells
          obtain ⟨k0, k1, k2, r0, r1, r2⟩ := HT2.out.res
          go_wp2_with fail
          obtain ⟨W, hW, e0, e1, e2, bW⟩ := HT2.out.done (.int .i64 (n - S - C m + 1)) (.int .i64 y) (.int .i64 m) (.int .i64 (n - S - C m + 1))
          rw [hW]
          clear hW HT2 HL HD HI HC HM HO HN
          exact bodyPost_ret (v := .agg #[.int .i64 y, .int .i64 m, .int .i64 (n - S - C m + 1)]) (by simp [results, Try.results38, go_sem, e0, e1, e2]) rfl ⟨y, m, _, rfl, ho.out.1, ho.out.2, bW⟩

theorem keep6 {W0 w' : World} {g : Nat} {a b c : Value} {t : TypeId} (hb : Below W0.heap.size W0 w') (h : W0.heap[g]? = some (.cells #[a, b, c] t (0, 0))) :
    w'.heap[g]? = some (.cells #[a, b, c] t (0, 0)) ∧ w'.cell? ⟨g, 0, none⟩ = some a ∧ w'.cell? ⟨g, 1, none⟩ = some b ∧ w'.cell? ⟨g, 2, none⟩ = some c ∧
    w'.frozen? ⟨g, 0, none⟩ = false ∧ w'.frozen? ⟨g, 1, none⟩ = false ∧ w'.frozen? ⟨g, 2, none⟩ = false := by
  have h1 := (hb.block _ (lt_of_some h)).trans h
  obtain ⟨c0, c1, c2⟩ := keep3 hb h
  exact ⟨h1, c0, c1, c2, frozen_of_row w' _ 0 _ _ h1, frozen_of_row w' _ 1 _ _ h1, frozen_of_row w' _ 2 _ _ h1⟩
theorem done3 {w1 : World} {g : Nat} {x y z : Value} {t : TypeId} (h : w1.heap[g]? = some (.cells #[x, y, z] t (0, 0))) (a b c : Value) :
    ∃ W, (((w1.setCell ⟨g, 0, none⟩ a).setCell ⟨g, 1, none⟩ b).setCell ⟨g, 2, none⟩ c) = W ∧
      W.cell? ⟨g, 0, none⟩ = some a ∧ W.cell? ⟨g, 1, none⟩ = some b ∧ W.cell? ⟨g, 2, none⟩ = some c ∧ ∀ (B : Nat) (w : World), B ≤ g → Below B w w1 → Below B w W := by
  refine ⟨_, rfl, ?_⟩
  have h2 : (w1.setCell ⟨g, 0, none⟩ a).heap[g]? = some (.cells #[a, y, z] t (0, 0)) := by
    rw [heap_setCell_same _ _ _ _ _ _ h]; rfl
  have h3 : ((w1.setCell ⟨g, 0, none⟩ a).setCell ⟨g, 1, none⟩ b).heap[g]? = some (.cells #[a, b, z] t (0, 0)) := by
    rw [heap_setCell_same _ _ _ _ _ _ h2]; rfl
  have h4 : (((w1.setCell ⟨g, 0, none⟩ a).setCell ⟨g, 1, none⟩ b).setCell ⟨g, 2, none⟩ c).heap[g]? = some (.cells #[a, b, c] t (0, 0)) := by
    rw [heap_setCell_same _ _ _ _ _ _ h3]; rfl
  refine ⟨?_, ?_, ?_, fun B w hB hb => ((hb.setCell (by simpa using hB) _).setCell (by simpa using hB) _).setCell (by simpa using hB) _⟩ <;>
    (rw [cell_of_row _ _ _ _ _ _ h4]; rfl)

/-- What DateOf answers: the date with this number, or none. -/
def DN (n y m d c : Int) : Prop := (inr n 0 36524 = true ∧ c = 0 ∧ okd y m d ∧ numd y m d = n) ∨ (inr n 0 36524 = false ∧ c = 2 ∧ y = 0 ∧ m = 0 ∧ d = 0)
theorem DN.same {n y m d c y' m' d' c' : Int} (h : DN n y m d c) (h' : DN n y' m' d' c') : y' = y ∧ m' = m ∧ d' = d ∧ c' = c := by
  rcases h with ⟨a1, rfl, a3, a4⟩ | ⟨a1, rfl, rfl, rfl, rfl⟩
  · rcases h' with ⟨_, rfl, a3', a4'⟩ | ⟨a1', _⟩
    · obtain ⟨rfl, rfl, rfl⟩ := numd_inj a3 a3' (a4.trans a4'.symm)
      exact ⟨rfl, rfl, rfl, rfl⟩
    · rw [a1] at a1'; cases a1'
  · rcases h' with ⟨a1', _⟩ | ⟨_, rfl, rfl, rfl, rfl⟩
    · rw [a1] at a1'; cases a1'
    · exact ⟨rfl, rfl, rfl, rfl⟩
def GiveDN (w : World) (n : Int) (e : Ending) (w' : World) : Prop :=
  ∃ y m d c : Int, e = .returned (.tuple #[.agg #[.int .i64 y, .int .i64 m, .int .i64 d], .int .i64 c]) ∧ Below w.heap.size w w' ∧
    DN n y m d c
theorem dateOf_s (n : Int) (w : World) : Calls Try.prog 16 #[.int .i64 n] w (GiveDN w n) := by
  rcases Bool.eq_false_or_eq_true (inr n 0 36524) with h | h
  · have hn := inr_iff.1 h
    have HD := Lib.hid (fun w => date_s n w hn.1 hn.2)
    have h0 := heap_alloc_new w (.cells #[.int .i64 0, .int .i64 0, .int .i64 0] 25)
    have HB := Lib.hid (below_alloc w (.cells #[.int .i64 0, .int .i64 0, .int .i64 0] 25))
    go_enter Try.func16, Try.ntmps16
    go_wp2_with (first | (go_at_call 37; refine (is_q (by assumption) _).mono ?_; rintro e w' ⟨rfl, rfl⟩))
    refine (HD.out _).mono ?_
    rintro e w1 ⟨y, m, d, rfl, ho, hm, b1⟩
    obtain ⟨h1, k0, k1, k2, r0, r1, r2⟩ := keep6 b1 h0
    go_wp2_with fail
    obtain ⟨W, hW, e0, e1, e2, bW⟩ := done3 h1 (.int .i64 y) (.int .i64 m) (.int .i64 d)
    rw [hW]
    have b2 := bW w.heap.size w (Nat.le_refl _) (belowGo HB.out b1)
    clear hW HD HB h0 h1 k0 k1 k2 r0 r1 r2 bW b1
    exact bodyPost_ret (v := .tuple #[.agg #[.int .i64 y, .int .i64 m, .int .i64 d], .int .i64 0]) (by simp [results, Try.results16, go_sem, e0, e1, e2]) rfl ⟨y, m, d, 0, rfl, b2, .inl ⟨h, rfl, ho, hm⟩⟩
  · go_enter Try.func16, Try.ntmps16
    go_wp2_with (first | (go_at_call 37; refine (is_q (by assumption) _).mono ?_; rintro e w' ⟨rfl, rfl⟩))
    exact bodyPost_ret (v := .tuple #[.agg #[.int .i64 0, .int .i64 0, .int .i64 0], .int .i64 2]) (by simp [results, Try.results16, go_sem]) rfl ⟨0, 0, 0, 2, rfl, below_alloc _ _, .inr ⟨h, rfl, rfl, rfl, rfl⟩⟩

def boxI (w : World) (g : Nat) : Int := match w.cell? ⟨g, 0, none⟩ with
  | some v => intOf v
  | none => 0
theorem okd_of2 {y m r n : Int} (y0 : 1970 ≤ y) (y1 : y ≤ 2069) (m0 : 1 ≤ m) (m1 : m ≤ 12) (hr : n = start y + cum y m + r) (r0 : 0 ≤ r) (r1 : r < dlen y m) : okd y m (1 + r) ∧ numd y m (1 + r) = n := by
  rw [Int.add_comm]; exact okd_of y0 y1 m0 m1 hr r0 r1

set_option maxHeartbeats 1000000 in
theorem dateOf_i (n : Int) (w : World) : Calls Try.prog 15 #[.int .i64 n] w (GiveDN w n) := by
  rcases Bool.eq_false_or_eq_true (inr n 0 36524) with h | h
  · obtain ⟨n0, n1⟩ := inr_iff.1 h
    have HN := Lib.hid (Two.new w (1970 + n / 366) 1 1)
    have HA : Hid (start (1970 + n / 366) ≤ n) := Lib.hid (by unfold start; omega)
    have HS := Lib.hid (fun k (h0 : 1970 ≤ k) => start_step2 (y := k))
    have HT := Lib.hid (fun k (h0 : 1970 ≤ k) (h1 : k ≤ 2070) => start_in h0 h1)
    have HY := Lib.hid (fun y (h : start (y + 1) ≤ n) => year_in h n1)
    have HD := Lib.hid (fun y k => dlen_in y k)
    have HL := Lib.hid (fun y k w (y0 : 0 ≤ y) (y1 : y ≤ 1000000000000) => mlen_i y k 1 w y0 y1)
    go_enter Try.func15, Try.ntmps15
    go_wp2_with (go_at_call 34; refine (isDay_q (by assumption) _).mono ?_; rintro e w' ⟨rfl, rfl⟩)
    go_loopw [] (fun wr => ∃ y : Int, 1970 ≤ y ∧ y ≤ 2069 ∧ start y ≤ n ∧ Two w wr y 1 1) (fun wr => (2070 - boxI wr (w.heap.size + 1)).toNat)
    case atStart => exact ⟨1970 + n / 366, by omega, by omega, HA.out, HN.out⟩
    case round =>
      obtain ⟨y, y0, y1, hs, ht⟩ := hrel
      obtain ⟨c0, c1, c2, f0, f1, f2⟩ := ht.cells
      obtain ⟨s0, s1⟩ := HT.out y y0 (by omega)
      obtain ⟨t0, t1⟩ := HT.out (y + 1) (by omega) (by omega)
      have HT1 := Lib.hid ht
      clear ht
      by_cases hy : start (y + 1) ≤ n
      · have hy2 := HY.out y hy
        have HT3 := Lib.hid (HT1.out.set 0 (.int .i64 (y + 1)) (y + 1) 1 1 rfl)
        obtain ⟨d0, d1, d2, g0, g1, g2⟩ := HT3.out.cells
        go_wp2_with (go_at_call 35; refine (start_i _ _ (by omega) (by omega)).mono ?_; rintro e w' ⟨rfl, rfl⟩)
        go_roundw
        case rel => exact ⟨y + 1, by omega, by omega, hy, HT3.out⟩
        case measure => simp [boxI, c0, d0, intOf]; omega
      · have hn : n < start (y + 1) := by omega
        have HM := Lib.hid (fun m (h1 : m ≤ 12) (h : start y + cum y m + dlen y m ≤ n) => month_in y0 h1 h hn)
        have HC := Lib.hid (fun k (h0 : 1 ≤ k) (h1 : k ≤ 12) => cum_step (y := y) h0 h1)
        have HI := Lib.hid (fun k (h0 : 1 ≤ k) (h1 : k ≤ 12) => cum_in (y := y) h0 h1)
        have HO := Lib.hid (fun m r (m0 : 1 ≤ m) (m1 : m ≤ 12) (hr : n = start y + cum y m + r) (r0 : 0 ≤ r) (r1 : r < dlen y m) => okd_of2 y0 y1 m0 m1 hr r0 r1)
        have E0 := Lib.hid (cum_1 y)
        have hst := HS.out y y0
        clear HS HT HY HA
        go_wp2_with (go_at_call 35; refine (start_i _ _ (by omega) (by omega)).mono ?_; rintro e w' ⟨rfl, rfl⟩)
        generalize start y = S at *
        generalize cum y = C at *
        go_loopw [5] (fun v wr => ∃ m : Int, v = .int .i64 (n - S - C m) ∧ 1 ≤ m ∧ m ≤ 12 ∧ S + C m ≤ n ∧ Two w wr y m 1) (fun v _ => (intOf v).toNat)
        case atStart => exact ⟨1, by rw [E0.out]; simp, by omega, by omega, by rw [E0.out]; omega, HT1.out⟩
        case round =>
          clear HT1
          obtain ⟨m, rfl, m0, m1, hs, ht⟩ := hrel
          obtain ⟨c0, c1, c2, f0, f1, f2⟩ := ht.cells
          obtain ⟨l0, l1⟩ := HD.out y m
          obtain ⟨i0, i1⟩ := HI.out m m0 (by omega)
          have HT1 := Lib.hid ht
          clear ht
          by_cases hm : dlen y m ≤ n - S - C m
          · have hm2 := HM.out m m1 (by omega)
            have hst := Lib.hid (HC.out m m0 m1)
            go_wp2_with fail
            refine (HL.out _ _ _ (by omega) (by omega)).mono ?_
            rintro e w1 ⟨rfl, b1⟩
            have HT2 := Lib.hid (HT1.out.below (w' := w1) (by rw [b1]; exact below_alloc _ _))
            clear c0 c1 c2 f0 f1 f2 b1
            obtain ⟨c0, c1, c2, f0, f1, f2⟩ := HT2.out.cells
            go_wp2_with fail
            refine (HL.out _ _ _ (by omega) (by omega)).mono ?_
            rintro e w2 ⟨rfl, b2⟩
            have HT3 := Lib.hid (HT2.out.below (w' := w2) (by rw [b2]; exact below_alloc _ _))
            clear c0 c1 c2 f0 f1 f2 b2
            obtain ⟨c0, c1, c2, f0, f1, f2⟩ := HT3.out.cells
            go_wp2_with fail
            go_roundw
            case rel => exact ⟨m + 1, by rw [hst.out]; congr 1; omega, by omega, by omega, by rw [hst.out]; omega, HT3.out.set 1 _ y (m + 1) 1 rfl⟩
            case measure => simp [intOf]; omega
          · have ho := Lib.hid (HO.out m (n - S - C m) m0 m1 (by omega) (by omega) (by omega))
            go_wp2_with fail
            refine (HL.out _ _ _ (by omega) (by omega)).mono ?_
            rintro e w1 ⟨rfl, b1⟩
            have HT2 := Lib.hid (HT1.out.below (w' := w1) (by rw [b1]; exact below_alloc _ _))
            clear c0 c1 c2 f0 f1 f2 b1
            obtain ⟨c0, c1, c2, f0, f1, f2⟩ := HT2.out.cells
            obtain ⟨k0, k1, k2, r0, r1, r2⟩ := HT2.out.res
            go_wp2_with fail
            obtain ⟨W, hW, e0, e1, e2, bW⟩ := HT2.out.done (.int .i64 (1 + (n - S - C m))) (.int .i64 y) (.int .i64 m) (.int .i64 (1 + (n - S - C m)))
            rw [hW]
            clear hW HT2 HL HD HI HC HM HO HN
            exact bodyPost_ret (v := .tuple #[.agg #[.int .i64 y, .int .i64 m, .int .i64 (1 + (n - S - C m))], .int .i64 0]) (by simp [results, Try.results15, go_sem, e0, e1, e2]) rfl ⟨y, m, _, 0, rfl, bW, .inl ⟨h, rfl, ho.out.1, ho.out.2⟩⟩
  · go_enter Try.func15, Try.ntmps15
    go_wp2_with (first | (go_at_call 34; refine (isDay_q (by assumption) _).mono ?_; rintro e w' ⟨rfl, rfl⟩))
    exact bodyPost_ret (v := .tuple #[.agg #[.int .i64 0, .int .i64 0, .int .i64 0], .int .i64 2]) (by simp [results, Try.results15, go_sem]) rfl ⟨0, 0, 0, 2, rfl, below_alloc _ _, .inr ⟨h, rfl, rfl, rfl, rfl⟩⟩

theorem law_FnExactDateOf (n : Int) (w : World) (_ : (Lit.int .i64 n).wf = true) :
    Calls Try.prog 6 #[.int .i64 n] w fun e w' => e = .returned (.bool true) ∧ Below w.heap.size w w' := by
  go_enter Try.func6, Try.ntmps6
  go_wp2_with fail
  refine (dateOf_s _ _).mono ?_
  rintro e w1 ⟨y, m, d, c, rfl, b1, H1⟩
  have h0 := heap_alloc_new w1 (.cells #[.int .i64 y, .int .i64 m, .int .i64 d] 25)
  have HB := Lib.hid (below_alloc w1 (.cells #[.int .i64 y, .int .i64 m, .int .i64 d] 25))
  go_wp2_with fail
  refine (dateOf_i _ _).mono ?_
  rintro e w2 ⟨y', m', d', c', rfl, b2, H2⟩
  obtain ⟨rfl, rfl, rfl, rfl⟩ := H1.same H2
  have b2' := b2.alloc b2.size (.cells #[.int .i64 y', .int .i64 m', .int .i64 d'] 25)
  obtain ⟨c0, c1, c2⟩ := keep3 b2' h0
  have b3 := belowGo b1 (belowGo HB.out b2')
  clear H1 H2 h0 HB b1 b2 b2'
  go_wp2_with fail
  refine (eqDate _ _ _ _ _ _ _).mono ?_
  rintro e w3 ⟨rfl, b4⟩
  have hy : (y' == y') = true := by simp
  have hm : (m' == m') = true := by simp
  have hd : (d' == d') = true := by simp
  go_wp2_with fail
  go_ret
  exact ⟨rfl, belowGo b3 b4⟩
end Go.Proofs.Ytpnkjpfhmiaffaa
