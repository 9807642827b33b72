import Derived.Test.YtifioecofeojpaaGreatDoorMCal
import Derived.RegionTactic
import Derived.Deep.RegionWith
/- Dates: copies, comparison, what is valid. -/
namespace Go.Proofs.YtifioecofeojpaaGreatDoor
open Go.ChangeShapes Go.WideShapes Go.ChangeAt Go.RowKit
set_option linter.unusedVariables false

/-- What a function that gives a date leaves. -/
def GiveD (w : World) (y m d : Int) (e : Ending) (w' : World) : Prop := e = .returned (.agg #[.int .i64 y, .int .i64 m, .int .i64 d]) ∧ Below w.heap.size w w'
def GiveB (w : World) (b : Bool) (e : Ending) (w' : World) : Prop := e = .returned (.bool b) ∧ Below w.heap.size w w'
theorem below2 (w : World) (o p : Obj) : Below w.heap.size w ((w.alloc o).alloc p) := (below_alloc w o).trans ((below_alloc _ p).mono (by simp))
theorem below3 (w : World) (o p q : Obj) : Below w.heap.size w (((w.alloc o).alloc p).alloc q) := (below2 w o p).trans ((below_alloc _ q).mono (by simp; omega))

set_option maxHeartbeats 2000000 in
theorem made_i (y m d : Int) (w : World) : Calls Tryz.prog 102 #[.agg #[.int .i64 y, .int .i64 m, .int .i64 d]] w
    (GiveD w (clamp y 1970 2069) (clamp m 1 12) (clamp d 1 (dlen (clamp y 1970 2069) (clamp m 1 12)))) := by
  obtain ⟨y0, y1⟩ := clamp_in (n := y) (lo := 1970) (hi := 2069) (by omega)
  have HM := Lib.hid (fun (w : World) => mlen_i (clamp y 1970 2069) (clamp m 1 12) d w (by omega) (by omega))
  go_enter Tryz.func102, Tryz.ntmps102
  go_wp2_with (go_at_call 116; refine (moved_i _ _ _ _).mono ?_; rintro e w' ⟨rfl, rfl⟩)
  go_region_with (first | (go_at_call 92; refine (HM.out _).mono ?_; rintro e w' ⟨rfl, rfl⟩) | (go_at_call 116; refine (moved_i _ _ _ _).mono ?_; rintro e w' ⟨rfl, rfl⟩))
  all_goals
    go_wp2_with fail
    clear HM y0 y1
    generalize clamp d 1 (dlen (clamp y 1970 2069) (clamp m 1 12)) = D
    generalize dlen (clamp y 1970 2069) (clamp m 1 12) = L
    generalize clamp y 1970 2069 = Y
    generalize clamp m 1 12 = M
    refine bodyPost_ret (v := .agg #[.int .i64 Y, .int .i64 M, .int .i64 D]) (by simp [results, Tryz.results102, go_sem]) rfl ⟨rfl, ?_⟩
    first | exact below3 _ _ _ _ | exact (below3 _ _ _ _).drew


theorem eql_date (W : World) (a b c a' b' c' : Int) : (binOp .eql 60 (.agg #[.int .i64 a, .int .i64 b, .int .i64 c]) (.agg #[.int .i64 a', .int .i64 b', .int .i64 c'])).run Tryz.prog W = .ok (.bool (a == a' && (b == b' && c == c'))) W := by
  have h : (Op.equalIn (9999 + 1) 60 (.agg #[.int .i64 a, .int .i64 b, .int .i64 c]) (.agg #[.int .i64 a', .int .i64 b', .int .i64 c'])).run Tryz.prog W = .ok (a == a' && (b == b' && c == c')) W := by
    rw [run_equalIn_agg W 9999 60 _ _ (by kernel_rfl) (by kernel_rfl)]
    obtain ⟨k, hk⟩ : ∃ k, 9999 = k + 1 := ⟨9998, rfl⟩
    rw [hk]
    simp only [Program.fieldsOf, Tryz.underlying60]
    have H := fun (x y : Int) => run_equalIn_int (P := Tryz.prog) W k 2 .i64 .i64 x y Tryz.underlying2
    clear hk
    simp [Op.eqFields, go_sem, part, H]
    by_cases h1 : a = a' <;> by_cases h2 : b = b' <;> by_cases h3 : c = c' <;> simp [h1, h2, h3]
  rw [run_eql_struct]
  exact (congrArg (fun r => Result.andThen r _) h).trans rfl
end Go.Proofs.YtifioecofeojpaaGreatDoor

/- Dates: what is valid. -/
namespace Go.Proofs.YtifioecofeojpaaGreatDoor
open Go.ChangeShapes Go.WideShapes Go.ChangeAt Go.RowKit
set_option linter.unusedVariables false

theorem keep3 {W0 w' : World} {g : Nat} {a b c : Value} {t : TypeId} (hb : Below W0.heap.size W0 w') (h : W0.heap[g]? = some (.cells #[a, b, c] t (0, 0))) :
    w'.cell? ⟨g, 0, none⟩ = some a ∧ w'.cell? ⟨g, 1, none⟩ = some b ∧ w'.cell? ⟨g, 2, none⟩ = some c := by
  have hl : g < W0.heap.size := by
    rcases Nat.lt_or_ge g W0.heap.size with hlt | hge
    · exact hlt
    · rw [Array.getElem?_eq_none hge] at h; cases h
  have hh := fun (k : Nat) => hb.cell (p := ⟨g, k, none⟩) hl
  refine ⟨(hh 0).trans ?_, (hh 1).trans ?_, (hh 2).trans ?_⟩ <;> (rw [cell_of_row _ _ _ _ _ _ h]; rfl)

def okD (y m d : Int) : Bool := decide (okd y m d)
theorem okD_iff {y m d : Int} : okD y m d = true ↔ okd y m d := by simp [okD]
theorem okD_made (y m d : Int) : (y == clamp y 1970 2069 && (m == clamp m 1 12 && d == clamp d 1 (dlen (clamp y 1970 2069) (clamp m 1 12)))) = okD y m d := by
  rw [Bool.eq_iff_iff, okD_iff, ← made_iff]; simp
theorem isDate_i (y m d : Int) (w : World) : Calls Tryz.prog 84 #[.agg #[.int .i64 y, .int .i64 m, .int .i64 d]] w (GiveB w (okD y m d)) := by
  have E := Lib.hid (okD_made y m d)
  have HM := Lib.hid (fun w => made_i y m d w)
  generalize clamp d 1 (dlen (clamp y 1970 2069) (clamp m 1 12)) = D at *
  generalize clamp y 1970 2069 = Y at *
  generalize clamp m 1 12 = M at *
  have HQ := fun W => eql_date W y m d Y M D
  rw [E.out] at HQ
  clear E
  generalize okD y m d = ok at *
  go_enter Tryz.func84, Tryz.ntmps84
  go_wp2_with fail
  go_region_with (go_at_call 102; refine (HM.out _).mono ?_; rintro e w' ⟨rfl, b1⟩; have hq := HQ w'; obtain ⟨c0, c1, c2⟩ := keep3 b1 (heap_alloc_new w (.cells #[.int .i64 y, .int .i64 m, .int .i64 d] 60)))
  all_goals
    go_wp2_with fail
    go_ret
    first | exact ⟨rfl, belowGo (below_alloc _ _) b1⟩ | exact ⟨rfl, belowGo (below_alloc _ _).drew b1⟩

theorem okD_eq {y m d : Int} (a : inr y 1970 2069 = true) (b : inr m 1 12 = true) : inr d 1 (dlen y m) = okD y m d := by
  have ha := inr_iff.1 a
  have hb := inr_iff.1 b
  rw [Bool.eq_iff_iff, okD_iff, inr_iff]
  unfold okd; omega
theorem okD_y {y m d : Int} (a : inr y 1970 2069 = false) : okD y m d = false := by
  have := inr_no.1 a
  rw [Bool.eq_false_iff]; intro h
  have h := okD_iff.1 h
  unfold okd at h; omega
theorem okD_m {y m d : Int} (a : inr m 1 12 = false) : okD y m d = false := by
  have := inr_no.1 a
  rw [Bool.eq_false_iff]; intro h
  have h := okD_iff.1 h
  unfold okd at h; omega
end Go.Proofs.YtifioecofeojpaaGreatDoor

/- A block of three cells. -/
namespace Go.Proofs.YtifioecofeojpaaGreatDoor
open Go.ChangeShapes Go.WideShapes Go.ChangeAt Go.RowKit
set_option linter.unusedVariables false

theorem lt_of_some {wr : World} {g : Nat} {o : Obj} (h : wr.heap[g]? = some o) : g < wr.heap.size := by
  rcases Nat.lt_or_ge g wr.heap.size with hlt | hge
  · exact hlt
  · rw [Array.getElem?_eq_none hge] at h; cases h
theorem keep6 {W0 w' : World} {g : Nat} {a b c : Value} {t : TypeId} (hb : Below W0.heap.size W0 w') (h : W0.heap[g]? = some (.cells #[a, b, c] t (0, 0))) :
    w'.heap[g]? = some (.cells #[a, b, c] t (0, 0)) ∧ w'.cell? ⟨g, 0, none⟩ = some a ∧ w'.cell? ⟨g, 1, none⟩ = some b ∧ w'.cell? ⟨g, 2, none⟩ = some c ∧
    w'.frozen? ⟨g, 0, none⟩ = false ∧ w'.frozen? ⟨g, 1, none⟩ = false ∧ w'.frozen? ⟨g, 2, none⟩ = false := by
  have h1 := (hb.block _ (lt_of_some h)).trans h
  obtain ⟨c0, c1, c2⟩ := keep3 hb h
  exact ⟨h1, c0, c1, c2, frozen_of_row w' _ 0 _ _ h1, frozen_of_row w' _ 1 _ _ h1, frozen_of_row w' _ 2 _ _ h1⟩
theorem done3 {w1 : World} {g : Nat} {x y z : Value} {t : TypeId} (h : w1.heap[g]? = some (.cells #[x, y, z] t (0, 0))) (a b c : Value) :
    ∃ W, (((w1.setCell ⟨g, 0, none⟩ a).setCell ⟨g, 1, none⟩ b).setCell ⟨g, 2, none⟩ c) = W ∧
      W.cell? ⟨g, 0, none⟩ = some a ∧ W.cell? ⟨g, 1, none⟩ = some b ∧ W.cell? ⟨g, 2, none⟩ = some c ∧ ∀ (B : Nat) (w : World), B ≤ g → Below B w w1 → Below B w W := by
  refine ⟨_, rfl, ?_⟩
  have h2 : (w1.setCell ⟨g, 0, none⟩ a).heap[g]? = some (.cells #[a, y, z] t (0, 0)) := by
    rw [heap_setCell_same _ _ _ _ _ _ h]; rfl
  have h3 : ((w1.setCell ⟨g, 0, none⟩ a).setCell ⟨g, 1, none⟩ b).heap[g]? = some (.cells #[a, b, z] t (0, 0)) := by
    rw [heap_setCell_same _ _ _ _ _ _ h2]; rfl
  have h4 : (((w1.setCell ⟨g, 0, none⟩ a).setCell ⟨g, 1, none⟩ b).setCell ⟨g, 2, none⟩ c).heap[g]? = some (.cells #[a, b, c] t (0, 0)) := by
    rw [heap_setCell_same _ _ _ _ _ _ h3]; rfl
  refine ⟨?_, ?_, ?_, fun B w hB hb => ((hb.setCell (by simpa using hB) _).setCell (by simpa using hB) _).setCell (by simpa using hB) _⟩ <;>
    (rw [cell_of_row _ _ _ _ _ _ h4]; rfl)

end Go.Proofs.YtifioecofeojpaaGreatDoor

/- spec.l02Date: the date with a number. -/
namespace Go.Proofs.YtifioecofeojpaaGreatDoor
open Go.ChangeShapes Go.WideShapes Go.ChangeAt Go.RowKit
set_option linter.unusedVariables false

/-- The call has laid two dates: its result, which is still zero, and the one that it works on. -/
def Two (w wr : World) (y m d : Int) : Prop :=
  wr.heap[w.heap.size]? = some (.cells #[.int .i64 0, .int .i64 0, .int .i64 0] 60 (0, 0)) ∧
  wr.heap[w.heap.size + 1]? = some (.cells #[.int .i64 y, .int .i64 m, .int .i64 d] 60 (0, 0)) ∧ Below w.heap.size w wr
theorem Two.new (w : World) (y m d : Int) : Two w ((w.alloc (.cells #[.int .i64 0, .int .i64 0, .int .i64 0] 60)).alloc (.cells #[.int .i64 y, .int .i64 m, .int .i64 d] 60)) y m d := by
  refine ⟨?_, ?_, below2 _ _ _⟩
  · rw [Below.heap_alloc _ _ _ (by simp)]; exact heap_alloc_new _ _
  · have := heap_alloc_new (w.alloc (.cells #[.int .i64 0, .int .i64 0, .int .i64 0] 60)) (.cells #[.int .i64 y, .int .i64 m, .int .i64 d] 60)
    rw [World.size_alloc] at this; exact this
theorem Two.below {w wr w' : World} {y m d : Int} (h : Two w wr y m d) (hb : Below wr.heap.size wr w') : Two w w' y m d :=
  ⟨(hb.block _ (lt_of_some h.1)).trans h.1, (hb.block _ (lt_of_some h.2.1)).trans h.2.1, belowGo h.2.2 hb⟩
theorem Two.set {w wr : World} {y m d : Int} (h : Two w wr y m d) (j : Nat) (v : Value) (y' m' d' : Int) (hs : #[Value.int .i64 y, .int .i64 m, .int .i64 d].setIfInBounds j v = #[.int .i64 y', .int .i64 m', .int .i64 d']) :
    Two w (wr.setCell ⟨w.heap.size + 1, j, none⟩ v) y' m' d' := by
  refine ⟨?_, ?_, h.2.2.setCell (by simp) _⟩
  · rw [Below.heap_setCell _ _ _ _ (by simp)]; exact h.1
  · rw [heap_setCell_same wr _ j _ _ _ h.2.1, hs]
theorem Two.cells {w wr : World} {y m d : Int} (h : Two w wr y m d) :
    wr.cell? ⟨w.heap.size + 1, 0, none⟩ = some (.int .i64 y) ∧ wr.cell? ⟨w.heap.size + 1, 1, none⟩ = some (.int .i64 m) ∧ wr.cell? ⟨w.heap.size + 1, 2, none⟩ = some (.int .i64 d) ∧
    wr.frozen? ⟨w.heap.size + 1, 0, none⟩ = false ∧ wr.frozen? ⟨w.heap.size + 1, 1, none⟩ = false ∧ wr.frozen? ⟨w.heap.size + 1, 2, none⟩ = false := by
  refine ⟨?_, ?_, ?_, frozen_of_row wr _ 0 _ _ h.2.1, frozen_of_row wr _ 1 _ _ h.2.1, frozen_of_row wr _ 2 _ _ h.2.1⟩ <;>
    (rw [cell_of_row _ _ _ _ _ _ h.2.1]; rfl)

theorem Two.res {w wr : World} {y m d : Int} (h : Two w wr y m d) :
    wr.cell? ⟨w.heap.size, 0, none⟩ = some (.int .i64 0) ∧ wr.cell? ⟨w.heap.size, 1, none⟩ = some (.int .i64 0) ∧ wr.cell? ⟨w.heap.size, 2, none⟩ = some (.int .i64 0) ∧
    wr.frozen? ⟨w.heap.size, 0, none⟩ = false ∧ wr.frozen? ⟨w.heap.size, 1, none⟩ = false ∧ wr.frozen? ⟨w.heap.size, 2, none⟩ = false := by
  refine ⟨?_, ?_, ?_, frozen_of_row wr _ 0 _ _ h.1, frozen_of_row wr _ 1 _ _ h.1, frozen_of_row wr _ 2 _ _ h.1⟩ <;>
    (rw [cell_of_row _ _ _ _ _ _ h.1]; rfl)

theorem Two.done {w wr : World} {y m d : Int} (h : Two w wr y m d) (v a b c : Value) :
    ∃ W, ((((wr.setCell ⟨w.heap.size + 1, 2, none⟩ v).setCell ⟨w.heap.size, 0, none⟩ a).setCell ⟨w.heap.size, 1, none⟩ b).setCell ⟨w.heap.size, 2, none⟩ c) = W ∧
      W.cell? ⟨w.heap.size, 0, none⟩ = some a ∧ W.cell? ⟨w.heap.size, 1, none⟩ = some b ∧ W.cell? ⟨w.heap.size, 2, none⟩ = some c ∧ Below w.heap.size w W := by
  refine ⟨_, rfl, ?_⟩
  have h1 : (wr.setCell ⟨w.heap.size + 1, 2, none⟩ v).heap[w.heap.size]? = some (.cells #[.int .i64 0, .int .i64 0, .int .i64 0] 60 (0, 0)) := by
    rw [Below.heap_setCell _ _ _ _ (by simp)]; exact h.1
  have h2 : ((wr.setCell ⟨w.heap.size + 1, 2, none⟩ v).setCell ⟨w.heap.size, 0, none⟩ a).heap[w.heap.size]? = some (.cells #[a, .int .i64 0, .int .i64 0] 60 (0, 0)) := by
    rw [heap_setCell_same _ _ _ _ _ _ h1]; rfl
  have h3 : (((wr.setCell ⟨w.heap.size + 1, 2, none⟩ v).setCell ⟨w.heap.size, 0, none⟩ a).setCell ⟨w.heap.size, 1, none⟩ b).heap[w.heap.size]? = some (.cells #[a, b, .int .i64 0] 60 (0, 0)) := by
    rw [heap_setCell_same _ _ _ _ _ _ h2]; rfl
  have h4 : ((((wr.setCell ⟨w.heap.size + 1, 2, none⟩ v).setCell ⟨w.heap.size, 0, none⟩ a).setCell ⟨w.heap.size, 1, none⟩ b).setCell ⟨w.heap.size, 2, none⟩ c).heap[w.heap.size]? = some (.cells #[a, b, c] 60 (0, 0)) := by
    rw [heap_setCell_same _ _ _ _ _ _ h3]; rfl
  refine ⟨?_, ?_, ?_, (((h.2.2.setCell (by simp) _).setCell (by simp) _).setCell (by simp) _).setCell (by simp) _⟩ <;>
    (rw [cell_of_row _ _ _ _ _ _ h4]; rfl)

def GiveN (w : World) (n : Int) (e : Ending) (w' : World) : Prop :=
  ∃ y m d : Int, e = .returned (.agg #[.int .i64 y, .int .i64 m, .int .i64 d]) ∧ okd y m d ∧ numd y m d = n ∧ Below w.heap.size w w'

theorem okd_of {y m r n : Int} (y0 : 1970 ≤ y) (y1 : y ≤ 2069) (m0 : 1 ≤ m) (m1 : m ≤ 12) (hr : n = start y + cum y m + r) (r0 : 0 ≤ r) (r1 : r < dlen y m) : okd y m (r + 1) ∧ numd y m (r + 1) = n :=
  ⟨⟨y0, y1, m0, m1, by omega, by omega⟩, by unfold numd; omega⟩
theorem month_in {y m n : Int} (y0 : 1970 ≤ y) (m1 : m ≤ 12) (h : start y + cum y m + dlen y m ≤ n) (hn : n < start (y + 1)) : m < 12 := by
  by_cases h12 : m = 12
  · subst h12
    have := cum_end y y0
    have : dlen y 12 = 31 := by simp [dlen]
    omega
  · omega
theorem year_in {y n : Int} (h : start (y + 1) ≤ n) (hn : n ≤ 36524) : y < 2069 := by
  by_cases hy : 2069 ≤ y
  · have := start_mono (show 2070 ≤ y + 1 by omega)
    rw [start_end] at this; omega
  · omega

set_option maxHeartbeats 1000000 in
theorem date_s (n : Int) (w : World) (n0 : 0 ≤ n) (n1 : n ≤ 36524) : Calls Tryz.prog 51 #[.int .i64 n] w (GiveN w n) := by
  have HN := Lib.hid (Two.new w 1970 1 1)
  have HS := Lib.hid (fun k (h0 : 1970 ≤ k) => start_step h0)
  have HT := Lib.hid (fun k (h0 : 1970 ≤ k) (h1 : k ≤ 2070) => start_in h0 h1)
  have HY := Lib.hid (fun y (h : start (y + 1) ≤ n) => year_in h n1)
  have HD := Lib.hid (fun y k => dlen_in y k)
  have HL := Lib.hid (fun y k w (y0 : 0 ≤ y) (y1 : y ≤ 1000000000000) (k0 : 1 ≤ k) (k1 : k ≤ 12) => len_s y k w y0 y1 k0 k1)
  go_enter Tryz.func51, Tryz.ntmps51
  go_wp2_with fail
  go_loopw [0] (fun v wr => ∃ y : Int, v = .int .i64 (n - start y) ∧ 1970 ≤ y ∧ y ≤ 2069 ∧ start y ≤ n ∧ Two w wr y 1 1) (fun v _ => (intOf v).toNat)
  case atStart => exact ⟨1970, by simp [start_0], by omega, by omega, by rw [start_0]; exact n0, HN.out⟩
  case round =>
    obtain ⟨y, rfl, y0, y1, hs, ht⟩ := hrel
    obtain ⟨c0, c1, c2, f0, f1, f2⟩ := ht.cells
    obtain ⟨l0, l1⟩ := HD.out y 2
    obtain ⟨s0, s1⟩ := HT.out y y0 (by omega)
    have HT1 := Lib.hid ht
    clear ht
    by_cases hy : 337 + dlen y 2 ≤ n - start y
    · have hst := Lib.hid (HS.out y y0)
      have hy2 := HY.out y (by rw [hst.out]; omega)
      go_wp2_with fail
      refine (HL.out _ _ _ (by omega) (by omega) (by omega) (by omega)).mono ?_
      rintro e w1 ⟨rfl, b1⟩
      have HT2 := Lib.hid (HT1.out.below b1)
      clear c0 c1 c2 f0 f1 f2
      obtain ⟨c0, c1, c2, f0, f1, f2⟩ := HT2.out.cells
      go_wp2_with fail
      refine (HL.out _ _ _ (by omega) (by omega) (by omega) (by omega)).mono ?_
      rintro e w2 ⟨rfl, b2⟩
      have HT3 := Lib.hid (HT2.out.below b2)
      clear c0 c1 c2 f0 f1 f2
      obtain ⟨c0, c1, c2, f0, f1, f2⟩ := HT3.out.cells
      go_wp2_with fail
      go_roundw
      case rel => exact ⟨y + 1, by rw [hst.out]; congr 1; omega, by omega, by omega, by rw [hst.out]; omega, HT3.out.set 0 _ (y + 1) 1 1 rfl⟩
      case measure => simp [intOf]; omega
    · have hn : n < start (y + 1) := by rw [HS.out y y0]; omega
      have HM := Lib.hid (fun m (h1 : m ≤ 12) (h : start y + cum y m + dlen y m ≤ n) => month_in y0 h1 h hn)
      have HC := Lib.hid (fun k (h0 : 1 ≤ k) (h1 : k ≤ 12) => cum_step (y := y) h0 h1)
      have HI := Lib.hid (fun k (h0 : 1 ≤ k) (h1 : k ≤ 12) => cum_in (y := y) h0 h1)
      have HO := Lib.hid (fun m r (m0 : 1 ≤ m) (m1 : m ≤ 12) (hr : n = start y + cum y m + r) (r0 : 0 ≤ r) (r1 : r < dlen y m) => okd_of y0 y1 m0 m1 hr r0 r1)
      have E0 := Lib.hid (cum_1 y)
      clear hn HS HT HY
      go_wp2_with fail
      refine (HL.out _ _ _ (by omega) (by omega) (by omega) (by omega)).mono ?_
      rintro e w1 ⟨rfl, b1⟩
      have HT2 := Lib.hid (HT1.out.below b1)
      clear c0 c1 c2 f0 f1 f2 HT1
      generalize start y = S at *
      generalize cum y = C at *
      go_wp2_with fail
      go_loopw [0] (fun v wr => ∃ m : Int, v = .int .i64 (n - S - C m) ∧ 1 ≤ m ∧ m ≤ 12 ∧ S + C m ≤ n ∧ Two w wr y m 1) (fun v _ => (intOf v).toNat)
      case atStart => exact ⟨1, by rw [E0.out]; simp, by omega, by omega, by rw [E0.out]; omega, HT2.out⟩
      case round =>
        clear HT2
        obtain ⟨m, rfl, m0, m1, hs, ht⟩ := hrel
        obtain ⟨c0, c1, c2, f0, f1, f2⟩ := ht.cells
        obtain ⟨l0, l1⟩ := HD.out y m
        obtain ⟨i0, i1⟩ := HI.out m m0 (by omega)
        have HT1 := Lib.hid ht
        clear ht
        by_cases hm : dlen y m ≤ n - S - C m
        · have hm2 := HM.out m m1 (by omega)
          have hst := Lib.hid (HC.out m m0 m1)
          go_wp2_with fail
          refine (HL.out _ _ _ (by omega) (by omega) (by omega) (by omega)).mono ?_
          rintro e w1 ⟨rfl, b1⟩
          have HT2 := Lib.hid (HT1.out.below b1)
          clear c0 c1 c2 f0 f1 f2
          obtain ⟨c0, c1, c2, f0, f1, f2⟩ := HT2.out.cells
          go_wp2_with fail
          refine (HL.out _ _ _ (by omega) (by omega) (by omega) (by omega)).mono ?_
          rintro e w2 ⟨rfl, b2⟩
          have HT3 := Lib.hid (HT2.out.below b2)
          clear c0 c1 c2 f0 f1 f2
          obtain ⟨c0, c1, c2, f0, f1, f2⟩ := HT3.out.cells
          go_wp2_with fail
          go_roundw
          case rel => exact ⟨m + 1, by rw [hst.out]; congr 1; omega, by omega, by omega, by rw [hst.out]; omega, HT3.out.set 1 _ y (m + 1) 1 rfl⟩
          case measure => simp [intOf]; omega
        · have ho := Lib.hid (HO.out m (n - S - C m) m0 m1 (by omega) (by omega) (by omega))
          go_wp2_with fail
          refine (HL.out _ _ _ (by omega) (by omega) (by omega) (by omega)).mono ?_
          rintro e w1 ⟨rfl, b1⟩
          have HT2 := Lib.hid (HT1.out.below b1)
          clear c0 c1 c2 f0 f1 f2
          obtain ⟨c0, c1, c2, f0, f1, f2⟩ := HT2.out.cells
          obtain ⟨k0, k1, k2, r0, r1, r2⟩ := HT2.out.res
          go_wp2_with fail
          obtain ⟨W, hW, e0, e1, e2, bW⟩ := HT2.out.done (.int .i64 (n - S - C m + 1)) (.int .i64 y) (.int .i64 m) (.int .i64 (n - S - C m + 1))
          rw [hW]
          clear hW HT2 HL HD HI HC HM HO HN
          exact bodyPost_ret (v := .agg #[.int .i64 y, .int .i64 m, .int .i64 (n - S - C m + 1)]) (by simp [results, Tryz.results51, go_sem, e0, e1, e2]) rfl ⟨y, m, _, rfl, ho.out.1, ho.out.2, bW⟩

end Go.Proofs.YtifioecofeojpaaGreatDoor

