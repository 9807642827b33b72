/- DateOf: the date with a number. -/
import Derived.Test.YtifioecofeojpaaGreatDoorMDate
import Derived.Test.YtifioecofeojpaaGreatDoorBus
import Derived.Test.YtifioecofeojpaaGreatDoorDatq
namespace Go.Proofs.YtifioecofeojpaaGreatDoor
open Go.ChangeShapes Go.WideShapes Go.ChangeAt Go.RowKit
set_option linter.unusedVariables false

/-- What DateOf answers: the date with this number, or none. -/
def DN (n y m d c : Int) : Prop := (inr n 0 36524 = true ∧ c = 0 ∧ okd y m d ∧ numd y m d = n) ∨ (inr n 0 36524 = false ∧ c = 2 ∧ y = 0 ∧ m = 0 ∧ d = 0)
theorem DN.same {n y m d c y' m' d' c' : Int} (h : DN n y m d c) (h' : DN n y' m' d' c') : y' = y ∧ m' = m ∧ d' = d ∧ c' = c := by
  rcases h with ⟨a1, rfl, a3, a4⟩ | ⟨a1, rfl, rfl, rfl, rfl⟩
  · rcases h' with ⟨_, rfl, a3', a4'⟩ | ⟨a1', _⟩
    · obtain ⟨rfl, rfl, rfl⟩ := numd_inj a3 a3' (a4.trans a4'.symm)
      exact ⟨rfl, rfl, rfl, rfl⟩
    · rw [a1] at a1'; cases a1'
  · rcases h' with ⟨a1', _⟩ | ⟨_, rfl, rfl, rfl, rfl⟩
    · rw [a1] at a1'; cases a1'
    · exact ⟨rfl, rfl, rfl, rfl⟩
def GiveDN (w : World) (n : Int) (e : Ending) (w' : World) : Prop :=
  ∃ y m d c : Int, e = .returned (.tuple #[.agg #[.int .i64 y, .int .i64 m, .int .i64 d], .int .i64 c]) ∧ Below w.heap.size w w' ∧
    DN n y m d c
def boxI (w : World) (g : Nat) : Int := match w.cell? ⟨g, 0, none⟩ with
  | some v => intOf v
  | none => 0
theorem okd_of2 {y m r n : Int} (y0 : 1970 ≤ y) (y1 : y ≤ 2069) (m0 : 1 ≤ m) (m1 : m ≤ 12) (hr : n = start y + cum y m + r) (r0 : 0 ≤ r) (r1 : r < dlen y m) : okd y m (1 + r) ∧ numd y m (1 + r) = n := by
  rw [Int.add_comm]; exact okd_of y0 y1 m0 m1 hr r0 r1

set_option maxHeartbeats 1000000 in
theorem dateOf_i (n : Int) (w : World) : Calls Tryz.prog 72 #[.int .i64 n] w (GiveDN w n) := by
  rcases Bool.eq_false_or_eq_true (inr n 0 36524) with h | h
  · obtain ⟨n0, n1⟩ := inr_iff.1 h
    have HN := Lib.hid (Two.new w (1970 + n / 366) 1 1)
    have HA : Hid (start (1970 + n / 366) ≤ n) := Lib.hid (by unfold start; omega)
    have HS := Lib.hid (fun k (h0 : 1970 ≤ k) => start_step2 (y := k))
    have HT := Lib.hid (fun k (h0 : 1970 ≤ k) (h1 : k ≤ 2070) => start_in h0 h1)
    have HY := Lib.hid (fun y (h : start (y + 1) ≤ n) => year_in h n1)
    have HD := Lib.hid (fun y k => dlen_in y k)
    have HL := Lib.hid (fun y k w (y0 : 0 ≤ y) (y1 : y ≤ 1000000000000) => mlen_i y k 1 w y0 y1)
    go_enter Tryz.func72, Tryz.ntmps72
    go_wp2_with (go_at_call 33; refine (isDay_q (by assumption) _).mono ?_; rintro e w' ⟨rfl, rfl⟩)
    go_loopw [] (fun wr => ∃ y : Int, 1970 ≤ y ∧ y ≤ 2069 ∧ start y ≤ n ∧ Two w wr y 1 1) (fun wr => (2070 - boxI wr (w.heap.size + 1)).toNat)
    case atStart => exact ⟨1970 + n / 366, by omega, by omega, HA.out, HN.out⟩
    case round =>
      obtain ⟨y, y0, y1, hs, ht⟩ := hrel
      obtain ⟨c0, c1, c2, f0, f1, f2⟩ := ht.cells
      obtain ⟨s0, s1⟩ := HT.out y y0 (by omega)
      obtain ⟨t0, t1⟩ := HT.out (y + 1) (by omega) (by omega)
      have HT1 := Lib.hid ht
      clear ht
      by_cases hy : start (y + 1) ≤ n
      · have hy2 := HY.out y hy
        have HT3 := Lib.hid (HT1.out.set 0 (.int .i64 (y + 1)) (y + 1) 1 1 rfl)
        obtain ⟨d0, d1, d2, g0, g1, g2⟩ := HT3.out.cells
        go_wp2_with (go_at_call 64; refine (start_i _ _ (by omega) (by omega)).mono ?_; rintro e w' ⟨rfl, rfl⟩)
        go_roundw
        case rel => exact ⟨y + 1, by omega, by omega, hy, HT3.out⟩
        case measure => simp [boxI, c0, d0, intOf]; omega
      · have hn : n < start (y + 1) := by omega
        have HM := Lib.hid (fun m (h1 : m ≤ 12) (h : start y + cum y m + dlen y m ≤ n) => month_in y0 h1 h hn)
        have HC := Lib.hid (fun k (h0 : 1 ≤ k) (h1 : k ≤ 12) => cum_step (y := y) h0 h1)
        have HI := Lib.hid (fun k (h0 : 1 ≤ k) (h1 : k ≤ 12) => cum_in (y := y) h0 h1)
        have HO := Lib.hid (fun m r (m0 : 1 ≤ m) (m1 : m ≤ 12) (hr : n = start y + cum y m + r) (r0 : 0 ≤ r) (r1 : r < dlen y m) => okd_of2 y0 y1 m0 m1 hr r0 r1)
        have E0 := Lib.hid (cum_1 y)
        have hst := HS.out y y0
        clear HS HT HY HA
        go_wp2_with (go_at_call 64; refine (start_i _ _ (by omega) (by omega)).mono ?_; rintro e w' ⟨rfl, rfl⟩)
        generalize start y = S at *
        generalize cum y = C at *
        go_loopw [5] (fun v wr => ∃ m : Int, v = .int .i64 (n - S - C m) ∧ 1 ≤ m ∧ m ≤ 12 ∧ S + C m ≤ n ∧ Two w wr y m 1) (fun v _ => (intOf v).toNat)
        case atStart => exact ⟨1, by rw [E0.out]; simp, by omega, by omega, by rw [E0.out]; omega, HT1.out⟩
        case round =>
          clear HT1
          obtain ⟨m, rfl, m0, m1, hs, ht⟩ := hrel
          obtain ⟨c0, c1, c2, f0, f1, f2⟩ := ht.cells
          obtain ⟨l0, l1⟩ := HD.out y m
          obtain ⟨i0, i1⟩ := HI.out m m0 (by omega)
          have HT1 := Lib.hid ht
          clear ht
          by_cases hm : dlen y m ≤ n - S - C m
          · have hm2 := HM.out m m1 (by omega)
            have hst := Lib.hid (HC.out m m0 m1)
            go_wp2_with fail
            refine (HL.out _ _ _ (by omega) (by omega)).mono ?_
            rintro e w1 ⟨rfl, b1⟩
            have HT2 := Lib.hid (HT1.out.below (w' := w1) (by rw [b1]; exact below_alloc _ _))
            clear c0 c1 c2 f0 f1 f2 b1
            obtain ⟨c0, c1, c2, f0, f1, f2⟩ := HT2.out.cells
            go_wp2_with fail
            refine (HL.out _ _ _ (by omega) (by omega)).mono ?_
            rintro e w2 ⟨rfl, b2⟩
            have HT3 := Lib.hid (HT2.out.below (w' := w2) (by rw [b2]; exact below_alloc _ _))
            clear c0 c1 c2 f0 f1 f2 b2
            obtain ⟨c0, c1, c2, f0, f1, f2⟩ := HT3.out.cells
            go_wp2_with fail
            go_roundw
            case rel => exact ⟨m + 1, by rw [hst.out]; congr 1; omega, by omega, by omega, by rw [hst.out]; omega, HT3.out.set 1 _ y (m + 1) 1 rfl⟩
            case measure => simp [intOf]; omega
          · have ho := Lib.hid (HO.out m (n - S - C m) m0 m1 (by omega) (by omega) (by omega))
            go_wp2_with fail
            refine (HL.out _ _ _ (by omega) (by omega)).mono ?_
            rintro e w1 ⟨rfl, b1⟩
            have HT2 := Lib.hid (HT1.out.below (w' := w1) (by rw [b1]; exact below_alloc _ _))
            clear c0 c1 c2 f0 f1 f2 b1
            obtain ⟨c0, c1, c2, f0, f1, f2⟩ := HT2.out.cells
            obtain ⟨k0, k1, k2, r0, r1, r2⟩ := HT2.out.res
            go_wp2_with fail
            obtain ⟨W, hW, e0, e1, e2, bW⟩ := HT2.out.done (.int .i64 (1 + (n - S - C m))) (.int .i64 y) (.int .i64 m) (.int .i64 (1 + (n - S - C m)))
            rw [hW]
            clear hW HT2 HL HD HI HC HM HO HN
            exact bodyPost_ret (v := .tuple #[.agg #[.int .i64 y, .int .i64 m, .int .i64 (1 + (n - S - C m))], .int .i64 0]) (by simp [results, Tryz.results72, go_sem, e0, e1, e2]) rfl ⟨y, m, _, 0, rfl, bW, .inl ⟨h, rfl, ho.out.1, ho.out.2⟩⟩
  · go_enter Tryz.func72, Tryz.ntmps72
    go_wp2_with (first | (go_at_call 33; refine (isDay_q (by assumption) _).mono ?_; rintro e w' ⟨rfl, rfl⟩))
    exact bodyPost_ret (v := .tuple #[.agg #[.int .i64 0, .int .i64 0, .int .i64 0], .int .i64 2]) (by simp [results, Tryz.results72, go_sem]) rfl ⟨0, 0, 0, 2, rfl, below_alloc _ _, .inr ⟨h, rfl, rfl, rfl, rfl⟩⟩

end Go.Proofs.YtifioecofeojpaaGreatDoor
