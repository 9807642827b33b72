/- impl.TakeDown and spec.TakeDown. -/
import Derived.Test.YtmeglhmlhdaacaaPush
import Derived.Test.YtmeglhmlhdaacaaSums
namespace Go.Proofs.Ytmeglhmlhdaacaa
open Go.ChangeShapes Go.WideShapes Go.ChangeAt Go.RowKit
set_option linter.unusedVariables false

def takeD : Int → List Int → List Int
  | _, [] => []
  | a, x :: r => min a x :: takeD (a - min a x) r
theorem takeD_len (a : Int) (xs : List Int) : (takeD a xs).length = xs.length := by
  induction xs generalizing a with
  | nil => rfl
  | cons x r ih => simp [takeD, ih]
theorem takeD_step {a t x : Int} {xs ys : List Int} {k : Nat} (hx : xs[k]? = some x) (h : takeD a xs = ys ++ takeD t (xs.drop k)) :
    takeD a xs = (ys ++ [min t x]) ++ takeD (t - min t x) (xs.drop (k + 1)) := by
  have hk : k < xs.length := by
    rcases Nat.lt_or_ge k xs.length with h | h
    · exact h
    · rw [List.getElem?_eq_none h] at hx; cases hx
  rw [h, List.drop_eq_getElem_cons hk]
  have : xs[k] = x := by rw [List.getElem?_eq_getElem hk] at hx; exact Option.some.inj hx
  simp [takeD, this]
theorem takeD_end {a t : Int} {xs ys : List Int} {k : Nat} (hk : ¬ k < xs.length) (h : takeD a xs = ys ++ takeD t (xs.drop k)) : takeD a xs = ys := by
  rw [h, List.drop_of_length_le (by omega)]; simp [takeD]

set_option maxHeartbeats 400000 in
theorem l01Take (a : Int) (A : Option Addr) (c : Nat) (xs : List Int) (w : World) (hx : Ir w A xs) (hn : xs.length ≤ 1048576) (ha : amts xs = true) (a0 : 0 ≤ a) (a1 : a ≤ 1000000000) :
    Calls Try.prog 77 #[.int .i64 a, .slice A xs.length c] w (NewInts w (takeD a xs)) := by
  obtain ⟨i0, hi, hz0, hz1, hz2⟩ := info_parts intInfo
  have HA := Lib.hid ha; clear ha
  go_enter Try.func77, Try.ntmps77
  go_wp2_with fail
  go_loopw [0, 5, 6] (fun t v i wr => ∃ (k : Nat) (y : Int) (ys : List Int), k ≤ xs.length ∧ i = .int .i64 k ∧ t = .int .i64 y ∧ 0 ≤ y ∧ y ≤ 1000000000 ∧
    wr.ownsRow w.heap.size 2 1 v k (ys.map (Value.int .i64)) ∧ Hid (takeD a xs = ys ++ takeD y (xs.drop k)) ∧ Below w.heap.size w wr) (fun _ _ i _ => xs.length - (intOf i).toNat)
  case atStart => exact ⟨0, a, [], Nat.zero_le _, rfl, rfl, a0, a1, World.ownsRow_made w #[] 0 (Nat.le_refl _) (by decide) (by simp), Lib.hid rfl, (Below.refl _ _).alloc (Nat.le_refl _) _⟩
  case round =>
    obtain ⟨k, y, ys, hk, rfl, rfl, y0, y1, hown, ht, hb⟩ := hrel
    by_cases hlt : k < xs.length
    · obtain ⟨b, off, x, rfl, hc, hxk⟩ := (hx.below hb).at hlt
      obtain ⟨x0, x1⟩ := amts_at HA.out hxk.out
      obtain ⟨A1, c1, rfl⟩ := own_form hown
      have HT := Lib.hid (takeD_step hxk.out ht.out)
      have hs := hb.size
      clear ht hx
      by_cases hm : y ≤ x
      · have hmin : min y x = y := Int.min_eq_left hm
        have HT' : Hid (takeD a xs = (ys ++ [y]) ++ takeD (y - y) (xs.drop (k + 1))) := by rw [hmin] at HT; exact HT
        clear HT
        go_wp2_with (at_builtin; refine wpList_push _ rfl (.tmp 21) (.tmp 23) 28 rfl w.heap.size 2 i0 _ 1 8 Try.underlying28 hi hz0 hz1 hz2 rfl (by decide) _ k _ rfl hown [.int .i64 y] rfl (by simp [Value.oneCell']) rfl (by unfold maxLen; omega) (by omega) hs ?_; intro v' w' hown' hb')
        go_roundw
        case rel => exact ⟨k + 1, y - y, ys ++ [y], by omega, by go_num, by simp, by omega, by omega, by simpa using hown', HT', hb.trans hb'⟩
        case measure => simp [intOf]; omega
      · have hmin : min y x = x := Int.min_eq_right (by omega)
        have hm : x < y := by omega
        have HT' : Hid (takeD a xs = (ys ++ [x]) ++ takeD (y - x) (xs.drop (k + 1))) := by rw [hmin] at HT; exact HT
        clear HT
        go_wp2_with (at_builtin; refine wpList_push _ rfl (.tmp 21) (.tmp 23) 28 rfl w.heap.size 2 i0 _ 1 8 Try.underlying28 hi hz0 hz1 hz2 rfl (by decide) _ k _ rfl hown [.int .i64 x] rfl (by simp [Value.oneCell']) rfl (by unfold maxLen; omega) (by omega) hs ?_; intro v' w' hown' hb')
        go_roundw
        case rel => exact ⟨k + 1, y - x, ys ++ [x], by omega, by go_num, rfl, by omega, by omega, by simpa using hown', HT', hb.trans hb'⟩
        case measure => simp [intOf]; omega
    · have HT : Hid (takeD a xs = ys) := Lib.hid (takeD_end hlt ht.out)
      obtain rfl : k = xs.length := by omega
      clear ht
      go_wp2_with fail
      go_ret
      obtain ⟨A1, c1, rfl⟩ := own_form hown
      have hl := takeD_len a xs
      exact ⟨A1, c1, by rw [hl] <;> rfl, by rw [hl, HT.out]; exact hown, hb⟩

def takeR (a : Int) (xs : List Int) : List Int × Int := if amt a = true ∧ xs.length ≤ 12 ∧ amts xs = true then (takeD a xs, 0) else ([], 2)
theorem takeR_ok {a : Int} {xs : List Int} (h1 : amt a = true) (h2 : xs.length ≤ 12) (h3 : amts xs = true) : takeR a xs = (takeD a xs, 0) := by simp [takeR, h1, h2, h3]
theorem takeR_1 {a : Int} {xs : List Int} (h1 : amt a = false) : takeR a xs = ([], 2) := by simp [takeR, h1]
theorem takeR_2 {a : Int} {xs : List Int} (h1 : 12 < xs.length) : takeR a xs = ([], 2) := by unfold takeR; rw [if_neg (by omega)]
theorem takeR_3 {a : Int} {xs : List Int} (h1 : amts xs = false) : takeR a xs = ([], 2) := by simp [takeR, h1]

theorem take_s (a : Int) (A : Option Addr) (c : Nat) (xs : List Int) (w : World) (hx : Ir w A xs) (hn : xs.length ≤ 1048576) :
    Calls Try.prog 21 #[.int .i64 a, .slice A xs.length c] w (NewIntsC w (takeR a xs)) := by
  have H1 := Lib.hid (amts_s A c xs w hx (by omega))
  rcases Bool.eq_false_or_eq_true (amt a) with ha | ha
  · rcases Bool.eq_false_or_eq_true (amts xs) with h | h
    · by_cases hl : xs.length ≤ 12
      · have hg : decide ((12 : Int) < (xs.length : Int)) = false := by simp; omega
        obtain ⟨a0, a1⟩ := amt_iff.1 ha
        have H2 := Lib.hid (l01Take a A c xs w hx hn h a0 a1)
        have E := Lib.hid (takeR_ok ha hl h)
        go_enter Try.func21, Try.ntmps21
        go_wp2_with (first | (go_at_call 28; refine (isAmount_s _ _).mono ?_; rintro e w' ⟨rfl, rfl⟩) | (go_at_call 76; refine H1.out.mono ?_; rintro e w' ⟨rfl, rfl⟩) | (go_at_call 77; refine H2.out.mono ?_; rintro e w' ⟨B, d, rfl, ho, hb⟩))
        go_ret2
        exact ⟨B, d, by rw [E.out] <;> rfl, by rw [E.out]; exact ho, hb⟩
      · have hg : decide ((12 : Int) < (xs.length : Int)) = true := by simp; omega
        have E := Lib.hid (takeR_2 (a := a) (xs := xs) (by omega))
        clear hl
        go_enter Try.func21, Try.ntmps21
        go_wp2_with (first | (go_at_call 28; refine (isAmount_s _ _).mono ?_; rintro e w' ⟨rfl, rfl⟩) | (go_at_call 76; refine H1.out.mono ?_; rintro e w' ⟨rfl, rfl⟩))
        go_ret2
        exact ⟨none, 0, by rw [E.out] <;> rfl, by rw [E.out]; exact Oi.nil _ _, Below.refl _ _⟩
    · have E := Lib.hid (takeR_3 (a := a) h)
      go_enter Try.func21, Try.ntmps21
      go_wp2_with (first | (go_at_call 28; refine (isAmount_s _ _).mono ?_; rintro e w' ⟨rfl, rfl⟩) | (go_at_call 76; refine H1.out.mono ?_; rintro e w' ⟨rfl, rfl⟩))
      go_ret2
      exact ⟨none, 0, by rw [E.out] <;> rfl, by rw [E.out]; exact Oi.nil _ _, Below.refl _ _⟩
  · have E := Lib.hid (takeR_1 (xs := xs) ha)
    go_enter Try.func21, Try.ntmps21
    go_wp2_with (go_at_call 28; refine (isAmount_s _ _).mono ?_; rintro e w' ⟨rfl, rfl⟩)
    go_ret2
    exact ⟨none, 0, by rw [E.out] <;> rfl, by rw [E.out]; exact Oi.nil _ _, Below.refl _ _⟩

theorem least_i (a b : Int) (w : World) : Calls Try.prog 75 #[.int .i64 a, .int .i64 b] w fun e w' => e = .returned (.int .i64 (min a b)) ∧ w = w' := by
  by_cases h : b < a
  · have E : Hid (min a b = b) := Lib.hid (Int.min_eq_right (by omega))
    go_enter Try.func75, Try.ntmps75
    go_wp2
    go_ret
    exact ⟨by rw [E.out] <;> rfl, rfl⟩
  · have E : Hid (min a b = a) := Lib.hid (Int.min_eq_left (by omega))
    go_enter Try.func75, Try.ntmps75
    go_wp2
    go_ret
    exact ⟨by rw [E.out] <;> rfl, rfl⟩

set_option maxHeartbeats 800000 in
theorem take_i_ok (a : Int) (A : Option Addr) (c : Nat) (xs : List Int) (w : World) (hx : Ir w A xs) (ha : amt a = true) (h : amts xs = true) (hl : xs.length ≤ 12) :
    Calls Try.prog 20 #[.int .i64 a, .slice A xs.length c] w (NewIntsC w (takeR a xs)) := by
  have H1 := Lib.hid (amts_i A c xs w hx (by omega))
  have hg : decide ((12 : Int) < (xs.length : Int)) = false := by simp; omega
  obtain ⟨a0, a1⟩ := amt_iff.1 ha
  have E := Lib.hid (takeR_ok ha hl h)
  have HA := Lib.hid h
  obtain ⟨i0, hi, hz0, hz1, hz2⟩ := info_parts intInfo
  go_enter Try.func20, Try.ntmps20
  go_wp2_with (first | (go_at_call 27; refine (isAmount_i _ _).mono ?_; rintro e w' ⟨rfl, rfl⟩) | (go_at_call 71; refine H1.out.mono ?_; rintro e w' ⟨rfl, rfl⟩) | (at_make; refine wpList_make_full _ rfl _ _ 28 rfl w.heap.size 2 i0 _ 1 Try.underlying28 hi hz0 hz1 .i64 .i64 _ _ xs.length rfl rfl rfl rfl (by rw [hz2]; omega) (by unfold maxLen; omega) (Nat.le_refl _) ?_; intro w1 hown1 hg1))
  have hb1 : Below w.heap.size w w1 := (Below.refl _ _).grown hg1 (Nat.le_refl _) (by simp)
  clear hg1 h ha H1 hg
  go_loopw [0, 27] (fun t i wr => ∃ (k : Nat) (y : Int) (ys : List Int) (cs : List Value), k ≤ xs.length ∧ i = .int .i64 k ∧ t = .int .i64 y ∧ 0 ≤ y ∧ y ≤ 1000000000 ∧
    wr.ownsRow w.heap.size 2 1 (.slice (some ⟨w.heap.size, 0, none⟩) xs.length xs.length) xs.length cs ∧ Hid (cs.take k = ys.map (Value.int .i64)) ∧ Hid (takeD a xs = ys ++ takeD y (xs.drop k)) ∧ Below w.heap.size w wr) (fun _ i _ => xs.length - (intOf i).toNat)
  case atStart => exact ⟨0, a, [], _, Nat.zero_le _, rfl, rfl, a0, a1, hown1, Lib.hid rfl, Lib.hid rfl, hb1⟩
  case round =>
    obtain ⟨k, y, ys, cs, hk, rfl, rfl, y0, y1, hown, hcs, ht, hb⟩ := hrel
    clear hown1 hb1
    by_cases hlt : k < xs.length
    · obtain ⟨b, off, x, rfl, hc, hxk⟩ := (hx.below hb).at hlt
      obtain ⟨x0, x1⟩ := amts_at HA.out hxk.out
      have HT := takeD_step hxk.out ht.out
      have HM := Lib.hid (least_i y x wr)
      have hm0 : 0 ≤ min y x := by omega
      have hm1 : min y x ≤ y := by omega
      generalize min y x = m at HT HM hm0 hm1
      have HT := Lib.hid HT
      have hcl : k < cs.length := by have := hown.1; omega
      obtain ⟨old, hold⟩ : ∃ v, wr.cell? ⟨w.heap.size, k, none⟩ = some v := ⟨cs[k], by rw [hown.cellAt k (by omega)]; simp [hcl]⟩
      have hfz := hown.frozenAt k
      have HS := Lib.hid (hown.stored k (.int .i64 m))
      have HC : Hid ((cs.set k (.int .i64 m)).take (k + 1) = (ys ++ [m]).map (Value.int .i64)) := Lib.hid (by rw [set_take hcl, hcs.out]; simp)
      clear ht hx hown hcs
      go_wp2_with (go_at_call 75; refine HM.out.mono ?_; rintro e w' ⟨rfl, rfl⟩)
      go_roundw
      case rel => exact ⟨k + 1, y - m, ys ++ [m], _, by omega, by go_num, rfl, by omega, by omega, HS.out.1, HC, HT, hb.grown HS.out.2 hb.size (by simp)⟩
      case measure => simp [intOf]; omega
    · have HT : Hid (takeD a xs = ys) := Lib.hid (takeD_end hlt ht.out)
      obtain rfl : k = xs.length := by omega
      have HC : Hid (cs = ys.map (Value.int .i64)) := Lib.hid (by
        have h1 := hcs.out; have h2 := hown.1
        rwa [List.take_of_length_le (by omega)] at h1)
      clear ht hcs hx
      go_wp2_with fail
      go_ret2
      have hl2 := takeD_len a xs
      refine ⟨some ⟨w.heap.size, 0, none⟩, xs.length, ?_, ?_, hb⟩
      · rw [E.out, ← hl2] <;> rfl
      · rw [E.out]; show Oi _ _ _ (takeD a xs).length _ _; rw [hl2, HT.out]; have := HC.out; subst this; exact hown

theorem take_i (a : Int) (A : Option Addr) (c : Nat) (xs : List Int) (w : World) (hx : Ir w A xs) (hn : xs.length ≤ 1048576) :
    Calls Try.prog 20 #[.int .i64 a, .slice A xs.length c] w (NewIntsC w (takeR a xs)) := by
  have H1 := Lib.hid (amts_i A c xs w hx (by omega))
  rcases Bool.eq_false_or_eq_true (amt a) with ha | ha
  · by_cases hl : xs.length ≤ 12
    · rcases Bool.eq_false_or_eq_true (amts xs) with h | h
      · exact take_i_ok a A c xs w hx ha h hl
      · have hg : decide ((12 : Int) < (xs.length : Int)) = false := by simp; omega
        have E := Lib.hid (takeR_3 (a := a) h)
        go_enter Try.func20, Try.ntmps20
        go_wp2_with (first | (go_at_call 27; refine (isAmount_i _ _).mono ?_; rintro e w' ⟨rfl, rfl⟩) | (go_at_call 71; refine H1.out.mono ?_; rintro e w' ⟨rfl, rfl⟩))
        go_ret2
        exact ⟨none, 0, by rw [E.out] <;> rfl, by rw [E.out]; exact Oi.nil _ _, Below.refl _ _⟩
    · have hg : decide ((12 : Int) < (xs.length : Int)) = true := by simp; omega
      have E := Lib.hid (takeR_2 (a := a) (xs := xs) (by omega))
      clear hl
      go_enter Try.func20, Try.ntmps20
      go_wp2_with (first | (go_at_call 27; refine (isAmount_i _ _).mono ?_; rintro e w' ⟨rfl, rfl⟩) | (go_at_call 71; refine H1.out.mono ?_; rintro e w' ⟨rfl, rfl⟩))
      go_ret2
      exact ⟨none, 0, by rw [E.out] <;> rfl, by rw [E.out]; exact Oi.nil _ _, Below.refl _ _⟩
  · have E := Lib.hid (takeR_1 (xs := xs) ha)
    go_enter Try.func20, Try.ntmps20
    go_wp2_with (go_at_call 27; refine (isAmount_i _ _).mono ?_; rintro e w' ⟨rfl, rfl⟩)
    go_ret2
    exact ⟨none, 0, by rw [E.out] <;> rfl, by rw [E.out]; exact Oi.nil _ _, Below.refl _ _⟩

theorem takeR_len (a : Int) (xs : List Int) : (takeR a xs).1.length ≤ xs.length := by
  unfold takeR; split
  · simp [takeD_len]
  · simp

end Go.Proofs.Ytmeglhmlhdaacaa
