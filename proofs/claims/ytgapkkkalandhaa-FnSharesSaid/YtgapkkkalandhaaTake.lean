/- impl.TakeDown and spec.TakeDown. -/
import Derived.Test.YtgapkkkalandhaaPush
import Derived.Test.YtgapkkkalandhaaSums
namespace Go.Proofs.Ytgapkkkalandhaa
open Go.ChangeShapes Go.WideShapes Go.ChangeAt Go.RowKit
set_option linter.unusedVariables false

def takeD : Int → List Int → List Int
  | _, [] => []
  | a, x :: r => min a x :: takeD (a - min a x) r
theorem takeD_len (a : Int) (xs : List Int) : (takeD a xs).length = xs.length := by
  induction xs generalizing a with
  | nil => rfl
  | cons x r ih => simp [takeD, ih]
theorem takeD_step {a t x : Int} {xs ys : List Int} {k : Nat} (hx : xs[k]? = some x) (h : takeD a xs = ys ++ takeD t (xs.drop k)) :
    takeD a xs = (ys ++ [min t x]) ++ takeD (t - min t x) (xs.drop (k + 1)) := by
  have hk : k < xs.length := by
    rcases Nat.lt_or_ge k xs.length with h | h
    · exact h
    · rw [List.getElem?_eq_none h] at hx; cases hx
  rw [h, List.drop_eq_getElem_cons hk]
  have : xs[k] = x := by rw [List.getElem?_eq_getElem hk] at hx; exact Option.some.inj hx
  simp [takeD, this]
theorem takeD_end {a t : Int} {xs ys : List Int} {k : Nat} (hk : ¬ k < xs.length) (h : takeD a xs = ys ++ takeD t (xs.drop k)) : takeD a xs = ys := by
  rw [h, List.drop_of_length_le (by omega)]; simp [takeD]

set_option maxHeartbeats 400000 in
theorem l01Take (a : Int) (A : Option Addr) (c : Nat) (xs : List Int) (w : World) (hx : Ir w A xs) (hn : xs.length ≤ 1048576) (ha : amts xs = true) (a0 : 0 ≤ a) (a1 : a ≤ 1000000000) :
    Calls Try.prog 52 #[.int .i64 a, .slice A xs.length c] w (NewInts w (takeD a xs)) := by
  obtain ⟨i0, hi, hz0, hz1, hz2⟩ := info_parts intInfo
  have HA := Lib.hid ha; clear ha
  go_enter Try.func52, Try.ntmps52
  go_wp2_with fail
  go_loopw [0, 5, 6] (fun t v i wr => ∃ (k : Nat) (y : Int) (ys : List Int), k ≤ xs.length ∧ i = .int .i64 k ∧ t = .int .i64 y ∧ 0 ≤ y ∧ y ≤ 1000000000 ∧
    wr.ownsRow w.heap.size 2 1 v k (ys.map (Value.int .i64)) ∧ Hid (takeD a xs = ys ++ takeD y (xs.drop k)) ∧ Below w.heap.size w wr) (fun _ _ i _ => xs.length - (intOf i).toNat)
  case atStart => exact ⟨0, a, [], Nat.zero_le _, rfl, rfl, a0, a1, World.ownsRow_made w #[] 0 (Nat.le_refl _) (by decide) (by simp), Lib.hid rfl, (Below.refl _ _).alloc (Nat.le_refl _) _⟩
  case round =>
    obtain ⟨k, y, ys, hk, rfl, rfl, y0, y1, hown, ht, hb⟩ := hrel
    by_cases hlt : k < xs.length
    · obtain ⟨b, off, x, rfl, hc, hxk⟩ := (hx.below hb).at hlt
      obtain ⟨x0, x1⟩ := amts_at HA.out hxk.out
      obtain ⟨A1, c1, rfl⟩ := own_form hown
      have HT := Lib.hid (takeD_step hxk.out ht.out)
      have hs := hb.size
      clear ht hx
      by_cases hm : y ≤ x
      · have hmin : min y x = y := Int.min_eq_left hm
        have HT' : Hid (takeD a xs = (ys ++ [y]) ++ takeD (y - y) (xs.drop (k + 1))) := by rw [hmin] at HT; exact HT
        clear HT
        go_wp2_with (at_builtin; refine wpList_push _ rfl (.tmp 21) (.tmp 23) 24 rfl w.heap.size 2 i0 _ 1 8 Try.underlying24 hi hz0 hz1 hz2 rfl (by decide) _ k _ rfl hown [.int .i64 y] rfl (by simp [Value.oneCell']) rfl (by unfold maxLen; omega) (by omega) hs ?_; intro v' w' hown' hb')
        go_roundw
        case rel => exact ⟨k + 1, y - y, ys ++ [y], by omega, by go_num, by simp, by omega, by omega, by simpa using hown', HT', hb.trans hb'⟩
        case measure => simp [intOf]; omega
      · have hmin : min y x = x := Int.min_eq_right (by omega)
        have hm : x < y := by omega
        have HT' : Hid (takeD a xs = (ys ++ [x]) ++ takeD (y - x) (xs.drop (k + 1))) := by rw [hmin] at HT; exact HT
        clear HT
        go_wp2_with (at_builtin; refine wpList_push _ rfl (.tmp 21) (.tmp 23) 24 rfl w.heap.size 2 i0 _ 1 8 Try.underlying24 hi hz0 hz1 hz2 rfl (by decide) _ k _ rfl hown [.int .i64 x] rfl (by simp [Value.oneCell']) rfl (by unfold maxLen; omega) (by omega) hs ?_; intro v' w' hown' hb')
        go_roundw
        case rel => exact ⟨k + 1, y - x, ys ++ [x], by omega, by go_num, rfl, by omega, by omega, by simpa using hown', HT', hb.trans hb'⟩
        case measure => simp [intOf]; omega
    · have HT : Hid (takeD a xs = ys) := Lib.hid (takeD_end hlt ht.out)
      obtain rfl : k = xs.length := by omega
      clear ht
      go_wp2_with fail
      go_ret
      obtain ⟨A1, c1, rfl⟩ := own_form hown
      have hl := takeD_len a xs
      exact ⟨A1, c1, by rw [hl] <;> rfl, by rw [hl, HT.out]; exact hown, hb⟩

def takeR (a : Int) (xs : List Int) : List Int × Int := if amt a = true ∧ xs.length ≤ 12 ∧ amts xs = true then (takeD a xs, 0) else ([], 2)
theorem takeR_ok {a : Int} {xs : List Int} (h1 : amt a = true) (h2 : xs.length ≤ 12) (h3 : amts xs = true) : takeR a xs = (takeD a xs, 0) := by simp [takeR, h1, h2, h3]
theorem takeR_1 {a : Int} {xs : List Int} (h1 : amt a = false) : takeR a xs = ([], 2) := by simp [takeR, h1]
theorem takeR_2 {a : Int} {xs : List Int} (h1 : 12 < xs.length) : takeR a xs = ([], 2) := by unfold takeR; rw [if_neg (by omega)]
theorem takeR_3 {a : Int} {xs : List Int} (h1 : amts xs = false) : takeR a xs = ([], 2) := by simp [takeR, h1]

theorem take_s (a : Int) (A : Option Addr) (c : Nat) (xs : List Int) (w : World) (hx : Ir w A xs) (hn : xs.length ≤ 1048576) :
    Calls Try.prog 25 #[.int .i64 a, .slice A xs.length c] w (NewIntsC w (takeR a xs)) := by
  have H1 := Lib.hid (amts_s A c xs w hx (by omega))
  rcases Bool.eq_false_or_eq_true (amt a) with ha | ha
  · rcases Bool.eq_false_or_eq_true (amts xs) with h | h
    · by_cases hl : xs.length ≤ 12
      · have hg : decide ((12 : Int) < (xs.length : Int)) = false := by simp; omega
        obtain ⟨a0, a1⟩ := amt_iff.1 ha
        have H2 := Lib.hid (l01Take a A c xs w hx hn h a0 a1)
        have E := Lib.hid (takeR_ok ha hl h)
        go_enter Try.func25, Try.ntmps25
        go_wp2_with (first | (go_at_call 31; refine (isAmount_s _ _).mono ?_; rintro e w' ⟨rfl, rfl⟩) | (go_at_call 47; refine H1.out.mono ?_; rintro e w' ⟨rfl, rfl⟩) | (go_at_call 52; refine H2.out.mono ?_; rintro e w' ⟨B, d, rfl, ho, hb⟩))
        go_ret2
        exact ⟨B, d, by rw [E.out] <;> rfl, by rw [E.out]; exact ho, hb⟩
      · have hg : decide ((12 : Int) < (xs.length : Int)) = true := by simp; omega
        have E := Lib.hid (takeR_2 (a := a) (xs := xs) (by omega))
        clear hl
        go_enter Try.func25, Try.ntmps25
        go_wp2_with (first | (go_at_call 31; refine (isAmount_s _ _).mono ?_; rintro e w' ⟨rfl, rfl⟩) | (go_at_call 47; refine H1.out.mono ?_; rintro e w' ⟨rfl, rfl⟩))
        go_ret2
        exact ⟨none, 0, by rw [E.out] <;> rfl, by rw [E.out]; exact Oi.nil _ _, Below.refl _ _⟩
    · have E := Lib.hid (takeR_3 (a := a) h)
      go_enter Try.func25, Try.ntmps25
      go_wp2_with (first | (go_at_call 31; refine (isAmount_s _ _).mono ?_; rintro e w' ⟨rfl, rfl⟩) | (go_at_call 47; refine H1.out.mono ?_; rintro e w' ⟨rfl, rfl⟩))
      go_ret2
      exact ⟨none, 0, by rw [E.out] <;> rfl, by rw [E.out]; exact Oi.nil _ _, Below.refl _ _⟩
  · have E := Lib.hid (takeR_1 (xs := xs) ha)
    go_enter Try.func25, Try.ntmps25
    go_wp2_with (go_at_call 31; refine (isAmount_s _ _).mono ?_; rintro e w' ⟨rfl, rfl⟩)
    go_ret2
    exact ⟨none, 0, by rw [E.out] <;> rfl, by rw [E.out]; exact Oi.nil _ _, Below.refl _ _⟩

theorem least_i (a b : Int) (w : World) : Calls Try.prog 51 #[.int .i64 a, .int .i64 b] w fun e w' => e = .returned (.int .i64 (min a b)) ∧ w = w' := by
  by_cases h : b < a
  · have E : Hid (min a b = b) := Lib.hid (Int.min_eq_right (by omega))
    go_enter Try.func51, Try.ntmps51
    go_wp2
    go_ret
    exact ⟨by rw [E.out] <;> rfl, rfl⟩
  · have E : Hid (min a b = a) := Lib.hid (Int.min_eq_left (by omega))
    go_enter Try.func51, Try.ntmps51
    go_wp2
    go_ret
    exact ⟨by rw [E.out] <;> rfl, rfl⟩

set_option maxHeartbeats 800000 in
theorem take_i_ok (a : Int) (A : Option Addr) (c : Nat) (xs : List Int) (w : World) (hx : Ir w A xs) (ha : amt a = true) (h : amts xs = true) (hl : xs.length ≤ 12) :
    Calls Try.prog 24 #[.int .i64 a, .slice A xs.length c] w (NewIntsC w (takeR a xs)) := by
  have H1 := Lib.hid (amts_i A c xs w hx (by omega))
  have hg : decide ((12 : Int) < (xs.length : Int)) = false := by simp; omega
  obtain ⟨a0, a1⟩ := amt_iff.1 ha
  have E := Lib.hid (takeR_ok ha hl h)
  have HA := Lib.hid h
  obtain ⟨i0, hi, hz0, hz1, hz2⟩ := info_parts intInfo
  go_enter Try.func24, Try.ntmps24
  go_wp2_with (first | (go_at_call 30; refine (isAmount_i _ _).mono ?_; rintro e w' ⟨rfl, rfl⟩) | (go_at_call 46; refine H1.out.mono ?_; rintro e w' ⟨rfl, rfl⟩) | (at_make; refine wpList_make_full _ rfl _ _ 24 rfl w.heap.size 2 i0 _ 1 Try.underlying24 hi hz0 hz1 .i64 .i64 _ _ xs.length rfl rfl rfl rfl (by rw [hz2]; omega) (by unfold maxLen; omega) (Nat.le_refl _) ?_; intro w1 hown1 hg1))
  have hb1 : Below w.heap.size w w1 := (Below.refl _ _).grown hg1 (Nat.le_refl _) (by simp)
  clear hg1 h ha H1 hg
  go_loopw [0, 27] (fun t i wr => ∃ (k : Nat) (y : Int) (ys : List Int) (cs : List Value), k ≤ xs.length ∧ i = .int .i64 k ∧ t = .int .i64 y ∧ 0 ≤ y ∧ y ≤ 1000000000 ∧
    wr.ownsRow w.heap.size 2 1 (.slice (some ⟨w.heap.size, 0, none⟩) xs.length xs.length) xs.length cs ∧ Hid (cs.take k = ys.map (Value.int .i64)) ∧ Hid (takeD a xs = ys ++ takeD y (xs.drop k)) ∧ Below w.heap.size w wr) (fun _ i _ => xs.length - (intOf i).toNat)
  case atStart => exact ⟨0, a, [], _, Nat.zero_le _, rfl, rfl, a0, a1, hown1, Lib.hid rfl, Lib.hid rfl, hb1⟩
  case round =>
    obtain ⟨k, y, ys, cs, hk, rfl, rfl, y0, y1, hown, hcs, ht, hb⟩ := hrel
    clear hown1 hb1
    by_cases hlt : k < xs.length
    · obtain ⟨b, off, x, rfl, hc, hxk⟩ := (hx.below hb).at hlt
      obtain ⟨x0, x1⟩ := amts_at HA.out hxk.out
      have HT := takeD_step hxk.out ht.out
      have HM := Lib.hid (least_i y x wr)
      have hm0 : 0 ≤ min y x := by omega
      have hm1 : min y x ≤ y := by omega
      generalize min y x = m at HT HM hm0 hm1
      have HT := Lib.hid HT
      have hcl : k < cs.length := by have := hown.1; omega
      obtain ⟨old, hold⟩ : ∃ v, wr.cell? ⟨w.heap.size, k, none⟩ = some v := ⟨cs[k], by rw [hown.cellAt k (by omega)]; simp [hcl]⟩
      have hfz := hown.frozenAt k
      have HS := Lib.hid (hown.stored k (.int .i64 m))
      have HC : Hid ((cs.set k (.int .i64 m)).take (k + 1) = (ys ++ [m]).map (Value.int .i64)) := Lib.hid (by rw [set_take hcl, hcs.out]; simp)
      clear ht hx hown hcs
      go_wp2_with (go_at_call 51; refine HM.out.mono ?_; rintro e w' ⟨rfl, rfl⟩)
      go_roundw
      case rel => exact ⟨k + 1, y - m, ys ++ [m], _, by omega, by go_num, rfl, by omega, by omega, HS.out.1, HC, HT, hb.grown HS.out.2 hb.size (by simp)⟩
      case measure => simp [intOf]; omega
    · have HT : Hid (takeD a xs = ys) := Lib.hid (takeD_end hlt ht.out)
      obtain rfl : k = xs.length := by omega
      have HC : Hid (cs = ys.map (Value.int .i64)) := Lib.hid (by
        have h1 := hcs.out; have h2 := hown.1
        rwa [List.take_of_length_le (by omega)] at h1)
      clear ht hcs hx
      go_wp2_with fail
      go_ret2
      have hl2 := takeD_len a xs
      refine ⟨some ⟨w.heap.size, 0, none⟩, xs.length, ?_, ?_, hb⟩
      · rw [E.out, ← hl2] <;> rfl
      · rw [E.out]; show Oi _ _ _ (takeD a xs).length _ _; rw [hl2, HT.out]; have := HC.out; subst this; exact hown

theorem take_i (a : Int) (A : Option Addr) (c : Nat) (xs : List Int) (w : World) (hx : Ir w A xs) (hn : xs.length ≤ 1048576) :
    Calls Try.prog 24 #[.int .i64 a, .slice A xs.length c] w (NewIntsC w (takeR a xs)) := by
  have H1 := Lib.hid (amts_i A c xs w hx (by omega))
  rcases Bool.eq_false_or_eq_true (amt a) with ha | ha
  · by_cases hl : xs.length ≤ 12
    · rcases Bool.eq_false_or_eq_true (amts xs) with h | h
      · exact take_i_ok a A c xs w hx ha h hl
      · have hg : decide ((12 : Int) < (xs.length : Int)) = false := by simp; omega
        have E := Lib.hid (takeR_3 (a := a) h)
        go_enter Try.func24, Try.ntmps24
        go_wp2_with (first | (go_at_call 30; refine (isAmount_i _ _).mono ?_; rintro e w' ⟨rfl, rfl⟩) | (go_at_call 46; refine H1.out.mono ?_; rintro e w' ⟨rfl, rfl⟩))
        go_ret2
        exact ⟨none, 0, by rw [E.out] <;> rfl, by rw [E.out]; exact Oi.nil _ _, Below.refl _ _⟩
    · have hg : decide ((12 : Int) < (xs.length : Int)) = true := by simp; omega
      have E := Lib.hid (takeR_2 (a := a) (xs := xs) (by omega))
      clear hl
      go_enter Try.func24, Try.ntmps24
      go_wp2_with (first | (go_at_call 30; refine (isAmount_i _ _).mono ?_; rintro e w' ⟨rfl, rfl⟩) | (go_at_call 46; refine H1.out.mono ?_; rintro e w' ⟨rfl, rfl⟩))
      go_ret2
      exact ⟨none, 0, by rw [E.out] <;> rfl, by rw [E.out]; exact Oi.nil _ _, Below.refl _ _⟩
  · have E := Lib.hid (takeR_1 (xs := xs) ha)
    go_enter Try.func24, Try.ntmps24
    go_wp2_with (go_at_call 30; refine (isAmount_i _ _).mono ?_; rintro e w' ⟨rfl, rfl⟩)
    go_ret2
    exact ⟨none, 0, by rw [E.out] <;> rfl, by rw [E.out]; exact Oi.nil _ _, Below.refl _ _⟩

theorem takeR_len (a : Int) (xs : List Int) : (takeR a xs).1.length ≤ xs.length := by
  unfold takeR; split
  · simp [takeD_len]
  · simp

theorem law_FnExactTakeDown (a : Int) (A : Option Addr) (c : Nat) (xs : List Int) (w : World) (_ : (Lit.int .i64 a).wf = true) (hx : Ir w A xs) (hm : xs.length ≤ maxLen) (_ : ∀ x ∈ xs, (Lit.int .i64 x).wf = true) :
    Calls Try.prog 10 #[.int .i64 a, .slice A xs.length c] w fun e w' => e = .returned (.bool true) ∧ Below w.heap.size w w' := by
  unfold maxLen at hm
  by_cases hn : xs.length ≤ 1048576
  · have hR := takeR_len a xs
    have HI := Lib.hid (fun A c w hx => take_i a A c xs w hx hn)
    have HS := Lib.hid (fun A c w hx => take_s a A c xs w hx hn)
    generalize takeR a xs = r at hR HI HS
    go_enter Try.func10, Try.ntmps10
    go_wp2_with fail
    refine (copyInts A c xs _ hx hn).mono ?_
    rintro e w1 ⟨B1, c1, rfl, o1, b1⟩
    go_wp2_with fail
    refine (HS.out B1 c1 w1 o1.ir).mono ?_
    rintro e w2 ⟨C2, c2, rfl, o2, b2⟩
    have t2 := belowGo b1 b2
    have bd2 := o2.bd
    go_wp2_with fail
    refine (copyInts A c xs _ (hx.below t2) hn).mono ?_
    rintro e w3 ⟨X3, c3, rfl, o3, b3⟩
    have t3 := belowGo t2 b3
    go_wp2_with fail
    refine (HI.out X3 c3 w3 o3.ir).mono ?_
    rintro e w4 ⟨G4, c4, rfl, o4, b4⟩
    have t4 := belowGo t3 b4
    have bx4 := o3.bd
    have i4 := (o2.below b3).below b4
    have x4 := o3.below b4
    go_wp2_with fail
    refine (eqInts_same G4 C2 _ _ c4 c2 r.1 w4 o4.ir i4.ir rfl rfl (by omega)).mono ?_
    rintro e w5 ⟨rfl, b5⟩
    have t5 := belowGo t4 b5
    go_wp2_with fail
    refine (copyInts A c xs _ (hx.below t5) hn).mono ?_
    rintro e w6 ⟨X6, c6, rfl, o6, b6⟩
    have t6 := belowGo t5 b6
    go_wp2_with fail
    refine (eqInts_same X3 X6 _ _ c3 c6 xs w6 ((x4.below b5).below b6).ir o6.ir rfl rfl (by omega)).mono ?_
    rintro e w7 ⟨rfl, b7⟩
    have t7 := belowGo t6 b7
    go_wp2_with fail
    refine (markInts X3 _ c3 1 xs _ w7 (((x4.below b5).below b6).below b7) hn (by omega) (by omega)).mono ?_
    rintro e w8 ⟨rfl, o8, g8⟩
    have x7 := ((x4.below b5).below b6).below b7
    have s23 : w2.heap.size ≤ w3.heap.size := b3.size
    have s37 : w3.heap.size ≤ w7.heap.size := Nat.le_trans b4.size (Nat.le_trans b5.size (Nat.le_trans b6.size b7.size))
    have f8 : Below w2.heap.size w7 w8 := x7.far g8 (Nat.le_refl _) (by omega)
    have t8 : Below w.heap.size w w8 := x7.wrote t7 g8 t2.size t7.size
    have g8' := (((o4.below b5).below b6).below b7).kept g8 bx4
    have i8 : Ir w8 C2 r.1 := (((i4.below b5).below b6).below b7).ir.keepB bd2 f8
    have hk : decide ((1 : Int) + (xs.length : Int) < 0) = false := by simp; omega
    clear o8 f8
    go_wp2_with fail
    refine (eqInts_same G4 C2 _ _ c4 c2 r.1 w8 g8'.ir i8 rfl rfl (by omega)).mono ?_
    rintro e w9 ⟨rfl, b9⟩
    have t9 := belowGo t8 b9
    have g9 := g8'.below b9
    have i9 := i8.below b9
    clear g8'
    go_wp2_with fail
    refine (markInts G4 _ c4 1 r.1 _ w9 g9 (by omega) (by omega) (by omega)).mono ?_
    rintro e w10 ⟨rfl, o10, g10⟩
    have s9 : w3.heap.size ≤ w9.heap.size := Nat.le_trans s37 (Nat.le_trans g8.size b9.size)
    have f10 : Below w2.heap.size w9 w10 := g9.far g10 s23 (by omega)
    have t10 : Below w.heap.size w w10 := g9.wrote t9 g10 t3.size t9.size
    have i10 := i9.keepB bd2 f10
    clear f10 g9
    go_wp2_with fail
    refine (heldInts G4 _ c4 1 w10 o10.ir (by omega) (by omega) (by omega)).mono ?_
    rintro e w' ⟨rfl, rfl⟩
    have hk2 : decide ((1 : Int) + (r.1.length : Int) < 0) = false := by simp; omega
    have hk3 : ((1 : Int) + (r.1.length : Int) != 1 + (r.1.length : Int)) = false := by simp
    go_wp2_with fail
    refine (copyInts A c xs _ (hx.below t10) hn).mono ?_
    rintro e w11 ⟨X11, c11, rfl, o11, b11⟩
    have t11 := belowGo t10 b11
    go_wp2_with fail
    refine (HI.out X11 c11 w11 o11.ir).mono ?_
    rintro e w12 ⟨H12, c12, rfl, o12, b12⟩
    have t12 := belowGo t11 b12
    go_wp2_with fail
    refine (eqInts_same H12 C2 _ _ c12 c2 r.1 w12 o12.ir ((i10.below b11).below b12) rfl rfl (by omega)).mono ?_
    rintro e w13 ⟨rfl, b13⟩
    have t13 := belowGo t12 b13
    go_wp2_with fail
    refine (heldInts G4 _ c4 1 w13 (((o10.below b11).below b12).below b13).ir (by omega) (by omega) (by omega)).mono ?_
    rintro e w' ⟨rfl, rfl⟩
    go_wp2_with fail
    go_ret
    exact ⟨rfl, t13⟩
  · go_enter Try.func10, Try.ntmps10
    go_wp2_with fail
    go_ret
    exact ⟨rfl, Below.refl _ _⟩
end Go.Proofs.Ytgapkkkalandhaa
