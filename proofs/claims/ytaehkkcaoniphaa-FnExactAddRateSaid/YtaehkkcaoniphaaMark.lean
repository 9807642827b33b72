/- laws.markText; markRateS, heldRateS. -/
import Derived.Test.YtaehkkcaoniphaaRateq
import Derived.Test.YtaehkkcaoniphaaHeld
import Derived.Lib.ItoaNum
import Derived.Laws.IdiomStrings
namespace Go.Proofs.Ytaehkkcaoniphaa
open Go.ChangeShapes Go.WideShapes Go.ChangeAt Go.RowKit
set_option linter.unusedVariables false

theorem mconv_at (W : World) (a : Addr) (x : Int) (h : W.cell? a = some (.int .u8 x)) :
    (convert 22 9 (.slice (some a) 1 1)).run Try.prog W = .ok (.string ⟨#[UInt8.ofNat x.toNat]⟩) W := by
  rw [run_convert_bytes_string W 22 9 5 (some a) 1 1 Try.underlying22 Try.underlying5 Try.underlying9]
  have hl := run_loadCells_list (P := Try.prog) W a ([x].map (Value.int .u8)) (fun j v hj => by
    cases j with
    | zero => simp at hj; subst hj; simpa [Addr.add] using h
    | succ j => simp at hj)
  rw [run_bytesToString W a 1 1 [x] hl]
  rfl
theorem mconv_new (W : World) (x : Int) (t : TypeId) :
    (convert 22 9 (.slice (some ⟨W.heap.size, 0, none⟩) 1 1)).run Try.prog (W.alloc (.cells #[.int .u8 x] t)) = .ok (.string ⟨#[UInt8.ofNat x.toNat]⟩) (W.alloc (.cells #[.int .u8 x] t)) :=
  mconv_at _ _ x (by rw [cell_of_row _ _ _ _ _ _ (heap_alloc_new W _)]; rfl)
/-- What is still to be written of a number, ahead of what is written. -/
def mk0 (k : Nat) (l : List UInt8) : List UInt8 := if k = 0 then l else Lib.decDigits k ++ l
/-- The text of a mark. -/
def mkT (k : Nat) : List UInt8 := 109 :: Lib.decDigits k
theorem mk0_step {k : Nat} (hk : 0 < k) (l : List UInt8) : mk0 (k / 10) (UInt8.ofNat (48 + k % 10) :: l) = mk0 k l := by
  unfold mk0
  rw [if_neg (by omega : ¬ k = 0)]
  by_cases h : k < 10
  · rw [if_pos (by omega), Lib.decDigits_one h, Nat.mod_eq_of_lt h]; rfl
  · rw [if_neg (by omega)]
    conv => rhs; rw [Lib.decDigits, dif_neg h]
    simp
theorem mdec_len (k : Nat) : ∀ n, n < 10 ^ k → (Lib.decDigits n).length ≤ k + 1 := by
  induction k with
  | zero => intro n h; rw [Lib.decDigits_one (by simp at h; omega)]; simp
  | succ k ih =>
    intro n h
    by_cases hn : n < 10
    · rw [Lib.decDigits_one hn]; simp
    · have e : Lib.decDigits n = Lib.decDigits (n / 10) ++ [UInt8.ofNat (48 + n % 10)] := by
        conv => lhs; rw [Lib.decDigits, dif_neg hn]
      rw [e]
      have := ih (n / 10) (by rw [Nat.pow_succ] at h; omega)
      simp; omega
theorem mk0_len {k : Nat} {l m : List UInt8} (h : mk0 k l = m) : l.length ≤ m.length := by
  subst h; unfold mk0; split
  · exact Nat.le_refl _
  · rw [List.length_append]; omega
theorem str1 (b : UInt8) (l : List UInt8) : (⟨#[b]⟩ ++ ⟨l.toArray⟩ : ByteArray) = ⟨(b :: l).toArray⟩ := by
  apply ByteArray.ext
  simp [ByteArray.data_append]

set_option maxHeartbeats 1000000 in
theorem markText_l (k : Nat) (w : World) (h0 : 0 < k) (h1 : k ≤ 1000000000000) : Calls Try.prog 63 #[.int .i64 k] w (Gives w (.string ⟨(mkT k).toArray⟩)) := by
  have E : Hid (mkT k = 109 :: mk0 k []) := Lib.hid (by unfold mkT mk0; rw [if_neg (by omega)]; simp)
  have hL : (mk0 k []).length ≤ 19 := by
    unfold mk0; rw [if_neg (by omega), List.append_nil]; exact mdec_len 18 k (by omega)
  obtain ⟨T, hT⟩ : ∃ T, mk0 k [] = T := ⟨_, rfl⟩
  rw [hT] at E hL
  have H0 := Lib.hid hT
  clear hT
  go_enter Try.func63, Try.ntmps63
  go_wp2_with fail
  go_loopw [0, 3] (fun k' o wr => ∃ (j : Nat) (l : List UInt8), j ≤ k ∧ k' = .int .i64 j ∧ o = .string ⟨l.toArray⟩ ∧ Hid (mk0 j l = T) ∧ Below w.heap.size w wr) (fun k' _ _ => (intOf k').toNat)
  case atStart => exact ⟨k, [], Nat.le_refl _, rfl, rfl, H0, Below.refl _ _⟩
  case round =>
    obtain ⟨j, l, hj, rfl, rfl, ht, hb⟩ := hrel
    have hll := mk0_len ht.out
    by_cases hj0 : 0 < j
    · have HT : Hid (mk0 (j / 10) (UInt8.ofNat (48 + j % 10) :: l) = T) := Lib.hid (by rw [mk0_step hj0, ht.out])
      have q1 : IntKind.i64.wrap ((j : Int) / 10) = (j : Int) / 10 := IntWalk.i64_in _ (by omega)
      have q2 : (j : Int).tmod 10 = (j : Int) % 10 := Int.tmod_eq_emod_of_nonneg (by omega)
      have q3 : IntKind.i64.wrap (48 + (j : Int) % 10) = 48 + (j : Int) % 10 := IntWalk.i64_in _ (by omega)
      have q4 : IntKind.u8.wrap (48 + (j : Int) % 10) = 48 + (j : Int) % 10 := IntWalk.u8_in _ (by omega)
      have hcv := fun W => mconv_new W (48 + (j : Int) % 10) 5
      have hnn : (48 + (j : Int) % 10).toNat = 48 + j % 10 := by omega
      have hs : Hid ((⟨#[48 + UInt8.ofNat (j % 10)]⟩ ++ ⟨l.toArray⟩ : ByteArray) = ⟨(UInt8.ofNat (48 + j % 10) :: l).toArray⟩) := Lib.hid (by rw [← str1, UInt8.ofNat_add]; rfl)
      clear ht
      go_wp2_with fail
      go_roundw
      case rel => exact ⟨j / 10, UInt8.ofNat (48 + j % 10) :: l, by omega, by go_num, congrArg Value.string hs.out, HT, hb.trans ((Below.refl _ _).alloc hb.size _)⟩
      case measure => simp [intOf]; omega
    · obtain rfl : j = 0 := by omega
      have HT : Hid (l = T) := Lib.hid (by have := ht.out; unfold mk0 at this; simpa using this)
      have hs := Lib.hid (str1 109 l)
      clear ht
      go_wp2_with fail
      go_ret
      exact ⟨by rw [E.out, ← HT.out, ← hs.out] <;> rfl, hb⟩

/-! ### rows of rates -/
def markR (k : Nat) : Rt := ⟨mkT k, (k : Int) + 1, (k : Int) + 2, (k : Int) + 3⟩
def marksR (k : Nat) (n : Nat) : List Rt := (List.range n).map fun j => markR (k + 4 * j)
theorem marksR_len (k : Nat) (n : Nat) : (marksR k n).length = n := by simp [marksR]
theorem marksR_at {k : Nat} {n j : Nat} (h : j < n) : (marksR k n)[j]? = some (markR (k + 4 * j)) := by simp [marksR, h]
theorem marksR_succ (k : Nat) (n : Nat) : marksR k (n + 1) = marksR k n ++ [markR (k + 4 * n)] := by simp [marksR, List.range_succ]
def MarkedR (w : World) (base : Nat) (A : Option Addr) (n c : Nat) (k : Nat) (e : Ending) (w' : World) : Prop :=
  e = .returned (.int .i64 ((k + 4 * n : Nat) : Int)) ∧ Or w' base A n c (marksR k n) ∧ w.grownBy w' (Value.slice A n c).ownBlock
theorem grown_below' {w wr w' : World} {g : Option Nat} (h : w.grownBy wr g) (hb : Below w.heap.size wr w') : w.grownBy w' g :=
  ⟨hb.os.trans h.os, hb.tape.trans h.tape, hb.output.trans h.output, Nat.le_trans h.size hb.size, fun k hk hn => (hb.block k hk).trans (h.block k hk hn)⟩

set_option maxRecDepth 100000 in
set_option maxHeartbeats 1000000 in
theorem markRateS_l (A : Option Addr) (n c : Nat) (k0 : Nat) (rs : List Rt) (base : Nat) (w : World) (hx : Or w base A n c rs) (hn : n ≤ 1048576) (h0 : 0 < k0) (h1 : k0 ≤ 1000000000) :
    Calls Try.prog 37 #[.slice A n c, .int .i64 k0] w (MarkedR w base A n c k0) := by
  by_cases hz : n = 0
  · have HO : Hid (Or w base A n c (marksR k0 n)) := Lib.hid (by
      have h := hx.len; subst hz
      have : rs = [] := List.eq_nil_of_length_eq_zero h
      subst this; exact hx)
    subst hz
    go_enter Try.func37, Try.ntmps37
    go_wp2_with fail
    go_loop [1, 5] (fun k i => k = .int .i64 k0 ∧ i = .int .i64 0) (fun _ _ => 0)
    case atStart => exact ⟨rfl, rfl⟩
    case round =>
      obtain ⟨rfl, rfl⟩ := hrel
      go_wp2_with fail
      go_ret
      exact ⟨by simp, HO.out, World.grownBy.refl w _⟩
  · obtain ⟨g, hA⟩ : ∃ g, A = some ⟨g, 0, none⟩ := by
      rcases hx.2 with ⟨_, h⟩ | ⟨g, _, _, h, _⟩
      · exact absurd h hz
      · injection h with h; exact ⟨g, h⟩
    subst hA
    go_enter Try.func37, Try.ntmps37
    go_wp2_with fail
    go_loopw [1, 5] (fun k i wr => ∃ (j : Nat) (ys : List Value), j ≤ n ∧ i = .int .i64 j ∧ k = .int .i64 ((k0 + 4 * j : Nat) : Int) ∧ wr.ownsRow base 30 4 (.slice (some ⟨g, 0, none⟩) n c) n ys ∧
      Hid (ys.take (j * 4) = (marksR k0 j).flatMap Rt.cells) ∧ w.grownBy wr (some g)) (fun _ i _ => n - (intOf i).toNat)
    case atStart => exact ⟨0, _, Nat.zero_le _, rfl, by simp, hx, Lib.hid (by simp [marksR]), World.grownBy.refl w _⟩
    case round =>
      obtain ⟨j, ys, hj, rfl, rfl, hown, ht, hg⟩ := hrel
      clear hx
      by_cases hlt : j < n
      · have HO := Lib.hid hown
        have hyl : j * 4 + 3 < ys.length := by have := hown.1; omega
        have HM := Lib.hid (markText_l (k0 + 4 * j) wr (by omega) (by omega))
        have HT : Hid ((((((ys.set (j * 4) (.string ⟨(mkT (k0 + 4 * j)).toArray⟩)).set (j * 4 + 1) (.int .i64 (((k0 + 4 * j : Nat) : Int) + 1))).set (j * 4 + 2) (.int .i64 (((k0 + 4 * j : Nat) : Int) + 2))).set (j * 4 + 3) (.int .i64 (((k0 + 4 * j : Nat) : Int) + 3)))).take ((j + 1) * 4) = (marksR k0 (j + 1)).flatMap Rt.cells) := Lib.hid (by
          rw [set4 hyl ht.out, marksR_succ, List.flatMap_append]; simp [Rt.cells, markR])
        generalize hK : k0 + 4 * j = K at *
        have hK1 : k0 + 4 * (j + 1) = K + 4 := by omega
        have HK := Lib.hid hK1
        have hKb : K ≤ 1010000000 := by omega
        clear ht hown hK hK1
        go_wp2_with fail
        refine HM.out.mono ?_
        rintro e w1 ⟨rfl, b1⟩
        have hown := own_below HO.out b1
        clear HO HM
        have hg2 := grown_below' hg (b1.mono hg.size)
        obtain ⟨o0, k0'⟩ := own_at hown (j * 4) (by omega)
        obtain ⟨o1, k1⟩ := own_at hown (j * 4 + 1) (by omega)
        obtain ⟨o2, k2⟩ := own_at hown (j * 4 + 2) (by omega)
        obtain ⟨o3, k3⟩ := own_at hown (j * 4 + 3) (by omega)
        have f0 := hown.frozenAt (j * 4)
        have f1 := hown.frozenAt (j * 4 + 1)
        have f2 := hown.frozenAt (j * 4 + 2)
        have f3 := hown.frozenAt (j * 4 + 3)
        have HS := Lib.hid (stored4 hown (j * 4) (.string ⟨(mkT K).toArray⟩) (.int .i64 ((K : Int) + 1)) (.int .i64 ((K : Int) + 2)) (.int .i64 ((K : Int) + 3)))
        clear hown
        go_wp2_with fail
        go_roundw
        case rel => exact ⟨j + 1, _, by omega, by go_num, by rw [HK.out]; go_num, HS.out.1, HT, hg2.trans HS.out.2⟩
        case measure => simp [intOf]; omega
      · obtain rfl : j = n := by omega
        have HT : Hid (ys = (marksR k0 j).flatMap Rt.cells) := Lib.hid (by
          have h1 := ht.out; have h2 := hown.1
          rwa [List.take_of_length_le (by omega)] at h1)
        clear ht
        go_wp2_with fail
        go_ret
        exact ⟨rfl, by have := HT.out; subst this; exact hown, hg⟩

set_option maxRecDepth 100000 in
set_option maxHeartbeats 1000000 in
theorem heldRateS_l (A : Option Addr) (n c : Nat) (k0 : Nat) (w : World) (hx : Rr w A (marksR k0 n)) (hn : n ≤ 1048576) (h0 : 0 < k0) (h1 : k0 ≤ 1000000000) :
    Calls Try.prog 38 #[.slice A n c, .int .i64 k0] w (Gives w (.int .i64 ((k0 + 4 * n : Nat) : Int))) := by
  go_enter Try.func38, Try.ntmps38
  go_wp2_with fail
  go_loopw [1, 5] (fun k i wr => ∃ j : Nat, j ≤ n ∧ i = .int .i64 j ∧ k = .int .i64 ((k0 + 4 * j : Nat) : Int) ∧ Below w.heap.size w wr) (fun _ i _ => n - (intOf i).toNat)
  case atStart => exact ⟨0, Nat.zero_le _, rfl, by simp, Below.refl _ _⟩
  case round =>
    obtain ⟨j, hj, rfl, rfl, hb⟩ := hrel
    by_cases hlt : j < n
    · obtain ⟨b, off, r, rfl, hl, hr, h4⟩ := (hx.below hb).four (k := j) (by rw [marksR_len]; exact hlt)
      obtain rfl : markR (k0 + 4 * j) = r := by have := hr.out; rw [marksR_at hlt] at this; exact Option.some.inj this
      generalize hK : k0 + 4 * j = K at *
      have HK : Hid (k0 + 4 * (j + 1) = K + 4) := Lib.hid (by omega)
      have hKb : K ≤ 1010000000 := by omega
      have hK0 : 0 < K := by omega
      have HM := Lib.hid (fun y : Sub (Bel wr) => (markText_l K y.w hK0 (by omega)).mono fun e w' h => (⟨h.1, ⟨w', Bel.step y h.2⟩, rfl⟩ : e = .returned (.string ⟨(mkT K).toArray⟩) ∧ ∃ z : Sub (Bel wr), w' = z.w))
      have HF := Lib.hid (fun y : Sub (Bel wr) => h4.below hl y.h)
      have q0 : ∀ y : Sub (Bel wr), y.w.cell? ⟨b, off + j * 4, none⟩ = some (.string ⟨(mkT K).toArray⟩) := fun y => (h4.below hl y.h).c0
      have HB := Lib.hid (fun y : Sub (Bel wr) => (belowGo hb y.h : Below w.heap.size w y.w))
      clear hx hr hK h4
      go_wp2_with fail
      refine region_held (Bel wr) (by kernel_rfl) (by kernel_rfl) (Bel.drew wr) ?_
      repeat (go_big_quiet_step ((first | rfl | (go_at_call 63; exact HM.out _))))
      refine wpQuiet_nil ?_
      rintro _ ⟨y, rfl⟩
      have c1 : y.w.cell? ⟨b, off + j * 4 + 1, none⟩ = some (.int .i64 ((K : Int) + 1)) := (HF.out y).c1
      have c2 : y.w.cell? ⟨b, off + j * 4 + 2, none⟩ = some (.int .i64 ((K : Int) + 2)) := (HF.out y).c2
      have c3 : y.w.cell? ⟨b, off + j * 4 + 3, none⟩ = some (.int .i64 ((K : Int) + 3)) := (HF.out y).c3
      have d1 : (((K : Int) + 1) != (K : Int) + 1) = false := by simp
      have d2 : (((K : Int) + 2) != (K : Int) + 2) = false := by simp
      have d3 : (((K : Int) + 3) != (K : Int) + 3) = false := by simp
      clear HF HM q0
      go_wp2_with fail
      go_roundw
      case rel => exact ⟨j + 1, by omega, by go_num, by rw [HK.out]; go_num, HB.out y⟩
      case measure => simp [intOf]; omega
    · obtain rfl : j = n := by omega
      clear hx
      go_wp2_with fail
      go_ret
      exact ⟨rfl, hb⟩
end Go.Proofs.Ytaehkkcaoniphaa
