/- strings.SplitN at a slash into five. (by gen_spn.py) -/
import Derived.Test.YtmhlkbocejnpoaaDoorText
import Derived.Test.YtmhlkbocejnpoaaDoorShelf
import Derived.Test.YtmhlkbocejnpoaaDoorStrs
import Derived.Test.YtmhlkbocejnpoaaDoorRates
namespace Go.Proofs.YtmhlkbocejnpoaaDoor
open Go.ChangeShapes Go.WideShapes Go.ChangeAt Go.RowKit
set_option linter.unusedVariables false

theorem idx_at (a r : List UInt8) (c : UInt8) : (∀ b ∈ a, b ≠ c) → Lib.indexByte (a ++ c :: r) c = (a.length : Int) := by
  induction a with
  | nil => intro _; simp [Lib.indexByte]
  | cons x a ih =>
    intro h
    have hx : (x == c) = false := by rw [beq_eq_false_iff_ne]; exact h x (by simp)
    have := ih fun b hb => h b (by simp [hb])
    rw [List.cons_append, Lib.indexByte, hx, this]
    have : ((a.length : Int) == -1) = false := by rw [beq_eq_false_iff_ne]; omega
    simp [this]
theorem idx_no (a : List UInt8) (c : UInt8) : (∀ b ∈ a, b ≠ c) → Lib.indexByte a c = -1 := by
  induction a with
  | nil => intro _; rfl
  | cons x a ih =>
    intro h
    have hx : (x == c) = false := by rw [beq_eq_false_iff_ne]; exact h x (by simp)
    rw [Lib.indexByte, hx, ih fun b hb => h b (by simp [hb])]
    simp
theorem idx_bd (s : List UInt8) (c : UInt8) : Lib.indexByte s c = -1 ∨ (0 ≤ Lib.indexByte s c ∧ Lib.indexByte s c < s.length) := by
  induction s with
  | nil => left; rfl
  | cons x s ih =>
    rw [Lib.indexByte]
    split
    · right; simp
    · split
      · left; rfl
      · rename_i h1 h2
        right
        rcases ih with h | ⟨h3, h4⟩
        · rw [h] at h2; simp at h2
        · simp only [List.length_cons]; omega
theorem ext_take (l : List UInt8) (e : Nat) : ((⟨l.toArray⟩ : ByteArray).extract 0 e) = ⟨(l.take e).toArray⟩ := by
  apply ByteArray.ext; simp [ByteArray.data_extract]
theorem ext_drop (l : List UInt8) (b : Nat) : ((⟨l.toArray⟩ : ByteArray).extract b l.length) = ⟨(l.drop b).toArray⟩ := by
  apply ByteArray.ext
  simp [ByteArray.data_extract, List.take_of_length_le]
/-- Cut at a slash, n times at most. -/
def spn : Nat → List UInt8 → List (List UInt8)
  | 0, s => [s]
  | n + 1, s => if 0 ≤ Lib.indexByte s 47 then s.take (Lib.indexByte s 47).toNat :: spn n (s.drop ((Lib.indexByte s 47).toNat + 1)) else [s]
theorem spn_len : ∀ (n : Nat) (s : List UInt8), (spn n s).length ≤ n + 1
  | 0, s => by simp [spn]
  | n + 1, s => by
    unfold spn; split
    · have := spn_len n (s.drop ((Lib.indexByte s 47).toNat + 1)); simp; omega
    · simp
theorem spn_mem : ∀ (n : Nat) (s x : List UInt8), x ∈ spn n s → x.length ≤ s.length
  | 0, s, x, h => by simp [spn] at h; subst h; exact Nat.le_refl _
  | n + 1, s, x, h => by
    unfold spn at h; split at h
    · rcases List.mem_cons.1 h with rfl | h
      · rw [List.length_take]; omega
      · have := spn_mem n _ x h; rw [List.length_drop] at this; omega
    · simp at h; subst h; exact Nat.le_refl _
theorem spn_at {a r : List UInt8} {n : Nat} (h : ∀ b ∈ a, b ≠ 47) : spn (n + 1) (a ++ 47 :: r) = a :: spn n r := by
  rw [spn, idx_at a r 47 h, if_pos (by omega)]
  simp
theorem sidx_i (s : List UInt8) (w : World) : Calls Tryd.prog 64 #[.string ⟨s.toArray⟩, .string ⟨#[47]⟩] w fun e w' => e = .returned (.int .i64 (Lib.indexByte s 47)) ∧ w = w' := by
  have HI : Hid (∀ w, Calls Tryd.prog 81 #[.string ⟨s.toArray⟩, .string ⟨#[47]⟩] w fun e w' => e = .returned (.int .i64 (Lib.indexByte s 47)) ∧ w' = w) := Lib.hid fun w => Tryd.stringslite_Index_one ⟨s.toArray⟩ 47 w
  generalize Lib.indexByte s 47 = m at *
  go_enter Tryd.func64, Tryd.ntmps64
  go_wp2_with (go_at_call 81; refine (HI.out _).mono ?_; rintro e w' ⟨rfl, rfl⟩)
  go_ret
  exact ⟨rfl, rfl⟩
theorem str_seg (s : List UInt8) (e : Nat) : ((⟨s.toArray⟩ : ByteArray).extract 0 e) = ⟨(s.take e).toArray⟩ := ext_take s e
theorem set_take {α : Type} {ys : List α} {k : Nat} (hk : k < ys.length) (v : α) : (ys.set k v).take (k + 1) = ys.take k ++ [v] := by
  rw [List.take_add_one, List.getElem?_set_self (by omega), List.take_set_of_le (Nat.le_refl _)]; rfl
def NewWn (w : World) (ws : List (List UInt8)) (e : Ending) (w' : World) : Prop :=
  ∃ A c, e = .returned (.slice A ws.length c) ∧ w'.ownsRow w.heap.size 9 1 (.slice A ws.length c) ws.length (ws.map encStr) ∧ Below w.heap.size w w'
set_option maxRecDepth 100000 in
set_option maxHeartbeats 4000000 in
theorem gens_i (s : List UInt8) (hl : s.length ≤ 1048576) (w : World) : Calls Tryd.prog 51 #[.string ⟨s.toArray⟩, .string ⟨#[47]⟩, .int .i64 0, .int .i64 5] w (NewWn w (spn (if s.length < 4 then s.length else 4) s)) := by
  obtain ⟨i0, hi, hz0, hz1, hz2⟩ := info_parts strInfo
  have hz : (⟨s.toArray⟩ : ByteArray).size = s.length := rfl
  have hB0 := Below.refl w.heap.size w
  obtain ⟨K, hKe⟩ : ∃ K : Nat, K = if s.length < 4 then s.length else 4 := ⟨_, rfl⟩
  have hmin : Hid (min (5 : Int) (s.length + 1) = ((K + 1 : Nat) : Int)) := Lib.hid (by split at hKe <;> omega)
  have hK4 : K ≤ 4 := by split at hKe <;> omega
  rw [← hKe]
  clear hKe
  · skip
    go_enter Tryd.func51, Tryd.ntmps51
    go_wp2_with (at_make; refine wpList_make_full _ rfl _ _ 46 rfl w.heap.size 9 i0 _ 1 Tryd.underlying46 hi hz0 hz1 .i64 .i64 _ _ (K + 1) rfl rfl hmin.out hmin.out (by rw [hz2]; omega) (by unfold maxLen; omega) (Nat.le_refl _) ?_; intro w1 hown1 hg1; rw [hmin.out])
    have hb1 : Below w.heap.size w w1 := (Below.refl _ _).grown hg1 (Nat.le_refl _) (by simp)
    clear hg1
    go_loopw [0, 10] (fun sv i wr => ∃ (k : Nat) (r : List UInt8) (ys : List Value), k ≤ K ∧ i = .int .i64 k ∧ sv = .string ⟨r.toArray⟩ ∧ r.length ≤ 1048576 ∧ wr.ownsRow w.heap.size 9 1 (.slice (some ⟨w.heap.size, 0, none⟩) (K + 1) (K + 1)) (K + 1) ys ∧
      Hid (ys.take k ++ (spn (K - k) r).map encStr = (spn K s).map encStr) ∧ Below w.heap.size w wr) (fun _ i _ => K - (intOf i).toNat)
    case atStart => exact ⟨0, s, _, Nat.zero_le _, rfl, rfl, hl, hown1, Lib.hid (by simp), hb1⟩
    case round =>
      obtain ⟨k, r, ys, hk, rfl, rfl, hrl, hown, hys, hb⟩ := hrel
      clear hown1 hb1
      have hrz : (⟨r.toArray⟩ : ByteArray).size = r.length := rfl
      have hyl : ys.length = K + 1 := by have := hown.1; omega
      obtain ⟨o0, q0⟩ := own_at hown k (by omega)
      have f0 := hown.frozenAt k
      by_cases hlt : k < K
      · obtain ⟨j, hj⟩ : ∃ j, K - k = j + 1 := ⟨K - k - 1, by omega⟩
        have hj2 : K - (k + 1) = j := by omega
        rw [hj] at hys
        rcases idx_bd r 47 with hx | ⟨hx0, hx1⟩
        · have HI := Lib.hid (sidx_i r wr)
          have HS := Lib.hid (hown.stored k (.string ⟨r.toArray⟩))
          have HE : Hid ((ys.set k (.string ⟨r.toArray⟩)).take (k + 1) = (spn K s).map encStr) := Lib.hid (by
            rw [← hys.out, set_take (by omega)]; unfold spn; rw [hx]; rfl)
          rw [hx] at HI
          clear hys hown
          go_wp2_with (go_at_call 64; refine HI.out.mono ?_; rintro e w' ⟨rfl, rfl⟩)
          go_ret
          have HL : k + 1 = (spn K s).length := by
            have h := congrArg List.length HE.out
            rw [List.length_take, List.length_set, List.length_map] at h; omega
          have HO := own_take HS.out.1 (show k + 1 ≤ K + 1 by omega)
          rw [HE.out, HL] at HO
          refine ⟨_, _, ?_, HO, hb.grown HS.out.2 hb.size (by simp)⟩
          rw [← HL]
          try rfl
        · obtain ⟨m, hm⟩ : ∃ m : Nat, Lib.indexByte r 47 = m := ⟨(Lib.indexByte r 47).toNat, by omega⟩
          have HI := Lib.hid (sidx_i r wr)
          rw [hm] at HI
          have hml : m < r.length := by omega
          have HS := Lib.hid (hown.stored k (.string ⟨(r.take m).toArray⟩))
          have HE : Hid ((ys.set k (.string ⟨(r.take m).toArray⟩)).take (k + 1) ++ (spn (K - (k + 1)) (r.drop (m + 1))).map encStr = (spn K s).map encStr) := Lib.hid (by
            rw [← hys.out, set_take (by omega), hj2]
            conv => rhs; unfold spn
            rw [hm, if_pos (by omega)]; simp [encStr])
          have T1 := ext_take r m
          have T2 := ext_drop r (m + 1)
          clear hys hown hx0 hx1 hm
          go_wp2_with (go_at_call 64; refine HI.out.mono ?_; rintro e w' ⟨rfl, rfl⟩)
          go_roundw
          case rel => exact ⟨k + 1, r.drop (m + 1), _, by omega, by go_num, rfl, by rw [List.length_drop]; omega, HS.out.1, HE, hb.grown HS.out.2 hb.size (by simp)⟩
          case measure => simp [intOf]; omega
      · have HS := Lib.hid (hown.stored k (.string ⟨r.toArray⟩))
        have HE : Hid ((ys.set k (.string ⟨r.toArray⟩)).take (k + 1) = (spn K s).map encStr) := Lib.hid (by
          rw [← hys.out, set_take (by omega), show K - k = 0 by omega]; rfl)
        clear hys hown
        go_wp2_with fail
        go_ret
        have HL : k + 1 = (spn K s).length := by
          have h := congrArg List.length HE.out
          rw [List.length_take, List.length_set, List.length_map] at h; omega
        have HO := own_take HS.out.1 (show k + 1 ≤ K + 1 by omega)
        rw [HE.out, HL] at HO
        refine ⟨_, _, ?_, HO, hb.grown HS.out.2 hb.size (by simp)⟩
        rw [← HL]
        try rfl
theorem splitn_i (s : List UInt8) (hl : s.length ≤ 1048576) (w : World) : Calls Tryd.prog 28 #[.string ⟨s.toArray⟩, .string ⟨#[47]⟩, .int .i64 5] w (NewWn w (spn (if s.length < 4 then s.length else 4) s)) := by
  have H := Lib.hid (gens_i s hl w)
  generalize spn (if s.length < 4 then s.length else 4) s = ws at *
  go_enter Tryd.func28, Tryd.ntmps28
  go_wp2_with fail
  refine H.out.mono ?_
  rintro e w' ⟨A, c, rfl, h, b⟩
  go_wp2_with fail
  go_ret
  exact ⟨A, c, rfl, h, b⟩
end Go.Proofs.YtmhlkbocejnpoaaDoor
