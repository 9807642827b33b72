import Derived.Test.YtifioecofeojpaaGreatDoorMText
import Derived.Test.YtifioecofeojpaaGreatDoorShelf
import Derived.Test.YtifioecofeojpaaGreatDoorMHeld
import Derived.Test.YtifioecofeojpaaGreatDoorMRate
import Derived.Test.YtifioecofeojpaaGreatDoorMCode
/- strings.SplitN at a slash into five. (by gen_spn.py) -/
namespace Go.Proofs.YtifioecofeojpaaGreatDoor
open Go.ChangeShapes Go.WideShapes Go.ChangeAt Go.RowKit
set_option linter.unusedVariables false

theorem idx_at (a r : List UInt8) (c : UInt8) : (∀ b ∈ a, b ≠ c) → Lib.indexByte (a ++ c :: r) c = (a.length : Int) := by
  induction a with
  | nil => intro _; simp [Lib.indexByte]
  | cons x a ih =>
    intro h
    have hx : (x == c) = false := by rw [beq_eq_false_iff_ne]; exact h x (by simp)
    have := ih fun b hb => h b (by simp [hb])
    rw [List.cons_append, Lib.indexByte, hx, this]
    have : ((a.length : Int) == -1) = false := by rw [beq_eq_false_iff_ne]; omega
    simp [this]
theorem idx_no (a : List UInt8) (c : UInt8) : (∀ b ∈ a, b ≠ c) → Lib.indexByte a c = -1 := by
  induction a with
  | nil => intro _; rfl
  | cons x a ih =>
    intro h
    have hx : (x == c) = false := by rw [beq_eq_false_iff_ne]; exact h x (by simp)
    rw [Lib.indexByte, hx, ih fun b hb => h b (by simp [hb])]
    simp
theorem idx_bd (s : List UInt8) (c : UInt8) : Lib.indexByte s c = -1 ∨ (0 ≤ Lib.indexByte s c ∧ Lib.indexByte s c < s.length) := by
  induction s with
  | nil => left; rfl
  | cons x s ih =>
    rw [Lib.indexByte]
    split
    · right; simp
    · split
      · left; rfl
      · rename_i h1 h2
        right
        rcases ih with h | ⟨h3, h4⟩
        · rw [h] at h2; simp at h2
        · simp only [List.length_cons]; omega
theorem ext_take (l : List UInt8) (e : Nat) : ((⟨l.toArray⟩ : ByteArray).extract 0 e) = ⟨(l.take e).toArray⟩ := by
  apply ByteArray.ext; simp [ByteArray.data_extract]
theorem ext_drop (l : List UInt8) (b : Nat) : ((⟨l.toArray⟩ : ByteArray).extract b l.length) = ⟨(l.drop b).toArray⟩ := by
  apply ByteArray.ext
  simp [ByteArray.data_extract, List.take_of_length_le]
/-- Cut at a slash, n times at most. -/
def spn : Nat → List UInt8 → List (List UInt8)
  | 0, s => [s]
  | n + 1, s => if 0 ≤ Lib.indexByte s 47 then s.take (Lib.indexByte s 47).toNat :: spn n (s.drop ((Lib.indexByte s 47).toNat + 1)) else [s]
theorem spn_len : ∀ (n : Nat) (s : List UInt8), (spn n s).length ≤ n + 1
  | 0, s => by simp [spn]
  | n + 1, s => by
    unfold spn; split
    · have := spn_len n (s.drop ((Lib.indexByte s 47).toNat + 1)); simp; omega
    · simp
theorem spn_mem : ∀ (n : Nat) (s x : List UInt8), x ∈ spn n s → x.length ≤ s.length
  | 0, s, x, h => by simp [spn] at h; subst h; exact Nat.le_refl _
  | n + 1, s, x, h => by
    unfold spn at h; split at h
    · rcases List.mem_cons.1 h with rfl | h
      · rw [List.length_take]; omega
      · have := spn_mem n _ x h; rw [List.length_drop] at this; omega
    · simp at h; subst h; exact Nat.le_refl _
theorem spn_at {a r : List UInt8} {n : Nat} (h : ∀ b ∈ a, b ≠ 47) : spn (n + 1) (a ++ 47 :: r) = a :: spn n r := by
  rw [spn, idx_at a r 47 h, if_pos (by omega)]
  simp
theorem sidx_i (s : List UInt8) (w : World) : Calls Tryz.prog 78 #[.string ⟨s.toArray⟩, .string ⟨#[47]⟩] w fun e w' => e = .returned (.int .i64 (Lib.indexByte s 47)) ∧ w = w' := by
  have HI : Hid (∀ w, Calls Tryz.prog 96 #[.string ⟨s.toArray⟩, .string ⟨#[47]⟩] w fun e w' => e = .returned (.int .i64 (Lib.indexByte s 47)) ∧ w' = w) := Lib.hid fun w => Tryz.stringslite_Index_one ⟨s.toArray⟩ 47 w
  generalize Lib.indexByte s 47 = m at *
  go_enter Tryz.func78, Tryz.ntmps78
  go_wp2_with (go_at_call 96; refine (HI.out _).mono ?_; rintro e w' ⟨rfl, rfl⟩)
  go_ret
  exact ⟨rfl, rfl⟩
theorem str_seg (s : List UInt8) (e : Nat) : ((⟨s.toArray⟩ : ByteArray).extract 0 e) = ⟨(s.take e).toArray⟩ := ext_take s e
theorem set_take {α : Type} {ys : List α} {k : Nat} (hk : k < ys.length) (v : α) : (ys.set k v).take (k + 1) = ys.take k ++ [v] := by
  rw [List.take_add_one, List.getElem?_set_self (by omega), List.take_set_of_le (Nat.le_refl _)]; rfl
def NewWn (w : World) (ws : List (List UInt8)) (e : Ending) (w' : World) : Prop :=
  ∃ A c, e = .returned (.slice A ws.length c) ∧ w'.ownsRow w.heap.size 9 1 (.slice A ws.length c) ws.length (ws.map encStr) ∧ Below w.heap.size w w'
set_option maxRecDepth 100000 in
set_option maxHeartbeats 4000000 in
theorem gens_i (s : List UInt8) (hl : s.length ≤ 1048576) (w : World) : Calls Tryz.prog 54 #[.string ⟨s.toArray⟩, .string ⟨#[47]⟩, .int .i64 0, .int .i64 5] w (NewWn w (spn (if s.length < 4 then s.length else 4) s)) := by
  obtain ⟨i0, hi, hz0, hz1, hz2⟩ := info_parts strInfo
  have hz : (⟨s.toArray⟩ : ByteArray).size = s.length := rfl
  have hB0 := Below.refl w.heap.size w
  obtain ⟨K, hKe⟩ : ∃ K : Nat, K = if s.length < 4 then s.length else 4 := ⟨_, rfl⟩
  have hmin : Hid (min (5 : Int) (s.length + 1) = ((K + 1 : Nat) : Int)) := Lib.hid (by split at hKe <;> omega)
  have hK4 : K ≤ 4 := by split at hKe <;> omega
  rw [← hKe]
  clear hKe
  · skip
    go_enter Tryz.func54, Tryz.ntmps54
    go_wp2_with (at_make; refine wpList_make_full _ rfl _ _ 47 rfl w.heap.size 9 i0 _ 1 Tryz.underlying47 hi hz0 hz1 .i64 .i64 _ _ (K + 1) rfl rfl hmin.out hmin.out (by rw [hz2]; omega) (by unfold maxLen; omega) (Nat.le_refl _) ?_; intro w1 hown1 hg1; rw [hmin.out])
    have hb1 : Below w.heap.size w w1 := (Below.refl _ _).grown hg1 (Nat.le_refl _) (by simp)
    clear hg1
    go_loopw [0, 10] (fun sv i wr => ∃ (k : Nat) (r : List UInt8) (ys : List Value), k ≤ K ∧ i = .int .i64 k ∧ sv = .string ⟨r.toArray⟩ ∧ r.length ≤ 1048576 ∧ wr.ownsRow w.heap.size 9 1 (.slice (some ⟨w.heap.size, 0, none⟩) (K + 1) (K + 1)) (K + 1) ys ∧
      Hid (ys.take k ++ (spn (K - k) r).map encStr = (spn K s).map encStr) ∧ Below w.heap.size w wr) (fun _ i _ => K - (intOf i).toNat)
    case atStart => exact ⟨0, s, _, Nat.zero_le _, rfl, rfl, hl, hown1, Lib.hid (by simp), hb1⟩
    case round =>
      obtain ⟨k, r, ys, hk, rfl, rfl, hrl, hown, hys, hb⟩ := hrel
      clear hown1 hb1
      have hrz : (⟨r.toArray⟩ : ByteArray).size = r.length := rfl
      have hyl : ys.length = K + 1 := by have := hown.1; omega
      obtain ⟨o0, q0⟩ := own_at hown k (by omega)
      have f0 := hown.frozenAt k
      by_cases hlt : k < K
      · obtain ⟨j, hj⟩ : ∃ j, K - k = j + 1 := ⟨K - k - 1, by omega⟩
        have hj2 : K - (k + 1) = j := by omega
        rw [hj] at hys
        rcases idx_bd r 47 with hx | ⟨hx0, hx1⟩
        · have HI := Lib.hid (sidx_i r wr)
          have HS := Lib.hid (hown.stored k (.string ⟨r.toArray⟩))
          have HE : Hid ((ys.set k (.string ⟨r.toArray⟩)).take (k + 1) = (spn K s).map encStr) := Lib.hid (by
            rw [← hys.out, set_take (by omega)]; unfold spn; rw [hx]; rfl)
          rw [hx] at HI
          clear hys hown
          go_wp2_with (go_at_call 78; refine HI.out.mono ?_; rintro e w' ⟨rfl, rfl⟩)
          go_ret
          have HL : k + 1 = (spn K s).length := by
            have h := congrArg List.length HE.out
            rw [List.length_take, List.length_set, List.length_map] at h; omega
          have HO := own_take HS.out.1 (show k + 1 ≤ K + 1 by omega)
          rw [HE.out, HL] at HO
          refine ⟨_, _, ?_, HO, hb.grown HS.out.2 hb.size (by simp)⟩
          rw [← HL]
          try rfl
        · obtain ⟨m, hm⟩ : ∃ m : Nat, Lib.indexByte r 47 = m := ⟨(Lib.indexByte r 47).toNat, by omega⟩
          have HI := Lib.hid (sidx_i r wr)
          rw [hm] at HI
          have hml : m < r.length := by omega
          have HS := Lib.hid (hown.stored k (.string ⟨(r.take m).toArray⟩))
          have HE : Hid ((ys.set k (.string ⟨(r.take m).toArray⟩)).take (k + 1) ++ (spn (K - (k + 1)) (r.drop (m + 1))).map encStr = (spn K s).map encStr) := Lib.hid (by
            rw [← hys.out, set_take (by omega), hj2]
            conv => rhs; unfold spn
            rw [hm, if_pos (by omega)]; simp [encStr])
          have T1 := ext_take r m
          have T2 := ext_drop r (m + 1)
          clear hys hown hx0 hx1 hm
          go_wp2_with (go_at_call 78; refine HI.out.mono ?_; rintro e w' ⟨rfl, rfl⟩)
          go_roundw
          case rel => exact ⟨k + 1, r.drop (m + 1), _, by omega, by go_num, rfl, by rw [List.length_drop]; omega, HS.out.1, HE, hb.grown HS.out.2 hb.size (by simp)⟩
          case measure => simp [intOf]; omega
      · have HS := Lib.hid (hown.stored k (.string ⟨r.toArray⟩))
        have HE : Hid ((ys.set k (.string ⟨r.toArray⟩)).take (k + 1) = (spn K s).map encStr) := Lib.hid (by
          rw [← hys.out, set_take (by omega), show K - k = 0 by omega]; rfl)
        clear hys hown
        go_wp2_with fail
        go_ret
        have HL : k + 1 = (spn K s).length := by
          have h := congrArg List.length HE.out
          rw [List.length_take, List.length_set, List.length_map] at h; omega
        have HO := own_take HS.out.1 (show k + 1 ≤ K + 1 by omega)
        rw [HE.out, HL] at HO
        refine ⟨_, _, ?_, HO, hb.grown HS.out.2 hb.size (by simp)⟩
        rw [← HL]
        try rfl
theorem splitn_i (s : List UInt8) (hl : s.length ≤ 1048576) (w : World) : Calls Tryz.prog 22 #[.string ⟨s.toArray⟩, .string ⟨#[47]⟩, .int .i64 5] w (NewWn w (spn (if s.length < 4 then s.length else 4) s)) := by
  have H := Lib.hid (gens_i s hl w)
  generalize spn (if s.length < 4 then s.length else 4) s = ws at *
  go_enter Tryz.func22, Tryz.ntmps22
  go_wp2_with fail
  refine H.out.mono ?_
  rintro e w' ⟨A, c, rfl, h, b⟩
  go_wp2_with fail
  go_ret
  exact ⟨A, c, rfl, h, b⟩
end Go.Proofs.YtifioecofeojpaaGreatDoor

/- spec.l01Split cuts a string at a byte. -/
namespace Go.Proofs.YtifioecofeojpaaGreatDoor
open Go.ChangeShapes Go.WideShapes Go.ChangeAt Go.RowKit
set_option linter.unusedVariables false

/-- The words of a string between slashes; the word that is under way stands ahead. -/
def sps : List UInt8 → List UInt8 → List (List UInt8)
  | cur, [] => [cur]
  | cur, c :: r => if c = 47 then cur :: sps [] r else sps (cur ++ [c]) r
theorem sps_end (a : List UInt8) : ∀ cur, (∀ c ∈ a, c ≠ 47) → sps cur a = [cur ++ a] := by
  induction a with
  | nil => intro cur _; simp [sps]
  | cons c r ih =>
    intro cur h
    have hc : c ≠ 47 := h c (by simp)
    rw [sps, if_neg hc, ih _ (fun x hx => h x (by simp [hx]))]; simp
theorem sps_at (a r : List UInt8) : ∀ cur, (∀ c ∈ a, c ≠ 47) → sps cur (a ++ 47 :: r) = (cur ++ a) :: sps [] r := by
  induction a with
  | nil => intro cur _; simp [sps]
  | cons c s ih =>
    intro cur h
    have hc : c ≠ 47 := h c (by simp)
    rw [List.cons_append, sps, if_neg hc, ih _ (fun x hx => h x (by simp [hx]))]; simp
theorem sps_len (s : List UInt8) : ∀ cur, (sps cur s).length ≤ s.length + 1 := by
  induction s with
  | nil => intro cur; simp [sps]
  | cons c r ih =>
    intro cur
    rw [sps]; split
    · rw [List.length_cons, List.length_cons]; have := ih []; omega
    · have := ih (cur ++ [c]); rw [List.length_cons]; omega

/-- New strings. -/
def NewWs (w : World) (ws : List (List UInt8)) (e : Ending) (w' : World) : Prop :=
  ∃ A c, e = .returned (.slice A ws.length c) ∧ w'.ownsRow w.heap.size 9 1 (.slice A ws.length c) ws.length (ws.map encStr) ∧ Below w.heap.size w w'
set_option maxHeartbeats 2000000 in
theorem splits_s (s : List UInt8) (hl : s.length ≤ 1048576) (w : World) : Calls Tryz.prog 28 #[.string ⟨s.toArray⟩, .int .u8 47] w (NewWs w (sps [] s)) := by
  obtain ⟨i0, hi, hz0, hz1, hz2⟩ := info_parts strInfo
  have hs : (⟨s.toArray⟩ : ByteArray).size = s.length := rfl
  have H0 : (w.alloc (Obj.cells #[] 9)).ownsRow w.heap.size 9 1 (.slice (some ⟨w.heap.size, 0, none⟩) 0 0) 0 [] := World.ownsRow_made w #[] 0 (Nat.le_refl _) (by decide) (by simp)
  have B0 : Below w.heap.size w (w.alloc (Obj.cells #[] 9)) := (Below.refl _ _).alloc (Nat.le_refl _) _
  go_enter Tryz.func28, Tryz.ntmps28
  go_wp2_with fail
  go_loopw [5, 6, 7] (fun o f i wr => ∃ (ws : List (List UInt8)) (fn k : Nat), f = .int .i64 fn ∧ i = .int .i64 k ∧ fn ≤ k ∧ k ≤ s.length + 1 ∧ ws.length ≤ k ∧ wr.ownsRow w.heap.size 9 1 o ws.length (ws.map encStr) ∧ Below w.heap.size w wr ∧
    Hid ((k ≤ s.length ∧ ws ++ sps ((s.drop fn).take (k - fn)) (s.drop k) = sps [] s) ∨ (k = s.length + 1 ∧ ws = sps [] s))) (fun _ _ i _ => s.length + 2 - (intOf i).toNat)
  case atStart => exact ⟨[], 0, 0, rfl, rfl, by omega, by omega, by simp, H0, B0, Lib.hid (.inl ⟨by omega, by simp⟩)⟩
  case round =>
    obtain ⟨ws, fn, k, rfl, rfl, hfk, hk, hwl, hown, hb, hw⟩ := hrel
    obtain ⟨A, d, rfl⟩ := own_form hown
    have EL := Lib.hid (str_ext (l := s) (b := fn) (e := k))
    by_cases hk1 : k ≤ s.length
    · have q1 : (fn : Int) ≤ (k : Int) ∧ (k : Int) ≤ (s.length : Int) := by omega
      have hw2 : ws ++ sps ((s.drop fn).take (k - fn)) (s.drop k) = sps [] s := by
        rcases hw.out with h | ⟨h, _⟩
        · exact h.2
        · omega
      clear hw
      by_cases hk2 : k = s.length
      · subst hk2
        have e1 : ((s.length : Int) == (s.length : Int)) = true := by simp
        have HW : Hid (ws ++ [(s.drop fn).take (s.length - fn)] = sps [] s) := Lib.hid (by rw [← hw2]; simp [sps])
        clear hw2
        go_wp2_with (at_builtin; refine wpList_push _ rfl (.tmp 26) (.tmp 31) 47 rfl w.heap.size 9 i0 _ 1 16 Tryz.underlying47 hi hz0 hz1 hz2 rfl (by decide) _ ws.length _ rfl hown [.string ((⟨s.toArray⟩ : ByteArray).extract fn s.length)] rfl (by simp [Value.oneCell']) rfl (by unfold maxLen; omega) (by omega) hb.size ?_; intro v' w' hown' hb')
        rw [EL.out] at hown'
        go_roundw
        case rel => exact ⟨ws ++ [(s.drop fn).take (s.length - fn)], s.length + 1, s.length + 1, by go_num, by go_num, by omega, by omega, by simp; omega, by simpa [encStr] using hown', hb.trans hb', Lib.hid (.inr ⟨by omega, HW.out⟩)⟩
        case measure => simp [intOf]
      · have hlt : k < s.length := by omega
        obtain ⟨b, hbk⟩ : ∃ b, s[k]? = some b := ⟨s[k], by simp [hlt]⟩
        have hbn := pbyte_at s k b hbk
        have hdr := drop_of hbk
        have e1 : ((k : Int) == (s.length : Int)) = false := beq_eq_false_iff_ne.2 (by omega)
        by_cases h47 : b = 47
        · have e2 : ((b.toNat : Int) == 47) = true := by subst h47; rfl
          have HW : Hid ((ws ++ [(s.drop fn).take (k - fn)]) ++ sps [] (s.drop (k + 1)) = sps [] s) := Lib.hid (by rw [← hw2, hdr, sps, if_pos h47]; simp)
          clear hw2 hdr h47 hbk
          go_wp2_with (at_builtin; refine wpList_push _ rfl (.tmp 26) (.tmp 31) 47 rfl w.heap.size 9 i0 _ 1 16 Tryz.underlying47 hi hz0 hz1 hz2 rfl (by decide) _ ws.length _ rfl hown [.string ((⟨s.toArray⟩ : ByteArray).extract fn k)] rfl (by simp [Value.oneCell']) rfl (by unfold maxLen; omega) (by omega) hb.size ?_; intro v' w' hown' hb')
          rw [EL.out] at hown'
          go_roundw
          case rel => exact ⟨ws ++ [(s.drop fn).take (k - fn)], k + 1, k + 1, by go_num, by go_num, by omega, by omega, by simp; omega, by simpa [encStr] using hown', hb.trans hb', Lib.hid (.inl ⟨by omega, by simpa using HW.out⟩)⟩
          case measure => simp [intOf]; omega
        · have e2 : ((b.toNat : Int) == 47) = false := beq_eq_false_iff_ne.2 (fun h => h47 (by apply UInt8.toNat.inj; simpa using Int.ofNat.inj h))
          have HW : Hid (ws ++ sps ((s.drop fn).take (k + 1 - fn)) (s.drop (k + 1)) = sps [] s) := Lib.hid (by
            have e3 : (s.drop fn).take (k + 1 - fn) = (s.drop fn).take (k - fn) ++ [b] := by
              rw [show k + 1 - fn = (k - fn) + 1 by omega, List.take_add_one, List.getElem?_drop, show fn + (k - fn) = k by omega, hbk]; rfl
            rw [← hw2, hdr, sps, if_neg h47, e3])
          clear hw2 hdr h47 hbk
          go_wp2_with fail
          go_roundw
          case rel => exact ⟨ws, fn, k + 1, by go_num, by go_num, by omega, by omega, by omega, hown, hb, Lib.hid (.inl ⟨by omega, HW.out⟩)⟩
          case measure => simp [intOf]; omega
    · have hw2 : ws = sps [] s := by
        rcases hw.out with h | ⟨_, h⟩
        · omega
        · exact h
      have HW := Lib.hid hw2
      clear hw hw2
      go_wp2_with fail
      go_ret
      rw [← HW.out]
      exact ⟨A, d, rfl, hown, hb⟩
theorem sps_mem (s : List UInt8) : ∀ cur, ∀ x ∈ sps cur s, x.length ≤ cur.length + s.length := by
  induction s with
  | nil => intro cur x hx; simp [sps] at hx; subst hx; simp
  | cons c r ih =>
    intro cur x hx
    rw [sps] at hx
    split at hx
    · rcases List.mem_cons.1 hx with rfl | hx
      · simp
      · have := ih [] x hx; simp at this ⊢; omega
    · have := ih _ x hx; simp at this ⊢; omega
theorem own_cellsS {w : World} {base n c : Nat} {e : TypeId} {A : Option Addr} {vs : List Value} (h : w.ownsRow base e 1 (.slice A n c) n vs) (hn : 0 < n) :
    ∃ g, A = some ⟨g, 0, none⟩ ∧ g < w.heap.size ∧ ∀ j v, vs[j]? = some v → w.cell? ⟨g, j, none⟩ = some v := by
  rcases h.2 with ⟨hv, hx⟩ | ⟨g, cap, cur, hv, _, hh, _⟩
  · injection hv with _ h2 _; omega
  · have hlt := (h.lt g (by rw [hv]; rfl)).2
    injection hv with hA _ _
    subst hA
    refine ⟨g, rfl, hlt, fun j v hj => ?_⟩
    have := h.cells (g := g) rfl j v hj
    rwa [show ((⟨g, 0, none⟩ : Addr).add j) = ⟨g, j, none⟩ from by unfold Addr.add; split <;> simp_all] at this

end Go.Proofs.YtifioecofeojpaaGreatDoor

