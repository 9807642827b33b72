/- spec.l01Split cuts a string at a byte. -/
import Derived.Test.YtmhlkbocejnpoaaDoorTwo
import Derived.Test.YtmhlkbocejnpoaaDoorPush
import Derived.Test.YtmhlkbocejnpoaaDoorStrs
import Derived.Test.YtmhlkbocejnpoaaDoorPcode
namespace Go.Proofs.YtmhlkbocejnpoaaDoor
open Go.ChangeShapes Go.WideShapes Go.ChangeAt Go.RowKit
set_option linter.unusedVariables false

/-- The words of a string between slashes; the word that is under way stands ahead. -/
def sps : List UInt8 → List UInt8 → List (List UInt8)
  | cur, [] => [cur]
  | cur, c :: r => if c = 47 then cur :: sps [] r else sps (cur ++ [c]) r
theorem sps_end (a : List UInt8) : ∀ cur, (∀ c ∈ a, c ≠ 47) → sps cur a = [cur ++ a] := by
  induction a with
  | nil => intro cur _; simp [sps]
  | cons c r ih =>
    intro cur h
    have hc : c ≠ 47 := h c (by simp)
    rw [sps, if_neg hc, ih _ (fun x hx => h x (by simp [hx]))]; simp
theorem sps_at (a r : List UInt8) : ∀ cur, (∀ c ∈ a, c ≠ 47) → sps cur (a ++ 47 :: r) = (cur ++ a) :: sps [] r := by
  induction a with
  | nil => intro cur _; simp [sps]
  | cons c s ih =>
    intro cur h
    have hc : c ≠ 47 := h c (by simp)
    rw [List.cons_append, sps, if_neg hc, ih _ (fun x hx => h x (by simp [hx]))]; simp
theorem sps_len (s : List UInt8) : ∀ cur, (sps cur s).length ≤ s.length + 1 := by
  induction s with
  | nil => intro cur; simp [sps]
  | cons c r ih =>
    intro cur
    rw [sps]; split
    · rw [List.length_cons, List.length_cons]; have := ih []; omega
    · have := ih (cur ++ [c]); rw [List.length_cons]; omega

/-- New strings. -/
def NewWs (w : World) (ws : List (List UInt8)) (e : Ending) (w' : World) : Prop :=
  ∃ A c, e = .returned (.slice A ws.length c) ∧ w'.ownsRow w.heap.size 9 1 (.slice A ws.length c) ws.length (ws.map encStr) ∧ Below w.heap.size w w'
set_option maxHeartbeats 2000000 in
theorem splits_s (s : List UInt8) (hl : s.length ≤ 1048576) (w : World) : Calls Tryd.prog 31 #[.string ⟨s.toArray⟩, .int .u8 47] w (NewWs w (sps [] s)) := by
  obtain ⟨i0, hi, hz0, hz1, hz2⟩ := info_parts strInfo
  have hs : (⟨s.toArray⟩ : ByteArray).size = s.length := rfl
  have H0 : (w.alloc (Obj.cells #[] 9)).ownsRow w.heap.size 9 1 (.slice (some ⟨w.heap.size, 0, none⟩) 0 0) 0 [] := World.ownsRow_made w #[] 0 (Nat.le_refl _) (by decide) (by simp)
  have B0 : Below w.heap.size w (w.alloc (Obj.cells #[] 9)) := (Below.refl _ _).alloc (Nat.le_refl _) _
  go_enter Tryd.func31, Tryd.ntmps31
  go_wp2_with fail
  go_loopw [5, 6, 7] (fun o f i wr => ∃ (ws : List (List UInt8)) (fn k : Nat), f = .int .i64 fn ∧ i = .int .i64 k ∧ fn ≤ k ∧ k ≤ s.length + 1 ∧ ws.length ≤ k ∧ wr.ownsRow w.heap.size 9 1 o ws.length (ws.map encStr) ∧ Below w.heap.size w wr ∧
    Hid ((k ≤ s.length ∧ ws ++ sps ((s.drop fn).take (k - fn)) (s.drop k) = sps [] s) ∨ (k = s.length + 1 ∧ ws = sps [] s))) (fun _ _ i _ => s.length + 2 - (intOf i).toNat)
  case atStart => exact ⟨[], 0, 0, rfl, rfl, by omega, by omega, by simp, H0, B0, Lib.hid (.inl ⟨by omega, by simp⟩)⟩
  case round =>
    obtain ⟨ws, fn, k, rfl, rfl, hfk, hk, hwl, hown, hb, hw⟩ := hrel
    obtain ⟨A, d, rfl⟩ := own_form hown
    have EL := Lib.hid (str_ext (l := s) (b := fn) (e := k))
    by_cases hk1 : k ≤ s.length
    · have q1 : (fn : Int) ≤ (k : Int) ∧ (k : Int) ≤ (s.length : Int) := by omega
      have hw2 : ws ++ sps ((s.drop fn).take (k - fn)) (s.drop k) = sps [] s := by
        rcases hw.out with h | ⟨h, _⟩
        · exact h.2
        · omega
      clear hw
      by_cases hk2 : k = s.length
      · subst hk2
        have e1 : ((s.length : Int) == (s.length : Int)) = true := by simp
        have HW : Hid (ws ++ [(s.drop fn).take (s.length - fn)] = sps [] s) := Lib.hid (by rw [← hw2]; simp [sps])
        clear hw2
        go_wp2_with (at_builtin; refine wpList_push _ rfl (.tmp 26) (.tmp 31) 46 rfl w.heap.size 9 i0 _ 1 16 Tryd.underlying46 hi hz0 hz1 hz2 rfl (by decide) _ ws.length _ rfl hown [.string ((⟨s.toArray⟩ : ByteArray).extract fn s.length)] rfl (by simp [Value.oneCell']) rfl (by unfold maxLen; omega) (by omega) hb.size ?_; intro v' w' hown' hb')
        rw [EL.out] at hown'
        go_roundw
        case rel => exact ⟨ws ++ [(s.drop fn).take (s.length - fn)], s.length + 1, s.length + 1, by go_num, by go_num, by omega, by omega, by simp; omega, by simpa [encStr] using hown', hb.trans hb', Lib.hid (.inr ⟨by omega, HW.out⟩)⟩
        case measure => simp [intOf]
      · have hlt : k < s.length := by omega
        obtain ⟨b, hbk⟩ : ∃ b, s[k]? = some b := ⟨s[k], by simp [hlt]⟩
        have hbn := pbyte_at s k b hbk
        have hdr := drop_of hbk
        have e1 : ((k : Int) == (s.length : Int)) = false := beq_eq_false_iff_ne.2 (by omega)
        by_cases h47 : b = 47
        · have e2 : ((b.toNat : Int) == 47) = true := by subst h47; rfl
          have HW : Hid ((ws ++ [(s.drop fn).take (k - fn)]) ++ sps [] (s.drop (k + 1)) = sps [] s) := Lib.hid (by rw [← hw2, hdr, sps, if_pos h47]; simp)
          clear hw2 hdr h47 hbk
          go_wp2_with (at_builtin; refine wpList_push _ rfl (.tmp 26) (.tmp 31) 46 rfl w.heap.size 9 i0 _ 1 16 Tryd.underlying46 hi hz0 hz1 hz2 rfl (by decide) _ ws.length _ rfl hown [.string ((⟨s.toArray⟩ : ByteArray).extract fn k)] rfl (by simp [Value.oneCell']) rfl (by unfold maxLen; omega) (by omega) hb.size ?_; intro v' w' hown' hb')
          rw [EL.out] at hown'
          go_roundw
          case rel => exact ⟨ws ++ [(s.drop fn).take (k - fn)], k + 1, k + 1, by go_num, by go_num, by omega, by omega, by simp; omega, by simpa [encStr] using hown', hb.trans hb', Lib.hid (.inl ⟨by omega, by simpa using HW.out⟩)⟩
          case measure => simp [intOf]; omega
        · have e2 : ((b.toNat : Int) == 47) = false := beq_eq_false_iff_ne.2 (fun h => h47 (by apply UInt8.toNat.inj; simpa using Int.ofNat.inj h))
          have HW : Hid (ws ++ sps ((s.drop fn).take (k + 1 - fn)) (s.drop (k + 1)) = sps [] s) := Lib.hid (by
            have e3 : (s.drop fn).take (k + 1 - fn) = (s.drop fn).take (k - fn) ++ [b] := by
              rw [show k + 1 - fn = (k - fn) + 1 by omega, List.take_add_one, List.getElem?_drop, show fn + (k - fn) = k by omega, hbk]; rfl
            rw [← hw2, hdr, sps, if_neg h47, e3])
          clear hw2 hdr h47 hbk
          go_wp2_with fail
          go_roundw
          case rel => exact ⟨ws, fn, k + 1, by go_num, by go_num, by omega, by omega, by omega, hown, hb, Lib.hid (.inl ⟨by omega, HW.out⟩)⟩
          case measure => simp [intOf]; omega
    · have hw2 : ws = sps [] s := by
        rcases hw.out with h | ⟨_, h⟩
        · omega
        · exact h
      have HW := Lib.hid hw2
      clear hw hw2
      go_wp2_with fail
      go_ret
      rw [← HW.out]
      exact ⟨A, d, rfl, hown, hb⟩
theorem sps_mem (s : List UInt8) : ∀ cur, ∀ x ∈ sps cur s, x.length ≤ cur.length + s.length := by
  induction s with
  | nil => intro cur x hx; simp [sps] at hx; subst hx; simp
  | cons c r ih =>
    intro cur x hx
    rw [sps] at hx
    split at hx
    · rcases List.mem_cons.1 hx with rfl | hx
      · simp
      · have := ih [] x hx; simp at this ⊢; omega
    · have := ih _ x hx; simp at this ⊢; omega
theorem own_cellsS {w : World} {base n c : Nat} {e : TypeId} {A : Option Addr} {vs : List Value} (h : w.ownsRow base e 1 (.slice A n c) n vs) (hn : 0 < n) :
    ∃ g, A = some ⟨g, 0, none⟩ ∧ g < w.heap.size ∧ ∀ j v, vs[j]? = some v → w.cell? ⟨g, j, none⟩ = some v := by
  rcases h.2 with ⟨hv, hx⟩ | ⟨g, cap, cur, hv, _, hh, _⟩
  · injection hv with _ h2 _; omega
  · have hlt := (h.lt g (by rw [hv]; rfl)).2
    injection hv with hA _ _
    subst hA
    refine ⟨g, rfl, hlt, fun j v hj => ?_⟩
    have := h.cells (g := g) rfl j v hj
    rwa [show ((⟨g, 0, none⟩ : Addr).add j) = ⟨g, j, none⟩ from by unfold Addr.add; split <;> simp_all] at this

end Go.Proofs.YtmhlkbocejnpoaaDoor
