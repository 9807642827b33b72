/- spec.l01Split cuts a string at a byte. -/
import Derived.Test.YtifioecofeojpaaGreatDoorMText
import Derived.Test.YtifioecofeojpaaGreatDoorMRate
namespace Go.Proofs.YtifioecofeojpaaGreatDoor
open Go.ChangeShapes Go.WideShapes Go.ChangeAt Go.RowKit
set_option linter.unusedVariables false

/-- The words of a string between minus signs; the word that is under way stands ahead. -/
def spl : List UInt8 → List UInt8 → List (List UInt8)
  | cur, [] => [cur]
  | cur, c :: r => if c = 45 then cur :: spl [] r else spl (cur ++ [c]) r
theorem spl_end (a : List UInt8) : ∀ cur, (∀ c ∈ a, c ≠ 45) → spl cur a = [cur ++ a] := by
  induction a with
  | nil => intro cur _; simp [spl]
  | cons c r ih =>
    intro cur h
    have hc : c ≠ 45 := h c (by simp)
    rw [spl, if_neg hc, ih _ (fun x hx => h x (by simp [hx]))]; simp
theorem spl_at (a r : List UInt8) : ∀ cur, (∀ c ∈ a, c ≠ 45) → spl cur (a ++ 45 :: r) = (cur ++ a) :: spl [] r := by
  induction a with
  | nil => intro cur _; simp [spl]
  | cons c s ih =>
    intro cur h
    have hc : c ≠ 45 := h c (by simp)
    rw [List.cons_append, spl, if_neg hc, ih _ (fun x hx => h x (by simp [hx]))]; simp
theorem spl_len (s : List UInt8) : ∀ cur, (spl cur s).length ≤ s.length + 1 := by
  induction s with
  | nil => intro cur; simp [spl]
  | cons c r ih =>
    intro cur
    rw [spl]; split
    · rw [List.length_cons, List.length_cons]; have := ih []; omega
    · have := ih (cur ++ [c]); rw [List.length_cons]; omega

def strV (l : List UInt8) : Value := .string ⟨l.toArray⟩
theorem strInfo : (Tryz.prog.info? 9).map (fun i => (i.zero, i.size, i.bytes)) = some (some (.string ⟨#[]⟩), 1, 16) := by kernel_rfl
/-- New strings. -/
def NewStrs (w : World) (ws : List (List UInt8)) (e : Ending) (w' : World) : Prop :=
  ∃ A c, e = .returned (.slice A ws.length c) ∧ w'.ownsRow w.heap.size 9 1 (.slice A ws.length c) ws.length (ws.map strV) ∧ Below w.heap.size w w'
theorem at_byte (s : List UInt8) (k : Nat) (b : UInt8) (hb : s[k]? = some b) : ∀ h, ((⟨s.toArray⟩ : ByteArray)[k]'h).toNat = b.toNat := by
  intro h
  obtain ⟨h2, e⟩ := List.getElem?_eq_some_iff.1 hb
  rw [← e]; rfl

set_option maxHeartbeats 2000000 in
theorem split_s (s : List UInt8) (hl : s.length ≤ 1048576) (w : World) : Calls Tryz.prog 28 #[.string ⟨s.toArray⟩, .int .u8 45] w (NewStrs w (spl [] s)) := by
  obtain ⟨i0, hi, hz0, hz1, hz2⟩ := info_parts strInfo
  have hs : (⟨s.toArray⟩ : ByteArray).size = s.length := rfl
  have H0 : (w.alloc (Obj.cells #[] 9)).ownsRow w.heap.size 9 1 (.slice (some ⟨w.heap.size, 0, none⟩) 0 0) 0 [] := World.ownsRow_made w #[] 0 (Nat.le_refl _) (by decide) (by simp)
  have B0 : Below w.heap.size w (w.alloc (Obj.cells #[] 9)) := (Below.refl _ _).alloc (Nat.le_refl _) _
  go_enter Tryz.func28, Tryz.ntmps28
  go_wp2_with fail
  go_loopw [5, 6, 7] (fun o f i wr => ∃ (ws : List (List UInt8)) (fn k : Nat), f = .int .i64 fn ∧ i = .int .i64 k ∧ fn ≤ k ∧ k ≤ s.length + 1 ∧ ws.length ≤ k ∧ wr.ownsRow w.heap.size 9 1 o ws.length (ws.map strV) ∧ Below w.heap.size w wr ∧
    Hid ((k ≤ s.length ∧ ws ++ spl ((s.drop fn).take (k - fn)) (s.drop k) = spl [] s) ∨ (k = s.length + 1 ∧ ws = spl [] s))) (fun _ _ i _ => s.length + 2 - (intOf i).toNat)
  case atStart => exact ⟨[], 0, 0, rfl, rfl, by omega, by omega, by simp, H0, B0, Lib.hid (.inl ⟨by omega, by simp⟩)⟩
  case round =>
    obtain ⟨ws, fn, k, rfl, rfl, hfk, hk, hwl, hown, hb, hw⟩ := hrel
    obtain ⟨A, d, rfl⟩ := own_form hown
    have EL := Lib.hid (str_ext (l := s) (b := fn) (e := k))
    by_cases hk1 : k ≤ s.length
    · have q1 : (fn : Int) ≤ (k : Int) ∧ (k : Int) ≤ (s.length : Int) := by omega
      have hw2 : ws ++ spl ((s.drop fn).take (k - fn)) (s.drop k) = spl [] s := by
        rcases hw.out with h | ⟨h, _⟩
        · exact h.2
        · omega
      clear hw
      by_cases hk2 : k = s.length
      · subst hk2
        have e1 : ((s.length : Int) == (s.length : Int)) = true := by simp
        have HW : Hid (ws ++ [(s.drop fn).take (s.length - fn)] = spl [] s) := Lib.hid (by rw [← hw2]; simp [spl])
        clear hw2
        go_wp2_with (at_builtin; refine wpList_push _ rfl (.tmp 26) (.tmp 31) 47 rfl w.heap.size 9 i0 _ 1 16 Tryz.underlying47 hi hz0 hz1 hz2 rfl (by decide) _ ws.length _ rfl hown [.string ((⟨s.toArray⟩ : ByteArray).extract fn s.length)] rfl (by simp [Value.oneCell']) rfl (by unfold maxLen; omega) (by omega) hb.size ?_; intro v' w' hown' hb')
        rw [EL.out] at hown'
        go_roundw
        case rel => exact ⟨ws ++ [(s.drop fn).take (s.length - fn)], s.length + 1, s.length + 1, by go_num, by go_num, by omega, by omega, by simp; omega, by simpa [strV] using hown', hb.trans hb', Lib.hid (.inr ⟨by omega, HW.out⟩)⟩
        case measure => simp [intOf]
      · have hlt : k < s.length := by omega
        obtain ⟨b, hbk⟩ : ∃ b, s[k]? = some b := ⟨s[k], by simp [hlt]⟩
        have hbn := at_byte s k b hbk
        have hdr := drop_of hbk
        have e1 : ((k : Int) == (s.length : Int)) = false := beq_eq_false_iff_ne.2 (by omega)
        by_cases h45 : b = 45
        · have e2 : ((b.toNat : Int) == 45) = true := by subst h45; rfl
          have HW : Hid ((ws ++ [(s.drop fn).take (k - fn)]) ++ spl [] (s.drop (k + 1)) = spl [] s) := Lib.hid (by rw [← hw2, hdr, spl, if_pos h45]; simp)
          clear hw2 hdr h45 hbk
          go_wp2_with (at_builtin; refine wpList_push _ rfl (.tmp 26) (.tmp 31) 47 rfl w.heap.size 9 i0 _ 1 16 Tryz.underlying47 hi hz0 hz1 hz2 rfl (by decide) _ ws.length _ rfl hown [.string ((⟨s.toArray⟩ : ByteArray).extract fn k)] rfl (by simp [Value.oneCell']) rfl (by unfold maxLen; omega) (by omega) hb.size ?_; intro v' w' hown' hb')
          rw [EL.out] at hown'
          go_roundw
          case rel => exact ⟨ws ++ [(s.drop fn).take (k - fn)], k + 1, k + 1, by go_num, by go_num, by omega, by omega, by simp; omega, by simpa [strV] using hown', hb.trans hb', Lib.hid (.inl ⟨by omega, by simpa using HW.out⟩)⟩
          case measure => simp [intOf]; omega
        · have e2 : ((b.toNat : Int) == 45) = false := beq_eq_false_iff_ne.2 (fun h => h45 (by apply UInt8.toNat.inj; simpa using Int.ofNat.inj h))
          have HW : Hid (ws ++ spl ((s.drop fn).take (k + 1 - fn)) (s.drop (k + 1)) = spl [] s) := Lib.hid (by
            have e3 : (s.drop fn).take (k + 1 - fn) = (s.drop fn).take (k - fn) ++ [b] := by
              rw [show k + 1 - fn = (k - fn) + 1 by omega, List.take_add_one, List.getElem?_drop, show fn + (k - fn) = k by omega, hbk]; rfl
            rw [← hw2, hdr, spl, if_neg h45, e3])
          clear hw2 hdr h45 hbk
          go_wp2_with fail
          go_roundw
          case rel => exact ⟨ws, fn, k + 1, by go_num, by go_num, by omega, by omega, by omega, hown, hb, Lib.hid (.inl ⟨by omega, HW.out⟩)⟩
          case measure => simp [intOf]; omega
    · have hw2 : ws = spl [] s := by
        rcases hw.out with h | ⟨_, h⟩
        · omega
        · exact h
      have HW := Lib.hid hw2
      clear hw hw2
      go_wp2_with fail
      go_ret
      rw [← HW.out]
      exact ⟨A, d, rfl, hown, hb⟩
end Go.Proofs.YtifioecofeojpaaGreatDoor
