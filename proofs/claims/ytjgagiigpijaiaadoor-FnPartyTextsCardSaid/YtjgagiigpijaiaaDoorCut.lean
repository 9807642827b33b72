/- strings.Cut at a separator of one byte. -/
import Derived.Test.YtjgagiigpijaiaaDoorText
import Derived.Test.YtjgagiigpijaiaaDoorShelf
import Derived.BigQuiet
import Derived.Deep.QuietTactic
namespace Go.Proofs.YtjgagiigpijaiaaDoor
open Go.ChangeShapes Go.WideShapes Go.ChangeAt Go.RowKit
set_option linter.unusedVariables false

/-- Ahead of the byte, behind it, and whether it is there. -/
def cutL (s : List UInt8) (c : UInt8) : List UInt8 × List UInt8 × Bool :=
  if 0 ≤ Lib.indexByte s c then (s.take (Lib.indexByte s c).toNat, s.drop ((Lib.indexByte s c).toNat + 1), true) else (s, [], false)
theorem idx_at (a r : List UInt8) (c : UInt8) : (∀ b ∈ a, b ≠ c) → Lib.indexByte (a ++ c :: r) c = (a.length : Int) := by
  induction a with
  | nil => intro _; simp [Lib.indexByte]
  | cons x a ih =>
    intro h
    have hx : (x == c) = false := by rw [beq_eq_false_iff_ne]; exact h x (by simp)
    have := ih fun b hb => h b (by simp [hb])
    rw [List.cons_append, Lib.indexByte, hx, this]
    have : ((a.length : Int) == -1) = false := by rw [beq_eq_false_iff_ne]; omega
    simp [this]
theorem idx_no (a : List UInt8) (c : UInt8) : (∀ b ∈ a, b ≠ c) → Lib.indexByte a c = -1 := by
  induction a with
  | nil => intro _; rfl
  | cons x a ih =>
    intro h
    have hx : (x == c) = false := by rw [beq_eq_false_iff_ne]; exact h x (by simp)
    rw [Lib.indexByte, hx, ih fun b hb => h b (by simp [hb])]
    simp
theorem idx_bd (s : List UInt8) (c : UInt8) : Lib.indexByte s c = -1 ∨ (0 ≤ Lib.indexByte s c ∧ Lib.indexByte s c < s.length) := by
  induction s with
  | nil => left; rfl
  | cons x s ih =>
    rw [Lib.indexByte]
    split
    · right; simp
    · split
      · left; rfl
      · rename_i h1 h2
        right
        rcases ih with h | ⟨h3, h4⟩
        · rw [h] at h2; simp at h2
        · simp only [List.length_cons]; omega
theorem cut_at {a r : List UInt8} {c : UInt8} (h : ∀ b ∈ a, b ≠ c) : cutL (a ++ c :: r) c = (a, r, true) := by
  unfold cutL
  rw [idx_at a r c h, if_pos (by omega)]
  simp
theorem cut_len (s : List UInt8) (c : UInt8) : (cutL s c).1.length ≤ s.length ∧ (cutL s c).2.1.length ≤ s.length := by
  unfold cutL
  split
  · simp only [List.length_take, List.length_drop]; omega
  · simp
theorem cut_sum (s : List UInt8) (c : UInt8) : (cutL s c).1.length + (cutL s c).2.1.length ≤ s.length := by
  unfold cutL
  split
  · simp only [List.length_take, List.length_drop]; omega
  · simp
theorem ext_take (l : List UInt8) (e : Nat) : ((⟨l.toArray⟩ : ByteArray).extract 0 e) = ⟨(l.take e).toArray⟩ := by
  apply ByteArray.ext; simp [ByteArray.data_extract]
theorem ext_drop (l : List UInt8) (b : Nat) : ((⟨l.toArray⟩ : ByteArray).extract b l.length) = ⟨(l.drop b).toArray⟩ := by
  apply ByteArray.ext
  simp [ByteArray.data_extract, List.take_of_length_le]
set_option maxHeartbeats 2000000 in
theorem scut_i (s : List UInt8) (c : UInt8) (w : World) (hl : s.length ≤ 1048576) : Calls Tryd.prog 83 #[.string ⟨s.toArray⟩, .string ⟨#[c]⟩] w fun e w' =>
    e = .returned (.tuple #[.string ⟨(cutL s c).1.toArray⟩, .string ⟨(cutL s c).2.1.toArray⟩, .bool (cutL s c).2.2]) ∧ Below w.heap.size w w' := by
  have hz : (⟨s.toArray⟩ : ByteArray).size = s.length := rfl
  have hz1 : (⟨#[c]⟩ : ByteArray).size = 1 := rfl
  have HI : Hid (∀ w, Calls Tryd.prog 98 #[.string ⟨s.toArray⟩, .string ⟨#[c]⟩] w fun e w' => e = .returned (.int .i64 (Lib.indexByte s c)) ∧ w' = w) := Lib.hid fun w => Tryd.stringslite_Index_one ⟨s.toArray⟩ c w
  rcases idx_bd s c with h | ⟨h0, h1⟩
  · have E : Hid (cutL s c = (s, [], false)) := Lib.hid (by unfold cutL; rw [h]; rfl)
    rw [h] at HI
    generalize cutL s c = r at *
    go_enter Tryd.func83, Tryd.ntmps83
    go_wp2_with (go_at_call 98; refine (HI.out _).mono ?_; rintro e w' ⟨rfl, rfl⟩)
    exact bodyPost_ret (v := .tuple #[.string ⟨s.toArray⟩, .string ⟨#[]⟩, .bool false]) (by simp [results, Tryd.results83, go_sem]) rfl ⟨by rw [E.out], Below.refl _ _⟩
  · obtain ⟨i, hi⟩ : ∃ i : Nat, Lib.indexByte s c = i := ⟨(Lib.indexByte s c).toNat, by omega⟩
    have E : Hid (cutL s c = (s.take i, s.drop (i + 1), true)) := Lib.hid (by unfold cutL; rw [hi, if_pos (by omega)]; simp)
    have hil : i < s.length := by omega
    rw [hi] at HI
    have T1 := Lib.hid (ext_take s i)
    have T2 := Lib.hid (ext_drop s (i + 1))
    have t2 : ((i : Int) + 1).toNat = i + 1 := by omega
    clear hi h0 h1
    generalize cutL s c = r at *
    go_enter Tryd.func83, Tryd.ntmps83
    go_wp2_with (go_at_call 98; refine (HI.out _).mono ?_; rintro e w' ⟨rfl, rfl⟩)
    go_quiet (fail)
    go_wp2_with fail
    rw [T1.out, T2.out]
    exact bodyPost_ret (v := .tuple #[.string ⟨(s.take i).toArray⟩, .string ⟨(s.drop (i + 1)).toArray⟩, .bool true]) (by simp [results, Tryd.results83, go_sem]) rfl ⟨by rw [E.out], below_drewN _ _⟩
theorem cut_i (s : List UInt8) (c : UInt8) (w : World) (hl : s.length ≤ 1048576) : Calls Tryd.prog 64 #[.string ⟨s.toArray⟩, .string ⟨#[c]⟩] w fun e w' =>
    e = .returned (.tuple #[.string ⟨(cutL s c).1.toArray⟩, .string ⟨(cutL s c).2.1.toArray⟩, .bool (cutL s c).2.2]) ∧ Below w.heap.size w w' := by
  go_enter Tryd.func64, Tryd.ntmps64
  go_wp2_with fail
  refine (scut_i s c w hl).mono ?_
  rintro e w' ⟨rfl, b1⟩
  go_wp2_with fail
  exact bodyPost_ret (v := .tuple #[.string ⟨(cutL s c).1.toArray⟩, .string ⟨(cutL s c).2.1.toArray⟩, .bool (cutL s c).2.2]) (by simp [results, Tryd.results64, go_sem]) rfl ⟨rfl, b1⟩
end Go.Proofs.YtjgagiigpijaiaaDoor
