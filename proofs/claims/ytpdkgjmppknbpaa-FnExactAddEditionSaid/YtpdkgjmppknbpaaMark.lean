/- laws.markText; markRateS, heldRateS. -/
import Derived.Test.YtpdkgjmppknbpaaRateq
import Derived.Test.YtpdkgjmppknbpaaHeld
import Derived.Lib.ItoaNum
import Derived.Laws.IdiomStrings
namespace Go.Proofs.Ytpdkgjmppknbpaa
open Go.ChangeShapes Go.WideShapes Go.ChangeAt Go.RowKit
set_option linter.unusedVariables false

theorem mconv_at (W : World) (a : Addr) (x : Int) (h : W.cell? a = some (.int .u8 x)) :
    (convert 124 9 (.slice (some a) 1 1)).run Try.prog W = .ok (.string ⟨#[UInt8.ofNat x.toNat]⟩) W := by
  rw [run_convert_bytes_string W 124 9 5 (some a) 1 1 Try.underlying124 Try.underlying5 Try.underlying9]
  have hl := run_loadCells_list (P := Try.prog) W a ([x].map (Value.int .u8)) (fun j v hj => by
    cases j with
    | zero => simp at hj; subst hj; simpa [Addr.add] using h
    | succ j => simp at hj)
  rw [run_bytesToString W a 1 1 [x] hl]
  rfl
theorem mconv_new (W : World) (x : Int) (t : TypeId) :
    (convert 124 9 (.slice (some ⟨W.heap.size, 0, none⟩) 1 1)).run Try.prog (W.alloc (.cells #[.int .u8 x] t)) = .ok (.string ⟨#[UInt8.ofNat x.toNat]⟩) (W.alloc (.cells #[.int .u8 x] t)) :=
  mconv_at _ _ x (by rw [cell_of_row _ _ _ _ _ _ (heap_alloc_new W _)]; rfl)
/-- What is still to be written of a number, ahead of what is written. -/
def mk0 (k : Nat) (l : List UInt8) : List UInt8 := if k = 0 then l else Lib.decDigits k ++ l
/-- The text of a mark. -/
def mkT (k : Nat) : List UInt8 := 109 :: Lib.decDigits k
theorem mk0_step {k : Nat} (hk : 0 < k) (l : List UInt8) : mk0 (k / 10) (UInt8.ofNat (48 + k % 10) :: l) = mk0 k l := by
  unfold mk0
  rw [if_neg (by omega : ¬ k = 0)]
  by_cases h : k < 10
  · rw [if_pos (by omega), Lib.decDigits_one h, Nat.mod_eq_of_lt h]; rfl
  · rw [if_neg (by omega)]
    conv => rhs; rw [Lib.decDigits, dif_neg h]
    simp
theorem mdec_len (k : Nat) : ∀ n, n < 10 ^ k → (Lib.decDigits n).length ≤ k + 1 := by
  induction k with
  | zero => intro n h; rw [Lib.decDigits_one (by simp at h; omega)]; simp
  | succ k ih =>
    intro n h
    by_cases hn : n < 10
    · rw [Lib.decDigits_one hn]; simp
    · have e : Lib.decDigits n = Lib.decDigits (n / 10) ++ [UInt8.ofNat (48 + n % 10)] := by
        conv => lhs; rw [Lib.decDigits, dif_neg hn]
      rw [e]
      have := ih (n / 10) (by rw [Nat.pow_succ] at h; omega)
      simp; omega
theorem mk0_len {k : Nat} {l m : List UInt8} (h : mk0 k l = m) : l.length ≤ m.length := by
  subst h; unfold mk0; split
  · exact Nat.le_refl _
  · rw [List.length_append]; omega
theorem str1 (b : UInt8) (l : List UInt8) : (⟨#[b]⟩ ++ ⟨l.toArray⟩ : ByteArray) = ⟨(b :: l).toArray⟩ := by
  apply ByteArray.ext
  simp [ByteArray.data_append]

set_option maxHeartbeats 1000000 in
theorem markText_l (k : Nat) (w : World) (h0 : 0 < k) (h1 : k ≤ 1000000000000) : Calls Try.prog 71 #[.int .i64 k] w (Gives w (.string ⟨(mkT k).toArray⟩)) := by
  have E : Hid (mkT k = 109 :: mk0 k []) := Lib.hid (by unfold mkT mk0; rw [if_neg (by omega)]; simp)
  have hL : (mk0 k []).length ≤ 19 := by
    unfold mk0; rw [if_neg (by omega), List.append_nil]; exact mdec_len 18 k (by omega)
  obtain ⟨T, hT⟩ : ∃ T, mk0 k [] = T := ⟨_, rfl⟩
  rw [hT] at E hL
  have H0 := Lib.hid hT
  clear hT
  go_enter Try.func71, Try.ntmps71
  go_wp2_with fail
  go_loopw [0, 3] (fun k' o wr => ∃ (j : Nat) (l : List UInt8), j ≤ k ∧ k' = .int .i64 j ∧ o = .string ⟨l.toArray⟩ ∧ Hid (mk0 j l = T) ∧ Below w.heap.size w wr) (fun k' _ _ => (intOf k').toNat)
  case atStart => exact ⟨k, [], Nat.le_refl _, rfl, rfl, H0, Below.refl _ _⟩
  case round =>
    obtain ⟨j, l, hj, rfl, rfl, ht, hb⟩ := hrel
    have hll := mk0_len ht.out
    by_cases hj0 : 0 < j
    · have HT : Hid (mk0 (j / 10) (UInt8.ofNat (48 + j % 10) :: l) = T) := Lib.hid (by rw [mk0_step hj0, ht.out])
      have q1 : IntKind.i64.wrap ((j : Int) / 10) = (j : Int) / 10 := IntWalk.i64_in _ (by omega)
      have q2 : (j : Int).tmod 10 = (j : Int) % 10 := Int.tmod_eq_emod_of_nonneg (by omega)
      have q3 : IntKind.i64.wrap (48 + (j : Int) % 10) = 48 + (j : Int) % 10 := IntWalk.i64_in _ (by omega)
      have q4 : IntKind.u8.wrap (48 + (j : Int) % 10) = 48 + (j : Int) % 10 := IntWalk.u8_in _ (by omega)
      have hcv := fun W => mconv_new W (48 + (j : Int) % 10) 5
      have hnn : (48 + (j : Int) % 10).toNat = 48 + j % 10 := by omega
      have hs : Hid ((⟨#[48 + UInt8.ofNat (j % 10)]⟩ ++ ⟨l.toArray⟩ : ByteArray) = ⟨(UInt8.ofNat (48 + j % 10) :: l).toArray⟩) := Lib.hid (by rw [← str1, UInt8.ofNat_add]; rfl)
      clear ht
      go_wp2_with fail
      go_roundw
      case rel => exact ⟨j / 10, UInt8.ofNat (48 + j % 10) :: l, by omega, by go_num, congrArg Value.string hs.out, HT, hb.trans ((Below.refl _ _).alloc hb.size _)⟩
      case measure => simp [intOf]; omega
    · obtain rfl : j = 0 := by omega
      have HT : Hid (l = T) := Lib.hid (by have := ht.out; unfold mk0 at this; simpa using this)
      have hs := Lib.hid (str1 109 l)
      clear ht
      go_wp2_with fail
      go_ret
      exact ⟨by rw [E.out, ← HT.out, ← hs.out] <;> rfl, hb⟩

/-! ### rows of rates -/
def markR (k : Nat) : Rt := ⟨mkT k, (k : Int) + 1, (k : Int) + 2, (k : Int) + 3⟩
def marksR (k : Nat) (n : Nat) : List Rt := (List.range n).map fun j => markR (k + 4 * j)
theorem marksR_len (k : Nat) (n : Nat) : (marksR k n).length = n := by simp [marksR]
theorem marksR_at {k : Nat} {n j : Nat} (h : j < n) : (marksR k n)[j]? = some (markR (k + 4 * j)) := by simp [marksR, h]
theorem marksR_succ (k : Nat) (n : Nat) : marksR k (n + 1) = marksR k n ++ [markR (k + 4 * n)] := by simp [marksR, List.range_succ]
theorem grown_below' {w wr w' : World} {g : Option Nat} (h : w.grownBy wr g) (hb : Below w.heap.size wr w') : w.grownBy w' g :=
  ⟨hb.os.trans h.os, hb.tape.trans h.tape, hb.output.trans h.output, Nat.le_trans h.size hb.size, fun k hk hn => (hb.block k hk).trans (h.block k hk hn)⟩

end Go.Proofs.Ytpdkgjmppknbpaa
