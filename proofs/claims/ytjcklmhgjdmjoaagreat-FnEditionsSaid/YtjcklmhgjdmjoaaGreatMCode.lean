import Derived.Test.YtjcklmhgjdmjoaaGreatMRate
import Derived.WalkLawsBesides
import Derived.WalkSpells
import Derived.Test.YtjcklmhgjdmjoaaGreatMCal
import Derived.StillTailTactics
namespace Go.Proofs.YtjcklmhgjdmjoaaGreat
open Go.ChangeShapes Go.WideShapes Go.ChangeAt Go.RowKit
set_option linter.unusedVariables false
end Go.Proofs.YtjcklmhgjdmjoaaGreat

namespace Go.Proofs.YtjcklmhgjdmjoaaGreat
open Go.ChangeShapes Go.WideShapes Go.ChangeAt Go.RowKit
set_option linter.unusedVariables false
def ordI (x y : Int) : Int := if x < y then -1 else if x = y then 0 else 1
theorem cmpI_i (x y : Int) (w : World) : Calls Tryz.prog 97 #[.int .i64 x, .int .i64 y] w fun e w' => e = .returned (.int .i64 (ordI x y)) /\ w = w' := by
 rcases (by omega : x < y ∨ x = y ∨ y < x) with h | rfl | h
 ·
  have E : Hid (ordI x y = -1) := Lib.hid (by rw [ordI, if_pos h])
  go_enter Tryz.func97, Tryz.ntmps97
  go_wp2
  go_ret
  exact ⟨by rw [E.out] <;> rfl, rfl⟩
 ·
  have E : Hid (ordI x x = 0) := Lib.hid (by rw [ordI, if_neg (by omega), if_pos rfl])
  go_enter Tryz.func97, Tryz.ntmps97
  go_wp2
  go_ret
  exact ⟨by rw [E.out] <;> rfl, rfl⟩
 ·
  have E : Hid (ordI x y = 1) := Lib.hid (by rw [ordI, if_neg (by omega), if_neg (by omega)])
  go_enter Tryz.func97, Tryz.ntmps97
  go_wp2
  go_ret
  exact ⟨by rw [E.out] <;> rfl, rfl⟩
structure Keep2 (w0 : World) (x y : Array Value) (t : TypeId) (W : World) : Prop where
 a : W.heap[w0.heap.size]? = some (.cells x t (0, 0))
 b : W.heap[w0.heap.size + 1]? = some (.cells y t (0, 0))
 bel : Below w0.heap.size w0 W
theorem lt_some {wr : World} {g : Nat} {o : Obj} (h : wr.heap[g]? = some o) : g < wr.heap.size := by
 rcases Nat.lt_or_ge g wr.heap.size with hlt | hge
 ·
  exact hlt
 ·
  rw [Array.getElem?_eq_none hge] at h; cases h
theorem Keep2.step {w0 W w' : World} {x y : Array Value} {t : TypeId} (k : Keep2 w0 x y t W) (b : Below W.heap.size W w') : Keep2 w0 x y t w' :=
 ⟨(b.block _ (lt_some k.a)).trans k.a, (b.block _ (lt_some k.b)).trans k.b, belowGo k.bel b⟩
theorem Keep2.drew {w0 W : World} {x y : Array Value} {t : TypeId} (k : Keep2 w0 x y t W) : Keep2 w0 x y t W.drew := ⟨k.a, k.b, k.bel.drew⟩
theorem Keep2.new (w : World) (x y : Array Value) (t : TypeId) : Keep2 w x y t ((w.alloc (.cells x t)).alloc (.cells y t)) :=
 ⟨heap_alloc2_old _ _ _, heap_alloc2_new _ _ _, ((Below.refl _ _).alloc (Nat.le_refl _) _).alloc (by simp) _⟩
theorem Keep2.all {w0 W : World} {a b c d e f g h : Value} {t : TypeId} (k : Keep2 w0 #[a, b, c, d] #[e, f, g, h] t W) :
  W.cell? ⟨w0.heap.size, 0, none⟩ = some a /\ W.cell? ⟨w0.heap.size, 1, none⟩ = some b /\ W.cell? ⟨w0.heap.size + 1, 0, none⟩ = some e /\ W.cell? ⟨w0.heap.size + 1, 1, none⟩ = some f /\ Keep2 w0 #[a, b, c, d] #[e, f, g, h] t W :=
 ⟨by rw [cell_of_row _ _ _ _ _ _ k.a]; rfl, by rw [cell_of_row _ _ _ _ _ _ k.a]; rfl, by rw [cell_of_row _ _ _ _ _ _ k.b]; rfl, by rw [cell_of_row _ _ _ _ _ _ k.b]; rfl, k⟩
theorem Keep2.alloc {w0 W : World} {x y : Array Value} {t : TypeId} (k : Keep2 w0 x y t W) (o : Obj) : Keep2 w0 x y t (W.alloc o) := k.step ((Below.refl _ _).alloc (Nat.le_refl _) _)
end Go.Proofs.YtjcklmhgjdmjoaaGreat

namespace Go.Proofs.YtjcklmhgjdmjoaaGreat
open Go.ChangeShapes Go.WideShapes Go.ChangeAt Go.RowKit
set_option linter.unusedVariables false
def lowb (c : UInt8) : Bool := decide (97 <= (c.toNat : Int) /\ (c.toNat : Int) <= 122)
def pcode (l : List UInt8) : Bool := decide (1 <= (l.length : Int) /\ (l.length : Int) <= 6) && l.all lowb
theorem pbyte_at (s : List UInt8) (k : Nat) (b : UInt8) (hb : s[k]? = some b) : ∀ h, ((⟨s.toArray⟩ : ByteArray)[k]'h).toNat = b.toNat := by
 intro h
 obtain ⟨h2, e⟩ := List.getElem?_eq_some_iff.1 hb
 rw [<- e]; rfl
theorem pall_no {s : List UInt8} {k : Nat} {b : UInt8} (hb : s[k]? = some b) (h : lowb b = false) : s.all lowb = false := by
 rw [List.all_eq_false]; exact ⟨b, List.mem_of_getElem? hb, by simp [h]⟩
theorem pall_take {s : List UInt8} {k : Nat} (hk : k <= s.length) (hl : ¬ k < s.length) (h : (s.take k).all lowb = true) : s.all lowb = true := by rwa [take_all hk hl] at h
theorem lowb_no {c : UInt8} : lowb c = false ↔ (c.toNat : Int) < 97 ∨ 122 < (c.toNat : Int) := by
 unfold lowb; rw [decide_eq_false_iff_not]; omega
set_option maxHeartbeats 1000000 in
theorem hasLow_i (s : List UInt8) (w : World) (hl : s.length <= 9223372036854775807) : Calls Tryz.prog 98 #[.string ⟨s.toArray⟩, .int .u8 97, .int .u8 122] w fun e w' => e = .returned (.bool (s.all lowb)) /\ w = w' := by
 have hz : (⟨s.toArray⟩ : ByteArray).size = s.length := rfl
 go_enter Tryz.func98, Tryz.ntmps98
 go_wp2_with fail
 go_loop [10, 7] (fun i j => ∃ k : Nat, k <= s.length /\ i = .int .i64 k /\ Hid ((s.take k).all lowb = true)) (fun i _ => s.length - (intOf i).toNat)
 case atStart => exact ⟨0, Nat.zero_le _, rfl, Lib.hid rfl⟩
 case round =>
  obtain ⟨k, hk, rfl, ht⟩ := hrel
  by_cases hlt : k < s.length
  ·
   obtain ⟨b, hbk⟩ : ∃ b, s[k]? = some b := ⟨s[k], by simp [hlt]⟩
   have hbn := pbyte_at s k b hbk
   have hb255 : (b.toNat : Int) <= 255 := by have := b.toNat_lt; omega
   rcases (by omega : ((b.toNat : Int) < 97) ∨ (¬ (b.toNat : Int) < 97 /\ 122 < (b.toNat : Int)) ∨ (¬ (b.toNat : Int) < 97 /\ ¬ 122 < (b.toNat : Int))) with h | ⟨h, h'⟩ | ⟨h, h'⟩
   ·
    have E := Lib.hid (pall_no hbk (lowb_no.2 (.inl h)))
    have d : decide (b.toNat < 97) = true := by simp; omega
    clear hbk ht
    go_wp2_with fail
    go_ret
    exact ⟨by rw [E.out] <;> rfl, rfl⟩
   ·
    have E := Lib.hid (pall_no hbk (lowb_no.2 (.inr h')))
    have d : decide (b.toNat < 97) = false := by simp; omega
    have d' : decide (122 < b.toNat) = true := by simp; omega
    clear hbk ht
    go_wp2_with fail
    go_ret
    exact ⟨by rw [E.out] <;> rfl, rfl⟩
   ·
    have HT : Hid ((s.take (k + 1)).all lowb = true) := Lib.hid (by rw [snoc_of hbk, List.all_append, ht.out]; simp [lowb]; omega)
    have d : decide (b.toNat < 97) = false := by simp; omega
    have d' : decide (122 < b.toNat) = false := by simp; omega
    clear hbk ht
    go_wp2_with fail
    go_round
    case rel => exact ⟨k + 1, by omega, by go_num, HT⟩
    case measure => simp [intOf]; omega
  ·
   have E := Lib.hid (pall_take hk hlt ht.out)
   clear ht
   go_wp2_with fail
   go_ret
   exact ⟨by rw [E.out] <;> rfl, rfl⟩
theorem pcode_no {s : List UInt8} (h : s.all lowb = false) : pcode s = false := by unfold pcode; rw [h, Bool.and_false]
theorem pcode_0 : pcode [] = false := by decide
theorem pcode_long {s : List UInt8} (h : 6 < s.length) : pcode s = false := by
 unfold pcode; rw [Bool.and_eq_false_iff]; left; rw [decide_eq_false_iff_not]; omega
theorem pcode_all {s : List UInt8} (h : 0 < s.length) (h2 : s.length <= 6) : pcode s = s.all lowb := by
 unfold pcode; rw [show decide (1 <= (s.length : Int) /\ (s.length : Int) <= 6) = true by rw [decide_eq_true_eq]; omega, Bool.true_and]
theorem pcode_len {s : List UInt8} (h : s.all lowb = true) : pcode s = inr s.length 1 6 := by
 unfold pcode inr; rw [h, Bool.and_true]
theorem isPcode_i (s : List UInt8) (w : World) (hl : s.length <= 9223372036854775807) : Calls Tryz.prog 74 #[.string ⟨s.toArray⟩] w fun e w' => e = .returned (.bool (pcode s)) /\ w = w' := by
 have hz : (⟨s.toArray⟩ : ByteArray).size = s.length := rfl
 cases s with
 | nil =>
  have E := Lib.hid pcode_0
  go_enter Tryz.func74, Tryz.ntmps74
  go_wp2_with fail
  go_ret
  exact ⟨by rw [E.out] <;> rfl, rfl⟩
 | cons c r =>
  have hne : ((c :: r) == []) = false := rfl
  have h0 : 0 < (c :: r).length := by simp
  generalize c :: r = s at *
  by_cases h6 : 6 < s.length
  ·
   have E := Lib.hid (pcode_long h6)
   go_enter Tryz.func74, Tryz.ntmps74
   go_wp2_with fail
   go_ret
   exact ⟨by rw [E.out] <;> rfl, rfl⟩
  ·
   have E := Lib.hid (pcode_all h0 (by omega))
   go_enter Tryz.func74, Tryz.ntmps74
   go_wp2_with (go_at_call 98; refine (hasLow_i s _ hl).mono ?_; rintro e w' ⟨rfl, rfl⟩)
   go_ret
   exact ⟨by rw [E.out] <;> rfl, rfl⟩
set_option maxHeartbeats 1000000 in
theorem isPcode_s (s : List UInt8) (w : World) (hl : s.length <= 9223372036854775807) : Calls Tryz.prog 80 #[.string ⟨s.toArray⟩] w fun e w' => e = .returned (.bool (pcode s)) /\ w = w' := by
 have hz : (⟨s.toArray⟩ : ByteArray).size = s.length := rfl
 go_enter Tryz.func80, Tryz.ntmps80
 go_wp2_with fail
 go_loop [3] (fun i => ∃ k : Nat, k <= s.length /\ i = .int .i64 k /\ Hid ((s.take k).all lowb = true)) (fun i => s.length - (intOf i).toNat)
 case atStart => exact ⟨0, Nat.zero_le _, rfl, Lib.hid rfl⟩
 case round =>
  obtain ⟨k, hk, rfl, ht⟩ := hrel
  by_cases hlt : k < s.length
  ·
   obtain ⟨b, hbk⟩ : ∃ b, s[k]? = some b := ⟨s[k], by simp [hlt]⟩
   have hbn := pbyte_at s k b hbk
   have hb255 : (b.toNat : Int) <= 255 := by have := b.toNat_lt; omega
   rcases (by omega : ((b.toNat : Int) < 97) ∨ (¬ (b.toNat : Int) < 97 /\ 122 < (b.toNat : Int)) ∨ (¬ (b.toNat : Int) < 97 /\ ¬ 122 < (b.toNat : Int))) with h | ⟨h, h'⟩ | ⟨h, h'⟩
   ·
    have E := Lib.hid (pcode_no (pall_no hbk (lowb_no.2 (.inl h))))
    have d : decide (b.toNat < 97) = true := by simp; omega
    clear hbk ht
    go_wp2_with fail
    go_ret
    exact ⟨by rw [E.out] <;> rfl, rfl⟩
   ·
    have E := Lib.hid (pcode_no (pall_no hbk (lowb_no.2 (.inr h'))))
    have d : decide (b.toNat < 97) = false := by simp; omega
    have d' : decide (122 < b.toNat) = true := by simp; omega
    clear hbk ht
    go_wp2_with fail
    go_ret
    exact ⟨by rw [E.out] <;> rfl, rfl⟩
   ·
    have HT : Hid ((s.take (k + 1)).all lowb = true) := Lib.hid (by rw [snoc_of hbk, List.all_append, ht.out]; simp [lowb]; omega)
    have d : decide (b.toNat < 97) = false := by simp; omega
    have d' : decide (122 < b.toNat) = false := by simp; omega
    clear hbk ht
    go_wp2_with fail
    go_round
    case rel => exact ⟨k + 1, by omega, by go_num, HT⟩
    case measure => simp [intOf]; omega
  ·
   have E := Lib.hid (pcode_len (pall_take hk hlt ht.out))
   clear ht
   go_wp2_with fail
   refine (inn_q rfl _).mono ?_
   rintro e w' ⟨rfl, rfl⟩
   go_wp2_with fail
   go_ret
   exact ⟨by rw [E.out] <;> rfl, rfl⟩
end Go.Proofs.YtjcklmhgjdmjoaaGreat

