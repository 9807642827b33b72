/- Drawn texts of amounts. -/
import Derived.Test.YtmhlkbocejnpoaaDoorDrawm
import Derived.Test.YtmhlkbocejnpoaaDoorMoney
namespace Go.Proofs.YtmhlkbocejnpoaaDoor
open Go.ChangeShapes Go.WideShapes Go.ChangeAt Go.RowKit
set_option linter.unusedVariables false

def DrawnV (w : World) (e : Ending) (w' : World) : Prop := ∃ n : Int, e = .returned (.int .i64 n) ∧ Below w.heap.size w w'
def DrewS (w : World) (base g : Nat) (A : Option Addr) (c : Nat) (bs : List Int) (L : Nat) (e : Ending) (w' : World) : Prop :=
  ∃ l : List UInt8, e = .returned (.string ⟨l.toArray⟩) ∧ l.length ≤ L ∧ Src w' base g A c bs ∧ w.grownBy w' (some g)

theorem str_take (t : List UInt8) (k : Nat) : (⟨t.toArray⟩ : ByteArray).extract 0 k = ⟨(t.take k).toArray⟩ := by
  rw [str_ext]; simp
theorem str_drop (t : List UInt8) (k : Nat) : (⟨t.toArray⟩ : ByteArray).extract k t.length = ⟨(t.drop k).toArray⟩ := by
  rw [str_ext, List.take_of_length_le (by simp)]
def strs : List Value := [.string ⟨#[48]⟩, .string ⟨#[35]⟩, .string ⟨#[46]⟩, .string ⟨#[47]⟩, .string ⟨#[32]⟩, .string ⟨#[97]⟩, .string ⟨#[45]⟩, .string ⟨#[10]⟩]
theorem strs_at (q : Nat) (h : q < 8) : ∃ b : UInt8, strs[q]? = some (.string ⟨#[b]⟩) := by
  rcases (by omega : q = 0 ∨ q = 1 ∨ q = 2 ∨ q = 3 ∨ q = 4 ∨ q = 5 ∨ q = 6 ∨ q = 7) with rfl | rfl | rfl | rfl | rfl | rfl | rfl | rfl <;> exact ⟨_, rfl⟩
theorem Src.same {w w' : World} {base g : Nat} {A : Option Addr} {c : Nat} {bs : List Int} (h : Src w base g A c bs) (e : w'.heap = w.heap) : Src w' base g A c bs := by
  obtain ⟨h1, h2, h3, h4, h5, p, s, hg, h6⟩ := h
  refine ⟨h1, fun hp => ?_, h3, h4, h5, p, s, by rw [e]; exact hg, h6⟩
  obtain ⟨b, off, e', hl, hc⟩ := h2 hp
  exact ⟨b, off, e', by rw [e]; exact hl, fun j v hj => (World.cell?_of_block (by rw [e])).trans (hc j v hj)⟩
theorem str_cell {W w3 : World} {g k q : Nat} {v : Value} (hg : W.grownBy w3 (some g)) (h : W.heap[k]? = some (.cells strs.toArray 9 (0, 0))) (hne : k ≠ g) (hb : strs[q]? = some v) : w3.cell? ⟨k, q, none⟩ = some v := by
  rw [cell_of_row _ _ _ _ _ _ (keepG hg h hne), List.getElem?_toArray]; exact hb
theorem str_new (w3 : World) {q : Nat} {v : Value} (hb : strs[q]? = some v) : (w3.alloc (.cells strs.toArray 9)).cell? ⟨w3.heap.size, q, none⟩ = some v := by
  rw [cell_of_row _ _ _ _ _ _ (heap_alloc_new w3 _), List.getElem?_toArray]; exact hb
theorem str_mid (t : List UInt8) (k : Nat) (b : UInt8) : (⟨(t.take k ++ b :: t.drop k).toArray⟩ : ByteArray) = (⟨t.toArray⟩ : ByteArray).extract 0 k ++ ⟨#[b]⟩ ++ (⟨t.toArray⟩ : ByteArray).extract k t.length := by
  rw [str_take, str_drop, show (⟨#[b]⟩ : ByteArray) = ⟨[b].toArray⟩ from rfl, str_app, str_app]; simp
set_option maxHeartbeats 1000000 in
theorem damage_any (g : Nat) (t : List UInt8) (ht : t.length ≤ 100000) (base : Nat) (A : Option Addr) (c : Nat) (bs : List Int) (w : World) (h : Src w base g A c bs) :
    Calls Tryd.prog 27 #[.pointer (some ⟨g, 0, none⟩), .string ⟨t.toArray⟩] w (DrewS w base g A c bs (t.length + 1)) := by
  have hz : (⟨t.toArray⟩ : ByteArray).size = t.length := rfl
  go_enter Tryd.func27, Tryd.ntmps27
  go_wp2_with fail
  refine (next_any g _ base A c bs _ h (by omega)).mono ?_
  rintro e w1 ⟨k, rfl, k0, k1, h1, g1⟩
  obtain ⟨kn, rfl⟩ := Int.eq_ofNat_of_zero_le k0
  go_wp2_with fail
  refine (next_any g _ base A c bs _ h1 (by omega)).mono ?_
  rintro e w2 ⟨r, rfl, r0, r1, h2, g2⟩
  have G2 := g1.trans g2
  rcases (by omega : r = 0 ∨ r = 1 ∨ r = 2 ∨ 2 < r) with rfl | rfl | rfl | hr
  · go_wp2_with fail
    go_ret
    exact ⟨t.take kn, by rw [← str_take t kn] <;> rfl, by rw [List.length_take]; omega, h2, G2⟩
  · have q1 : 0 ≤ (kn : Int) ∧ (kn : Int) ≤ (t.length : Int) := by omega
    have q2 : kn ≤ t.length := by omega
    have q3 : t.length - kn ≤ 100000 := by omega
    have hne : w2.heap.size ≠ g := by have := h2.lt; omega
    have HN2 := Lib.hid (fun (W : World) (e : W.heap = w2.heap) => next_any g 8 base A c bs W (h2.same e) (by omega))
    have HN := Lib.hid (fun (W : World) (e : W.heap = (w2.alloc (.cells strs.toArray 9)).heap) => next_any g 8 base A c bs W ((h2.alloc _).same e) (by omega))
    have k0' := heap_alloc_new w2 (.cells strs.toArray 9)
    have E1 := Lib.hid (str_take t kn)
    have E2 := Lib.hid (str_drop t kn)
    go_wp2_with fail
    go_region_with (go_at_call 26; first | ((refine (HN.out _ (by rfl)).mono ?_); (rintro e w3 ⟨r3, rfl, a3, b3, h3, g3⟩); (obtain ⟨q, rfl⟩ := Int.eq_ofNat_of_zero_le a3); (have hq : q < 8 := by omega); (obtain ⟨b, hb⟩ := strs_at q hq); (have hc := str_cell g3 (by exact k0') hne hb); (have G3 : w.grownBy w3 (some g) := (G2.trans (World.grownBy_alloc w2 (.cells strs.toArray 9) _)).trans ⟨g3.os, g3.tape, g3.output, g3.size, g3.block⟩)) | ((refine (HN2.out _ (by rfl)).mono ?_); (rintro e w3 ⟨r3, rfl, a3, b3, h3, g3⟩); (obtain ⟨q, rfl⟩ := Int.eq_ofNat_of_zero_le a3); (have hq : q < 8 := by omega); (obtain ⟨b, hb⟩ := strs_at q hq); (have hc := str_new w3 hb); (unfold strs at hc); (have G3 : w.grownBy w3 (some g) := G2.trans ⟨g3.os, g3.tape, g3.output, g3.size, g3.block⟩)))
    all_goals
      go_wp2_with fail
      go_ret
      exact ⟨t.take kn ++ b :: t.drop kn, by rw [str_mid t kn b] ; simp [Act.put], by rw [List.length_append, List.length_take, List.length_cons, List.length_drop]; omega, by first | exact h3.drewN 1 | exact h3 | exact h3.alloc _ | exact (h3.alloc _).drewN 1, by first | exact G3 | exact grown_drewN G3 1 | exact grown_alloc G3 _ | exact grown_drewN (grown_alloc G3 _) 1⟩
  · have hk2 : kn ≤ t.length := by omega
    by_cases hk : kn < t.length
    · have q1 : IntKind.i64.wrap ((kn : Int) + 1) = (kn : Int) + 1 := IntWalk.i64_in _ (by omega)
      have q2 : 0 ≤ (kn : Int) + 1 ∧ (kn : Int) + 1 ≤ (t.length : Int) := by omega
      have q3 : 0 ≤ (kn : Int) ∧ (kn : Int) ≤ (t.length : Int) := by omega
      have q4 : ((kn : Int) + 1).toNat = kn + 1 := by omega
      have q5 : kn + (t.length - (kn + 1)) ≤ 9223372036854775807 := by omega
      have q6 : kn - 0 = kn := rfl
      have EL : Hid ((⟨t.toArray⟩ : ByteArray).extract 0 kn ++ (⟨t.toArray⟩ : ByteArray).extract (kn + 1) t.length = ⟨(t.take kn ++ t.drop (kn + 1)).toArray⟩) := Lib.hid (by rw [str_take, str_drop, str_app])
      go_wp2_with fail
      go_region_with fail
      all_goals
        go_wp2_with fail
        go_ret
        exact ⟨t.take kn ++ t.drop (kn + 1), by rw [← EL.out]; simp [Act.put], by rw [List.length_append, List.length_take, List.length_drop]; omega, by first | exact h2 | exact h2.drewN 1, by first | exact G2 | exact grown_drewN G2 1⟩
    · go_wp2_with fail
      go_ret
      exact ⟨t, rfl, by omega, h2, G2⟩
  · have e0 : (r == 0) = false := beq_eq_false_iff_ne.2 (by omega)
    have e1 : (r == 1) = false := beq_eq_false_iff_ne.2 (by omega)
    have e2 : (r == 2) = false := beq_eq_false_iff_ne.2 (by omega)
    go_wp2_with fail
    go_ret
    exact ⟨t, rfl, by omega, h2, G2⟩

theorem money_short {n : Int} (h : isVal n = true) : (money n).length ≤ 30 := by
  have hv : -1000000000000 ≤ n ∧ n ≤ 1000000000000 := by simpa [isVal] using h
  have h1 : (digitsOf n.natAbs).length ≤ 22 := by
    have := dec_len 18 (n.natAbs / 100) (by omega)
    have h2 : (two (n.natAbs % 100)).length = 2 := rfl
    unfold digitsOf
    rw [List.length_append, List.length_cons, h2]; omega
  unfold money; split
  · rw [List.length_cons]; omega
  · omega
def DrawnS (w : World) (e : Ending) (w' : World) : Prop := ∃ l : List UInt8, e = .returned (.string ⟨l.toArray⟩) ∧ l.length ≤ 1000 ∧ Below w.heap.size w w'
end Go.Proofs.YtmhlkbocejnpoaaDoor
