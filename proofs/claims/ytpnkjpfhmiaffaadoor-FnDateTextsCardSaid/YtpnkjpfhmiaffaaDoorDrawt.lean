/- Drawn texts of amounts. -/
import Derived.Test.YtpnkjpfhmiaffaaDoorDrawm
import Derived.Test.YtpnkjpfhmiaffaaDoorMoney
namespace Go.Proofs.YtpnkjpfhmiaffaaDoor
open Go.ChangeShapes Go.WideShapes Go.ChangeAt Go.RowKit
set_option linter.unusedVariables false

theorem value_any (g : Nat) (base : Nat) (A : Option Addr) (c : Nat) (bs : List Int) (w : World) (h : Src w base g A c bs) :
    Calls Tryd.prog 29 #[.pointer (some ⟨g, 0, none⟩)] w (Drew w base g A c bs (-1000000000001) 1000000000001) := by
  go_enter Tryd.func29, Tryd.ntmps29
  go_wp2_with fail
  refine (next_any g _ base A c bs _ h (by omega)).mono ?_
  rintro e w1 ⟨r1, rfl, a1, b1, h1, g1⟩
  by_cases h0 : r1 = 0
  · subst h0
    go_wp2_with fail
    refine (pick_new g 6 [0, 1000000000000, 1000000000001, -1000000000000, -1000000000001, 1] (-1000000000001) 1000000000001 base A c bs w1 h1 rfl (by omega) (by omega) ?_).mono ?_
    · intro x hx
      simp only [List.mem_cons, List.not_mem_nil, or_false] at hx
      omega
    rintro e w7 ⟨r7, rfl, a7, b7, h7, g7⟩
    go_wp2_with fail
    go_ret
    exact ⟨r7, rfl, a7, b7, h7, g1.trans g7⟩
  · have e0 : (r1 == 0) = false := beq_eq_false_iff_ne.2 h0
    go_wp2_with fail
    refine (next_any g _ base A c bs _ h1 (by omega)).mono ?_
    rintro e w2 ⟨r2, rfl, a2, b2, h2, g2⟩
    go_wp2_with fail
    refine (next_any g _ base A c bs _ h2 (by omega)).mono ?_
    rintro e w3 ⟨r3, rfl, a3, b3, h3, g3⟩
    go_wp2_with fail
    refine (next_any g _ base A c bs _ h3 (by omega)).mono ?_
    rintro e w4 ⟨r4, rfl, a4, b4, h4, g4⟩
    go_wp2_with fail
    refine (pick_new g 3 [r2 - 20, r3 - 1000, r4 - 1000000000] (-1000000000001) 1000000000001 base A c bs w4 h4 rfl (by omega) (by omega) ?_).mono ?_
    · intro x hx
      simp only [List.mem_cons, List.not_mem_nil, or_false] at hx
      omega
    rintro e w7 ⟨r7, rfl, a7, b7, h7, g7⟩
    go_wp2_with fail
    go_ret
    exact ⟨r7, rfl, a7, b7, h7, (((g1.trans g2).trans g3).trans g4).trans g7⟩

def DrawnV (w : World) (e : Ending) (w' : World) : Prop := ∃ n : Int, e = .returned (.int .i64 n) ∧ Below w.heap.size w w'
theorem drawAmountText (A : Option Addr) (c : Nat) (bs : List Int) (w : World) (h : Code0 w A bs) : Calls Tryd.prog 9 #[.slice A bs.length c] w (DrawnV w) := by
  go_enter Tryd.func9, Tryd.ntmps9
  go_wp2_with fail
  refine (code_from A c bs _ h).mono ?_
  rintro e w1 ⟨g, rfl, s1, b1⟩
  go_wp2_with fail
  refine (amount_any g _ A c bs _ s1).mono ?_
  rintro e w2 ⟨r2, rfl, a2, c2, s2, g2⟩
  have b2 := src_below b1 g2 s1.1
  go_wp2_with fail
  refine (amount_any g _ A c bs _ s2).mono ?_
  rintro e w3 ⟨r3, rfl, a3, c3, s3, g3⟩
  have b3 := src_below b2 g3 s1.1
  go_wp2_with fail
  refine (value_any g _ A c bs _ s3).mono ?_
  rintro e w4 ⟨r4, rfl, a4, c4, s4, g4⟩
  have b4 := src_below b3 g4 s1.1
  go_wp2_with fail
  refine (next_any g _ _ A c bs _ s4 (by omega)).mono ?_
  rintro e w5 ⟨r5, rfl, a5, c5, s5, g5⟩
  have b5 := src_below b4 g5 s1.1
  go_wp2_with fail
  refine (pick_new g 4 [r2, -r3, r4, r5 - 100] (-1000000000001) 1000000000001 _ A c bs w5 s5 rfl (by omega) (by omega) ?_).mono ?_
  · intro x hx
    simp only [List.mem_cons, List.not_mem_nil, or_false] at hx
    omega
  rintro e w6 ⟨r6, rfl, _, _, s6, g6⟩
  go_wp2_with fail
  go_ret
  exact ⟨r6, rfl, src_below b5 g6 s1.1⟩

def DrewS (w : World) (base g : Nat) (A : Option Addr) (c : Nat) (bs : List Int) (L : Nat) (e : Ending) (w' : World) : Prop :=
  ∃ l : List UInt8, e = .returned (.string ⟨l.toArray⟩) ∧ l.length ≤ L ∧ Src w' base g A c bs ∧ w.grownBy w' (some g)

theorem str_take (t : List UInt8) (k : Nat) : (⟨t.toArray⟩ : ByteArray).extract 0 k = ⟨(t.take k).toArray⟩ := by
  rw [str_ext]; simp
theorem str_drop (t : List UInt8) (k : Nat) : (⟨t.toArray⟩ : ByteArray).extract k t.length = ⟨(t.drop k).toArray⟩ := by
  rw [str_ext, List.take_of_length_le (by simp)]
def strs : List Value := [.string ⟨#[48]⟩, .string ⟨#[35]⟩, .string ⟨#[46]⟩, .string ⟨#[47]⟩, .string ⟨#[32]⟩, .string ⟨#[97]⟩, .string ⟨#[45]⟩, .string ⟨#[10]⟩]
theorem strs_at (q : Nat) (h : q < 8) : ∃ b : UInt8, strs[q]? = some (.string ⟨#[b]⟩) := by
  rcases (by omega : q = 0 ∨ q = 1 ∨ q = 2 ∨ q = 3 ∨ q = 4 ∨ q = 5 ∨ q = 6 ∨ q = 7) with rfl | rfl | rfl | rfl | rfl | rfl | rfl | rfl <;> exact ⟨_, rfl⟩
theorem Src.same {w w' : World} {base g : Nat} {A : Option Addr} {c : Nat} {bs : List Int} (h : Src w base g A c bs) (e : w'.heap = w.heap) : Src w' base g A c bs := by
  obtain ⟨h1, h2, h3, h4, h5, p, s, hg, h6⟩ := h
  refine ⟨h1, fun hp => ?_, h3, h4, h5, p, s, by rw [e]; exact hg, h6⟩
  obtain ⟨b, off, e', hl, hc⟩ := h2 hp
  exact ⟨b, off, e', by rw [e]; exact hl, fun j v hj => (World.cell?_of_block (by rw [e])).trans (hc j v hj)⟩
theorem str_cell {W w3 : World} {g k q : Nat} {v : Value} (hg : W.grownBy w3 (some g)) (h : W.heap[k]? = some (.cells strs.toArray 9 (0, 0))) (hne : k ≠ g) (hb : strs[q]? = some v) : w3.cell? ⟨k, q, none⟩ = some v := by
  rw [cell_of_row _ _ _ _ _ _ (keepG hg h hne), List.getElem?_toArray]; exact hb
theorem str_new (w3 : World) {q : Nat} {v : Value} (hb : strs[q]? = some v) : (w3.alloc (.cells strs.toArray 9)).cell? ⟨w3.heap.size, q, none⟩ = some v := by
  rw [cell_of_row _ _ _ _ _ _ (heap_alloc_new w3 _), List.getElem?_toArray]; exact hb
theorem str_mid (t : List UInt8) (k : Nat) (b : UInt8) : (⟨(t.take k ++ b :: t.drop k).toArray⟩ : ByteArray) = (⟨t.toArray⟩ : ByteArray).extract 0 k ++ ⟨#[b]⟩ ++ (⟨t.toArray⟩ : ByteArray).extract k t.length := by
  rw [str_take, str_drop, show (⟨#[b]⟩ : ByteArray) = ⟨[b].toArray⟩ from rfl, str_app, str_app]; simp
set_option maxHeartbeats 1000000 in
theorem damage_any (g : Nat) (t : List UInt8) (ht : t.length ≤ 100000) (base : Nat) (A : Option Addr) (c : Nat) (bs : List Int) (w : World) (h : Src w base g A c bs) :
    Calls Tryd.prog 36 #[.pointer (some ⟨g, 0, none⟩), .string ⟨t.toArray⟩] w (DrewS w base g A c bs (t.length + 1)) := by
  have hz : (⟨t.toArray⟩ : ByteArray).size = t.length := rfl
  go_enter Tryd.func36, Tryd.ntmps36
  go_wp2_with fail
  refine (next_any g _ base A c bs _ h (by omega)).mono ?_
  rintro e w1 ⟨k, rfl, k0, k1, h1, g1⟩
  obtain ⟨kn, rfl⟩ := Int.eq_ofNat_of_zero_le k0
  go_wp2_with fail
  refine (next_any g _ base A c bs _ h1 (by omega)).mono ?_
  rintro e w2 ⟨r, rfl, r0, r1, h2, g2⟩
  have G2 := g1.trans g2
  rcases (by omega : r = 0 ∨ r = 1 ∨ r = 2 ∨ 2 < r) with rfl | rfl | rfl | hr
  · go_wp2_with fail
    go_ret
    exact ⟨t.take kn, by rw [← str_take t kn] <;> rfl, by rw [List.length_take]; omega, h2, G2⟩
  · have q1 : 0 ≤ (kn : Int) ∧ (kn : Int) ≤ (t.length : Int) := by omega
    have q2 : kn ≤ t.length := by omega
    have q3 : t.length - kn ≤ 100000 := by omega
    have hne : w2.heap.size ≠ g := by have := h2.lt; omega
    have HN2 := Lib.hid (fun (W : World) (e : W.heap = w2.heap) => next_any g 8 base A c bs W (h2.same e) (by omega))
    have HN := Lib.hid (fun (W : World) (e : W.heap = (w2.alloc (.cells strs.toArray 9)).heap) => next_any g 8 base A c bs W ((h2.alloc _).same e) (by omega))
    have k0' := heap_alloc_new w2 (.cells strs.toArray 9)
    have E1 := Lib.hid (str_take t kn)
    have E2 := Lib.hid (str_drop t kn)
    go_wp2_with fail
    go_region_with (go_at_call 30; first | ((refine (HN.out _ (by rfl)).mono ?_); (rintro e w3 ⟨r3, rfl, a3, b3, h3, g3⟩); (obtain ⟨q, rfl⟩ := Int.eq_ofNat_of_zero_le a3); (have hq : q < 8 := by omega); (obtain ⟨b, hb⟩ := strs_at q hq); (have hc := str_cell g3 (by exact k0') hne hb); (have G3 : w.grownBy w3 (some g) := (G2.trans (World.grownBy_alloc w2 (.cells strs.toArray 9) _)).trans ⟨g3.os, g3.tape, g3.output, g3.size, g3.block⟩)) | ((refine (HN2.out _ (by rfl)).mono ?_); (rintro e w3 ⟨r3, rfl, a3, b3, h3, g3⟩); (obtain ⟨q, rfl⟩ := Int.eq_ofNat_of_zero_le a3); (have hq : q < 8 := by omega); (obtain ⟨b, hb⟩ := strs_at q hq); (have hc := str_new w3 hb); (unfold strs at hc); (have G3 : w.grownBy w3 (some g) := G2.trans ⟨g3.os, g3.tape, g3.output, g3.size, g3.block⟩)))
    all_goals
      go_wp2_with fail
      go_ret
      exact ⟨t.take kn ++ b :: t.drop kn, by rw [str_mid t kn b] ; simp [Act.put], by rw [List.length_append, List.length_take, List.length_cons, List.length_drop]; omega, by first | exact h3.drewN 1 | exact h3 | exact h3.alloc _ | exact (h3.alloc _).drewN 1, by first | exact G3 | exact grown_drewN G3 1 | exact grown_alloc G3 _ | exact grown_drewN (grown_alloc G3 _) 1⟩
  · have hk2 : kn ≤ t.length := by omega
    by_cases hk : kn < t.length
    · have q1 : IntKind.i64.wrap ((kn : Int) + 1) = (kn : Int) + 1 := IntWalk.i64_in _ (by omega)
      have q2 : 0 ≤ (kn : Int) + 1 ∧ (kn : Int) + 1 ≤ (t.length : Int) := by omega
      have q3 : 0 ≤ (kn : Int) ∧ (kn : Int) ≤ (t.length : Int) := by omega
      have q4 : ((kn : Int) + 1).toNat = kn + 1 := by omega
      have q5 : kn + (t.length - (kn + 1)) ≤ 9223372036854775807 := by omega
      have q6 : kn - 0 = kn := rfl
      have EL : Hid ((⟨t.toArray⟩ : ByteArray).extract 0 kn ++ (⟨t.toArray⟩ : ByteArray).extract (kn + 1) t.length = ⟨(t.take kn ++ t.drop (kn + 1)).toArray⟩) := Lib.hid (by rw [str_take, str_drop, str_app])
      go_wp2_with fail
      go_region_with fail
      all_goals
        go_wp2_with fail
        go_ret
        exact ⟨t.take kn ++ t.drop (kn + 1), by rw [← EL.out]; simp [Act.put], by rw [List.length_append, List.length_take, List.length_drop]; omega, by first | exact h2 | exact h2.drewN 1, by first | exact G2 | exact grown_drewN G2 1⟩
    · go_wp2_with fail
      go_ret
      exact ⟨t, rfl, by omega, h2, G2⟩
  · have e0 : (r == 0) = false := beq_eq_false_iff_ne.2 (by omega)
    have e1 : (r == 1) = false := beq_eq_false_iff_ne.2 (by omega)
    have e2 : (r == 2) = false := beq_eq_false_iff_ne.2 (by omega)
    go_wp2_with fail
    go_ret
    exact ⟨t, rfl, by omega, h2, G2⟩

theorem money_short {n : Int} (h : isVal n = true) : (money n).length ≤ 30 := by
  have hv : -1000000000000 ≤ n ∧ n ≤ 1000000000000 := by simpa [isVal] using h
  have h1 : (digitsOf n.natAbs).length ≤ 22 := by
    have := dec_len 18 (n.natAbs / 100) (by omega)
    have h2 : (two (n.natAbs % 100)).length = 2 := rfl
    unfold digitsOf
    rw [List.length_append, List.length_cons, h2]; omega
  unfold money; split
  · rw [List.length_cons]; omega
  · omega
def DrawnS (w : World) (e : Ending) (w' : World) : Prop := ∃ l : List UInt8, e = .returned (.string ⟨l.toArray⟩) ∧ l.length ≤ 1000 ∧ Below w.heap.size w w'
theorem drawReadAmount (A : Option Addr) (c : Nat) (bs : List Int) (w : World) (h : Code0 w A bs) : Calls Tryd.prog 12 #[.slice A bs.length c] w (DrawnS w) := by
  go_enter Tryd.func12, Tryd.ntmps12
  go_wp2_with fail
  refine (code_from A c bs _ h).mono ?_
  rintro e w1 ⟨g, rfl, s1, b1⟩
  go_wp2_with fail
  refine (good_any g _ A c bs _ s1).mono ?_
  rintro e w2 ⟨r2, rfl, a2, c2, s2, g2⟩
  have b2 := src_below b1 g2 s1.1
  go_wp2_with fail
  refine (good_any g _ A c bs _ s2).mono ?_
  rintro e w3 ⟨r3, rfl, a3, c3, s3, g3⟩
  have b3 := src_below b2 g3 s1.1
  go_wp2_with fail
  refine (pick_new g 2 [r2, -r3] (-1000000001) 1000000001 _ A c bs w3 s3 rfl (by omega) (by omega) ?_).mono ?_
  · intro x hx
    simp only [List.mem_cons, List.not_mem_nil, or_false] at hx
    omega
  rintro e w4 ⟨n, rfl, a4, c4, s4, g4⟩
  have b4 := src_below b3 g4 s1.1
  have hv : isVal n = true := by simp [isVal]; omega
  have hl := money_short hv
  go_wp2_with fail
  refine (money_s n hv _).mono ?_
  rintro e w5 ⟨rfl, b5⟩
  have b6 := belowGo b4 b5
  have s5 := s4.below b5
  generalize money n = t at *
  go_wp2_with fail
  refine (next_any g _ _ A c bs _ s5 (by omega)).mono ?_
  rintro e w6 ⟨r6, rfl, a6, c6, s6, g6⟩
  have b7 := src_below b6 g6 s1.1
  by_cases h0 : r6 = 0
  · subst h0
    go_wp2_with fail
    refine (damage_any g t (by omega) _ A c bs _ s6).mono ?_
    rintro e w7 ⟨l, rfl, hl7, s7, g7⟩
    go_wp2_with fail
    go_ret
    exact ⟨l, rfl, by omega, src_below b7 g7 s1.1⟩
  · have e0 : (r6 == 0) = false := beq_eq_false_iff_ne.2 h0
    go_wp2_with fail
    go_ret
    exact ⟨t, rfl, by omega, b7⟩
end Go.Proofs.YtpnkjpfhmiaffaaDoor
