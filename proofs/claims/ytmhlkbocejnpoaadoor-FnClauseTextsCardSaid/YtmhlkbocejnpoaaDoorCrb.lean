/- Boxes of seven cells; readNeed on both sides, spec.l01Signed. (by gen_crt.py) -/
import Derived.Test.YtmhlkbocejnpoaaDoorCrt
import Derived.Test.YtmhlkbocejnpoaaDoorRin
namespace Go.Proofs.YtmhlkbocejnpoaaDoor
open Go.ChangeShapes Go.WideShapes Go.ChangeAt Go.RowKit
set_option linter.unusedVariables false

theorem keepR {W0 w' : World} {g : Nat} {vs : Array Value} {t : TypeId} (hb : Below W0.heap.size W0 w') (h : W0.heap[g]? = some (.cells vs t (0, 0))) : w'.heap[g]? = some (.cells vs t (0, 0)) := (hb.block _ (lt_some h)).trans h
structure Cel7 (W : World) (g : Nat) (v0 v1 v2 v3 v4 v5 v6 : Value) : Prop where
  c0 : W.cell? ⟨g, 0, none⟩ = some v0
  c1 : W.cell? ⟨g, 1, none⟩ = some v1
  c2 : W.cell? ⟨g, 2, none⟩ = some v2
  c3 : W.cell? ⟨g, 3, none⟩ = some v3
  c4 : W.cell? ⟨g, 4, none⟩ = some v4
  c5 : W.cell? ⟨g, 5, none⟩ = some v5
  c6 : W.cell? ⟨g, 6, none⟩ = some v6
  f0 : W.frozen? ⟨g, 0, none⟩ = false
  f1 : W.frozen? ⟨g, 1, none⟩ = false
  f2 : W.frozen? ⟨g, 2, none⟩ = false
  f3 : W.frozen? ⟨g, 3, none⟩ = false
  f4 : W.frozen? ⟨g, 4, none⟩ = false
  f5 : W.frozen? ⟨g, 5, none⟩ = false
  f6 : W.frozen? ⟨g, 6, none⟩ = false
theorem cel7 {W : World} {g : Nat} {v0 v1 v2 v3 v4 v5 v6 : Value} {t : TypeId} (h : W.heap[g]? = some (.cells #[v0, v1, v2, v3, v4, v5, v6] t (0, 0))) : Cel7 W g v0 v1 v2 v3 v4 v5 v6 :=
  ⟨by rw [cell_of_row _ _ _ _ _ _ h]; rfl, by rw [cell_of_row _ _ _ _ _ _ h]; rfl, by rw [cell_of_row _ _ _ _ _ _ h]; rfl, by rw [cell_of_row _ _ _ _ _ _ h]; rfl, by rw [cell_of_row _ _ _ _ _ _ h]; rfl, by rw [cell_of_row _ _ _ _ _ _ h]; rfl, by rw [cell_of_row _ _ _ _ _ _ h]; rfl, frozen_of_row W _ 0 _ _ h, frozen_of_row W _ 1 _ _ h, frozen_of_row W _ 2 _ _ h, frozen_of_row W _ 3 _ _ h, frozen_of_row W _ 4 _ _ h, frozen_of_row W _ 5 _ _ h, frozen_of_row W _ 6 _ _ h⟩
theorem done7 {w1 : World} {g : Nat} {v0 v1 v2 v3 v4 v5 v6 : Value} {t : TypeId} (hrow : w1.heap[g]? = some (.cells #[v0, v1, v2, v3, v4, v5, v6] t (0, 0))) (a b c d e f h : Value) :
    ∃ W, (((((((w1.setCell ⟨g, 0, none⟩ a).setCell ⟨g, 1, none⟩ b).setCell ⟨g, 2, none⟩ c).setCell ⟨g, 3, none⟩ d).setCell ⟨g, 4, none⟩ e).setCell ⟨g, 5, none⟩ f).setCell ⟨g, 6, none⟩ h) = W ∧ W.heap[g]? = some (.cells #[a, b, c, d, e, f, h] t (0, 0)) ∧ ∀ (B : Nat) (w : World), B ≤ g → Below B w w1 → Below B w W := by
  have h1 : (w1.setCell ⟨g, 0, none⟩ a).heap[g]? = some (.cells #[a, v1, v2, v3, v4, v5, v6] t (0, 0)) := by rw [heap_setCell_same _ _ _ _ _ _ hrow]; rfl
  have h2 : ((w1.setCell ⟨g, 0, none⟩ a).setCell ⟨g, 1, none⟩ b).heap[g]? = some (.cells #[a, b, v2, v3, v4, v5, v6] t (0, 0)) := by rw [heap_setCell_same _ _ _ _ _ _ h1]; rfl
  have h3 : (((w1.setCell ⟨g, 0, none⟩ a).setCell ⟨g, 1, none⟩ b).setCell ⟨g, 2, none⟩ c).heap[g]? = some (.cells #[a, b, c, v3, v4, v5, v6] t (0, 0)) := by rw [heap_setCell_same _ _ _ _ _ _ h2]; rfl
  have h4 : ((((w1.setCell ⟨g, 0, none⟩ a).setCell ⟨g, 1, none⟩ b).setCell ⟨g, 2, none⟩ c).setCell ⟨g, 3, none⟩ d).heap[g]? = some (.cells #[a, b, c, d, v4, v5, v6] t (0, 0)) := by rw [heap_setCell_same _ _ _ _ _ _ h3]; rfl
  have h5 : (((((w1.setCell ⟨g, 0, none⟩ a).setCell ⟨g, 1, none⟩ b).setCell ⟨g, 2, none⟩ c).setCell ⟨g, 3, none⟩ d).setCell ⟨g, 4, none⟩ e).heap[g]? = some (.cells #[a, b, c, d, e, v5, v6] t (0, 0)) := by rw [heap_setCell_same _ _ _ _ _ _ h4]; rfl
  have h6 : ((((((w1.setCell ⟨g, 0, none⟩ a).setCell ⟨g, 1, none⟩ b).setCell ⟨g, 2, none⟩ c).setCell ⟨g, 3, none⟩ d).setCell ⟨g, 4, none⟩ e).setCell ⟨g, 5, none⟩ f).heap[g]? = some (.cells #[a, b, c, d, e, f, v6] t (0, 0)) := by rw [heap_setCell_same _ _ _ _ _ _ h5]; rfl
  have h7 : (((((((w1.setCell ⟨g, 0, none⟩ a).setCell ⟨g, 1, none⟩ b).setCell ⟨g, 2, none⟩ c).setCell ⟨g, 3, none⟩ d).setCell ⟨g, 4, none⟩ e).setCell ⟨g, 5, none⟩ f).setCell ⟨g, 6, none⟩ h).heap[g]? = some (.cells #[a, b, c, d, e, f, h] t (0, 0)) := by rw [heap_setCell_same _ _ _ _ _ _ h6]; rfl
  refine ⟨_, rfl, h7, fun B w hB hb => ((((((hb.setCell (by simpa using hB) _).setCell (by simpa using hB) _).setCell (by simpa using hB) _).setCell (by simpa using hB) _).setCell (by simpa using hB) _).setCell (by simpa using hB) _).setCell (by simpa using hB) _⟩
def updB (us : Nat → Value) (j : Nat) (v : Value) : Nat → Value := fun n => if n = j then v else us n
theorem updB_same (us : Nat → Value) (j : Nat) (v : Value) : updB us j v j = v := by unfold updB; rw [if_pos rfl]
theorem updB_other {us : Nat → Value} {j n : Nat} {v : Value} (h : n ≠ j) : updB us j v n = us n := by unfold updB; rw [if_neg h]
theorem setB_same {d : Array Bool} {i : Nat} (h : d.getD i true = false) : (d.setIfInBounds i true).getD i false = true := by
  have hi : i < d.size := by
    rcases Nat.lt_or_ge i d.size with h2 | h2
    · exact h2
    · simp [Array.getElem?_eq_none h2] at h
  simp [hi]
theorem getB_f {d : Array Bool} {i : Nat} (h : d.getD i true = false) : d.getD i false = false := by
  cases h2 : d.getD i false with
  | false => rfl
  | true => have := getD_ft h2; rw [h] at this; cases this
def GivRC (w : World) (r : Cls × Int) (e : Ending) (w' : World) : Prop :=
  e = .returned (.tuple #[.agg #[.string ⟨r.1.c.toArray⟩, .int .i64 r.1.k, .int .i64 r.1.p, .int .i64 r.1.v, .int .i64 r.1.r, .int .i64 r.1.e, .string ⟨r.1.t.toArray⟩], .int .i64 r.2]) ∧ Below w.heap.size w w'
theorem rn_idx (b : UInt8) : Lib.indexByte [42, 43, 45] b = rn b := by
  unfold rn
  by_cases h0 : b = 42
  · subst h0; rfl
  · by_cases h1 : b = 43
    · subst h1; rfl
    · by_cases h2 : b = 45
      · subst h2; rfl
      · rw [if_neg h0, if_neg h1, if_neg h2]
        exact idx_no _ _ (by intro x hx; simp only [List.mem_cons, List.not_mem_nil, or_false] at hx; rcases hx with rfl | rfl | rfl <;> intro e <;> simp_all)
theorem valR_bd (s : List UInt8) : 0 ≤ (valR s).1 ∧ (valR s).1 < 1000000000000000000 := by
  by_cases h : 1 ≤ s.length ∧ s.length ≤ 13
  · cases e : Lib.decFrom 0 s with
    | none => rw [valR_none h e]; decide
    | some n =>
      rw [valR_some h e]
      have := Lib.decFrom_lt18 e (by omega)
      show (0 : Int) ≤ (n : Int) ∧ (n : Int) < 1000000000000000000
      omega
  · rw [valR_len h]; decide
theorem rn_bd (b : UInt8) : -1 ≤ rn b ∧ rn b ≤ 2 := by unfold rn; split <;> (try split) <;> (try split) <;> decide
theorem rn_i (b : UInt8) (w : World) : Calls Tryd.prog 30 #[.int .u8 (b.toNat : Int)] w fun e w' => e = .returned (.int .i64 (rn b)) ∧ w = w' := by
  have HX : Hid (∀ w, Calls Tryd.prog 54 #[.string ⟨#[42, 43, 45]⟩, .int .u8 (b.toNat : Int)] w fun e w' => e = .returned (.int .i64 (rn b)) ∧ w = w') := Lib.hid fun w => by
    have h := Tryd.strings_IndexByte ⟨#[42, 43, 45]⟩ (b.toNat : Int) w
    have e1 : (b.toNat : Int).toNat.toUInt8 = b := by simp
    have e2 : (⟨#[42, 43, 45]⟩ : ByteArray).data.toList = [42, 43, 45] := rfl
    rw [e1, e2, rn_idx] at h
    exact h.mono fun e w' h => ⟨h.1, h.2.symm⟩
  generalize rn b = m at *
  generalize (b.toNat : Int) = n at *
  go_enter Tryd.func30, Tryd.ntmps30
  go_wp2_with fail
  refine (HX.out _).mono ?_
  rintro e w' ⟨rfl, rfl⟩
  go_wp2_with fail
  go_ret
  exact ⟨rfl, rfl⟩
theorem nat_byte (b c : UInt8) : ((b.toNat : Int) == (c.toNat : Int)) = (b == c) := by
  by_cases h : b = c
  · subst h; simp
  · rw [beq_eq_false_iff_ne.2 h, beq_eq_false_iff_ne]
    intro e; exact h (UInt8.toNat_inj.1 (by omega))
theorem rn_s (b : UInt8) (w : World) : Calls Tryd.prog 34 #[.int .u8 (b.toNat : Int)] w fun e w' => e = .returned (.int .i64 (rn b)) ∧ w = w' := by
  have z0 : ((b.toNat : Int) == 42) = (b == 42) := nat_byte b 42
  have z1 : ((b.toNat : Int) == 43) = (b == 43) := nat_byte b 43
  have z2 : ((b.toNat : Int) == 45) = (b == 45) := nat_byte b 45
  have E : Hid (rn b = if b = 42 then 0 else if b = 43 then 1 else if b = 45 then 2 else -1) := Lib.hid rfl
  generalize (b.toNat : Int) = n at *
  by_cases h0 : b = 42
  · rw [if_pos h0] at E
    rw [beq_iff_eq.2 h0] at z0
    clear z1 z2 h0
    go_enter Tryd.func34, Tryd.ntmps34
    go_wp2_with fail
    go_ret
    exact ⟨by rw [E.out] <;> rfl, rfl⟩
  · rw [if_neg h0] at E
    rw [beq_eq_false_iff_ne.2 h0] at z0
    by_cases h1 : b = 43
    · rw [if_pos h1] at E
      rw [beq_iff_eq.2 h1] at z1
      clear z2 h0 h1
      go_enter Tryd.func34, Tryd.ntmps34
      go_wp2_with fail
      go_ret
      exact ⟨by rw [E.out] <;> rfl, rfl⟩
    · rw [if_neg h1] at E
      rw [beq_eq_false_iff_ne.2 h1] at z1
      by_cases h2 : b = 45
      · rw [if_pos h2] at E
        rw [beq_iff_eq.2 h2] at z2
        clear h0 h1 h2
        go_enter Tryd.func34, Tryd.ntmps34
        go_wp2_with fail
        go_ret
        exact ⟨by rw [E.out] <;> rfl, rfl⟩
      · rw [if_neg h2] at E
        rw [beq_eq_false_iff_ne.2 h2] at z2
        clear h0 h1 h2
        go_enter Tryd.func34, Tryd.ntmps34
        go_wp2_with fail
        go_ret
        exact ⟨by rw [E.out] <;> rfl, rfl⟩
set_option maxHeartbeats 1000000 in
theorem sgn_s (s : List UInt8) (hl : s.length ≤ 1048576) (w : World) : Calls Tryd.prog 32 #[.string ⟨s.toArray⟩] w fun e w' => e = .returned (.tuple #[.int .i64 (sgnR s).1, .bool (sgnR s).2]) ∧ Below w.heap.size w w' := by
  cases s with
  | nil =>
    have HV := Lib.hid (val_s [] hl w)
    have E : Hid (sgnR [] = valR []) := Lib.hid rfl
    generalize valR [] = r at *
    go_enter Tryd.func32, Tryd.ntmps32
    go_wp2_with fail
    refine HV.out.mono ?_
    rintro e w1 ⟨rfl, b1⟩
    go_wp2_with fail
    go_ret2
    exact ⟨by rw [E.out] <;> rfl, b1⟩
  | cons b r =>
    have hz : (⟨(b :: r).toArray⟩ : ByteArray).size = r.length + 1 := rfl
    have hb0 := at_str (b :: r) 0 b rfl
    by_cases h0 : b = 45
    · subst h0
      have hx : (⟨((45 : UInt8) :: r).toArray⟩ : ByteArray).extract 1 (r.length + 1) = ⟨r.toArray⟩ := by
        have := str_ext (l := (45 : UInt8) :: r) (b := 1) (e := r.length + 1)
        rw [this]; simp
      have HV := Lib.hid (val_s r (by simp at hl; omega) w)
      have E : Hid (sgnR (45 :: r) = (-(valR r).1, (valR r).2 && decide (0 < (valR r).1))) := Lib.hid rfl
      have hbd := valR_bd r
      have hrl : r.length ≤ 1048576 := by simp at hl; omega
      generalize valR r = v at *
      obtain ⟨v, bb⟩ := v
      cases bb
      all_goals
        go_enter Tryd.func32, Tryd.ntmps32
        go_wp2_with fail
        refine HV.out.mono ?_
        rintro e w1 ⟨rfl, b1⟩
        go_wp2_with fail
        go_ret2
        exact ⟨by rw [E.out] <;> simp, b1⟩
    · have HV := Lib.hid (val_s (b :: r) hl w)
      have E : Hid (sgnR (b :: r) = valR (b :: r)) := Lib.hid (by show (if b = 45 then _ else valR (b :: r)) = _; rw [if_neg h0])
      have z0 : ((b.toNat : Int) == 45) = (b == 45) := nat_byte b 45
      rw [beq_eq_false_iff_ne.2 h0] at z0
      generalize valR (b :: r) = v at *
      have hrl : r.length ≤ 1048576 := by simp at hl; omega
      go_enter Tryd.func32, Tryd.ntmps32
      go_wp2_with fail
      refine HV.out.mono ?_
      rintro e w1 ⟨rfl, b1⟩
      go_wp2_with fail
      go_ret2
      exact ⟨by rw [E.out] <;> rfl, b1⟩
end Go.Proofs.YtmhlkbocejnpoaaDoor
