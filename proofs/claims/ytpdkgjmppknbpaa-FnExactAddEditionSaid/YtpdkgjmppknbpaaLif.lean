/- Editions by year, years by code: plain lists; spec.EditionFor, spec.YearsOf. -/
import Derived.Test.YtpdkgjmppknbpaaLib
namespace Go.Proofs.Ytpdkgjmppknbpaa
open Go.ChangeShapes Go.WideShapes Go.ChangeAt Go.RowKit
set_option linter.unusedVariables false

/-- The last of the first k editions whose year is not greater; -1 if there is none. -/
def lstE (es : List Edn) (y : Int) : Nat → Int
  | 0 => -1
  | k + 1 => match es[k]? with
    | some e => if e.y ≤ y then (k : Int) else lstE es y k
    | none => lstE es y k
theorem lstE_yes {es : List Edn} {y : Int} {k : Nat} {e : Edn} (h : es[k]? = some e) (h1 : e.y ≤ y) : lstE es y (k + 1) = k := by rw [lstE, h]; simp [h1]
theorem lstE_no {es : List Edn} {y : Int} {k : Nat} {e : Edn} (h : es[k]? = some e) (h1 : ¬ e.y ≤ y) : lstE es y (k + 1) = lstE es y k := by rw [lstE, h]; simp [h1]
theorem lstE_bd (es : List Edn) (y : Int) : ∀ k : Nat, -1 ≤ lstE es y k ∧ lstE es y k < (k : Int) ∨ lstE es y k = -1
  | 0 => .inr rfl
  | k + 1 => by
    rcases lstE_bd es y k with h | h
    · unfold lstE
      cases es[k]? with
      | none => exact .inl (by simp only []; omega)
      | some e => simp only []; split <;> omega
    · unfold lstE
      cases es[k]? with
      | none => exact .inr h
      | some e => simp only []; split <;> omega
def efR (es : List Edn) (y : Int) : Int × Int := if lbB es = true then (if lstE es y es.length < 0 then (0, 4) else (lstE es y es.length, 0)) else (0, 1)
theorem efR_no {es : List Edn} {y : Int} (h : lbB es = false) : efR es y = (0, 1) := by unfold efR; rw [if_neg (by rw [h]; decide)]
theorem efR_none {es : List Edn} {y : Int} (h : lbB es = true) (h1 : lstE es y es.length < 0) : efR es y = (0, 4) := by unfold efR; rw [if_pos h, if_pos h1]
theorem efR_ok {es : List Edn} {y : Int} (h : lbB es = true) (h1 : ¬ lstE es y es.length < 0) : efR es y = (lstE es y es.length, 0) := by unfold efR; rw [if_pos h, if_neg h1]
set_option maxHeartbeats 2000000 in
theorem ef_s (A : Option Addr) (c : Nat) (es : List Edn) (y : Int) (w : World) (h : LTbl w A es) :
    Calls Try.prog 17 #[.slice A es.length c, .int .i64 y] w (Gives w (.tuple #[.int .i64 (efR es y).1, .int .i64 (efR es y).2])) := by
  have hn := h.len
  rcases Bool.eq_false_or_eq_true (lbB es) with hr | hr
  · have HT := Lib.hid (lbS_q (c := c) h hr)
    have HR := Lib.hid h
    have E1 := Lib.hid (@efR_none es y hr)
    have E2 := Lib.hid (@efR_ok es y hr)
    clear h hr
    go_enter Try.func17, Try.ntmps17
    go_wp2_with (go_at_call 13; refine HT.out.mono ?_; rintro e w1 ⟨rfl, b1⟩)
    go_loopw [6, 7] (fun m i wr => ∃ (k : Nat) (M : Int), k ≤ es.length ∧ i = .int .i64 k ∧ m = .int .i64 M ∧ -1 ≤ M ∧ M < (k : Int) + 1 ∧ Hid (M = lstE es y k) ∧ Below w.heap.size w wr) (fun _ i _ => es.length - (intOf i).toNat)
    case atStart => exact ⟨0, -1, Nat.zero_le _, rfl, rfl, by omega, by omega, Lib.hid rfl, b1⟩
    case round =>
      obtain ⟨k, M, hk, rfl, rfl, hM0, hM1, hM, hb⟩ := hrel
      clear b1
      by_cases hlt : k < es.length
      · obtain ⟨b, off, e, a, cp, rfl, hl, he, c0, c1, hct⟩ := (HR.out.below hb).at hlt
        by_cases hy : e.y ≤ y
        · have EK : Hid ((k : Int) = lstE es y (k + 1)) := Lib.hid (lstE_yes he.out hy).symm
          clear hM he hct
          go_wp2_with fail
          go_roundw
          case rel => exact ⟨k + 1, _, by omega, by go_num, rfl, by omega, by omega, EK, hb⟩
          case measure => simp [intOf]; omega
        · have EK : Hid (M = lstE es y (k + 1)) := Lib.hid (by rw [lstE_no he.out hy, hM.out])
          have hy2 : y < e.y := by omega
          clear hM he hct
          go_wp2_with fail
          go_roundw
          case rel => exact ⟨k + 1, _, by omega, by go_num, rfl, by omega, by omega, EK, hb⟩
          case measure => simp [intOf]; omega
      · obtain rfl : k = es.length := by omega
        rw [← hM.out] at E1 E2
        clear hM
        by_cases hneg : M < 0
        · have E := Lib.hid (E1.out (by omega))
          clear E1 E2
          go_wp2_with fail
          go_ret2
          exact ⟨by rw [E.out] <;> rfl, hb⟩
        · have E := Lib.hid (E2.out (by omega))
          clear E1 E2
          go_wp2_with fail
          go_ret2
          exact ⟨by rw [E.out] <;> rfl, hb⟩
  · have HT := Lib.hid (lbS_q (c := c) h hr)
    have E := Lib.hid (@efR_no es y hr)
    clear h hr
    go_enter Try.func17, Try.ntmps17
    go_wp2_with (go_at_call 13; refine HT.out.mono ?_; rintro e w1 ⟨rfl, b1⟩)
    go_ret2
    exact ⟨by rw [E.out] <;> rfl, b1⟩
theorem made0e (w : World) (base : Nat) (e : TypeId) (size : Nat) (hb : base ≤ w.heap.size) : (w.alloc (Obj.cells #[] e)).ownsRow base e size (.slice (some ⟨w.heap.size, 0, none⟩) 0 0) 0 [] :=
  World.ownsRow_made w #[] 0 hb (by decide) (by simp)
def hasE (s : List UInt8) (e : Edn) : Bool := decide (0 ≤ fndIC e.cs s)
def yrsE (es : List Edn) (s : List UInt8) : List Int := (es.filter (hasE s)).map (·.y)
theorem yrsE_snoc (es : List Edn) (e : Edn) (s : List UInt8) : yrsE (es ++ [e]) s = if hasE s e = true then yrsE es s ++ [e.y] else yrsE es s := by
  unfold yrsE
  rw [List.filter_append, List.map_append]
  cases h : hasE s e <;> simp [h]
theorem yrsE_len (es : List Edn) (s : List UInt8) : (yrsE es s).length ≤ es.length := by unfold yrsE; rw [List.length_map]; exact List.length_filter_le _ _
def yoR (es : List Edn) (s : List UInt8) : List Int × Int := if lbB es = true then (yrsE es s, 0) else ([], 1)
theorem yoR_no {es : List Edn} {s : List UInt8} (h : lbB es = false) : yoR es s = ([], 1) := by unfold yoR; rw [if_neg (by rw [h]; decide)]
theorem yoR_ok {es : List Edn} {s : List UInt8} (h : lbB es = true) : yoR es s = (yrsE es s, 0) := by unfold yoR; rw [if_pos h]
set_option maxRecDepth 100000 in
set_option maxHeartbeats 2000000 in
theorem yo_s (A : Option Addr) (d : Nat) (es : List Edn) (s : List UInt8) (w : World) (h : LTbl w A es) :
    Calls Try.prog 42 #[.slice A es.length d, .string ⟨s.toArray⟩] w (NewIntsC w (yoR es s)) := by
  obtain ⟨i0, hi, hz0, hz1, hz2⟩ := info_parts intInfo
  rcases Bool.eq_false_or_eq_true (lbB es) with hr | hr
  · have HT := Lib.hid (lbS_q (c := d) h hr)
    have E := Lib.hid (@yoR_ok es s hr)
    have hn := h.len
    clear hr
    go_enter Try.func42, Try.ntmps42
    go_wp2_with (go_at_call 13; refine HT.out.mono ?_; rintro e w1 ⟨rfl, b1⟩)
    go_loopw [6, 7] (fun o i wr => ∃ (k : Nat) (ys : List Int), k ≤ es.length ∧ i = .int .i64 k ∧ wr.ownsRow w.heap.size 2 1 o ys.length (ys.map (Value.int .i64)) ∧ Hid (ys = yrsE (es.take k) s) ∧ Below w.heap.size w wr) (fun _ i _ => es.length - (intOf i).toNat)
    case atStart => exact ⟨0, [], Nat.zero_le _, rfl, made0e _ _ _ _ b1.size, Lib.hid rfl, b1.alloc b1.size _⟩
    case round =>
      obtain ⟨k, ys, hk, rfl, hown, hys, hb⟩ := hrel
      obtain ⟨O, q, rfl⟩ := own_form hown
      have hyl : ys.length ≤ k := by rw [hys.out]; have := yrsE_len (es.take k) s; rw [List.length_take] at this; omega
      by_cases hlt : k < es.length
      · obtain ⟨b, off, e, a, cp, rfl, hl, he, c0, c1, hct⟩ := (h.below hb).at hlt
        have HF := Lib.hid (find_sC a cp e.cs s wr hct.row (by have := hct.len; omega))
        have HS := Lib.hid (yrsE_snoc (es.take k) e s)
        rw [← snoc_of he.out, ← hys.out] at HS
        have hh : Hid (hasE s e = decide (0 ≤ fndIC e.cs s)) := Lib.hid rfl
        generalize fndIC e.cs s = f at *
        clear h hct he hys
        by_cases hf : 0 ≤ f
        · have HS2 : Hid (ys ++ [e.y] = yrsE (es.take (k + 1)) s) := Lib.hid (by rw [HS.out, if_pos (by rw [hh.out]; exact decide_eq_true hf)])
          clear HS hh
          go_wp2_with (first
            | (go_at_call 62; refine HF.out.mono ?_; rintro e w2 ⟨rfl, rfl⟩)
            | (at_builtin; refine wpList_push _ rfl (.tmp 26) (.tmp 32) 65 rfl w.heap.size 2 i0 _ 1 8 Try.underlying65 hi hz0 hz1 hz2 rfl (by decide) _ ys.length _ rfl hown [.int .i64 e.y] rfl (by simp [Value.oneCell']) rfl (by unfold maxLen; omega) (by omega) hb.size ?_; intro v' w' hown' hb'))
          go_roundw
          case rel => exact ⟨k + 1, ys ++ [e.y], by omega, by go_num, by simpa using hown', HS2, hb.trans hb'⟩
          case measure => simp [intOf]; omega
        · have HS2 : Hid (ys = yrsE (es.take (k + 1)) s) := Lib.hid (by rw [HS.out, if_neg (by rw [hh.out]; simp; omega)])
          have hf2 : f < 0 := by omega
          clear HS hh
          go_wp2_with (go_at_call 62; refine HF.out.mono ?_; rintro e w2 ⟨rfl, rfl⟩)
          go_roundw
          case rel => exact ⟨k + 1, ys, by omega, by go_num, hown, HS2, hb⟩
          case measure => simp [intOf]; omega
      · have HY : Hid (ys = yrsE es s) := Lib.hid (by rw [hys.out, take_all hk hlt])
        clear hys h
        go_wp2_with fail
        go_ret2
        rw [E.out, ← HY.out]
        exact ⟨O, q, rfl, hown, hb⟩
  · have E := Lib.hid (@yoR_no es s hr)
    have HT := Lib.hid (lbS_q (c := d) h hr)
    clear hr
    go_enter Try.func42, Try.ntmps42
    go_wp2_with (go_at_call 13; refine HT.out.mono ?_; rintro e w1 ⟨rfl, b1⟩)
    go_ret2
    rw [E.out]
    exact ⟨none, 0, rfl, Oi.nil _ _, b1⟩
end Go.Proofs.Ytpdkgjmppknbpaa
