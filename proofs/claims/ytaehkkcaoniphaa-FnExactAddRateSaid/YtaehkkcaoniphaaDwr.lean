/- DaysWithRate. -/
import Derived.Test.YtaehkkcaoniphaaTabl
import Derived.Test.YtaehkkcaoniphaaMark
import Derived.Test.YtaehkkcaoniphaaCopy
namespace Go.Proofs.Ytaehkkcaoniphaa
open Go.ChangeShapes Go.WideShapes Go.ChangeAt Go.RowKit
set_option linter.unusedVariables false

/-- A table as the functions of the chapter take it. -/
structure Tbl (w : World) (A : Option Addr) (rs : List Rt) : Prop where
  row : Rr w A rs
  txt : ∀ r ∈ rs, r.c.length ≤ 1048576
  len : rs.length ≤ 1048576
theorem Tbl.below {w w' : World} {A : Option Addr} {rs : List Rt} (h : Tbl w A rs) (hb : Below w.heap.size w w') : Tbl w' A rs := ⟨h.row.below hb, h.txt, h.len⟩
theorem tabI_q {w : World} {A : Option Addr} {c : Nat} {rs : List Rt} {b : Bool} (h : Tbl w A rs) (hb : tabB rs = b) : Calls Try.prog 17 #[.slice A rs.length c] w (Gives w (.bool b)) := by
  subst hb; exact isTable_i A c rs w h.row h.txt
theorem tabS_q {w : World} {A : Option Addr} {c : Nat} {rs : List Rt} {b : Bool} (h : Tbl w A rs) (hb : tabB rs = b) : Calls Try.prog 54 #[.slice A rs.length c] w (Gives w (.bool b)) := by
  subst hb; exact isTable_s A c rs w h.row h.txt h.len
def daysOf (c : List UInt8) (rs : List Rt) : List Int := (rs.filter fun r => r.c == c).map Rt.day
def daysR (rs : List Rt) (c : List UInt8) : List Int × Int := if tabB rs = true ∧ codeB c = true then (if daysOf c rs = [] then ([], 4) else (daysOf c rs, 0)) else ([], 1)
theorem daysR_no {rs : List Rt} {c : List UInt8} (h : tabB rs = false ∨ codeB c = false) : daysR rs c = ([], 1) := by
  unfold daysR; rw [if_neg]; rintro ⟨h1, h2⟩; rcases h with h | h <;> simp_all
theorem daysR_nil {rs : List Rt} {c : List UInt8} (h : tabB rs = true) (h2 : codeB c = true) (h3 : daysOf c rs = []) : daysR rs c = ([], 4) := by
  unfold daysR; rw [if_pos ⟨h, h2⟩, if_pos h3]
theorem daysR_ok {rs : List Rt} {c : List UInt8} (h : tabB rs = true) (h2 : codeB c = true) (h3 : daysOf c rs ≠ []) : daysR rs c = (daysOf c rs, 0) := by
  unfold daysR; rw [if_pos ⟨h, h2⟩, if_neg h3]
theorem daysOf_snoc (c : List UInt8) (rs : List Rt) (r : Rt) : daysOf c (rs ++ [r]) = daysOf c rs ++ (if (r.c == c) = true then [r.day] else []) := by
  unfold daysOf; rw [List.filter_append, List.map_append]; by_cases h : (r.c == c) = true <;> simp [List.filter_cons, h]
theorem daysOf_len (c : List UInt8) (rs : List Rt) : (daysOf c rs).length ≤ rs.length := by
  unfold daysOf; rw [List.length_map]; exact List.length_filter_le _ _
theorem made0 (w : World) (base : Nat) (e : TypeId) (size : Nat) (hb : base ≤ w.heap.size) : (w.alloc (Obj.cells #[] e)).ownsRow base e size (.slice (some ⟨w.heap.size, 0, none⟩) 0 0) 0 [] :=
  World.ownsRow_made w #[] 0 hb (by decide) (by simp)

set_option maxRecDepth 100000 in
set_option maxHeartbeats 2000000 in
theorem days_i (A : Option Addr) (d : Nat) (rs : List Rt) (c : List UInt8) (w : World) (h : Tbl w A rs) (hc : c.length ≤ 9223372036854775807) :
    Calls Try.prog 25 #[.slice A rs.length d, .string ⟨c.toArray⟩] w (NewIntsC w (daysR rs c)) := by
  obtain ⟨i0, hi, hz0, hz1, hz2⟩ := info_parts intInfo
  rcases Bool.eq_false_or_eq_true (tabB rs) with ht | ht
  · rcases Bool.eq_false_or_eq_true (codeB c) with hcd | hcd
    · have HT := Lib.hid (tabI_q (c := d) h ht)
      have HE0 := Lib.hid (fun h3 => daysR_nil ht hcd h3)
      have HE1 := Lib.hid (fun h3 => daysR_ok ht hcd h3)
      have hn := h.len
      clear ht
      go_enter Try.func25, Try.ntmps25
      go_wp2_with (first | (go_at_call 17; refine HT.out.mono ?_; rintro e w1 ⟨rfl, b1⟩) | (go_at_call 30; refine (codeI_q (by assumption) hc _).mono ?_; rintro e w' ⟨rfl, rfl⟩))
      go_loopw [6, 20] (fun o i wr => ∃ (k : Nat) (ys : List Int), k ≤ rs.length ∧ i = .int .i64 k ∧ wr.ownsRow w.heap.size 2 1 o ys.length (ys.map (Value.int .i64)) ∧ Hid (ys = daysOf c (rs.take k)) ∧ Below w.heap.size w wr) (fun _ i _ => rs.length - (intOf i).toNat)
      case atStart => exact ⟨0, [], Nat.zero_le _, rfl, made0 _ _ _ _ b1.size, Lib.hid rfl, b1.alloc b1.size _⟩
      case round =>
        obtain ⟨k, ys, hk, rfl, hown, hys, hb⟩ := hrel
        obtain ⟨O, q, rfl⟩ := own_form hown
        have hyl : ys.length ≤ k := by rw [hys.out]; have := daysOf_len c (rs.take k); rw [List.length_take] at this; omega
        by_cases hlt : k < rs.length
        · obtain ⟨b, off, r, rfl, hl, hr, h4⟩ := (h.row.below hb).four hlt
          have c0 := h4.c0; have c1 := h4.c1; have c2 := h4.c2; have c3 := h4.c3
          have HS := Lib.hid (daysOf_snoc c (rs.take k) r)
          rw [← snoc_of hr.out, ← hys.out] at HS
          clear h h4 hr hys
          rcases Bool.eq_false_or_eq_true (r.c == c) with he | he
          · have HS2 : Hid (ys ++ [r.day] = daysOf c (rs.take (k + 1))) := Lib.hid (by rw [HS.out, if_pos he])
            clear HS
            have hown2 := hown.alloc (.cells #[.string ⟨r.c.toArray⟩, .int .i64 r.day, .int .i64 r.num, .int .i64 r.den] 30)
            have hsz : w.heap.size ≤ (wr.alloc (.cells #[.string ⟨r.c.toArray⟩, .int .i64 r.day, .int .i64 r.num, .int .i64 r.den] 30)).heap.size := Nat.le_trans hb.size (by simp)
            have hsz := Lib.hid hsz
            have hzz : Hid (wr.heap.size + 1 = (wr.alloc (.cells #[.string ⟨r.c.toArray⟩, .int .i64 r.day, .int .i64 r.num, .int .i64 r.den] 30)).heap.size) := Lib.hid (by simp)
            clear hown
            go_wp2_with (at_builtin; refine wpList_push _ rfl (.tmp 28) (.tmp 31) 50 rfl w.heap.size 2 i0 _ 1 8 Try.underlying50 hi hz0 hz1 hz2 rfl (by decide) _ ys.length _ rfl hown2 [.int .i64 r.day] rfl (by simp [Value.oneCell']) (congrArg (fun n => Value.slice (some ⟨n, 0, none⟩) 1 1) hzz.out) (by unfold maxLen; omega) (by omega) hsz.out ?_; intro v' w' hown' hb')
            go_roundw
            case rel => exact ⟨k + 1, ys ++ [r.day], by omega, by go_num, by simpa using hown', HS2, (hb.alloc hb.size _).trans hb'⟩
            case measure => simp [intOf]; omega
          · have HS2 : Hid (ys = daysOf c (rs.take (k + 1))) := Lib.hid (by rw [HS.out, if_neg (by simp [he]), List.append_nil])
            clear HS
            have hown2 := hown.alloc (.cells #[.string ⟨r.c.toArray⟩, .int .i64 r.day, .int .i64 r.num, .int .i64 r.den] 30)
            clear hown
            go_wp2_with fail
            go_roundw
            case rel => exact ⟨k + 1, ys, by omega, by go_num, hown2, HS2, hb.alloc hb.size _⟩
            case measure => simp [intOf]; omega
        · have HY : Hid (ys = daysOf c rs) := Lib.hid (by rw [hys.out, take_all hk hlt])
          clear hys h
          by_cases h0 : ys = []
          · subst h0
            have E := Lib.hid (HE0.out HY.out.symm)
            go_wp2_with fail
            go_ret2
            rw [E.out]
            exact ⟨none, 0, rfl, Oi.nil _ _, hb⟩
          · have E := Lib.hid (HE1.out (by rw [← HY.out]; exact h0))
            have hpos : ((ys.length : Int) == 0) = false := by rw [beq_eq_false_iff_ne]; have : 0 < ys.length := List.length_pos_iff.2 h0; omega
            clear h0
            go_wp2_with fail
            go_ret2
            rw [E.out, ← HY.out]
            exact ⟨O, q, rfl, hown, hb⟩
    · have E := Lib.hid (daysR_no (rs := rs) (c := c) (.inr hcd))
      have HT := Lib.hid (tabI_q (c := d) h ht)
      clear ht
      go_enter Try.func25, Try.ntmps25
      go_wp2_with (first | (go_at_call 17; refine HT.out.mono ?_; rintro e w1 ⟨rfl, b1⟩) | (go_at_call 30; refine (codeI_q (by assumption) hc _).mono ?_; rintro e w' ⟨rfl, rfl⟩))
      go_ret2
      rw [E.out]
      exact ⟨none, 0, rfl, Oi.nil _ _, b1⟩
  · have E := Lib.hid (daysR_no (rs := rs) (c := c) (.inl ht))
    have HT := Lib.hid (tabI_q (c := d) h ht)
    clear ht
    go_enter Try.func25, Try.ntmps25
    go_wp2_with (first | (go_at_call 17; refine HT.out.mono ?_; rintro e w1 ⟨rfl, b1⟩))
    go_ret2
    rw [E.out]
    exact ⟨none, 0, rfl, Oi.nil _ _, b1⟩
set_option maxRecDepth 100000 in
set_option maxHeartbeats 2000000 in
theorem days_s (A : Option Addr) (d : Nat) (rs : List Rt) (c : List UInt8) (w : World) (h : Tbl w A rs) (hc : c.length ≤ 9223372036854775807) :
    Calls Try.prog 26 #[.slice A rs.length d, .string ⟨c.toArray⟩] w (NewIntsC w (daysR rs c)) := by
  obtain ⟨i0, hi, hz0, hz1, hz2⟩ := info_parts intInfo
  rcases Bool.eq_false_or_eq_true (tabB rs) with ht | ht
  · rcases Bool.eq_false_or_eq_true (codeB c) with hcd | hcd
    · have HT := Lib.hid (tabS_q (c := d) h ht)
      have HE0 := Lib.hid (fun h3 => daysR_nil ht hcd h3)
      have HE1 := Lib.hid (fun h3 => daysR_ok ht hcd h3)
      have hn := h.len
      clear ht
      go_enter Try.func26, Try.ntmps26
      go_wp2_with (first | (go_at_call 54; refine HT.out.mono ?_; rintro e w1 ⟨rfl, b1⟩) | (go_at_call 31; refine (codeS_q (by assumption) hc _).mono ?_; rintro e w' ⟨rfl, rfl⟩))
      go_loopw [6, 7] (fun o i wr => ∃ (k : Nat) (ys : List Int), k ≤ rs.length ∧ i = .int .i64 k ∧ wr.ownsRow w.heap.size 2 1 o ys.length (ys.map (Value.int .i64)) ∧ Hid (ys = daysOf c (rs.take k)) ∧ Below w.heap.size w wr) (fun _ i _ => rs.length - (intOf i).toNat)
      case atStart => exact ⟨0, [], Nat.zero_le _, rfl, made0 _ _ _ _ b1.size, Lib.hid rfl, b1.alloc b1.size _⟩
      case round =>
        obtain ⟨k, ys, hk, rfl, hown, hys, hb⟩ := hrel
        obtain ⟨O, q, rfl⟩ := own_form hown
        have hyl : ys.length ≤ k := by rw [hys.out]; have := daysOf_len c (rs.take k); rw [List.length_take] at this; omega
        by_cases hlt : k < rs.length
        · obtain ⟨b, off, r, rfl, hl, hr, h4⟩ := (h.row.below hb).four hlt
          have c0 := h4.c0; have c1 := h4.c1; have c2 := h4.c2; have c3 := h4.c3
          have HS := Lib.hid (daysOf_snoc c (rs.take k) r)
          rw [← snoc_of hr.out, ← hys.out] at HS
          clear h h4 hr hys
          rcases Bool.eq_false_or_eq_true (r.c == c) with he | he
          · have HS2 : Hid (ys ++ [r.day] = daysOf c (rs.take (k + 1))) := Lib.hid (by rw [HS.out, if_pos he])
            clear HS
            go_wp2_with (at_builtin; refine wpList_push _ rfl (.tmp 30) (.tmp 36) 50 rfl w.heap.size 2 i0 _ 1 8 Try.underlying50 hi hz0 hz1 hz2 rfl (by decide) _ ys.length _ rfl hown [.int .i64 r.day] rfl (by simp [Value.oneCell']) rfl (by unfold maxLen; omega) (by omega) hb.size ?_; intro v' w' hown' hb')
            go_roundw
            case rel => exact ⟨k + 1, ys ++ [r.day], by omega, by go_num, by simpa using hown', HS2, hb.trans hb'⟩
            case measure => simp [intOf]; omega
          · have HS2 : Hid (ys = daysOf c (rs.take (k + 1))) := Lib.hid (by rw [HS.out, if_neg (by simp [he]), List.append_nil])
            clear HS
            go_wp2_with fail
            go_roundw
            case rel => exact ⟨k + 1, ys, by omega, by go_num, hown, HS2, hb⟩
            case measure => simp [intOf]; omega
        · have HY : Hid (ys = daysOf c rs) := Lib.hid (by rw [hys.out, take_all hk hlt])
          clear hys h
          by_cases h0 : ys = []
          · subst h0
            have E := Lib.hid (HE0.out HY.out.symm)
            go_wp2_with fail
            go_ret2
            rw [E.out]
            exact ⟨none, 0, rfl, Oi.nil _ _, hb⟩
          · have E := Lib.hid (HE1.out (by rw [← HY.out]; exact h0))
            have hpos : ((ys.length : Int) == 0) = false := by rw [beq_eq_false_iff_ne]; have : 0 < ys.length := List.length_pos_iff.2 h0; omega
            clear h0
            go_wp2_with fail
            go_ret2
            rw [E.out, ← HY.out]
            exact ⟨O, q, rfl, hown, hb⟩
    · have E := Lib.hid (daysR_no (rs := rs) (c := c) (.inr hcd))
      have HT := Lib.hid (tabS_q (c := d) h ht)
      clear ht
      go_enter Try.func26, Try.ntmps26
      go_wp2_with (first | (go_at_call 54; refine HT.out.mono ?_; rintro e w1 ⟨rfl, b1⟩) | (go_at_call 31; refine (codeS_q (by assumption) hc _).mono ?_; rintro e w' ⟨rfl, rfl⟩))
      go_ret2
      rw [E.out]
      exact ⟨none, 0, rfl, Oi.nil _ _, b1⟩
  · have E := Lib.hid (daysR_no (rs := rs) (c := c) (.inl ht))
    have HT := Lib.hid (tabS_q (c := d) h ht)
    clear ht
    go_enter Try.func26, Try.ntmps26
    go_wp2_with (first | (go_at_call 54; refine HT.out.mono ?_; rintro e w1 ⟨rfl, b1⟩))
    go_ret2
    rw [E.out]
    exact ⟨none, 0, rfl, Oi.nil _ _, b1⟩
end Go.Proofs.Ytaehkkcaoniphaa
