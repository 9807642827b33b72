/- impl.YearsOf. (by gen_chi.py) -/
import Derived.Test.YtpdkgjmppknbpaaEdf
namespace Go.Proofs.Ytpdkgjmppknbpaa
open Go.ChangeShapes Go.WideShapes Go.ChangeAt Go.RowKit
set_option linter.unusedVariables false

theorem made0y (w : World) (base : Nat) (e : TypeId) (size : Nat) (hb : base ≤ w.heap.size) : (w.alloc (Obj.cells #[] e)).ownsRow base e size (.slice (some ⟨w.heap.size, 0, none⟩) 0 0) 0 [] :=
  World.ownsRow_made w #[] 0 hb (by decide) (by simp)
set_option maxRecDepth 100000 in
set_option maxHeartbeats 4000000 in
theorem yo_i (A : Option Addr) (d : Nat) (es : List Edn) (s : List UInt8) (w : World) (h : LTbl w A es) :
    Calls Try.prog 43 #[.slice A es.length d, .string ⟨s.toArray⟩] w (NewIntsC w (yoR es s)) := by
  obtain ⟨i0, hi, hz0, hz1, hz2⟩ := info_parts intInfo
  rcases Bool.eq_false_or_eq_true (lbB es) with hr | hr
  · have HT := Lib.hid (lbI_q (c := d) h hr)
    have E := Lib.hid (@yoR_ok es s hr)
    have hn := h.len
    clear hr
    go_enter Try.func43, Try.ntmps43
    go_wp2_with (go_at_call 15; refine HT.out.mono ?_; rintro e w1 ⟨rfl, b1⟩)
    go_loopw [6, 15] (fun o i wr => ∃ (k : Nat) (ys : List Int), k ≤ es.length ∧ i = .int .i64 k ∧ wr.ownsRow w.heap.size 2 1 o ys.length (ys.map (Value.int .i64)) ∧ Hid (ys = yrsE (es.take k) s) ∧ Below w.heap.size w wr) (fun _ i _ => es.length - (intOf i).toNat)
    case atStart => exact ⟨0, [], Nat.zero_le _, rfl, made0y _ _ _ _ b1.size, Lib.hid rfl, b1.alloc b1.size _⟩
    case round =>
      obtain ⟨k, ys, hk, rfl, hown, hys, hb⟩ := hrel
      obtain ⟨O, q, rfl⟩ := own_form hown
      have hyl : ys.length ≤ k := by rw [hys.out]; have := yrsE_len (es.take k) s; rw [List.length_take] at this; omega
      by_cases hlt : k < es.length
      · obtain ⟨b, off, e, a, cp, rfl, hl, he, c0, c1, hct⟩ := (h.below hb).at hlt
        have k0 := KeepN.new wr e.y a e.cs.length cp
        have HF := Lib.hid (place_iC a cp e.cs s _ (hct.row.below k0.bel) (by have := hct.len; omega))
        have HS := Lib.hid (yrsE_snoc (es.take k) e s)
        rw [← snoc_of he.out, ← hys.out] at HS
        have hh : Hid (hasE s e = decide (0 ≤ fndIC e.cs s)) := Lib.hid rfl
        generalize fndIC e.cs s = f at *
        have HO1 := Lib.hid (own_below hown k0.bel)
        have HB1 := Lib.hid (belowGo hb k0.bel)
        have KC := Lib.hid k0
        have r1 := k0.c1
        clear h hct he hys k0 hown
        by_cases hf : 0 ≤ f
        · have HS2 : Hid (ys ++ [e.y] = yrsE (es.take (k + 1)) s) := Lib.hid (by rw [HS.out, if_pos (by rw [hh.out]; exact decide_eq_true hf)])
          clear HS hh
          go_wp2_with fail
          refine HF.out.mono ?_
          rintro e' w2 ⟨rfl, b2⟩
          have hown2 := own_below HO1.out b2
          have hb2 := belowGo HB1.out b2
          have s0 := (KC.out.step b2).c0
          clear r1 b2 HF HO1 HB1 KC
          go_wp2_with (at_builtin; refine wpList_push _ rfl (.tmp 24) (.tmp 27) 65 rfl w.heap.size 2 i0 _ 1 8 Try.underlying65 hi hz0 hz1 hz2 rfl (by decide) _ ys.length _ rfl hown2 [.int .i64 e.y] rfl (by simp [Value.oneCell']) rfl (by unfold maxLen; omega) (by omega) hb2.size ?_; intro v' w' hown' hb')
          go_roundw
          case rel => exact ⟨k + 1, ys ++ [e.y], by omega, by go_num, by simpa using hown', HS2, hb2.trans hb'⟩
          case measure => simp [intOf]; omega
        · have HS2 : Hid (ys = yrsE (es.take (k + 1)) s) := Lib.hid (by rw [HS.out, if_neg (by rw [hh.out]; simp; omega)])
          have hf2 : f < 0 := by omega
          clear HS hh
          go_wp2_with fail
          refine HF.out.mono ?_
          rintro e' w2 ⟨rfl, b2⟩
          have hown2 := own_below HO1.out b2
          have hb2 := belowGo HB1.out b2
          clear r1 b2 HF HO1 HB1 KC
          go_wp2_with fail
          go_roundw
          case rel => exact ⟨k + 1, ys, by omega, by go_num, hown2, HS2, hb2⟩
          case measure => simp [intOf]; omega
      · have HY : Hid (ys = yrsE es s) := Lib.hid (by rw [hys.out, take_all hk hlt])
        clear hys h
        go_wp2_with fail
        go_ret2
        rw [E.out, ← HY.out]
        exact ⟨O, q, rfl, hown, hb⟩
  · have E := Lib.hid (@yoR_no es s hr)
    have HT := Lib.hid (lbI_q (c := d) h hr)
    clear hr
    go_enter Try.func43, Try.ntmps43
    go_wp2_with (go_at_call 15; refine HT.out.mono ?_; rintro e w1 ⟨rfl, b1⟩)
    go_ret2
    rw [E.out]
    exact ⟨none, 0, rfl, Oi.nil _ _, b1⟩
end Go.Proofs.Ytpdkgjmppknbpaa
