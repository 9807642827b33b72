/- spec.l03Rate -/
import Derived.Test.YtaehkkcaoniphaaDwr
namespace Go.Proofs.Ytaehkkcaoniphaa
open Go.ChangeShapes Go.WideShapes Go.ChangeAt Go.RowKit
set_option linter.unusedVariables false

theorem rateL_snoc {c : List UInt8} (hc : c ≠ xdr) (day : Int) (rs : List Rt) (r : Rt) : rateL c day (rs ++ [r]) = if r.c = c ∧ r.day ≤ day then (r.num, r.den) else rateL c day rs := by
  unfold rateL
  rw [if_neg hc, if_neg hc, lastOn_snoc]
  by_cases e : r.c = c ∧ r.day ≤ day
  · rw [if_pos e, if_pos e]
  · rw [if_neg e, if_neg e]
set_option maxRecDepth 100000 in
set_option maxHeartbeats 4000000 in
theorem l03Rate_s (A : Option Addr) (d : Nat) (rs : List Rt) (c : List UInt8) (day : Int) (w : World) (h : Tbl w A rs) :
    Calls Try.prog 57 #[.slice A rs.length d, .string ⟨c.toArray⟩, .int .i64 day] w fun e w' => e = .returned (.tuple #[.int .i64 (rateL c day rs).1, .int .i64 (rateL c day rs).2, .bool (decide (0 < (rateL c day rs).2))]) ∧ w = w' := by
  rcases Bool.eq_false_or_eq_true (c == xdr) with hx | hx
  · have E : rateL c day rs = (1, 1) := by unfold rateL; rw [if_pos (by simpa using hx)]
    rw [E]
    have hx2 : (c == [88, 68, 82]) = true := hx
    go_enter Try.func57, Try.ntmps57
    go_wp2_with fail
    go_ret3
    exact ⟨rfl, rfl⟩
  · have hx2 : (c == [88, 68, 82]) = false := hx
    have hne : c ≠ xdr := by simpa using hx
    have HS := Lib.hid (fun (k : Nat) (r : Rt) (hr : rs[k]? = some r) => (by rw [snoc_of hr, rateL_snoc hne] : rateL c day (rs.take (k + 1)) = if r.c = c ∧ r.day ≤ day then (r.num, r.den) else rateL c day (rs.take k)))
    have h0 : rateL c day (rs.take 0) = (0, 0) := by unfold rateL; rw [if_neg hne]; rfl
    have hR := h.row
    have hn := h.len
    clear hne hx h
    go_enter Try.func57, Try.ntmps57
    go_wp2_with fail
    go_loop [9, 10, 11] (fun a b i => ∃ (k : Nat) (n m : Int), k ≤ rs.length ∧ i = .int .i64 k ∧ a = .int .i64 n ∧ b = .int .i64 m ∧ Hid (rateL c day (rs.take k) = (n, m))) (fun _ _ i => rs.length - (intOf i).toNat)
    case atStart => exact ⟨0, 0, 0, Nat.zero_le _, rfl, rfl, rfl, Lib.hid h0⟩
    case round =>
      obtain ⟨k, n, m, hk, rfl, rfl, rfl, hv⟩ := hrel
      by_cases hlt : k < rs.length
      · obtain ⟨b, off, r, rfl, hl, hr, h4⟩ := hR.four hlt
        have c0 := h4.c0; have c1 := h4.c1; have c2 := h4.c2; have c3 := h4.c3
        have HS := HS.out k r hr.out
        rw [hv.out] at HS
        rcases Bool.eq_false_or_eq_true (r.c == c) with he | he
        · by_cases hdy : r.day ≤ day
          · have hd : decide (r.day ≤ day) = true := by simpa using hdy
            have E := Lib.hid (HS.trans (if_pos ⟨by simpa using he, hdy⟩))
            clear HS h4 hR hr hv h0
            go_wp2_with fail
            go_round
            case rel => exact ⟨k + 1, _, _, by omega, by go_num, rfl, rfl, E⟩
            case measure => simp [intOf]; omega
          · have hd : decide (r.day ≤ day) = false := by simpa using hdy
            have E := Lib.hid (HS.trans (if_neg (fun h => hdy h.2)))
            clear HS h4 hR hr hv h0
            go_wp2_with fail
            go_round
            case rel => exact ⟨k + 1, _, _, by omega, by go_num, rfl, rfl, E⟩
            case measure => simp [intOf]; omega
        · have E := Lib.hid (HS.trans (if_neg (fun h => by rw [h.1] at he; simp at he)))
          clear HS h4 hR hr hv h0
          go_wp2_with fail
          go_round
          case rel => exact ⟨k + 1, _, _, by omega, by go_num, rfl, rfl, E⟩
          case measure => simp [intOf]; omega
      · have E : Hid (rateL c day rs = (n, m)) := Lib.hid (by have := hv.out; rwa [take_all hk hlt] at this)
        clear hv hR HS h0
        go_wp2_with fail
        go_ret3
        rw [E.out]
        exact ⟨rfl, rfl⟩
end Go.Proofs.Ytaehkkcaoniphaa
