/- Texts of days in plain lists; impl.dayText. (out of XVtx) -/
import Derived.Test.YtifioecofeojpaaGreatDoorDtexi
import Derived.Test.YtifioecofeojpaaGreatDoorMDate
import Derived.Test.YtifioecofeojpaaGreatDoorDof
import Derived.Test.YtifioecofeojpaaGreatDoorMCal
namespace Go.Proofs.YtifioecofeojpaaGreatDoor
open Go.ChangeShapes Go.WideShapes Go.ChangeAt Go.RowKit
set_option linter.unusedVariables false

/-- The date with a number. -/
def DIs (n : Int) (Y M D : Nat) : Prop := okd Y M D ∧ numd Y M D = n
theorem date_ex : ∀ n : Nat, n ≤ 36524 → ∃ Y M D : Nat, DIs n Y M D := by
  intro n
  induction n with
  | zero => intro _; exact ⟨1970, 1, 1, by unfold okd dlen; decide, rfl⟩
  | succ n ih =>
    intro hn
    obtain ⟨Y, M, D, ⟨y0, y1, m0, m1, d0, d1⟩, e⟩ := ih (by omega)
    have e2 : start Y + cum Y M + D - 1 = n := e
    by_cases hd : (D : Int) < dlen Y M
    · exact ⟨Y, M, D + 1, ⟨y0, y1, m0, m1, by omega, by omega⟩, by show start Y + cum Y M + ((D + 1 : Nat) : Int) - 1 = _; omega⟩
    · have hd2 : (D : Int) = dlen Y M := by omega
      by_cases hm : M < 12
      · have hc := cum_step (y := (Y : Int)) (m := (M : Int)) m0 (by omega)
        have hl := dlen_in (Y : Int) ((M : Int) + 1)
        refine ⟨Y, M + 1, 1, ⟨y0, y1, by omega, by omega, by omega, ?_⟩, ?_⟩
        · show (1 : Int) ≤ dlen Y ((M + 1 : Nat) : Int)
          rw [show ((M + 1 : Nat) : Int) = (M : Int) + 1 by omega]; omega
        · show start Y + cum Y ((M + 1 : Nat) : Int) + 1 - 1 = _
          rw [show ((M + 1 : Nat) : Int) = (M : Int) + 1 by omega, hc]; omega
      · obtain rfl : M = 12 := by omega
        have hc := cum_end (Y : Int) y0
        have h31 : dlen (Y : Int) ((12 : Nat) : Int) = 31 := by unfold dlen; simp
        rw [h31] at hd2
        have hs : start ((Y : Int) + 1) = n + 1 := by
          have e3 : start Y + cum Y 12 + D - 1 = n := e2
          omega
        have hy : (Y : Int) < 2069 := by
          rcases (by omega : (Y : Int) < 2069 ∨ 2069 ≤ (Y : Int)) with h | h
          · exact h
          · have : (Y : Int) = 2069 := by omega
            rw [this] at hs
            have h9 : start ((2069 : Int) + 1) = 36525 := rfl
            omega
        refine ⟨Y + 1, 1, 1, ⟨by omega, by omega, by omega, by omega, by omega, ?_⟩, ?_⟩
        · have := dlen_in ((Y + 1 : Nat) : Int) 1; show (1 : Int) ≤ dlen _ 1; omega
        · show start ((Y + 1 : Nat) : Int) + cum ((Y + 1 : Nat) : Int) 1 + 1 - 1 = _
          rw [show ((Y + 1 : Nat) : Int) = (Y : Int) + 1 by omega, cum_1, hs]; omega
theorem date_exI {n : Int} (h : inr n 0 36524 = true) : ∃ Y M D : Nat, DIs n Y M D := by
  obtain ⟨h0, h1⟩ := inr_iff.1 h
  obtain ⟨m, rfl⟩ := Int.eq_ofNat_of_zero_le h0
  exact date_ex m (by omega)
theorem DIs.one {n : Int} {Y M D Y' M' D' : Nat} (h : DIs n Y M D) (h' : DIs n Y' M' D') : Y = Y' ∧ M = M' ∧ D = D' := by
  obtain ⟨a, b, c⟩ := numd_inj h.1 h'.1 (h.2.trans h'.2.symm)
  omega
theorem DIs.bd {n : Int} {Y M D : Nat} (h : DIs n Y M D) : 1970 ≤ Y ∧ Y ≤ 2069 ∧ M < 100 ∧ D < 100 := by
  obtain ⟨⟨y0, y1, m0, m1, d0, d1⟩, _⟩ := h
  have := dlen_in (Y : Int) (M : Int)
  omega
open Classical in
/-- The text of the date with a number. -/
noncomputable def dayT (n : Int) : List UInt8 := if h : ∃ x : Nat × Nat × Nat, DIs n x.1 x.2.1 x.2.2 then dtext h.choose.1 h.choose.2.1 h.choose.2.2 else []
theorem dayT_of {n : Int} {Y M D : Nat} (h : DIs n Y M D) : dayT n = dtext Y M D := by
  have hx : ∃ x : Nat × Nat × Nat, DIs n x.1 x.2.1 x.2.2 := ⟨(Y, M, D), h⟩
  unfold dayT
  rw [dif_pos hx]
  obtain ⟨a, b, c⟩ := hx.choose_spec.one h
  rw [a, b, c]
theorem dtext_le {Y M D : Nat} (h : Y ≤ 2069) : (dtext Y M D).length ≤ 25 := by
  have := dec_len 18 Y (by omega)
  unfold dtext
  simp [two]; omega
theorem dayT_le (n : Int) : (dayT n).length ≤ 25 := by
  unfold dayT
  split
  · rename_i h
    exact dtext_le h.choose_spec.bd.2.1
  · simp
/-- impl.dayText. -/
theorem dayText_i (n : Int) (w : World) (ht : Tab w) (h : inr n 0 36524 = true) : Calls Tryz.prog 44 #[.int .i64 n] w (Gives1 w (dayT n)) := by
  obtain ⟨Y, M, D, hdi⟩ := date_exI h
  have ET := Lib.hid (dayT_of hdi)
  have HT := Lib.hid (fun W hT => datetext_i Y M D W hT)
  rw [dtR_ok (okD_iff.2 hdi.1)] at HT
  have HD := Lib.hid (fun (y m d c : Int) (k : DN n y m d c) => ((by
    rcases k with ⟨_, k2, k3, k4⟩ | ⟨k1, _⟩
    · obtain ⟨a, b, e⟩ := numd_inj k3 hdi.1 (k4.trans hdi.2.symm)
      exact ⟨a, b, e, k2⟩
    · rw [h] at k1; cases k1) : y = (Y : Int) ∧ m = (M : Int) ∧ d = (D : Int) ∧ c = 0))
  clear hdi h
  go_enter Tryz.func44, Tryz.ntmps44
  go_wp2_with fail
  refine (dateOf_i n _).mono ?_
  rintro e w1 ⟨y, m, d, c, rfl, b1, k⟩
  obtain ⟨rfl, rfl, rfl, rfl⟩ := HD.out y m d c k
  have bX := b1.alloc b1.size (.cells #[.int .i64 Y, .int .i64 M, .int .i64 D] 60)
  have HTX := Lib.hid (HT.out _ (ht.below bX))
  have HBX := Lib.hid bX
  clear k bX HT
  go_wp2_with fail
  refine HTX.out.mono ?_
  rintro e w2 ⟨rfl, b2⟩
  go_wp2_with fail
  go_ret
  exact ⟨by rw [ET.out] <;> rfl, belowGo HBX.out b2⟩
end Go.Proofs.YtifioecofeojpaaGreatDoor
