import Derived.Test.YtklhcofonkmiiaaGreatDoorDtexi
import Derived.Test.YtklhcofonkmiiaaGreatDoorMDate
import Derived.Test.YtklhcofonkmiiaaGreatDoorDof
import Derived.Test.YtklhcofonkmiiaaGreatDoorMSto
import Derived.Lib.Join
/- Texts of voyages in plain lists; impl.dayText. -/
namespace Go.Proofs.YtklhcofonkmiiaaGreatDoor
open Go.ChangeShapes Go.WideShapes Go.ChangeAt Go.RowKit
set_option linter.unusedVariables false

/-- The date with a number. -/
def DIs (n : Int) (Y M D : Nat) : Prop := okd Y M D ∧ numd Y M D = n
theorem date_ex : ∀ n : Nat, n ≤ 36524 → ∃ Y M D : Nat, DIs n Y M D := by
  intro n
  induction n with
  | zero => intro _; exact ⟨1970, 1, 1, by unfold okd dlen; decide, rfl⟩
  | succ n ih =>
    intro hn
    obtain ⟨Y, M, D, ⟨y0, y1, m0, m1, d0, d1⟩, e⟩ := ih (by omega)
    have e2 : start Y + cum Y M + D - 1 = n := e
    by_cases hd : (D : Int) < dlen Y M
    · exact ⟨Y, M, D + 1, ⟨y0, y1, m0, m1, by omega, by omega⟩, by show start Y + cum Y M + ((D + 1 : Nat) : Int) - 1 = _; omega⟩
    · have hd2 : (D : Int) = dlen Y M := by omega
      by_cases hm : M < 12
      · have hc := cum_step (y := (Y : Int)) (m := (M : Int)) m0 (by omega)
        have hl := dlen_in (Y : Int) ((M : Int) + 1)
        refine ⟨Y, M + 1, 1, ⟨y0, y1, by omega, by omega, by omega, ?_⟩, ?_⟩
        · show (1 : Int) ≤ dlen Y ((M + 1 : Nat) : Int)
          rw [show ((M + 1 : Nat) : Int) = (M : Int) + 1 by omega]; omega
        · show start Y + cum Y ((M + 1 : Nat) : Int) + 1 - 1 = _
          rw [show ((M + 1 : Nat) : Int) = (M : Int) + 1 by omega, hc]; omega
      · obtain rfl : M = 12 := by omega
        have hc := cum_end (Y : Int) y0
        have h31 : dlen (Y : Int) ((12 : Nat) : Int) = 31 := by unfold dlen; simp
        rw [h31] at hd2
        have hs : start ((Y : Int) + 1) = n + 1 := by
          have e3 : start Y + cum Y 12 + D - 1 = n := e2
          omega
        have hy : (Y : Int) < 2069 := by
          rcases (by omega : (Y : Int) < 2069 ∨ 2069 ≤ (Y : Int)) with h | h
          · exact h
          · have : (Y : Int) = 2069 := by omega
            rw [this] at hs
            have h9 : start ((2069 : Int) + 1) = 36525 := rfl
            omega
        refine ⟨Y + 1, 1, 1, ⟨by omega, by omega, by omega, by omega, by omega, ?_⟩, ?_⟩
        · have := dlen_in ((Y + 1 : Nat) : Int) 1; show (1 : Int) ≤ dlen _ 1; omega
        · show start ((Y + 1 : Nat) : Int) + cum ((Y + 1 : Nat) : Int) 1 + 1 - 1 = _
          rw [show ((Y + 1 : Nat) : Int) = (Y : Int) + 1 by omega, cum_1, hs]; omega
theorem date_exI {n : Int} (h : inr n 0 36524 = true) : ∃ Y M D : Nat, DIs n Y M D := by
  obtain ⟨h0, h1⟩ := inr_iff.1 h
  obtain ⟨m, rfl⟩ := Int.eq_ofNat_of_zero_le h0
  exact date_ex m (by omega)
theorem DIs.one {n : Int} {Y M D Y' M' D' : Nat} (h : DIs n Y M D) (h' : DIs n Y' M' D') : Y = Y' ∧ M = M' ∧ D = D' := by
  obtain ⟨a, b, c⟩ := numd_inj h.1 h'.1 (h.2.trans h'.2.symm)
  omega
theorem DIs.bd {n : Int} {Y M D : Nat} (h : DIs n Y M D) : 1970 ≤ Y ∧ Y ≤ 2069 ∧ M < 100 ∧ D < 100 := by
  obtain ⟨⟨y0, y1, m0, m1, d0, d1⟩, _⟩ := h
  have := dlen_in (Y : Int) (M : Int)
  omega
open Classical in
/-- The text of the date with a number. -/
noncomputable def dayT (n : Int) : List UInt8 := if h : ∃ x : Nat × Nat × Nat, DIs n x.1 x.2.1 x.2.2 then dtext h.choose.1 h.choose.2.1 h.choose.2.2 else []
theorem dayT_of {n : Int} {Y M D : Nat} (h : DIs n Y M D) : dayT n = dtext Y M D := by
  have hx : ∃ x : Nat × Nat × Nat, DIs n x.1 x.2.1 x.2.2 := ⟨(Y, M, D), h⟩
  unfold dayT
  rw [dif_pos hx]
  obtain ⟨a, b, c⟩ := hx.choose_spec.one h
  rw [a, b, c]
theorem dtext_le {Y M D : Nat} (h : Y ≤ 2069) : (dtext Y M D).length ≤ 25 := by
  have := dec_len 18 Y (by omega)
  unfold dtext
  simp [two]; omega
theorem dayT_le (n : Int) : (dayT n).length ≤ 25 := by
  unfold dayT
  split
  · rename_i h
    exact dtext_le h.choose_spec.bd.2.1
  · simp
/-- The text of a stop. -/
noncomputable def stxt (r : Sto) : List UInt8 := r.p ++ 64 :: (dayT r.i ++ 126 :: dayT r.o)
theorem stxt_le {r : Sto} (h : r.ok = true) : (stxt r).length ≤ 60 := by
  have := (pcode_iff.1 (sok h).1).1.2
  have a := dayT_le r.i
  have b := dayT_le r.o
  unfold stxt
  simp only [List.length_append, List.length_cons]; omega
/-- The text of a voyage. -/
noncomputable def vtxt (rs : List Sto) : List UInt8 := Lib.join (rs.map stxt) [32]
theorem vtxt_nil : vtxt [] = [] := rfl
theorem vtxt_one (r : Sto) : vtxt [r] = stxt r := Lib.join_one _ _
theorem vtxt_snoc {rs : List Sto} (h : rs ≠ []) (r : Sto) : vtxt (rs ++ [r]) = vtxt rs ++ 32 :: stxt r := by
  match rs, h with
  | a :: l, _ =>
    unfold vtxt
    rw [List.cons_append, List.map_cons, List.map_cons, Lib.join_cons, Lib.join_cons, List.map_append]
    unfold Lib.joinTail
    simp
theorem vtxt_leK {rs : List Sto} (h : ∀ r ∈ rs, r.ok = true) : ∀ k, k ≤ rs.length → (vtxt (rs.take k)).length ≤ 61 * k := by
  intro k
  induction k with
  | zero => intro _; rw [List.take_zero, vtxt_nil]; simp
  | succ k ih =>
    intro hk
    have hr := List.getElem?_eq_getElem (l := rs) (i := k) (by omega)
    have h1 := ih (by omega)
    have h2 := stxt_le (h _ (List.mem_of_getElem? hr))
    rw [snoc_of hr]
    by_cases hl : rs.take k = []
    · rw [hl, List.nil_append, vtxt_one]; omega
    · rw [vtxt_snoc hl]; simp only [List.length_append, List.length_cons]; omega
theorem vtxt_le {rs : List Sto} (h : ∀ r ∈ rs, r.ok = true) : (vtxt rs).length ≤ 61 * rs.length := by
  have := vtxt_leK h rs.length (Nat.le_refl _)
  rwa [List.take_length] at this
noncomputable def voyT (rs : List Sto) : List UInt8 × Int := if voyB rs = true then (vtxt rs, 0) else ([], 1)
theorem voyT_ok {rs : List Sto} (h : voyB rs = true) : voyT rs = (vtxt rs, 0) := by unfold voyT; rw [if_pos h]
theorem voyT_no {rs : List Sto} (h : voyB rs = false) : voyT rs = ([], 1) := by unfold voyT; rw [if_neg (by rw [h]; exact Bool.false_ne_true)]
theorem voy_all_ok {rs : List Sto} (h : voyB rs = true) : ∀ r ∈ rs, r.ok = true := fun r hr => by
  obtain ⟨i, hi⟩ := List.getElem?_of_mem hr
  exact vok (voy_iff.1 h).1 hi
/-- impl.dayText. -/
theorem dayText_i (n : Int) (w : World) (ht : Tab w) (h : inr n 0 36524 = true) : Calls Tryz.prog 19 #[.int .i64 n] w (Gives1 w (dayT n)) := by
  obtain ⟨Y, M, D, hdi⟩ := date_exI h
  have ET := Lib.hid (dayT_of hdi)
  have HT := Lib.hid (fun W hT => datetext_i Y M D W hT)
  rw [dtR_ok (okD_iff.2 hdi.1)] at HT
  have HD := Lib.hid (fun (y m d c : Int) (k : DN n y m d c) => ((by
    rcases k with ⟨_, k2, k3, k4⟩ | ⟨k1, _⟩
    · obtain ⟨a, b, e⟩ := numd_inj k3 hdi.1 (k4.trans hdi.2.symm)
      exact ⟨a, b, e, k2⟩
    · rw [h] at k1; cases k1) : y = (Y : Int) ∧ m = (M : Int) ∧ d = (D : Int) ∧ c = 0))
  clear hdi h
  go_enter Tryz.func19, Tryz.ntmps19
  go_wp2_with fail
  refine (dateOf_i n _).mono ?_
  rintro e w1 ⟨y, m, d, c, rfl, b1, k⟩
  obtain ⟨rfl, rfl, rfl, rfl⟩ := HD.out y m d c k
  have bX := b1.alloc b1.size (.cells #[.int .i64 Y, .int .i64 M, .int .i64 D] 50)
  have HTX := Lib.hid (HT.out _ (ht.below bX))
  have HBX := Lib.hid bX
  clear k bX HT
  go_wp2_with fail
  refine HTX.out.mono ?_
  rintro e w2 ⟨rfl, b2⟩
  go_wp2_with fail
  go_ret
  exact ⟨by rw [ET.out] <;> rfl, belowGo HBX.out b2⟩
end Go.Proofs.YtklhcofonkmiiaaGreatDoor

/- spec.l07Text, spec.VoyageText. (by gen_vts.py) -/
namespace Go.Proofs.YtklhcofonkmiiaaGreatDoor
open Go.ChangeShapes Go.WideShapes Go.ChangeAt Go.RowKit
set_option linter.unusedVariables false

theorem date_y {S : World → Prop} {n : Int} {Y M D : Nat} (h : DIs n Y M D) (y : Sub S) (hS : ∀ w', Below y.w.heap.size y.w w' → S w') : Calls Tryz.prog 46 #[.int .i64 n] y.w fun e w' => e = .returned (.agg #[.int .i64 Y, .int .i64 M, .int .i64 D]) ∧ ∃ z : Sub S, w' = z.w := by
  have hn := numd_in h.1
  rw [h.2] at hn
  refine (date_s n y.w hn.1 hn.2).mono ?_
  rintro e w' ⟨a, b, c, rfl, h1, h2, h3⟩
  obtain ⟨rfl, rfl, rfl⟩ := numd_inj h1 h.1 (h2.trans h.2.symm)
  exact ⟨rfl, ⟨w', hS w' h3⟩, rfl⟩
def TB (Y M D : Nat) : Prop := 1970 ≤ Y ∧ Y ≤ 2069 ∧ M < 100 ∧ D < 100
theorem text_y {S : World → Prop} {Y M D : Nat} (h : TB Y M D) (y : Sub S) (hS : ∀ w', Below y.w.heap.size y.w w' → S w') : Calls Tryz.prog 45 #[.agg #[.int .i64 Y, .int .i64 M, .int .i64 D]] y.w fun e w' => e = .returned (.string ⟨(dtext Y M D).toArray⟩) ∧ ∃ z : Sub S, w' = z.w := by
  obtain ⟨a, b, c, d⟩ := h
  exact (ltext_s Y M D (by omega) c d y.w).mono fun e w' k => ⟨k.1, ⟨w', hS w' k.2⟩, rfl⟩
set_option maxRecDepth 100000 in
set_option maxHeartbeats 4000000 in
theorem ltextV_s (A : Option Addr) (c : Nat) (ps : List Sto) (w : World) (hR : StoR w A ps) (hok : ∀ p ∈ ps, p.ok = true) (hn : ps.length ≤ 11) :
    Calls Tryz.prog 22 #[.slice A ps.length c] w (Gives1 w (vtxt ps)) := by
  have HR := Lib.hid hR
  have HOK := Lib.hid (fun (k : Nat) (r : Sto) (hr : ps[k]? = some r) => hok r (List.mem_of_getElem? hr))
  have HTL := Lib.hid (vtxt_leK hok)
  clear hR hok
  go_enter Tryz.func22, Tryz.ntmps22
  go_wp2_with fail
  go_loopw [3, 4] (fun o i wr => ∃ k : Nat, k ≤ ps.length ∧ i = .int .i64 k ∧ o = .string ⟨(vtxt (ps.take k)).toArray⟩ ∧ Below w.heap.size w wr) (fun _ i _ => ps.length - (intOf i).toNat)
  case atStart => exact ⟨0, Nat.zero_le _, rfl, rfl, Below.refl _ _⟩
  case round =>
    obtain ⟨k, hk, rfl, rfl, hb⟩ := hrel
    by_cases hlt : k < ps.length
    · obtain ⟨b, off, p, rfl, hl, hp, h4⟩ := (HR.out.below hb).at hlt
      obtain ⟨hpc, ⟨i0, i1⟩, ⟨o0, o1⟩, hio⟩ := sok (HOK.out k p hp.out)
      have lc : p.p.length ≤ 6 := (pcode_iff.1 hpc).1.2
      obtain ⟨Y1, M1, D1, hd1⟩ := date_exI (inr_iff.2 ⟨i0, i1⟩)
      obtain ⟨Y2, M2, D2, hd2⟩ := date_exI (inr_iff.2 ⟨o0, o1⟩)
      have ld1 := dtext_le (M := M1) (D := D1) hd1.bd.2.1
      have ld2 := dtext_le (M := M2) (D := D2) hd2.bd.2.1
      have q0 : ∀ y : Sub (Bel wr), y.w.cell? ⟨b, off + k * 3, none⟩ = some (.string ⟨p.p.toArray⟩) := fun y => (h4.below hl y.h).c0
      have q1 : ∀ y : Sub (Bel wr), y.w.cell? ⟨b, off + k * 3 + 1, none⟩ = some (.int .i64 p.i) := fun y => (h4.below hl y.h).c1
      have q2 : ∀ y : Sub (Bel wr), y.w.cell? ⟨b, off + k * 3 + 2, none⟩ = some (.int .i64 p.o) := fun y => (h4.below hl y.h).c2
      have HB := Lib.hid (fun y : Sub (Bel wr) => (belowGo hb y.h : Below w.heap.size w y.w))
      have hw : True := trivial
      clear hpc hio i0 i1 o0 o1
      by_cases hk0 : k = 0
      · obtain ⟨o2, ho⟩ : ∃ o2 : List UInt8, o2 = vtxt (ps.take k) := ⟨_, rfl⟩
        have HO2 : Hid (o2 = vtxt (ps.take k) ++ []) := Lib.hid (by rw [ho, List.append_nil])
        have HNX : Hid (vtxt (ps.take (k + 1)) = o2 ++ stxt p) := Lib.hid (by rw [snoc_of hp.out, ho, hk0, List.take_zero, List.nil_append, vtxt_one]; rfl)
        have hz : decide (0 < k) = false := by rw [decide_eq_false_iff_not]; omega
        rw [← ho]
        clear ho hk0
        have hL := HTL.out k (by omega)
        have ho2 : o2.length ≤ 700 := by rw [HO2.out]; simp only [List.length_append, List.length_cons, List.length_nil]; omega
        have g1 : ¬9223372036854775807 < o2.length + p.p.length := by omega
        have g2 : ¬9223372036854775807 < o2.length + p.p.length + 1 := by omega
        have g3 : ¬9223372036854775807 < o2.length + p.p.length + 1 + (dtext Y1 M1 D1).length := by omega
        have g4 : ¬9223372036854775807 < o2.length + p.p.length + 1 + (dtext Y1 M1 D1).length + 1 := by omega
        have g5 : ¬9223372036854775807 < o2.length + p.p.length + 1 + (dtext Y1 M1 D1).length + 1 + (dtext Y2 M2 D2).length := by omega
        have HS : Hid ((⟨o2.toArray⟩ ++ ⟨p.p.toArray⟩ ++ ⟨#[64]⟩ ++ ⟨(dtext Y1 M1 D1).toArray⟩ ++ ⟨#[126]⟩ ++ ⟨(dtext Y2 M2 D2).toArray⟩ : ByteArray) = ⟨(vtxt (ps.take (k + 1))).toArray⟩) := Lib.hid (by
          rw [show (⟨#[64]⟩ : ByteArray) = ⟨[64].toArray⟩ from rfl, show (⟨#[126]⟩ : ByteArray) = ⟨[126].toArray⟩ from rfl, str_app, str_app, str_app, str_app, str_app, HNX.out]
          congr 2
          unfold stxt
          rw [dayT_of hd1, dayT_of hd2]
          simp)
        have tb1 : TB Y1 M1 D1 := hd1.bd
        have tb2 : TB Y2 M2 D2 := hd2.bd
        have HT := Lib.hid (fun (Y M D : Nat) (h : TB Y M D) (y : Sub (Bel wr)) => text_y (S := Bel wr) h y (fun w' b => Bel.step y b))
        have HD := Lib.hid (fun (n : Int) (Y M D : Nat) (h : DIs n Y M D) (y : Sub (Bel wr)) => date_y (S := Bel wr) h y (fun w' b => Bel.step y b))
        clear hp h4 hw hL HTL ho2 HO2 HNX lc ld1 ld2
        go_wp2_with fail
        refine region_held (Bel wr) (by kernel_rfl) (by kernel_rfl) (Bel.drew wr) ?_
        repeat (go_big_quiet_step ((first | rfl | (go_at_call 46; exact HD.out _ _ _ _ (by assumption) _) | (go_at_call 45; exact HT.out _ _ _ (by assumption) _))))
        refine wpQuiet_nil ?_
        rintro _ ⟨y, rfl⟩
        go_wp2_with fail
        go_roundw
        case rel => exact ⟨k + 1, by omega, by go_num, by rw [HS.out], HB.out y⟩
        case measure => simp [intOf]; omega
      · obtain ⟨o2, ho⟩ : ∃ o2 : List UInt8, o2 = vtxt (ps.take k) ++ [32] := ⟨_, rfl⟩
        have HO2 : Hid (o2 = vtxt (ps.take k) ++ [32]) := Lib.hid ho
        have hne : ps.take k ≠ [] := fun e => by
          have h9 : (ps.take k).length = k := by rw [List.length_take]; omega
          rw [e] at h9
          exact hk0 h9.symm
        have HNX : Hid (vtxt (ps.take (k + 1)) = o2 ++ stxt p) := Lib.hid (by rw [snoc_of hp.out, vtxt_snoc hne, ho]; simp)
        have hz : decide (0 < k) = true := by rw [decide_eq_true_eq]; omega
        have s0 : (⟨(vtxt (ps.take k)).toArray⟩ ++ ⟨#[32]⟩ : ByteArray) = ⟨o2.toArray⟩ := by rw [ho]; exact str_app _ [32]
        have hL0 : (vtxt (ps.take k)).length ≤ 61 * k := HTL.out k (by omega)
        have g0 : ¬9223372036854775807 < (vtxt (ps.take k)).length + 1 := by omega
        clear ho hne hk0
        have hL := HTL.out k (by omega)
        have ho2 : o2.length ≤ 700 := by rw [HO2.out]; simp only [List.length_append, List.length_cons, List.length_nil]; omega
        have g1 : ¬9223372036854775807 < o2.length + p.p.length := by omega
        have g2 : ¬9223372036854775807 < o2.length + p.p.length + 1 := by omega
        have g3 : ¬9223372036854775807 < o2.length + p.p.length + 1 + (dtext Y1 M1 D1).length := by omega
        have g4 : ¬9223372036854775807 < o2.length + p.p.length + 1 + (dtext Y1 M1 D1).length + 1 := by omega
        have g5 : ¬9223372036854775807 < o2.length + p.p.length + 1 + (dtext Y1 M1 D1).length + 1 + (dtext Y2 M2 D2).length := by omega
        have HS : Hid ((⟨o2.toArray⟩ ++ ⟨p.p.toArray⟩ ++ ⟨#[64]⟩ ++ ⟨(dtext Y1 M1 D1).toArray⟩ ++ ⟨#[126]⟩ ++ ⟨(dtext Y2 M2 D2).toArray⟩ : ByteArray) = ⟨(vtxt (ps.take (k + 1))).toArray⟩) := Lib.hid (by
          rw [show (⟨#[64]⟩ : ByteArray) = ⟨[64].toArray⟩ from rfl, show (⟨#[126]⟩ : ByteArray) = ⟨[126].toArray⟩ from rfl, str_app, str_app, str_app, str_app, str_app, HNX.out]
          congr 2
          unfold stxt
          rw [dayT_of hd1, dayT_of hd2]
          simp)
        have tb1 : TB Y1 M1 D1 := hd1.bd
        have tb2 : TB Y2 M2 D2 := hd2.bd
        have HT := Lib.hid (fun (Y M D : Nat) (h : TB Y M D) (y : Sub (Bel wr)) => text_y (S := Bel wr) h y (fun w' b => Bel.step y b))
        have HD := Lib.hid (fun (n : Int) (Y M D : Nat) (h : DIs n Y M D) (y : Sub (Bel wr)) => date_y (S := Bel wr) h y (fun w' b => Bel.step y b))
        clear hp h4 hw hL HTL ho2 HO2 HNX lc ld1 ld2
        go_wp2_with fail
        clear s0 g0 hL0
        refine region_held (Bel wr) (by kernel_rfl) (by kernel_rfl) (Bel.drew wr) ?_
        repeat (go_big_quiet_step ((first | rfl | (go_at_call 46; exact HD.out _ _ _ _ (by assumption) _) | (go_at_call 45; exact HT.out _ _ _ (by assumption) _))))
        refine wpQuiet_nil ?_
        rintro _ ⟨y, rfl⟩
        go_wp2_with fail
        go_roundw
        case rel => exact ⟨k + 1, by omega, by go_num, by rw [HS.out], HB.out y⟩
        case measure => simp [intOf]; omega
    · have E : Hid (vtxt (ps.take k) = vtxt ps) := Lib.hid (by rw [take_all hk hlt])
      clear HR HOK HTL
      go_wp2_with fail
      go_ret
      exact ⟨by rw [E.out] <;> rfl, hb⟩
theorem vtext_s (A : Option Addr) (c : Nat) (ps : List Sto) (w : World) (h : VTblC w A c ps) :
    Calls Tryz.prog 8 #[.slice A ps.length c] w (Text2 w (voyT ps)) := by
  have HR := Lib.hid h.row
  have h := h.tbl
  rcases Bool.eq_false_or_eq_true (voyB ps) with hv | hv
  · have E := Lib.hid (voyT_ok hv)
    obtain ⟨hn1, hn10⟩ := (voy_iff.1 hv).2
    have HT := Lib.hid (fun W hR => ltextV_s A c ps W hR (voy_all_ok hv) (by omega))
    have HV := Lib.hid (voyS_q (c := c) h hv)
    generalize voyT ps = r at *
    clear h hv
    go_enter Tryz.func8, Tryz.ntmps8
    go_wp2_with fail
    refine HV.out.mono ?_
    rintro e w1 ⟨rfl, b1⟩
    go_wp2_with fail
    refine (HT.out _ (HR.out.below b1)).mono ?_
    rintro e w2 ⟨rfl, b2⟩
    go_wp2_with fail
    go_ret2
    exact ⟨by rw [E.out] <;> rfl, belowGo b1 b2⟩
  · have E := Lib.hid (voyT_no hv)
    have HV := Lib.hid (voyS_q (c := c) h hv)
    generalize voyT ps = r at *
    clear h hv
    go_enter Tryz.func8, Tryz.ntmps8
    go_wp2_with fail
    refine HV.out.mono ?_
    rintro e w1 ⟨rfl, b1⟩
    go_wp2_with fail
    go_ret2
    exact ⟨by rw [E.out] <;> rfl, b1⟩
end Go.Proofs.YtklhcofonkmiiaaGreatDoor

