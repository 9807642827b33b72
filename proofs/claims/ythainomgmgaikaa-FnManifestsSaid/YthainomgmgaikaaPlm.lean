/- FindInterest, TotalValue, CodesOf on both sides. -/
import Derived.Test.YthainomgmgaikaaMans
import Derived.Test.YthainomgmgaikaaSums
namespace Go.Proofs.Ythainomgmgaikaa
open Go.ChangeShapes Go.WideShapes Go.ChangeAt Go.RowKit
set_option linter.unusedVariables false

theorem made0i (w : World) (base : Nat) (e : TypeId) (size : Nat) (hb : base ≤ w.heap.size) : (w.alloc (Obj.cells #[] e)).ownsRow base e size (.slice (some ⟨w.heap.size, 0, none⟩) 0 0) 0 [] :=
  World.ownsRow_made w #[] 0 hb (by decide) (by simp)
theorem own_monoI {w : World} {base base' : Nat} {e : TypeId} {size n : Nat} {v : Value} {xs : List Value} (h : w.ownsRow base e size v n xs) (hb : base' ≤ base) : w.ownsRow base' e size v n xs := by
  refine ⟨h.1, h.2.imp id ?_⟩
  rintro ⟨g, cap, cur, h1, h2, h3⟩
  exact ⟨g, cap, cur, h1, by omega, h3⟩
/-! ### FindInterest -/
set_option maxHeartbeats 1000000 in
theorem findi_i (A : Option Addr) (c : Nat) (ps : List Ist) (s : List UInt8) (w : World) (h : ITbl w A ps) :
    Calls Try.prog 24 #[.slice A ps.length c, .string ⟨s.toArray⟩] w (Gives w (.tuple #[.int .i64 (finR ps s).1, .int .i64 (finR ps s).2])) := by
  have W := fway ps s
  generalize finR ps s = r at *
  have hn := h.len
  cases W with
  | man h0 =>
    have HM := Lib.hid (manI_q (c := c) h h0)
    clear h
    go_enter Try.func24, Try.ntmps24
    go_wp2_with (go_at_call 28; refine HM.out.mono ?_; rintro e w1 ⟨rfl, b1⟩)
    go_ret2
    exact ⟨rfl, b1⟩
  | none h0 h2 h3 =>
    have HM := Lib.hid (manI_q (c := c) h h0)
    have HS := Lib.hid (fun w1 (b1 : Below w.heap.size w w1) => search_iM A c ps s w1 (h.below b1).row hn (ordM_nat h0))
    rw [h2] at HS
    clear h
    go_enter Try.func24, Try.ntmps24
    go_wp2_with (first
      | (go_at_call 28; refine HM.out.mono ?_; rintro e w1 ⟨rfl, b1⟩)
      | (go_at_call 51; refine (HS.out _ b1).mono ?_; rintro e w2 ⟨rfl, b2⟩))
    go_ret2
    exact ⟨rfl, belowGo b1 b2⟩
  | ok k p h0 h2 h3 h4 hk hp hc =>
    have HM := Lib.hid (manI_q (c := c) h h0)
    have HS := Lib.hid (fun w1 (b1 : Below w.heap.size w w1) => search_iM A c ps s w1 (h.below b1).row hn (ordM_nat h0))
    rw [h2, h4] at HS
    clear h h4 hp hc
    go_enter Try.func24, Try.ntmps24
    go_wp2_with (first
      | (go_at_call 28; refine HM.out.mono ?_; rintro e w1 ⟨rfl, b1⟩)
      | (go_at_call 51; refine (HS.out _ b1).mono ?_; rintro e w2 ⟨rfl, b2⟩))
    go_ret2
    exact ⟨rfl, belowGo b1 b2⟩
set_option maxHeartbeats 1000000 in
theorem findi_s (A : Option Addr) (c : Nat) (ps : List Ist) (s : List UInt8) (w : World) (h : ITbl w A ps) :
    Calls Try.prog 25 #[.slice A ps.length c, .string ⟨s.toArray⟩] w (Gives w (.tuple #[.int .i64 (finR ps s).1, .int .i64 (finR ps s).2])) := by
  have W := fway ps s
  generalize finR ps s = r at *
  have hn := h.len
  have HF := Lib.hid (fun w1 (b1 : Below w.heap.size w w1) => find_sM A c ps s w1 (h.below b1).row (by omega))
  cases W with
  | man h0 =>
    have HM := Lib.hid (manS_q (c := c) h h0)
    clear h
    go_enter Try.func25, Try.ntmps25
    go_wp2_with (go_at_call 34; refine HM.out.mono ?_; rintro e w1 ⟨rfl, b1⟩)
    go_ret2
    exact ⟨rfl, b1⟩
  | none h0 h2 h3 =>
    have HM := Lib.hid (manS_q (c := c) h h0)
    rw [h3] at HF
    clear h
    go_enter Try.func25, Try.ntmps25
    go_wp2_with (first
      | (go_at_call 34; refine HM.out.mono ?_; rintro e w1 ⟨rfl, b1⟩)
      | (go_at_call 46; refine (HF.out _ b1).mono ?_; rintro e w2 ⟨rfl, rfl⟩))
    go_ret2
    exact ⟨rfl, b1⟩
  | ok k p h0 h2 h3 h4 hk hp hc =>
    have HM := Lib.hid (manS_q (c := c) h h0)
    rw [h3] at HF
    clear h h4 hp hc
    go_enter Try.func25, Try.ntmps25
    go_wp2_with (first
      | (go_at_call 34; refine HM.out.mono ?_; rintro e w1 ⟨rfl, b1⟩)
      | (go_at_call 46; refine (HF.out _ b1).mono ?_; rintro e w2 ⟨rfl, rfl⟩))
    go_ret2
    exact ⟨rfl, b1⟩
/-! ### TotalValue -/
def valsI (ps : List Ist) : List Int := ps.map Ist.v
theorem valsI_snoc (ps : List Ist) (p : Ist) : valsI (ps ++ [p]) = valsI ps ++ [p.v] := by simp [valsI]
theorem vals_amts {ps : List Ist} (h : ordToM ps ps.length = true) : amts (valsI ps) = true := by
  unfold amts valsI
  rw [List.all_eq_true]
  intro x hx
  obtain ⟨p, hp, rfl⟩ := List.mem_map.1 hx
  exact amt_iff.2 (iok ((ord_iffM.1 h).1 p hp)).2.2.2.1
theorem vals_at {ps : List Ist} {k : Nat} {p : Ist} (hp : ps[k]? = some p) : (valsI ps)[k]? = some p.v := by unfold valsI; rw [List.getElem?_map, hp]; rfl
theorem vals_bd {ps : List Ist} (h : ordToM ps ps.length = true) (k : Nat) : 0 ≤ isum (valsI (ps.take k)) ∧ isum (valsI (ps.take k)) ≤ 1000000000 * ps.length := by
  have e : valsI (ps.take k) = (valsI ps).take k := by unfold valsI; rw [List.map_take]
  rw [e]
  have ha := amts_take (vals_amts h) k
  have hb := isum_bd ha
  refine ⟨hb.1, Int.le_trans hb.2 ?_⟩
  have : ((valsI ps).take k).length ≤ ps.length := by rw [List.length_take]; unfold valsI; rw [List.length_map]; omega
  omega
set_option maxRecDepth 100000 in
set_option maxHeartbeats 2000000 in
theorem total_i (A : Option Addr) (c : Nat) (ps : List Ist) (w : World) (h : ITbl w A ps) :
    Calls Try.prog 16 #[.slice A ps.length c] w (Gives w (.tuple #[.int .i64 (totR ps).1, .int .i64 (totR ps).2])) := by
  obtain ⟨i0, hi, hz0, hz1, hz2⟩ := info_parts intInfo
  have hn := h.len
  rcases Bool.eq_false_or_eq_true (manB ps) with hm | hm
  · have E := Lib.hid (totR_ok hm)
    have hl10 := (manB_iff.1 hm).1
    have HA := Lib.hid (vals_amts (ordM_nat hm))
    go_enter Try.func16, Try.ntmps16
    go_wp2_with fail
    refine (manI_q h hm).mono ?_
    rintro e w1 ⟨rfl, b1⟩
    have hR := h.row.below b1
    clear h hm
    go_wp2_with fail
    go_loopw [4, 13] (fun o i wr => ∃ (k : Nat) (ys : List Int), k ≤ ps.length ∧ i = .int .i64 k ∧ wr.ownsRow w1.heap.size 2 1 o ys.length (ys.map (Value.int .i64)) ∧ Hid (ys = valsI (ps.take k)) ∧ Below w1.heap.size w1 wr) (fun _ i _ => ps.length - (intOf i).toNat)
    case atStart => exact ⟨0, [], Nat.zero_le _, rfl, made0i _ _ _ _ (Nat.le_refl _), Lib.hid rfl, (Below.refl _ _).alloc (Nat.le_refl _) _⟩
    case round =>
      obtain ⟨k, ys, hk, rfl, hown, hys, hb⟩ := hrel
      obtain ⟨O, q, rfl⟩ := own_form hown
      have hyl : ys.length ≤ k := by rw [hys.out]; unfold valsI; rw [List.length_map, List.length_take]; omega
      by_cases hlt : k < ps.length
      · obtain ⟨b, off, p, rfl, hl, hp, h4⟩ := (hR.below hb).at hlt
        have c0 := h4.c0; have c1 := h4.c1; have c2 := h4.c2; have c3 := h4.c3; have c4 := h4.c4
        have HS2 : Hid (ys ++ [p.v] = valsI (ps.take (k + 1))) := Lib.hid (by rw [snoc_of hp.out, hys.out, valsI_snoc])
        have kn := KeepI.new wr p
        have hown2 := hown.alloc (.cells #[.string ⟨p.c.toArray⟩, .int .i64 p.k, .string ⟨p.o.toArray⟩, .int .i64 p.v, .int .i64 p.a] 46)
        have HB := Lib.hid (belowGo hb kn.bel)
        have hsz := Lib.hid HB.out.size
        have hzz : Hid (wr.heap.size + 1 = (wr.alloc (.cells #[.string ⟨p.c.toArray⟩, .int .i64 p.k, .string ⟨p.o.toArray⟩, .int .i64 p.v, .int .i64 p.a] 46)).heap.size) := Lib.hid (by simp)
        clear hR h4 hp hys hown kn
        go_wp2_with (at_builtin; refine wpList_push _ rfl (.tmp 17) (.tmp 20) 70 rfl w1.heap.size 2 i0 _ 1 8 Try.underlying70 hi hz0 hz1 hz2 rfl (by decide) _ ys.length _ rfl hown2 [.int .i64 p.v] rfl (by simp [Value.oneCell']) (congrArg (fun n => Value.slice (some ⟨n, 0, none⟩) 1 1) hzz.out) (by unfold maxLen; omega) (by omega) hsz.out ?_; intro v' w' hown' hb')
        go_roundw
        case rel => exact ⟨k + 1, ys ++ [p.v], by omega, by go_num, by simpa using hown', HS2, HB.out.trans hb'⟩
        case measure => simp [intOf]; omega
      · have HY : ys = valsI ps := by rw [hys.out, take_all hk hlt]
        have HC := Lib.hid (sum_i O q ys wr (Oi.ir hown) (by rw [HY]; exact HA.out) (by omega))
        have HQ : Hid (isum (ps.map Ist.v) = isum ys) := Lib.hid (by rw [HY]; rfl)
        clear hys hR hown HY
        go_wp2_with (go_at_call 54; refine HC.out.mono ?_; rintro e w2 ⟨rfl, rfl⟩)
        go_ret2
        exact ⟨by rw [E.out, HQ.out] <;> rfl, belowGo b1 hb⟩
  · have E := Lib.hid (totR_no hm)
    go_enter Try.func16, Try.ntmps16
    go_wp2_with fail
    refine (manI_q h hm).mono ?_
    rintro e w1 ⟨rfl, b1⟩
    go_wp2_with fail
    go_ret2
    exact ⟨by rw [E.out] <;> rfl, b1⟩
set_option maxHeartbeats 2000000 in
theorem total_s (A : Option Addr) (c : Nat) (ps : List Ist) (w : World) (h : ITbl w A ps) :
    Calls Try.prog 17 #[.slice A ps.length c] w (Gives w (.tuple #[.int .i64 (totR ps).1, .int .i64 (totR ps).2])) := by
  have hn := h.len
  rcases Bool.eq_false_or_eq_true (manB ps) with hm | hm
  · have E := Lib.hid (totR_ok hm)
    have hl10 := (manB_iff.1 hm).1
    have HV := Lib.hid (vals_bd (ordM_nat hm))
    have HA := Lib.hid (vals_amts (ordM_nat hm))
    go_enter Try.func17, Try.ntmps17
    go_wp2_with fail
    refine (manS_q h hm).mono ?_
    rintro e w1 ⟨rfl, b1⟩
    have hR := h.row.below b1
    clear h hm
    go_wp2_with fail
    go_loopw [4, 5] (fun m i wr => ∃ (k : Nat) (M : Int), k ≤ ps.length ∧ i = .int .i64 k ∧ m = .int .i64 M ∧ Hid (M = isum (valsI (ps.take k))) ∧ 0 ≤ M ∧ M ≤ 10000000000 ∧ Below w1.heap.size w1 wr) (fun _ i _ => ps.length - (intOf i).toNat)
    case atStart => exact ⟨0, 0, Nat.zero_le _, rfl, rfl, Lib.hid rfl, by omega, by omega, Below.refl _ _⟩
    case round =>
      obtain ⟨k, M, hk, rfl, rfl, hM, hM0, hM1, hb⟩ := hrel
      by_cases hlt : k < ps.length
      · obtain ⟨b, off, p, rfl, hl, hp, h4⟩ := (hR.below hb).at hlt
        have c0 := h4.c0; have c1 := h4.c1; have c2 := h4.c2; have c3 := h4.c3; have c4 := h4.c4
        have HS2 : Hid (M + p.v = isum (valsI (ps.take (k + 1)))) := Lib.hid (by rw [snoc_of hp.out, hM.out, valsI_snoc, isum_snoc])
        have hv := amts_at HA.out (vals_at hp.out)
        have hbd := HV.out (k + 1)
        rw [← HS2.out] at hbd
        have hb1 : 0 ≤ M + p.v := hbd.1
        have hb2 : M + p.v ≤ 10000000000 := by omega
        clear hR h4 hp hM hbd
        go_wp2_with fail
        go_roundw
        case rel => exact ⟨k + 1, M + p.v, by omega, by go_num, by go_num, HS2, hb1, hb2, hb⟩
        case measure => simp [intOf]; omega
      · have HY : Hid (isum (ps.map Ist.v) = M) := Lib.hid (by rw [hM.out, take_all hk hlt]; rfl)
        clear hM hR
        go_wp2_with fail
        go_ret2
        exact ⟨by rw [E.out, HY.out] <;> rfl, belowGo b1 hb⟩
  · have E := Lib.hid (totR_no hm)
    go_enter Try.func17, Try.ntmps17
    go_wp2_with fail
    refine (manS_q h hm).mono ?_
    rintro e w1 ⟨rfl, b1⟩
    go_wp2_with fail
    go_ret2
    exact ⟨by rw [E.out] <;> rfl, b1⟩
/-! ### CodesOf -/
set_option maxRecDepth 100000 in
set_option maxHeartbeats 2000000 in
theorem codes_i (A : Option Addr) (c : Nat) (ps : List Ist) (x : List UInt8) (w : World) (h : ITbl w A ps) :
    Calls Try.prog 21 #[.slice A ps.length c, .string ⟨x.toArray⟩] w (NewStrsC w (codR ps x)) := by
  obtain ⟨i0, hi, hz0, hz1, hz2⟩ := info_parts strInfo
  have hn := h.len
  rcases Bool.eq_false_or_eq_true (manB ps) with hm | hm
  · have E := Lib.hid (codR_ok (o := x) hm)
    go_enter Try.func21, Try.ntmps21
    go_wp2_with fail
    refine (manI_q h hm).mono ?_
    rintro e w1 ⟨rfl, b1⟩
    have hR := h.row.below b1
    clear h hm
    go_wp2_with fail
    go_loopw [6, 15] (fun o i wr => ∃ (k : Nat) (ys : List (List UInt8)), k ≤ ps.length ∧ i = .int .i64 k ∧ wr.ownsRow w1.heap.size 9 1 o ys.length (ys.map encStr) ∧ Hid (ys = codesI ((ps.take k).filter fun p => p.o == x)) ∧ Below w1.heap.size w1 wr) (fun _ i _ => ps.length - (intOf i).toNat)
    case atStart => exact ⟨0, [], Nat.zero_le _, rfl, made0i _ _ _ _ (Nat.le_refl _), Lib.hid rfl, (Below.refl _ _).alloc (Nat.le_refl _) _⟩
    case round =>
      obtain ⟨k, ys, hk, rfl, hown, hys, hb⟩ := hrel
      obtain ⟨O, q, rfl⟩ := own_form hown
      have hyl : ys.length ≤ k := by rw [hys.out]; have := codesI_len (fun p => p.o == x) (ps.take k); rw [List.length_take] at this; omega
      by_cases hlt : k < ps.length
      · obtain ⟨b, off, p, rfl, hl, hp, h4⟩ := (hR.below hb).at hlt
        have c0 := h4.c0; have c1 := h4.c1; have c2 := h4.c2; have c3 := h4.c3; have c4 := h4.c4
        have HS := Lib.hid (codesI_snoc (fun p => p.o == x) (ps.take k) p)
        rw [← snoc_of hp.out, ← hys.out] at HS
        have kn := KeepI.new wr p
        have hown2 := hown.alloc (.cells #[.string ⟨p.c.toArray⟩, .int .i64 p.k, .string ⟨p.o.toArray⟩, .int .i64 p.v, .int .i64 p.a] 46)
        have HB := Lib.hid (belowGo hb kn.bel)
        have hsz := Lib.hid HB.out.size
        have hzz : Hid (wr.heap.size + 1 = (wr.alloc (.cells #[.string ⟨p.c.toArray⟩, .int .i64 p.k, .string ⟨p.o.toArray⟩, .int .i64 p.v, .int .i64 p.a] 46)).heap.size) := Lib.hid (by simp)
        clear hR h4 hp hys hown kn
        rcases Bool.eq_false_or_eq_true (p.o == x) with he | he
        · have HS2 : Hid (ys ++ [p.c] = codesI ((ps.take (k + 1)).filter fun p => p.o == x)) := Lib.hid (by rw [HS.out]; simp [he])
          clear HS
          go_wp2_with (at_builtin; refine wpList_push _ rfl (.tmp 23) (.tmp 26) 32 rfl w1.heap.size 9 i0 _ 1 16 Try.underlying32 hi hz0 hz1 hz2 rfl (by decide) _ ys.length _ rfl hown2 [.string ⟨p.c.toArray⟩] rfl (by simp [Value.oneCell']) (congrArg (fun n => Value.slice (some ⟨n, 0, none⟩) 1 1) hzz.out) (by unfold maxLen; omega) (by omega) hsz.out ?_; intro v' w' hown' hb')
          go_roundw
          case rel => exact ⟨k + 1, ys ++ [p.c], by omega, by go_num, by simpa [encStr] using hown', HS2, HB.out.trans hb'⟩
          case measure => simp [intOf]; omega
        · have HS2 : Hid (ys = codesI ((ps.take (k + 1)).filter fun p => p.o == x)) := Lib.hid (by rw [HS.out]; simp [he])
          clear HS
          go_wp2_with fail
          go_roundw
          case rel => exact ⟨k + 1, ys, by omega, by go_num, hown2, HS2, HB.out⟩
          case measure => simp [intOf]; omega
      · have HY : Hid (codesI (ps.filter fun p => p.o == x) = ys) := Lib.hid (by rw [hys.out, take_all hk hlt])
        clear hys hR
        go_wp2_with fail
        go_ret2
        rw [E.out, HY.out]
        exact ⟨O, q, rfl, own_monoI hown b1.size, belowGo b1 hb⟩
  · have E := Lib.hid (codR_no (o := x) hm)
    go_enter Try.func21, Try.ntmps21
    go_wp2_with fail
    refine (manI_q h hm).mono ?_
    rintro e w1 ⟨rfl, b1⟩
    go_wp2_with fail
    go_ret2
    rw [E.out]
    exact ⟨none, 0, rfl, Ost.nil _ _, b1⟩
set_option maxRecDepth 100000 in
set_option maxHeartbeats 2000000 in
theorem codes_s (A : Option Addr) (c : Nat) (ps : List Ist) (x : List UInt8) (w : World) (h : ITbl w A ps) :
    Calls Try.prog 22 #[.slice A ps.length c, .string ⟨x.toArray⟩] w (NewStrsC w (codR ps x)) := by
  obtain ⟨i0, hi, hz0, hz1, hz2⟩ := info_parts strInfo
  have hn := h.len
  rcases Bool.eq_false_or_eq_true (manB ps) with hm | hm
  · have E := Lib.hid (codR_ok (o := x) hm)
    go_enter Try.func22, Try.ntmps22
    go_wp2_with fail
    refine (manS_q h hm).mono ?_
    rintro e w1 ⟨rfl, b1⟩
    have hR := h.row.below b1
    clear h hm
    go_wp2_with fail
    go_loopw [6, 7] (fun o i wr => ∃ (k : Nat) (ys : List (List UInt8)), k ≤ ps.length ∧ i = .int .i64 k ∧ wr.ownsRow w1.heap.size 9 1 o ys.length (ys.map encStr) ∧ Hid (ys = codesI ((ps.take k).filter fun p => p.o == x)) ∧ Below w1.heap.size w1 wr) (fun _ i _ => ps.length - (intOf i).toNat)
    case atStart => exact ⟨0, [], Nat.zero_le _, rfl, made0i _ _ _ _ (Nat.le_refl _), Lib.hid rfl, (Below.refl _ _).alloc (Nat.le_refl _) _⟩
    case round =>
      obtain ⟨k, ys, hk, rfl, hown, hys, hb⟩ := hrel
      obtain ⟨O, q, rfl⟩ := own_form hown
      have hyl : ys.length ≤ k := by rw [hys.out]; have := codesI_len (fun p => p.o == x) (ps.take k); rw [List.length_take] at this; omega
      by_cases hlt : k < ps.length
      · obtain ⟨b, off, p, rfl, hl, hp, h4⟩ := (hR.below hb).at hlt
        have c0 := h4.c0; have c1 := h4.c1; have c2 := h4.c2; have c3 := h4.c3; have c4 := h4.c4
        have HS := Lib.hid (codesI_snoc (fun p => p.o == x) (ps.take k) p)
        rw [← snoc_of hp.out, ← hys.out] at HS
        clear hR h4 hp hys
        rcases Bool.eq_false_or_eq_true (p.o == x) with he | he
        · have HS2 : Hid (ys ++ [p.c] = codesI ((ps.take (k + 1)).filter fun p => p.o == x)) := Lib.hid (by rw [HS.out]; simp [he])
          clear HS
          have hsz := hb.size
          go_wp2_with (at_builtin; refine wpList_push _ rfl (.tmp 25) (.tmp 31) 32 rfl w1.heap.size 9 i0 _ 1 16 Try.underlying32 hi hz0 hz1 hz2 rfl (by decide) _ ys.length _ rfl hown [.string ⟨p.c.toArray⟩] rfl (by simp [Value.oneCell']) rfl (by unfold maxLen; omega) (by omega) hsz ?_; intro v' w' hown' hb')
          go_roundw
          case rel => exact ⟨k + 1, ys ++ [p.c], by omega, by go_num, by simpa [encStr] using hown', HS2, hb.trans hb'⟩
          case measure => simp [intOf]; omega
        · have HS2 : Hid (ys = codesI ((ps.take (k + 1)).filter fun p => p.o == x)) := Lib.hid (by rw [HS.out]; simp [he])
          clear HS
          go_wp2_with fail
          go_roundw
          case rel => exact ⟨k + 1, ys, by omega, by go_num, hown, HS2, hb⟩
          case measure => simp [intOf]; omega
      · have HY : Hid (codesI (ps.filter fun p => p.o == x) = ys) := Lib.hid (by rw [hys.out, take_all hk hlt])
        clear hys hR
        go_wp2_with fail
        go_ret2
        rw [E.out, HY.out]
        exact ⟨O, q, rfl, own_monoI hown b1.size, belowGo b1 hb⟩
  · have E := Lib.hid (codR_no (o := x) hm)
    go_enter Try.func22, Try.ntmps22
    go_wp2_with fail
    refine (manS_q h hm).mono ?_
    rintro e w1 ⟨rfl, b1⟩
    go_wp2_with fail
    go_ret2
    rw [E.out]
    exact ⟨none, 0, rfl, Ost.nil _ _, b1⟩
end Go.Proofs.Ythainomgmgaikaa
