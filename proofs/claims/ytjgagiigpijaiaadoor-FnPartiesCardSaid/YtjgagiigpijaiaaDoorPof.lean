/- impl.codesWhere over its closures, PartiesOf on both sides. (by gen_cw.py) -/
import Derived.Test.YtjgagiigpijaiaaDoorRegs
namespace Go.Proofs.YtjgagiigpijaiaaDoor
open Go.ChangeShapes Go.WideShapes Go.ChangeAt Go.RowKit
set_option linter.unusedVariables false

/-- The codes of all parties that fit. -/
def codesP (f : Pty → Bool) (ps : List Pty) : List (List UInt8) := (ps.filter f).map Pty.c
theorem codesP_snoc (f : Pty → Bool) (ps : List Pty) (p : Pty) : codesP f (ps ++ [p]) = codesP f ps ++ (if f p = true then [p.c] else []) := by
  unfold codesP; rw [List.filter_append, List.map_append]; by_cases h : f p = true <;> simp [List.filter_cons, h]
theorem codesP_len (f : Pty → Bool) (ps : List Pty) : (codesP f ps).length ≤ ps.length := by
  unfold codesP; rw [List.length_map]; exact List.length_filter_le _ _
theorem made0p (w : World) (base : Nat) (e : TypeId) (size : Nat) (hb : base ≤ w.heap.size) : (w.alloc (Obj.cells #[] e)).ownsRow base e size (.slice (some ⟨w.heap.size, 0, none⟩) 0 0) 0 [] :=
  World.ownsRow_made w #[] 0 hb (by decide) (by simp)
theorem own_mono {w : World} {base base' : Nat} {e : TypeId} {size n : Nat} {v : Value} {xs : List Value} (h : w.ownsRow base e size v n xs) (hb : base' ≤ base) : w.ownsRow base' e size v n xs := by
  refine ⟨h.1, h.2.imp id ?_⟩
  rintro ⟨g, cap, cur, h1, h2, h3⟩
  exact ⟨g, cap, cur, h1, by omega, h3⟩
theorem isRegI_q {w : World} {A : Option Addr} {c : Nat} {ps : List Pty} {b : Bool} (h : PTbl w A ps) (hb : regB ps = b) : Calls Tryd.prog 44 #[.slice A ps.length c] w (Gives w (.bool b)) := by
  subst hb; exact isReg_i A c ps w h
theorem isRegS_q {w : World} {A : Option Addr} {c : Nat} {ps : List Pty} {b : Bool} (h : PTbl w A ps) (hb : regB ps = b) : Calls Tryd.prog 51 #[.slice A ps.length c] w (Gives w (.bool b)) := by
  subst hb; exact isReg_s A c ps w h
def pofR (ps : List Pty) (k : Int) : List (List UInt8) × Int := if regB ps = true then (codesP (fun p => p.k == k) ps, 0) else ([], 1)
theorem pofR_no {ps : List Pty} {k : Int} (h : regB ps = false) : pofR ps k = ([], 1) := by unfold pofR; rw [if_neg (by rw [h]; exact Bool.false_ne_true)]
theorem pofR_ok {ps : List Pty} {k : Int} (h : regB ps = true) : pofR ps k = (codesP (fun p => p.k == k) ps, 0) := by unfold pofR; rw [if_pos h]
theorem pofR_len (ps : List Pty) (k : Int) : (pofR ps k).1.length ≤ ps.length := by
  unfold pofR; split
  · exact codesP_len _ _
  · exact Nat.zero_le _

theorem clo_kind (p : Pty) (x : Int) (g : Nat) (w : World) (hc : w.cell? ⟨g, 0, none⟩ = some (.int .i64 x)) (hg : g < w.heap.size) :
    Calls Tryd.prog 72 #[.agg #[.string ⟨p.c.toArray⟩, .int .i64 p.k, .string ⟨p.a.toArray⟩], .pointer (some ⟨g, 0, none⟩)] w (Gives w (.bool (p.k == x))) := by
  have B : ∀ o, Hid (Below w.heap.size w (w.alloc o)) := fun o => Lib.hid ((Below.refl _ _).alloc (Nat.le_refl _) _)
  have hc2 : ∀ o, (w.alloc o).cell? ⟨g, 0, none⟩ = some (.int .i64 x) := fun o => ((B o).out.cell (p := ⟨g, 0, none⟩) hg).trans hc
  go_enter Tryd.func72, Tryd.ntmps72
  go_wp2_with fail
  go_ret
  exact ⟨rfl, (B _).out⟩
set_option maxRecDepth 100000 in
set_option maxHeartbeats 2000000 in
theorem where_kind (A : Option Addr) (c : Nat) (ps : List Pty) (x : Int) (g : Nat) (w : World) (hR : PtyR w A ps) (hn : ps.length ≤ 1048576) (hc : w.cell? ⟨g, 0, none⟩ = some (.int .i64 x)) (hg : g < w.heap.size) :
    Calls Tryd.prog 57 #[.slice A ps.length c, .func (.func 72) #[] #[.pointer (some ⟨g, 0, none⟩)]] w fun e w' => ∃ O d, e = .returned (.slice O (codesP (fun p => p.k == x) ps).length d) ∧ Ost w' w.heap.size O (codesP (fun p => p.k == x) ps).length d (codesP (fun p => p.k == x) ps) ∧ Below w.heap.size w w' := by
  obtain ⟨i0, hi, hz0, hz1, hz2⟩ := info_parts strInfo
  go_enter Tryd.func57, Tryd.ntmps57
  go_wp2_with fail
  go_loopw [5, 11] (fun o i wr => ∃ (k : Nat) (ys : List (List UInt8)), k ≤ ps.length ∧ i = .int .i64 k ∧ wr.ownsRow w.heap.size 9 1 o ys.length (ys.map encStr) ∧ Hid (ys = codesP (fun p => p.k == x) (ps.take k)) ∧ Below w.heap.size w wr) (fun _ i _ => ps.length - (intOf i).toNat)
  case atStart => exact ⟨0, [], Nat.zero_le _, rfl, made0p _ _ _ _ (Nat.le_refl _), Lib.hid rfl, (Below.refl _ _).alloc (Nat.le_refl _) _⟩
  case round =>
    obtain ⟨k, ys, hk, rfl, hown, hys, hb⟩ := hrel
    obtain ⟨O, q, rfl⟩ := own_form hown
    have hyl : ys.length ≤ k := by rw [hys.out]; have := codesP_len (fun p => p.k == x) (ps.take k); rw [List.length_take] at this; omega
    by_cases hlt : k < ps.length
    · obtain ⟨b, off, p, rfl, hl, hp, h4⟩ := (hR.below hb).at hlt
      have c0 := h4.c0; have c1 := h4.c1; have c2 := h4.c2
      have kn := KeepP.new wr p
      have HS := Lib.hid (codesP_snoc (fun p => p.k == x) (ps.take k) p)
      rw [← snoc_of hp.out, ← hys.out] at HS
      have hsz0 : g < (wr.alloc (.cells #[.string ⟨p.c.toArray⟩, .int .i64 p.k, .string ⟨p.a.toArray⟩] 35)).heap.size := Nat.lt_of_lt_of_le hg (Nat.le_trans hb.size kn.bel.size)
      have HC := Lib.hid (clo_kind p x g (wr.alloc (.cells #[.string ⟨p.c.toArray⟩, .int .i64 p.k, .string ⟨p.a.toArray⟩] 35)) (((belowGo hb kn.bel).cell (p := ⟨g, 0, none⟩) hg).trans hc) hsz0)
      have HO := Lib.hid (own_below hown kn.bel)
      have HB := Lib.hid (belowGo hb kn.bel)
      have HK := Lib.hid kn
      clear hR h4 hp hys hown kn hsz0
      rcases Bool.eq_false_or_eq_true (p.k == x) with he | he
      · have HS2 : Hid (ys ++ [p.c] = codesP (fun p => p.k == x) (ps.take (k + 1))) := Lib.hid (by rw [HS.out]; simp [he])
        rw [he] at HC
        clear HS he
        go_wp2_with fail
        refine HC.out.mono ?_
        rintro e w1 ⟨rfl, b1⟩
        have hown2 := own_below HO.out b1
        have d0 := (HK.out.step b1).cells.c0
        have hb2 := HB.out.trans (b1.mono HB.out.size)
        have hsz := hb2.size
        clear HC HO HK
        go_wp2_with (at_builtin; refine wpList_push _ rfl (.tmp 18) (.tmp 21) 41 rfl w.heap.size 9 i0 _ 1 16 Tryd.underlying41 hi hz0 hz1 hz2 rfl (by decide) _ ys.length _ rfl hown2 [.string ⟨p.c.toArray⟩] rfl (by simp [Value.oneCell']) rfl (by unfold maxLen; omega) (by omega) hsz ?_; intro v' w' hown' hb')
        go_roundw
        case rel => exact ⟨k + 1, ys ++ [p.c], by omega, by go_num, by simpa [encStr] using hown', HS2, hb2.trans hb'⟩
        case measure => simp [intOf]; omega
      · have HS2 : Hid (ys = codesP (fun p => p.k == x) (ps.take (k + 1))) := Lib.hid (by rw [HS.out]; simp [he])
        rw [he] at HC
        clear HS he
        go_wp2_with fail
        refine HC.out.mono ?_
        rintro e w1 ⟨rfl, b1⟩
        have hown2 := own_below HO.out b1
        have hb2 := HB.out.trans (b1.mono HB.out.size)
        clear HC HO HK
        go_wp2_with fail
        go_roundw
        case rel => exact ⟨k + 1, ys, by omega, by go_num, hown2, HS2, hb2⟩
        case measure => simp [intOf]; omega
    · have HY : Hid (codesP (fun p => p.k == x) ps = ys) := Lib.hid (by rw [hys.out, take_all hk hlt])
      clear hys hR
      go_wp2_with fail
      go_ret
      rw [HY.out]
      exact ⟨O, q, rfl, hown, hb⟩

set_option maxHeartbeats 1000000 in
theorem parties_i (A : Option Addr) (c : Nat) (ps : List Pty) (k : Int) (w : World) (h : PTbl w A ps) :
    Calls Tryd.prog 40 #[.slice A ps.length c, .int .i64 k] w (NewStrsC w (pofR ps k)) := by
  have b0 : Below w.heap.size w (w.alloc (.cells #[.int .i64 k] 2)) := (Below.refl _ _).alloc (Nat.le_refl _) _
  have hc : (w.alloc (.cells #[.int .i64 k] 2)).cell? ⟨w.heap.size, 0, none⟩ = some (.int .i64 k) := by rw [cell_of_row _ _ _ _ _ _ (heap_alloc_new w _)]; rfl
  have hlt : w.heap.size < (w.alloc (.cells #[.int .i64 k] 2)).heap.size := by simp
  have HR := Lib.hid (h.below b0)
  have hn := h.len
  have HB := Lib.hid b0
  have HC := Lib.hid hc
  have HL := Lib.hid hlt
  clear h b0 hc hlt
  rcases Bool.eq_false_or_eq_true (regB ps) with hr | hr
  · have E := Lib.hid (pofR_ok (k := k) hr)
    go_enter Tryd.func40, Tryd.ntmps40
    go_wp2_with fail
    refine (isRegI_q HR.out hr).mono ?_
    rintro e w1 ⟨rfl, b1⟩
    go_wp2_with fail
    have B1 := belowGo HB.out b1
    refine (where_kind A c ps k w.heap.size w1 (HR.out.below b1).row (by omega) ((b1.cell (p := ⟨w.heap.size, 0, none⟩) HL.out).trans HC.out) (Nat.lt_of_lt_of_le HL.out b1.size)).mono ?_
    rintro e w2 ⟨O, d, rfl, o2, b2⟩
    go_wp2_with fail
    go_ret2
    rw [E.out]
    exact ⟨O, d, rfl, own_mono o2 B1.size, belowGo B1 b2⟩
  · have E := Lib.hid (pofR_no (k := k) hr)
    go_enter Tryd.func40, Tryd.ntmps40
    go_wp2_with fail
    refine (isRegI_q HR.out hr).mono ?_
    rintro e w1 ⟨rfl, b1⟩
    go_wp2_with fail
    go_ret2
    rw [E.out]
    exact ⟨none, 0, rfl, Ost.nil _ _, belowGo HB.out b1⟩
set_option maxRecDepth 100000 in
set_option maxHeartbeats 2000000 in
theorem parties_s (A : Option Addr) (c : Nat) (ps : List Pty) (x : Int) (w : World) (h : PTbl w A ps) :
    Calls Tryd.prog 41 #[.slice A ps.length c, .int .i64 x] w (NewStrsC w (pofR ps x)) := by
  obtain ⟨i0, hi, hz0, hz1, hz2⟩ := info_parts strInfo
  have hn := h.len
  rcases Bool.eq_false_or_eq_true (regB ps) with hr | hr
  · have E := Lib.hid (pofR_ok (k := x) hr)
    go_enter Tryd.func41, Tryd.ntmps41
    go_wp2_with fail
    refine (isRegS_q h hr).mono ?_
    rintro e w1 ⟨rfl, b1⟩
    have hR := h.row.below b1
    clear h hr
    go_wp2_with fail
    go_loopw [6, 7] (fun o i wr => ∃ (k : Nat) (ys : List (List UInt8)), k ≤ ps.length ∧ i = .int .i64 k ∧ wr.ownsRow w1.heap.size 9 1 o ys.length (ys.map encStr) ∧ Hid (ys = codesP (fun p => p.k == x) (ps.take k)) ∧ Below w1.heap.size w1 wr) (fun _ i _ => ps.length - (intOf i).toNat)
    case atStart => exact ⟨0, [], Nat.zero_le _, rfl, made0p _ _ _ _ (Nat.le_refl _), Lib.hid rfl, (Below.refl _ _).alloc (Nat.le_refl _) _⟩
    case round =>
      obtain ⟨k, ys, hk, rfl, hown, hys, hb⟩ := hrel
      obtain ⟨O, q, rfl⟩ := own_form hown
      have hyl : ys.length ≤ k := by rw [hys.out]; have := codesP_len (fun p => p.k == x) (ps.take k); rw [List.length_take] at this; omega
      by_cases hlt : k < ps.length
      · obtain ⟨b, off, p, rfl, hl, hp, h4⟩ := (hR.below hb).at hlt
        have c0 := h4.c0; have c1 := h4.c1; have c2 := h4.c2
        have HS := Lib.hid (codesP_snoc (fun p => p.k == x) (ps.take k) p)
        rw [← snoc_of hp.out, ← hys.out] at HS
        clear hR h4 hp hys
        rcases Bool.eq_false_or_eq_true (p.k == x) with he | he
        · have HS2 : Hid (ys ++ [p.c] = codesP (fun p => p.k == x) (ps.take (k + 1))) := Lib.hid (by rw [HS.out]; simp [he])
          clear HS
          have hsz := hb.size
          go_wp2_with (at_builtin; refine wpList_push _ rfl (.tmp 25) (.tmp 31) 41 rfl w1.heap.size 9 i0 _ 1 16 Tryd.underlying41 hi hz0 hz1 hz2 rfl (by decide) _ ys.length _ rfl hown [.string ⟨p.c.toArray⟩] rfl (by simp [Value.oneCell']) rfl (by unfold maxLen; omega) (by omega) hsz ?_; intro v' w' hown' hb')
          go_roundw
          case rel => exact ⟨k + 1, ys ++ [p.c], by omega, by go_num, by simpa [encStr] using hown', HS2, hb.trans hb'⟩
          case measure => simp [intOf]; omega
        · have HS2 : Hid (ys = codesP (fun p => p.k == x) (ps.take (k + 1))) := Lib.hid (by rw [HS.out]; simp [he])
          clear HS
          go_wp2_with fail
          go_roundw
          case rel => exact ⟨k + 1, ys, by omega, by go_num, hown, HS2, hb⟩
          case measure => simp [intOf]; omega
      · have HY : Hid (codesP (fun p => p.k == x) ps = ys) := Lib.hid (by rw [hys.out, take_all hk hlt])
        clear hys hR
        go_wp2_with fail
        go_ret2
        rw [E.out, HY.out]
        exact ⟨O, q, rfl, own_mono hown b1.size, belowGo b1 hb⟩
  · have E := Lib.hid (pofR_no (k := x) hr)
    go_enter Tryd.func41, Tryd.ntmps41
    go_wp2_with fail
    refine (isRegS_q h hr).mono ?_
    rintro e w1 ⟨rfl, b1⟩
    go_wp2_with fail
    go_ret2
    rw [E.out]
    exact ⟨none, 0, rfl, Ost.nil _ _, b1⟩
end Go.Proofs.YtjgagiigpijaiaaDoor
