import Derived.Test.YtjcklmhgjdmjoaaGreatMEdn
import Derived.Test.YtjcklmhgjdmjoaaGreatMClm
namespace Go.Proofs.YtjcklmhgjdmjoaaGreat
open Go.ChangeShapes Go.WideShapes Go.ChangeAt Go.RowKit
set_option linter.unusedVariables false
structure LTbl (w : World) (A : Option Addr) (es : List Edn) : Prop where
 row : EdnR w A es
 txt : ∀ e ∈ es, ∀ p ∈ e.cs, p.sz ≤ 1048600
 cnt : ∀ e ∈ es, e.cs.length ≤ 1048590
 len : es.length ≤ 1048590
theorem LTbl.below {w w' : World} {A : Option Addr} {es : List Edn} (h : LTbl w A es) (hb : Below w.heap.size w w') : LTbl w' A es := ⟨h.row.below hb, h.txt, h.cnt, h.len⟩
theorem LTbl.at {w : World} {A : Option Addr} {es : List Edn} (h : LTbl w A es) {k : Nat} (hk : k < es.length) :
  ∃ b off e a c, A = some ⟨b, off, none⟩ ∧ b < w.heap.size ∧ Hid (es[k]? = some e) ∧ w.cell? ⟨b, off + k * 2, none⟩ = some (.int .i64 e.y) ∧
   w.cell? ⟨b, off + k * 2 + 1, none⟩ = some (.slice a e.cs.length c) ∧ CTbl w a e.cs := by
 obtain ⟨b, off, e, a, c, h1, h2, h3, h4, h5, h6⟩ := h.row.at hk
 have hm := List.mem_of_getElem? h3.out
 exact ⟨b, off, e, a, c, h1, h2, h3, h4, h5, h6, h.txt e hm, h.cnt e hm⟩
theorem ltbl_of {w : World} {lo hi : Nat} {A : Option Addr} {n c : Nat} {es : List Edn} (h : EdnO w lo hi A n c es) (htx : ∀ e ∈ es, ∀ p ∈ e.cs, p.sz ≤ 1048576) (hc : ∀ e ∈ es, e.cs.length ≤ 1048576) (hn : es.length ≤ 1048576) : LTbl w A es :=
 ⟨h.reads, fun e he p hp => Nat.le_trans (htx e he p hp) (by decide), fun e he => Nat.le_trans (hc e he) (by decide), by omega⟩
def lbAt (es : List Edn) (i : Nat) : Bool :=
 match es[i]? with
 | some e => inr e.y 1970 2069 && (rbB e.cs && (i == 0 || match es[i - 1]? with | some d => decide (d.y < e.y) | none => false))
 | none => false
def lbTo (es : List Edn) (k : Nat) : Bool := (List.range k).all (lbAt es)
def lbB (es : List Edn) : Bool := lbTo es es.length && inr (es.length : Int) 1 6
theorem lbTo_succ (es : List Edn) (k : Nat) : lbTo es (k + 1) = (lbTo es k && lbAt es k) := by simp [lbTo, List.range_succ]
theorem lb_no {es : List Edn} {k : Nat} (hk : k < es.length) (h : lbAt es k = false) : lbB es = false := by
 have : lbTo es es.length = false := by
  rw [lbTo, List.all_eq_false]; exact ⟨k, by simpa using hk, by simp [h]⟩
 simp [lbB, this]
theorem lb_all {es : List Edn} (h : lbTo es es.length = true) : lbB es = inr (es.length : Int) 1 6 := by rw [lbB, h, Bool.true_and]
theorem lbAt_0 {es : List Edn} {e : Edn} (h : es[0]? = some e) : lbAt es 0 = (inr e.y 1970 2069 && rbB e.cs) := by unfold lbAt; rw [h]; simp
theorem lbAt_s {es : List Edn} {j : Nat} {d e : Edn} (h : es[j + 1]? = some e) (h1 : es[j]? = some d) : lbAt es (j + 1) = (inr e.y 1970 2069 && (rbB e.cs && decide (d.y < e.y))) := by
 unfold lbAt; rw [h]; simp [h1]
theorem lbAt_no {es : List Edn} {k : Nat} {e : Edn} (h : es[k]? = some e) (hv : (inr e.y 1970 2069 && rbB e.cs) = false) : lbAt es k = false := by
 unfold lbAt; rw [h]
 simp only [← Bool.and_assoc, hv, Bool.false_and]
structure LB (es : List Edn) : Prop where
 len : 1 ≤ es.length ∧ es.length ≤ 6
 at' : ∀ k, k < es.length → lbAt es k = true
 one : ∀ e ∈ es, inr e.y 1970 2069 = true ∧ rbB e.cs = true
 asc : ∀ (j : Nat) d e, es[j]? = some d → es[j + 1]? = some e → d.y < e.y
theorem lb_of {es : List Edn} (h : lbB es = true) : LB es := by
 unfold lbB at h
 rw [Bool.and_eq_true] at h
 obtain ⟨h1, h2⟩ := h
 have ha : ∀ k, k < es.length → lbAt es k = true := fun k hk => by
  rw [lbTo, List.all_eq_true] at h1
  exact h1 k (by simpa using hk)
 have hl := inr_iff.1 h2
 refine ⟨by omega, ha, fun e he => ?_, fun j d e hd he => ?_⟩
 ·
  obtain ⟨i, hi⟩ := List.getElem?_of_mem he
  have h3 := ha i (List.getElem?_eq_some_iff.1 hi).1
  unfold lbAt at h3; rw [hi] at h3
  simp only [Bool.and_eq_true] at h3
  exact ⟨h3.1, h3.2.1⟩
 ·
  have h3 := ha (j + 1) (List.getElem?_eq_some_iff.1 he).1
  rw [lbAt_s he hd] at h3
  simp only [Bool.and_eq_true, decide_eq_true_eq] at h3
  exact h3.2.2
theorem inE_y {S : World → Prop} {n lo hi : Int} {b : Bool} (h : inr n lo hi = b) (y : Sub S) : Calls Tryz.prog 57 #[.int .i64 n, .int .i64 lo, .int .i64 hi] y.w fun e w' => e = .returned (.bool b) ∧ ∃ z : Sub S, w' = z.w :=
 (innC_q h y.w).mono fun e w' k => ⟨k.1, y, k.2.symm⟩
theorem rbE_y {wr : World} {A : Option Addr} {c : Nat} {ps : List Cls} {b : Bool} (h : CTbl wr A ps) (hb : rbB ps = b) (y : Sub (Bel wr)) : Calls Tryz.prog 30 #[.slice A ps.length c] y.w fun e w' => e = .returned (.bool b) ∧ ∃ z : Sub (Bel wr), w' = z.w :=
 (rbS_q (h.below y.h) hb).mono fun e w' k => ⟨k.1, ⟨w', Bel.step y k.2⟩, rfl⟩
set_option maxRecDepth 100000 in
set_option maxHeartbeats 8000000 in
theorem isLib_s (A : Option Addr) (c : Nat) (es : List Edn) (w : World) (h : LTbl w A es) :
  Calls Tryz.prog 46 #[.slice A es.length c] w (Gives w (.bool (lbB es))) := by
 have hn := h.len
 have HR := Lib.hid h
 clear h
 go_enter Tryz.func46, Tryz.ntmps46
 go_wp2_with fail
 go_loopw [3] (fun i wr => ∃ k : Nat, k ≤ es.length ∧ i = .int .i64 k ∧ Hid (lbTo es k = true) ∧ Below w.heap.size w wr) (fun i _ => es.length - (intOf i).toNat)
 case atStart => exact ⟨0, Nat.zero_le _, rfl, Lib.hid rfl, Below.refl _ _⟩
 case round =>
  obtain ⟨k, hk, rfl, hok, hb⟩ := hrel
  by_cases hlt : k < es.length
  ·
   obtain ⟨b, off, e, a, cp, rfl, hl, he, c0, c1, hct⟩ := (HR.out.below hb).at hlt
   have HB := Lib.hid (fun y : Sub (Bel wr) => (belowGo hb y.h : Below w.heap.size w y.w))
   have q0 : ∀ y : Sub (Bel wr), y.w.cell? ⟨b, off + k * 2, none⟩ = some (.int .i64 e.y) := fun y => (Below.cell (show Below wr.heap.size wr y.w from y.h) (p := ⟨b, off + k * 2, none⟩) hl).trans c0
   have q1 : ∀ y : Sub (Bel wr), y.w.cell? ⟨b, off + k * 2 + 1, none⟩ = some (.slice a e.cs.length cp) := fun y => (Below.cell (show Below wr.heap.size wr y.w from y.h) (p := ⟨b, off + k * 2 + 1, none⟩) hl).trans c1
   obtain ⟨u, hu⟩ : ∃ u, inr e.y 1970 2069 = u := ⟨_, rfl⟩
   obtain ⟨v, hv⟩ : ∃ v, rbB e.cs = v := ⟨_, rfl⟩
   have HU := Lib.hid (fun y : Sub (Bel wr) => inE_y hu y)
   have HV := Lib.hid (fun y : Sub (Bel wr) => rbE_y (c := cp) hct hv y)
   have HNO := Lib.hid (fun h => lb_no hlt (lbAt_no he.out (by rw [hu, hv]; exact h)))
   by_cases huv : u = true ∧ v = true
   ·
    obtain ⟨rfl, rfl⟩ := huv
    clear HNO
    by_cases hk0 : 0 < k
    ·
     obtain ⟨b', off', d, a', cp', e2, hl', hd, c0', _, _⟩ := (HR.out.below hb).at (k := k - 1) (by omega)
     obtain ⟨rfl, rfl⟩ : b = b' ∧ off = off' := by injection e2 with e2; injection e2 with e3 e4; exact ⟨e3, e4⟩
     have p0 : ∀ y : Sub (Bel wr), y.w.cell? ⟨b, off + (k - 1) * 2, none⟩ = some (.int .i64 d.y) := fun y => (Below.cell (show Below wr.heap.size wr y.w from y.h) (p := ⟨b, off + (k - 1) * 2, none⟩) hl').trans c0'
     have ho : lbAt es k = decide (d.y < e.y) := by
      obtain ⟨j, rfl⟩ : ∃ j, k = j + 1 := ⟨k - 1, by omega⟩
      rw [lbAt_s he.out (by simpa using hd.out), hu, hv, Bool.true_and, Bool.true_and]
     have HT := Lib.hid (lbTo_succ es k)
     rw [hok.out, Bool.true_and, ho] at HT
     have E := Lib.hid (fun h : decide (d.y < e.y) = false => lb_no hlt (ho.trans h))
     clear hok he hd hct c0 c1 c0' e2 ho hu hv
     by_cases hqr : d.y < e.y
     ·
      rw [decide_eq_true hqr] at HT
      clear E
      go_wp2_with fail
      refine region_held (Bel wr) (by kernel_rfl) (by kernel_rfl) (Bel.drew wr) ?_
      repeat (go_big_quiet_step ((first | rfl | (go_at_call 57; exact HU.out _) | (go_at_call 30; exact HV.out _))))
      refine wpQuiet_nil ?_
      rintro _ ⟨y, rfl⟩
      go_wp2_with fail
      go_roundw
      case rel => exact ⟨k + 1, by omega, by go_num, HT, HB.out y⟩
      case measure => simp [intOf]; omega
     ·
      have E3 : Hid (lbB es = false) := Lib.hid (E.out (decide_eq_false hqr))
      have hqr : e.y ≤ d.y := by omega
      clear E HT
      go_wp2_with fail
      refine region_held (Bel wr) (by kernel_rfl) (by kernel_rfl) (Bel.drew wr) ?_
      repeat (go_big_quiet_step ((first | rfl | (go_at_call 57; exact HU.out _) | (go_at_call 30; exact HV.out _))))
      refine wpQuiet_nil ?_
      rintro _ ⟨y, rfl⟩
      go_wp2_with fail
      go_ret
      exact ⟨by rw [E3.out] <;> rfl, HB.out y⟩
    ·
     have HT : Hid (lbTo es (k + 1) = true) := Lib.hid (by
      rw [lbTo_succ, hok.out, Bool.true_and]
      obtain rfl : k = 0 := by omega
      rw [lbAt_0 he.out, hu, hv]; rfl)
     have hd : decide (0 < (k : Int)) = false := by simp; omega
     clear hok he hct c0 c1 hu hv
     go_wp2_with fail
     refine region_held (Bel wr) (by kernel_rfl) (by kernel_rfl) (Bel.drew wr) ?_
     repeat (go_big_quiet_step ((first | rfl | (go_at_call 57; exact HU.out _) | (go_at_call 30; exact HV.out _))))
     refine wpQuiet_nil ?_
     rintro _ ⟨y, rfl⟩
     go_wp2_with fail
     go_roundw
     case rel => exact ⟨k + 1, by omega, by go_num, HT, HB.out y⟩
     case measure => simp [intOf]; omega
   ·
    have E : Hid (lbB es = false) := Lib.hid (HNO.out (by revert huv; cases u <;> cases v <;> simp))
    clear HNO hok he hct c0 c1 hu hv
    cases u <;> cases v
    all_goals first
     | exact absurd ⟨rfl, rfl⟩ huv
     | (clear huv
        go_wp2_with fail
        refine region_held (Bel wr) (by kernel_rfl) (by kernel_rfl) (Bel.drew wr) ?_
        repeat (go_big_quiet_step ((first | rfl | (go_at_call 57; exact HU.out _) | (go_at_call 30; exact HV.out _))))
        refine wpQuiet_nil ?_
        rintro _ ⟨y, rfl⟩
        go_wp2_with fail
        go_ret
        exact ⟨by rw [E.out] <;> rfl, HB.out y⟩)
  ·
   have E := Lib.hid (lb_all (by obtain rfl : k = es.length := by omega
                                 exact hok.out))
   clear hok
   go_wp2_with (go_at_call 57; refine (inr_s _ _ _ _).mono ?_; rintro e w' ⟨rfl, rfl⟩)
   go_ret
   exact ⟨by rw [E.out] <;> rfl, hb⟩
theorem lbS_q {w : World} {A : Option Addr} {c : Nat} {es : List Edn} {b : Bool} (h : LTbl w A es) (hb : lbB es = b) : Calls Tryz.prog 46 #[.slice A es.length c] w (Gives w (.bool b)) := by
 subst hb; exact isLib_s A c es w h
end Go.Proofs.YtjcklmhgjdmjoaaGreat

namespace Go.Proofs.YtjcklmhgjdmjoaaGreat
open Go.ChangeShapes Go.WideShapes Go.ChangeAt Go.RowKit
set_option linter.unusedVariables false
def lstE (es : List Edn) (y : Int) : Nat → Int
 | 0 => -1
 | k + 1 => match es[k]? with
  | some e => if e.y ≤ y then (k : Int) else lstE es y k
  | none => lstE es y k
theorem lstE_yes {es : List Edn} {y : Int} {k : Nat} {e : Edn} (h : es[k]? = some e) (h1 : e.y ≤ y) : lstE es y (k + 1) = k := by rw [lstE, h]; simp [h1]
theorem lstE_no {es : List Edn} {y : Int} {k : Nat} {e : Edn} (h : es[k]? = some e) (h1 : ¬ e.y ≤ y) : lstE es y (k + 1) = lstE es y k := by rw [lstE, h]; simp [h1]
def efR (es : List Edn) (y : Int) : Int × Int := if lbB es = true then (if lstE es y es.length < 0 then (0, 4) else (lstE es y es.length, 0)) else (0, 1)
theorem efR_no {es : List Edn} {y : Int} (h : lbB es = false) : efR es y = (0, 1) := by unfold efR; rw [if_neg (by rw [h]; decide)]
theorem efR_none {es : List Edn} {y : Int} (h : lbB es = true) (h1 : lstE es y es.length < 0) : efR es y = (0, 4) := by unfold efR; rw [if_pos h, if_pos h1]
theorem efR_ok {es : List Edn} {y : Int} (h : lbB es = true) (h1 : ¬ lstE es y es.length < 0) : efR es y = (lstE es y es.length, 0) := by unfold efR; rw [if_pos h, if_neg h1]
set_option maxHeartbeats 2000000 in
theorem ef_s (A : Option Addr) (c : Nat) (es : List Edn) (y : Int) (w : World) (h : LTbl w A es) :
  Calls Tryz.prog 14 #[.slice A es.length c, .int .i64 y] w (Gives w (.tuple #[.int .i64 (efR es y).1, .int .i64 (efR es y).2])) := by
 have hn := h.len
 rcases Bool.eq_false_or_eq_true (lbB es) with hr | hr
 ·
  have HT := Lib.hid (lbS_q (c := c) h hr)
  have HR := Lib.hid h
  have E1 := Lib.hid (@efR_none es y hr)
  have E2 := Lib.hid (@efR_ok es y hr)
  clear h hr
  go_enter Tryz.func14, Tryz.ntmps14
  go_wp2_with (go_at_call 46; refine HT.out.mono ?_; rintro e w1 ⟨rfl, b1⟩)
  go_loopw [6, 7] (fun m i wr => ∃ (k : Nat) (M : Int), k ≤ es.length ∧ i = .int .i64 k ∧ m = .int .i64 M ∧ -1 ≤ M ∧ M < (k : Int) + 1 ∧ Hid (M = lstE es y k) ∧ Below w.heap.size w wr) (fun _ i _ => es.length - (intOf i).toNat)
  case atStart => exact ⟨0, -1, Nat.zero_le _, rfl, rfl, by omega, by omega, Lib.hid rfl, b1⟩
  case round =>
   obtain ⟨k, M, hk, rfl, rfl, hM0, hM1, hM, hb⟩ := hrel
   clear b1
   by_cases hlt : k < es.length
   ·
    obtain ⟨b, off, e, a, cp, rfl, hl, he, c0, c1, hct⟩ := (HR.out.below hb).at hlt
    by_cases hy : e.y ≤ y
    ·
     have EK : Hid ((k : Int) = lstE es y (k + 1)) := Lib.hid (lstE_yes he.out hy).symm
     clear hM he hct
     go_wp2_with fail
     go_roundw
     case rel => exact ⟨k + 1, _, by omega, by go_num, rfl, by omega, by omega, EK, hb⟩
     case measure => simp [intOf]; omega
    ·
     have EK : Hid (M = lstE es y (k + 1)) := Lib.hid (by rw [lstE_no he.out hy, hM.out])
     have hy2 : y < e.y := by omega
     clear hM he hct
     go_wp2_with fail
     go_roundw
     case rel => exact ⟨k + 1, _, by omega, by go_num, rfl, by omega, by omega, EK, hb⟩
     case measure => simp [intOf]; omega
   ·
    obtain rfl : k = es.length := by omega
    rw [← hM.out] at E1 E2
    clear hM
    by_cases hneg : M < 0
    ·
     have E := Lib.hid (E1.out (by omega))
     clear E1 E2
     go_wp2_with fail
     go_ret2
     exact ⟨by rw [E.out] <;> rfl, hb⟩
    ·
     have E := Lib.hid (E2.out (by omega))
     clear E1 E2
     go_wp2_with fail
     go_ret2
     exact ⟨by rw [E.out] <;> rfl, hb⟩
 ·
  have HT := Lib.hid (lbS_q (c := c) h hr)
  have E := Lib.hid (@efR_no es y hr)
  clear h hr
  go_enter Tryz.func14, Tryz.ntmps14
  go_wp2_with (go_at_call 46; refine HT.out.mono ?_; rintro e w1 ⟨rfl, b1⟩)
  go_ret2
  exact ⟨by rw [E.out] <;> rfl, b1⟩
theorem made0e (w : World) (base : Nat) (e : TypeId) (size : Nat) (hb : base ≤ w.heap.size) : (w.alloc (Obj.cells #[] e)).ownsRow base e size (.slice (some ⟨w.heap.size, 0, none⟩) 0 0) 0 [] :=
 World.ownsRow_made w #[] 0 hb (by decide) (by simp)
def hasE (s : List UInt8) (e : Edn) : Bool := decide (0 ≤ fndIC e.cs s)
def yrsE (es : List Edn) (s : List UInt8) : List Int := (es.filter (hasE s)).map (·.y)
theorem yrsE_snoc (es : List Edn) (e : Edn) (s : List UInt8) : yrsE (es ++ [e]) s = if hasE s e = true then yrsE es s ++ [e.y] else yrsE es s := by
 unfold yrsE
 rw [List.filter_append, List.map_append]
 cases h : hasE s e <;> simp [h]
theorem yrsE_len (es : List Edn) (s : List UInt8) : (yrsE es s).length ≤ es.length := by unfold yrsE; rw [List.length_map]; exact List.length_filter_le _ _
def yoR (es : List Edn) (s : List UInt8) : List Int × Int := if lbB es = true then (yrsE es s, 0) else ([], 1)
theorem yoR_no {es : List Edn} {s : List UInt8} (h : lbB es = false) : yoR es s = ([], 1) := by unfold yoR; rw [if_neg (by rw [h]; decide)]
theorem yoR_ok {es : List Edn} {s : List UInt8} (h : lbB es = true) : yoR es s = (yrsE es s, 0) := by unfold yoR; rw [if_pos h]
set_option maxRecDepth 100000 in
set_option maxHeartbeats 2000000 in
theorem yo_s (A : Option Addr) (d : Nat) (es : List Edn) (s : List UInt8) (w : World) (h : LTbl w A es) :
  Calls Tryz.prog 23 #[.slice A es.length d, .string ⟨s.toArray⟩] w (NewIntsC w (yoR es s)) := by
 obtain ⟨i0, hi, hz0, hz1, hz2⟩ := info_parts intInfo
 rcases Bool.eq_false_or_eq_true (lbB es) with hr | hr
 ·
  have HT := Lib.hid (lbS_q (c := d) h hr)
  have E := Lib.hid (@yoR_ok es s hr)
  have hn := h.len
  clear hr
  go_enter Tryz.func23, Tryz.ntmps23
  go_wp2_with (go_at_call 46; refine HT.out.mono ?_; rintro e w1 ⟨rfl, b1⟩)
  go_loopw [6, 7] (fun o i wr => ∃ (k : Nat) (ys : List Int), k ≤ es.length ∧ i = .int .i64 k ∧ wr.ownsRow w.heap.size 2 1 o ys.length (ys.map (Value.int .i64)) ∧ Hid (ys = yrsE (es.take k) s) ∧ Below w.heap.size w wr) (fun _ i _ => es.length - (intOf i).toNat)
  case atStart => exact ⟨0, [], Nat.zero_le _, rfl, made0e _ _ _ _ b1.size, Lib.hid rfl, b1.alloc b1.size _⟩
  case round =>
   obtain ⟨k, ys, hk, rfl, hown, hys, hb⟩ := hrel
   obtain ⟨O, q, rfl⟩ := own_form hown
   have hyl : ys.length ≤ k := by rw [hys.out]; have := yrsE_len (es.take k) s; rw [List.length_take] at this; omega
   by_cases hlt : k < es.length
   ·
    obtain ⟨b, off, e, a, cp, rfl, hl, he, c0, c1, hct⟩ := (h.below hb).at hlt
    have HF := Lib.hid (find_sC a cp e.cs s wr hct.row (by have := hct.len; omega))
    have HS := Lib.hid (yrsE_snoc (es.take k) e s)
    rw [← snoc_of he.out, ← hys.out] at HS
    have hh : Hid (hasE s e = decide (0 ≤ fndIC e.cs s)) := Lib.hid rfl
    generalize fndIC e.cs s = f at *
    clear h hct he hys
    by_cases hf : 0 ≤ f
    ·
     have HS2 : Hid (ys ++ [e.y] = yrsE (es.take (k + 1)) s) := Lib.hid (by rw [HS.out, if_pos (by rw [hh.out]; exact decide_eq_true hf)])
     clear HS hh
     go_wp2_with (first
      | (go_at_call 40; refine HF.out.mono ?_; rintro e w2 ⟨rfl, rfl⟩)
      | (at_builtin; refine wpList_push _ rfl (.tmp 26) (.tmp 32) 53 rfl w.heap.size 2 i0 _ 1 8 Tryz.underlying53 hi hz0 hz1 hz2 rfl (by decide) _ ys.length _ rfl hown [.int .i64 e.y] rfl (by simp [Value.oneCell']) rfl (by unfold maxLen; omega) (by omega) hb.size ?_; intro v' w' hown' hb'))
     go_roundw
     case rel => exact ⟨k + 1, ys ++ [e.y], by omega, by go_num, by simpa using hown', HS2, hb.trans hb'⟩
     case measure => simp [intOf]; omega
    ·
     have HS2 : Hid (ys = yrsE (es.take (k + 1)) s) := Lib.hid (by rw [HS.out, if_neg (by rw [hh.out]; simp; omega)])
     have hf2 : f < 0 := by omega
     clear HS hh
     go_wp2_with (go_at_call 40; refine HF.out.mono ?_; rintro e w2 ⟨rfl, rfl⟩)
     go_roundw
     case rel => exact ⟨k + 1, ys, by omega, by go_num, hown, HS2, hb⟩
     case measure => simp [intOf]; omega
   ·
    have HY : Hid (ys = yrsE es s) := Lib.hid (by rw [hys.out, take_all hk hlt])
    clear hys h
    go_wp2_with fail
    go_ret2
    rw [E.out, ← HY.out]
    exact ⟨O, q, rfl, hown, hb⟩
 ·
  have E := Lib.hid (@yoR_no es s hr)
  have HT := Lib.hid (lbS_q (c := d) h hr)
  clear hr
  go_enter Tryz.func23, Tryz.ntmps23
  go_wp2_with (go_at_call 46; refine HT.out.mono ?_; rintro e w1 ⟨rfl, b1⟩)
  go_ret2
  rw [E.out]
  exact ⟨none, 0, rfl, Oi.nil _ _, b1⟩
end Go.Proofs.YtjcklmhgjdmjoaaGreat

namespace Go.Proofs.YtjcklmhgjdmjoaaGreat
open Go.ChangeShapes Go.WideShapes Go.ChangeAt Go.RowKit
set_option linter.unusedVariables false
structure LTblC (w : World) (A : Option Addr) (c : Nat) (es : List Edn) : Prop where
 tbl : LTbl w A es
 cap : es.length ≤ c
theorem LTblC.row {w : World} {A : Option Addr} {c : Nat} {es : List Edn} (h : LTblC w A c es) : EdnR w A es := h.tbl.row
theorem LTblC.len {w : World} {A : Option Addr} {c : Nat} {es : List Edn} (h : LTblC w A c es) : es.length ≤ 1048590 := h.tbl.len
theorem LTblC.below {w w' : World} {A : Option Addr} {c : Nat} {es : List Edn} (h : LTblC w A c es) (hb : Below w.heap.size w w') : LTblC w' A c es := ⟨h.tbl.below hb, h.cap⟩
theorem edn_cap {w : World} {lo hi : Nat} {A : Option Addr} {n c : Nat} {es : List Edn} (h : EdnO w lo hi A n c es) : n ≤ c := by
 obtain ⟨hs, h⟩ := h
 rcases h.row.2 with ⟨e, e2⟩ | ⟨g, cap, cur, e, _, _, hle, _⟩
 ·
  have := h.row.1; injection e; omega
 ·
  injection e with e1 e2 e3; omega
theorem ltblC_of {w : World} {lo hi : Nat} {A : Option Addr} {c : Nat} {es : List Edn} (h : EdnO w lo hi A es.length c es) (htx : ∀ e ∈ es, ∀ p ∈ e.cs, p.sz ≤ 1048576) (hc : ∀ e ∈ es, e.cs.length ≤ 1048576) (hn : es.length ≤ 1048576) : LTblC w A c es := ⟨ltbl_of h htx hc hn, edn_cap h⟩
def plcL (es : List Edn) (y : Int) : Nat := es.findIdx (fun q => decide (y ≤ q.y))
theorem plc_leL (es : List Edn) (y : Int) : plcL es y ≤ es.length := List.findIdx_le_length
theorem plc_eqL {es : List Edn} {y : Int} {p : Nat} (hp : p ≤ es.length) (h1 : ∀ (i : Nat) (q : Edn), i < p → es[i]? = some q → q.y < y) (h2 : ∀ (q : Edn), es[p]? = some q → y ≤ q.y) : plcL es y = p := by
 unfold plcL
 by_cases hlt : p < es.length
 ·
  rw [List.findIdx_eq hlt]
  refine ⟨decide_eq_true (h2 _ (List.getElem?_eq_getElem hlt)), fun j hj => ?_⟩
  have := h1 j _ hj (List.getElem?_eq_getElem (by omega))
  simp only [decide_eq_false_iff_not]; omega
 ·
  obtain rfl : p = es.length := by omega
  rw [List.findIdx_eq_length]
  intro x hx
  obtain ⟨j, hj⟩ := List.getElem?_of_mem hx
  have := h1 j x (List.getElem?_eq_some_iff.1 hj).1 hj
  simp only [decide_eq_false_iff_not]; omega
theorem plc_lessL {es : List Edn} {y : Int} {i : Nat} {q : Edn} (hi : i < plcL es y) (hq : es[i]? = some q) : q.y < y := by
 have hl := (List.getElem?_eq_some_iff.1 hq).1
 have h := List.not_of_lt_findIdx hi
 have e : es[i] = q := (List.getElem?_eq_some_iff.1 hq).2
 rw [e] at h
 simp only [decide_eq_false_iff_not] at h; omega
theorem plc_atL {es : List Edn} {y : Int} {q : Edn} (hq : es[plcL es y]? = some q) : y ≤ q.y := by
 have hp := (List.getElem?_eq_some_iff.1 hq).1
 have h1 := List.findIdx_getElem (w := hp)
 have h2 : y ≤ (es[plcL es y]'hp).y := of_decide_eq_true h1
 rw [(List.getElem?_eq_some_iff.1 hq).2] at h2; exact h2
theorem lb_lt {es : List Edn} (h : LB es) : ∀ (n i : Nat) {d e : Edn}, es[i]? = some d → es[i + 1 + n]? = some e → d.y < e.y
 | 0, i, d, e, hd, he => h.asc i d e hd he
 | n + 1, i, d, e, hd, he => by
  have hl := (List.getElem?_eq_some_iff.1 he).1
  have hm := List.getElem?_eq_getElem (l := es) (i := i + 1 + n) (by omega)
  have h1 := lb_lt h n i hd hm
  have h2 := h.asc (i + 1 + n) _ e hm (by rw [← he]; congr 1)
  omega
theorem lb_mono {es : List Edn} (h : LB es) {i j : Nat} {d e : Edn} (hij : i < j) (hd : es[i]? = some d) (he : es[j]? = some e) : d.y < e.y := by
 obtain ⟨n, rfl⟩ : ∃ n, j = i + 1 + n := ⟨j - (i + 1), by omega⟩
 exact lb_lt h n i hd he
def hasL (es : List Edn) (y : Int) : Bool := match es[plcL es y]? with | some q => q.y == y | none => false
theorem hasL_t {es : List Edn} {y : Int} (h : hasL es y = true) : ∃ q, es[plcL es y]? = some q ∧ q.y = y := by
 unfold hasL at h
 cases hq : es[plcL es y]? with
 | none => rw [hq] at h; cases h
 | some q => rw [hq] at h; exact ⟨q, rfl, by simpa using h⟩
theorem hasL_f {es : List Edn} (L : LB es) {y : Int} (h : hasL es y = false) : ∀ (i : Nat) q, es[i]? = some q → q.y ≠ y := by
 intro i q hq e
 have h1 : ¬ i < plcL es y := fun hi => by have := plc_lessL hi hq; omega
 rcases Nat.lt_or_ge (plcL es y) i with h2 | h2
 ·
  have hl := (List.getElem?_eq_some_iff.1 hq).1
  have hp := List.getElem?_eq_getElem (l := es) (i := plcL es y) (by omega)
  have := plc_atL hp
  have := lb_mono L h2 hp hq
  omega
 ·
  obtain rfl : i = plcL es y := by omega
  unfold hasL at h
  rw [hq] at h
  simp [e] at h
theorem hasL_at {es : List Edn} (L : LB es) {y : Int} {i : Nat} {q : Edn} (hq : es[i]? = some q) (e : q.y = y) : hasL es y = true ∧ plcL es y = i := by
 have hp : plcL es y = i := plc_eqL (Nat.le_of_lt (List.getElem?_eq_some_iff.1 hq).1) (fun j d hj hd => by have := lb_mono L hj hd hq; omega) (fun d hd => by rw [hq] at hd; cases hd; omega)
 refine ⟨?_, hp⟩
 unfold hasL
 rw [hp, hq]; simp [e]
theorem lstE_plc {es : List Edn} (L : LB es) (y : Int) : lstE es y es.length = if hasL es y = true then (plcL es y : Int) else (plcL es y : Int) - 1 := by
 have key : ∀ (m k : Nat), k ≤ es.length → (∀ (i : Nat) q, i < k → es[i]? = some q → q.y ≤ y) → (∀ (i : Nat) q, k ≤ i → es[i]? = some q → y < q.y) → m ≤ es.length → k ≤ m → lstE es y m = (k : Int) - 1 := by
  intro m
  induction m with
  | zero => intro k hk h1 h2 hm hkm; obtain rfl : k = 0 := by omega
            rfl
  | succ m ih =>
   intro k hk h1 h2 hm hkm
   have he := List.getElem?_eq_getElem (l := es) (i := m) (by omega)
   by_cases hkm2 : k = m + 1
   ·
    subst hkm2
    rw [lstE_yes he (h1 m _ (by omega) he)]; omega
   ·
    rw [lstE_no he (by have := h2 m _ (by omega) he; omega)]
    exact ih k hk h1 h2 (by omega) (by omega)
 have hple := plc_leL es y
 cases hh : hasL es y with
 | true =>
  obtain ⟨q, hq, hy⟩ := hasL_t hh
  have hl := (List.getElem?_eq_some_iff.1 hq).1
  rw [if_pos rfl, key es.length (plcL es y + 1) (by omega) (fun i d hi hd => ?_) (fun i d hi hd => ?_) (Nat.le_refl _) (by omega)]
  ·
   omega
  ·
   rcases Nat.lt_or_ge i (plcL es y) with h1 | h1
   ·
    have := plc_lessL h1 hd; omega
   ·
    obtain rfl : i = plcL es y := by omega
    rw [hq] at hd; cases hd; omega
  ·
   have := lb_mono L (show plcL es y < i by omega) hq hd; omega
 | false =>
  rw [if_neg (by decide), key es.length (plcL es y) hple (fun i d hi hd => by have := plc_lessL hi hd; omega) (fun i d hi hd => ?_) (Nat.le_refl _) hple]
  have hl := (List.getElem?_eq_some_iff.1 hd).1
  have hp := List.getElem?_eq_getElem (l := es) (i := plcL es y) (by omega)
  have h1 := plc_atL hp
  have h2 := hasL_f L hh _ _ hp
  rcases Nat.lt_or_ge (plcL es y) i with h3 | h3
  ·
   have := lb_mono L h3 hp hd; omega
  ·
   obtain rfl : i = plcL es y := by omega
   rw [hp] at hd; cases hd; omega
theorem efR_has {es : List Edn} {y : Int} (h : lbB es = true) (h1 : hasL es y = true) : efR es y = ((plcL es y : Int), 0) := by
 have := lstE_plc (lb_of h) y
 rw [if_pos h1] at this
 rw [efR_ok h (by omega), this]
theorem efR_bef {es : List Edn} {y : Int} (h : lbB es = true) (h1 : hasL es y = false) : efR es y = if plcL es y = 0 then (0, 4) else ((plcL es y : Int) - 1, 0) := by
 have := lstE_plc (lb_of h) y
 rw [if_neg (by rw [h1]; decide)] at this
 split
 ·
  rw [efR_none h (by omega)]
 ·
  rw [efR_ok h (by omega), this]
def addL (es : List Edn) (e : Edn) : List Edn := es.take (plcL es e.y) ++ [e] ++ es.drop (plcL es e.y)
def adR (es : List Edn) (e : Edn) : List Edn × Int := if (lbB es && rbB e.cs) = true then (if lbB (addL es e) = true then (addL es e, 0) else ([], 5)) else ([], 1)
theorem adR_no {es : List Edn} {e : Edn} (h : (lbB es && rbB e.cs) = false) : adR es e = ([], 1) := by unfold adR; rw [if_neg (by rw [h]; decide)]
theorem adR_st {es : List Edn} {e : Edn} (h : lbB es = true) (h1 : rbB e.cs = true) (h2 : lbB (addL es e) = false) : adR es e = ([], 5) := by unfold adR; rw [if_pos (by rw [h, h1]; rfl), if_neg (by rw [h2]; decide)]
theorem adR_ok {es : List Edn} {e : Edn} (h : lbB es = true) (h1 : rbB e.cs = true) (h2 : lbB (addL es e) = true) : adR es e = (addL es e, 0) := by unfold adR; rw [if_pos (by rw [h, h1]; rfl), if_pos h2]
theorem addL_len (es : List Edn) (e : Edn) : (addL es e).length = es.length + 1 := by
 have := plc_leL es e.y
 unfold addL
 simp only [List.length_append, List.length_take, List.length_drop, List.length_cons, List.length_nil]; omega
theorem addL_mem {es : List Edn} {e x : Edn} (h : x ∈ addL es e) : x = e ∨ x ∈ es := by
 unfold addL at h
 simp only [List.mem_append, List.mem_singleton] at h
 rcases h with (h | h) | h
 ·
  exact .inr (List.mem_of_mem_take h)
 ·
  exact .inl h
 ·
  exact .inr (List.mem_of_mem_drop h)
def amE (e : Edn) (at_ : Nat) (p : Cls) : Edn := ⟨e.y, e.cs.set at_ p⟩
def amR (es : List Edn) (y : Int) (p : Cls) : List Edn × Int :=
 if (lbB es && p.ok) = true then
  (if hasL es y = true then
   (match es[plcL es y]? with
    | some e => (match fndC e.cs p.c with
      | some k => if lbB (es.set (plcL es y) (amE e k p)) = true then (es.set (plcL es y) (amE e k p), 0) else ([], 5)
      | none => ([], 5))
    | none => ([], 4))
   else ([], 4))
 else ([], 1)
theorem amR_no {es : List Edn} {y : Int} {p : Cls} (h : (lbB es && p.ok) = false) : amR es y p = ([], 1) := by unfold amR; rw [if_neg (by rw [h]; decide)]
theorem amR_nf {es : List Edn} {y : Int} {p : Cls} (h : lbB es = true) (h1 : p.ok = true) (h2 : hasL es y = false) : amR es y p = ([], 4) := by unfold amR; rw [if_pos (by rw [h, h1]; rfl), if_neg (by rw [h2]; decide)]
theorem amR_nc {es : List Edn} {y : Int} {p : Cls} {e : Edn} (h : lbB es = true) (h1 : p.ok = true) (h2 : hasL es y = true) (he : es[plcL es y]? = some e) (hf : fndC e.cs p.c = none) : amR es y p = ([], 5) := by
 unfold amR; rw [if_pos (by rw [h, h1]; rfl), if_pos h2, he]; simp only [hf]
theorem amR_st {es : List Edn} {y : Int} {p : Cls} {e : Edn} {k : Nat} (h : lbB es = true) (h1 : p.ok = true) (h2 : hasL es y = true) (he : es[plcL es y]? = some e) (hf : fndC e.cs p.c = some k) (h3 : lbB (es.set (plcL es y) (amE e k p)) = false) : amR es y p = ([], 5) := by
 unfold amR; rw [if_pos (by rw [h, h1]; rfl), if_pos h2, he]; simp only [hf]; rw [if_neg (by rw [h3]; decide)]
theorem amR_ok {es : List Edn} {y : Int} {p : Cls} {e : Edn} {k : Nat} (h : lbB es = true) (h1 : p.ok = true) (h2 : hasL es y = true) (he : es[plcL es y]? = some e) (hf : fndC e.cs p.c = some k) (h3 : lbB (es.set (plcL es y) (amE e k p)) = true) : amR es y p = (es.set (plcL es y) (amE e k p), 0) := by
 unfold amR; rw [if_pos (by rw [h, h1]; rfl), if_pos h2, he]; simp only [hf]; rw [if_pos h3]
end Go.Proofs.YtjcklmhgjdmjoaaGreat

