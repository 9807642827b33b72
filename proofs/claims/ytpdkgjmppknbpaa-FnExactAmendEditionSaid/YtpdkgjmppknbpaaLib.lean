/- Libraries in plain lists; spec.IsLibrary. -/
import Derived.Test.YtpdkgjmppknbpaaEdnh
import Derived.Test.YtpdkgjmppknbpaaCln
namespace Go.Proofs.Ytpdkgjmppknbpaa
open Go.ChangeShapes Go.WideShapes Go.ChangeAt Go.RowKit
set_option linter.unusedVariables false

/-- Editions that a function takes: few enough, with short texts. -/
structure LTbl (w : World) (A : Option Addr) (es : List Edn) : Prop where
  row : EdnR w A es
  txt : ∀ e ∈ es, ∀ p ∈ e.cs, p.sz ≤ 1048600
  cnt : ∀ e ∈ es, e.cs.length ≤ 1048590
  len : es.length ≤ 1048590
theorem LTbl.below {w w' : World} {A : Option Addr} {es : List Edn} (h : LTbl w A es) (hb : Below w.heap.size w w') : LTbl w' A es := ⟨h.row.below hb, h.txt, h.cnt, h.len⟩
theorem LTbl.at {w : World} {A : Option Addr} {es : List Edn} (h : LTbl w A es) {k : Nat} (hk : k < es.length) :
    ∃ b off e a c, A = some ⟨b, off, none⟩ ∧ b < w.heap.size ∧ Hid (es[k]? = some e) ∧ w.cell? ⟨b, off + k * 2, none⟩ = some (.int .i64 e.y) ∧
      w.cell? ⟨b, off + k * 2 + 1, none⟩ = some (.slice a e.cs.length c) ∧ CTbl w a e.cs := by
  obtain ⟨b, off, e, a, c, h1, h2, h3, h4, h5, h6⟩ := h.row.at hk
  have hm := List.mem_of_getElem? h3.out
  exact ⟨b, off, e, a, c, h1, h2, h3, h4, h5, h6, h.txt e hm, h.cnt e hm⟩
theorem ltbl_of {w : World} {lo hi : Nat} {A : Option Addr} {n c : Nat} {es : List Edn} (h : EdnO w lo hi A n c es) (htx : ∀ e ∈ es, ∀ p ∈ e.cs, p.sz ≤ 1048576) (hc : ∀ e ∈ es, e.cs.length ≤ 1048576) (hn : es.length ≤ 1048576) : LTbl w A es :=
  ⟨h.reads, fun e he p hp => Nat.le_trans (htx e he p hp) (by decide), fun e he => Nat.le_trans (hc e he) (by decide), by omega⟩

/-! ### libraries in plain lists -/
def lbAt (es : List Edn) (i : Nat) : Bool :=
  match es[i]? with
  | some e => inr e.y 1970 2069 && (rbB e.cs && (i == 0 || match es[i - 1]? with | some d => decide (d.y < e.y) | none => false))
  | none => false
def lbTo (es : List Edn) (k : Nat) : Bool := (List.range k).all (lbAt es)
def lbB (es : List Edn) : Bool := lbTo es es.length && inr (es.length : Int) 1 6
theorem lbTo_succ (es : List Edn) (k : Nat) : lbTo es (k + 1) = (lbTo es k && lbAt es k) := by simp [lbTo, List.range_succ]
theorem lb_no {es : List Edn} {k : Nat} (hk : k < es.length) (h : lbAt es k = false) : lbB es = false := by
  have : lbTo es es.length = false := by
    rw [lbTo, List.all_eq_false]; exact ⟨k, by simpa using hk, by simp [h]⟩
  simp [lbB, this]
theorem lb_all {es : List Edn} (h : lbTo es es.length = true) : lbB es = inr (es.length : Int) 1 6 := by rw [lbB, h, Bool.true_and]
theorem lbAt_0 {es : List Edn} {e : Edn} (h : es[0]? = some e) : lbAt es 0 = (inr e.y 1970 2069 && rbB e.cs) := by unfold lbAt; rw [h]; simp
theorem lbAt_s {es : List Edn} {j : Nat} {d e : Edn} (h : es[j + 1]? = some e) (h1 : es[j]? = some d) : lbAt es (j + 1) = (inr e.y 1970 2069 && (rbB e.cs && decide (d.y < e.y))) := by
  unfold lbAt; rw [h]; simp [h1]
theorem lbAt_no {es : List Edn} {k : Nat} {e : Edn} (h : es[k]? = some e) (hv : (inr e.y 1970 2069 && rbB e.cs) = false) : lbAt es k = false := by
  unfold lbAt; rw [h]
  simp only [← Bool.and_assoc, hv, Bool.false_and]
structure LB (es : List Edn) : Prop where
  len : 1 ≤ es.length ∧ es.length ≤ 6
  at' : ∀ k, k < es.length → lbAt es k = true
  one : ∀ e ∈ es, inr e.y 1970 2069 = true ∧ rbB e.cs = true
  asc : ∀ (j : Nat) d e, es[j]? = some d → es[j + 1]? = some e → d.y < e.y
theorem lb_of {es : List Edn} (h : lbB es = true) : LB es := by
  unfold lbB at h
  rw [Bool.and_eq_true] at h
  obtain ⟨h1, h2⟩ := h
  have ha : ∀ k, k < es.length → lbAt es k = true := fun k hk => by
    rw [lbTo, List.all_eq_true] at h1
    exact h1 k (by simpa using hk)
  have hl := inr_iff.1 h2
  refine ⟨by omega, ha, fun e he => ?_, fun j d e hd he => ?_⟩
  · obtain ⟨i, hi⟩ := List.getElem?_of_mem he
    have h3 := ha i (List.getElem?_eq_some_iff.1 hi).1
    unfold lbAt at h3; rw [hi] at h3
    simp only [Bool.and_eq_true] at h3
    exact ⟨h3.1, h3.2.1⟩
  · have h3 := ha (j + 1) (List.getElem?_eq_some_iff.1 he).1
    rw [lbAt_s he hd] at h3
    simp only [Bool.and_eq_true, decide_eq_true_eq] at h3
    exact h3.2.2

/-! ### spec.IsLibrary -/
theorem inE_y {S : World → Prop} {n lo hi : Int} {b : Bool} (h : inr n lo hi = b) (y : Sub S) : Calls Try.prog 52 #[.int .i64 n, .int .i64 lo, .int .i64 hi] y.w fun e w' => e = .returned (.bool b) ∧ ∃ z : Sub S, w' = z.w :=
  (innC_q h y.w).mono fun e w' k => ⟨k.1, y, k.2.symm⟩
theorem rbE_y {wr : World} {A : Option Addr} {c : Nat} {ps : List Cls} {b : Bool} (h : CTbl wr A ps) (hb : rbB ps = b) (y : Sub (Bel wr)) : Calls Try.prog 53 #[.slice A ps.length c] y.w fun e w' => e = .returned (.bool b) ∧ ∃ z : Sub (Bel wr), w' = z.w :=
  (rbS_q (h.below y.h) hb).mono fun e w' k => ⟨k.1, ⟨w', Bel.step y k.2⟩, rfl⟩
set_option maxRecDepth 100000 in
set_option maxHeartbeats 8000000 in
theorem isLib_s (A : Option Addr) (c : Nat) (es : List Edn) (w : World) (h : LTbl w A es) :
    Calls Try.prog 13 #[.slice A es.length c] w (Gives w (.bool (lbB es))) := by
  have hn := h.len
  have HR := Lib.hid h
  clear h
  go_enter Try.func13, Try.ntmps13
  go_wp2_with fail
  go_loopw [3] (fun i wr => ∃ k : Nat, k ≤ es.length ∧ i = .int .i64 k ∧ Hid (lbTo es k = true) ∧ Below w.heap.size w wr) (fun i _ => es.length - (intOf i).toNat)
  case atStart => exact ⟨0, Nat.zero_le _, rfl, Lib.hid rfl, Below.refl _ _⟩
  case round =>
    obtain ⟨k, hk, rfl, hok, hb⟩ := hrel
    by_cases hlt : k < es.length
    · obtain ⟨b, off, e, a, cp, rfl, hl, he, c0, c1, hct⟩ := (HR.out.below hb).at hlt
      have HB := Lib.hid (fun y : Sub (Bel wr) => (belowGo hb y.h : Below w.heap.size w y.w))
      have q0 : ∀ y : Sub (Bel wr), y.w.cell? ⟨b, off + k * 2, none⟩ = some (.int .i64 e.y) := fun y => (Below.cell (show Below wr.heap.size wr y.w from y.h) (p := ⟨b, off + k * 2, none⟩) hl).trans c0
      have q1 : ∀ y : Sub (Bel wr), y.w.cell? ⟨b, off + k * 2 + 1, none⟩ = some (.slice a e.cs.length cp) := fun y => (Below.cell (show Below wr.heap.size wr y.w from y.h) (p := ⟨b, off + k * 2 + 1, none⟩) hl).trans c1
      obtain ⟨u, hu⟩ : ∃ u, inr e.y 1970 2069 = u := ⟨_, rfl⟩
      obtain ⟨v, hv⟩ : ∃ v, rbB e.cs = v := ⟨_, rfl⟩
      have HU := Lib.hid (fun y : Sub (Bel wr) => inE_y hu y)
      have HV := Lib.hid (fun y : Sub (Bel wr) => rbE_y (c := cp) hct hv y)
      have HNO := Lib.hid (fun h => lb_no hlt (lbAt_no he.out (by rw [hu, hv]; exact h)))
      by_cases huv : u = true ∧ v = true
      · obtain ⟨rfl, rfl⟩ := huv
        clear HNO
        by_cases hk0 : 0 < k
        · obtain ⟨b', off', d, a', cp', e2, hl', hd, c0', _, _⟩ := (HR.out.below hb).at (k := k - 1) (by omega)
          obtain ⟨rfl, rfl⟩ : b = b' ∧ off = off' := by injection e2 with e2; injection e2 with e3 e4; exact ⟨e3, e4⟩
          have p0 : ∀ y : Sub (Bel wr), y.w.cell? ⟨b, off + (k - 1) * 2, none⟩ = some (.int .i64 d.y) := fun y => (Below.cell (show Below wr.heap.size wr y.w from y.h) (p := ⟨b, off + (k - 1) * 2, none⟩) hl').trans c0'
          have ho : lbAt es k = decide (d.y < e.y) := by
            obtain ⟨j, rfl⟩ : ∃ j, k = j + 1 := ⟨k - 1, by omega⟩
            rw [lbAt_s he.out (by simpa using hd.out), hu, hv, Bool.true_and, Bool.true_and]
          have HT := Lib.hid (lbTo_succ es k)
          rw [hok.out, Bool.true_and, ho] at HT
          have E := Lib.hid (fun h : decide (d.y < e.y) = false => lb_no hlt (ho.trans h))
          clear hok he hd hct c0 c1 c0' e2 ho hu hv
          by_cases hqr : d.y < e.y
          · rw [decide_eq_true hqr] at HT
            clear E
            go_wp2_with fail
            refine region_held (Bel wr) (by kernel_rfl) (by kernel_rfl) (Bel.drew wr) ?_
            repeat (go_big_quiet_step ((first | rfl | (go_at_call 52; exact HU.out _) | (go_at_call 53; exact HV.out _))))
            refine wpQuiet_nil ?_
            rintro _ ⟨y, rfl⟩
            go_wp2_with fail
            go_roundw
            case rel => exact ⟨k + 1, by omega, by go_num, HT, HB.out y⟩
            case measure => simp [intOf]; omega
          · have E3 : Hid (lbB es = false) := Lib.hid (E.out (decide_eq_false hqr))
            have hqr : e.y ≤ d.y := by omega
            clear E HT
            go_wp2_with fail
            refine region_held (Bel wr) (by kernel_rfl) (by kernel_rfl) (Bel.drew wr) ?_
            repeat (go_big_quiet_step ((first | rfl | (go_at_call 52; exact HU.out _) | (go_at_call 53; exact HV.out _))))
            refine wpQuiet_nil ?_
            rintro _ ⟨y, rfl⟩
            go_wp2_with fail
            go_ret
            exact ⟨by rw [E3.out] <;> rfl, HB.out y⟩
        · have HT : Hid (lbTo es (k + 1) = true) := Lib.hid (by
            rw [lbTo_succ, hok.out, Bool.true_and]
            obtain rfl : k = 0 := by omega
            rw [lbAt_0 he.out, hu, hv]; rfl)
          have hd : decide (0 < (k : Int)) = false := by simp; omega
          clear hok he hct c0 c1 hu hv
          go_wp2_with fail
          refine region_held (Bel wr) (by kernel_rfl) (by kernel_rfl) (Bel.drew wr) ?_
          repeat (go_big_quiet_step ((first | rfl | (go_at_call 52; exact HU.out _) | (go_at_call 53; exact HV.out _))))
          refine wpQuiet_nil ?_
          rintro _ ⟨y, rfl⟩
          go_wp2_with fail
          go_roundw
          case rel => exact ⟨k + 1, by omega, by go_num, HT, HB.out y⟩
          case measure => simp [intOf]; omega
      · have E : Hid (lbB es = false) := Lib.hid (HNO.out (by revert huv; cases u <;> cases v <;> simp))
        clear HNO hok he hct c0 c1 hu hv
        cases u <;> cases v
        all_goals first
          | exact absurd ⟨rfl, rfl⟩ huv
          | (clear huv
             go_wp2_with fail
             refine region_held (Bel wr) (by kernel_rfl) (by kernel_rfl) (Bel.drew wr) ?_
             repeat (go_big_quiet_step ((first | rfl | (go_at_call 52; exact HU.out _) | (go_at_call 53; exact HV.out _))))
             refine wpQuiet_nil ?_
             rintro _ ⟨y, rfl⟩
             go_wp2_with fail
             go_ret
             exact ⟨by rw [E.out] <;> rfl, HB.out y⟩)
    · have E := Lib.hid (lb_all (by obtain rfl : k = es.length := by omega
                                    exact hok.out))
      clear hok
      go_wp2_with (go_at_call 52; refine (inr_s _ _ _ _).mono ?_; rintro e w' ⟨rfl, rfl⟩)
      go_ret
      exact ⟨by rw [E.out] <;> rfl, hb⟩
theorem lbS_q {w : World} {A : Option Addr} {c : Nat} {es : List Edn} {b : Bool} (h : LTbl w A es) (hb : lbB es = b) : Calls Try.prog 13 #[.slice A es.length c] w (Gives w (.bool b)) := by
  subst hb; exact isLib_s A c es w h
end Go.Proofs.Ytpdkgjmppknbpaa
