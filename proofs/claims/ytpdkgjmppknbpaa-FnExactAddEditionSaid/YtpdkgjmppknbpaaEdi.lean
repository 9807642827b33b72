/- impl: isValid, IsLibrary. -/
import Derived.Test.YtpdkgjmppknbpaaEdl
import Derived.Test.YtpdkgjmppknbpaaClb
namespace Go.Proofs.Ytpdkgjmppknbpaa
open Go.ChangeShapes Go.WideShapes Go.ChangeAt Go.RowKit
set_option linter.unusedVariables false

/-- An edition lies at g. -/
structure KeepN (w : World) (y : Int) (A : Option Addr) (n c : Nat) (W : World) : Prop where
  a : W.heap[w.heap.size]? = some (.cells #[.int .i64 y, .slice A n c] 40 (0, 0))
  bel : Below w.heap.size w W
section
variable {w W w' : World} {y : Int} {A : Option Addr} {n c : Nat}
theorem KeepN.step (k : KeepN w y A n c W) (b : Below W.heap.size W w') : KeepN w y A n c w' := ⟨(b.block _ (lt_some k.a)).trans k.a, belowGo k.bel b⟩
theorem KeepN.drew (k : KeepN w y A n c W) : KeepN w y A n c W.drew := ⟨k.a, k.bel.drew⟩
theorem KeepN.c0 (k : KeepN w y A n c W) : W.cell? ⟨w.heap.size, 0, none⟩ = some (.int .i64 y) := by rw [cell_of_row _ _ _ _ _ _ k.a]; rfl
theorem KeepN.c1 (k : KeepN w y A n c W) : W.cell? ⟨w.heap.size, 1, none⟩ = some (.slice A n c) := by rw [cell_of_row _ _ _ _ _ _ k.a]; rfl
theorem KeepN.new (w : World) (y : Int) (A : Option Addr) (n c : Nat) : KeepN w y A n c (w.alloc (.cells #[.int .i64 y, .slice A n c] 40)) := ⟨heap_alloc_new _ _, below_alloc _ _⟩
end
set_option maxHeartbeats 1000000 in
theorem edValid_i (y : Int) (A : Option Addr) (c : Nat) (cs : List Cls) (w : World) (h : CTbl w A cs) :
    Calls Try.prog 54 #[.agg #[.int .i64 y, .slice A cs.length c]] w (Gives w (.bool (inr y 1970 2069 && rbB cs))) := by
  have k0 := KeepN.new w y A cs.length c
  have HR := Lib.hid (isRb_i A c cs _ (h.below k0.bel))
  have c0 := k0.c0; have c1 := k0.c1
  have B := Lib.hid k0.bel
  clear h k0
  obtain ⟨u, hu⟩ : ∃ u, inr y 1970 2069 = u := ⟨_, rfl⟩
  rw [hu]
  generalize rbB cs = v at *
  cases u
  · go_enter Try.func54, Try.ntmps54
    go_wp2_with (go_at_call 83; refine (within_q hu _).mono ?_; rintro e w1 ⟨rfl, rfl⟩)
    go_ret
    exact ⟨rfl, B.out⟩
  · go_enter Try.func54, Try.ntmps54
    go_wp2_with (first
      | (go_at_call 83; refine (within_q hu _).mono ?_; rintro e w1 ⟨rfl, rfl⟩)
      | (go_at_call 57; refine HR.out.mono ?_; rintro e w2 ⟨rfl, b2⟩))
    go_ret
    exact ⟨rfl, belowGo B.out b2⟩
theorem edValid_y {wr : World} {y : Int} {A : Option Addr} {c : Nat} {cs : List Cls} {b : Bool} (h : CTbl wr A cs) (hb : (inr y 1970 2069 && rbB cs) = b) (z : Sub (Bel wr)) :
    Calls Try.prog 54 #[.agg #[.int .i64 y, .slice A cs.length c]] z.w fun e w' => e = .returned (.bool b) ∧ ∃ z2 : Sub (Bel wr), w' = z2.w :=
  (edValid_i y A c cs z.w (h.below z.h)).mono fun e w' k => ⟨by rw [← hb]; exact k.1, ⟨w', Bel.step z k.2⟩, rfl⟩
theorem lbAt_v {es : List Edn} {k : Nat} {e : Edn} (h : es[k]? = some e) (hv : (inr e.y 1970 2069 && rbB e.cs) = true) : lbAt es k = (k == 0 || match es[k - 1]? with | some d => decide (d.y < e.y) | none => false) := by
  unfold lbAt; rw [h]
  simp only [← Bool.and_assoc, hv, Bool.true_and]
  cases es[k - 1]? <;> rfl
set_option maxRecDepth 100000 in
set_option maxHeartbeats 8000000 in
theorem isLibI_i (A : Option Addr) (c : Nat) (es : List Edn) (w : World) (h : LTbl w A es) :
    Calls Try.prog 15 #[.slice A es.length c] w (Gives w (.bool (lbB es))) := by
  have hn := h.len
  have HR := Lib.hid h
  clear h
  by_cases h0 : es.length = 0
  · have E : Hid (lbB es = false) := Lib.hid (by unfold lbB; rw [h0]; simp [inr])
    go_enter Try.func15, Try.ntmps15
    rw [h0]
    go_wp2_with fail
    go_ret
    exact ⟨by rw [E.out] <;> rfl, Below.refl _ _⟩
  by_cases h6 : 6 < es.length
  · have E : Hid (lbB es = false) := Lib.hid (by unfold lbB; rw [Bool.and_eq_false_iff]; right; rw [Bool.eq_false_iff]; intro hh; have := inr_iff.1 hh; omega)
    have d0 : ((es.length : Int) == 0) = false := beq_eq_false_iff_ne.2 (by omega)
    have d1 : decide (6 < (es.length : Int)) = true := decide_eq_true (by omega)
    go_enter Try.func15, Try.ntmps15
    go_wp2_with fail
    go_ret
    exact ⟨by rw [E.out] <;> rfl, Below.refl _ _⟩
  have d0 : ((es.length : Int) == 0) = false := beq_eq_false_iff_ne.2 (by omega)
  have d1 : decide (6 < (es.length : Int)) = false := decide_eq_false (by omega)
  go_enter Try.func15, Try.ntmps15
  go_wp2_with fail
  go_loopw [15] (fun i wr => ∃ k : Nat, k ≤ es.length ∧ i = .int .i64 k ∧ Hid (lbTo es k = true) ∧ Below w.heap.size w wr) (fun i _ => es.length - (intOf i).toNat)
  case atStart => exact ⟨0, Nat.zero_le _, rfl, Lib.hid rfl, Below.refl _ _⟩
  case round =>
    obtain ⟨k, hk, rfl, hok, hb⟩ := hrel
    clear d0 d1
    by_cases hlt : k < es.length
    · obtain ⟨b, off, e, a, cp, rfl, hl, he, c0, c1, hct⟩ := (HR.out.below hb).at hlt
      have k0 := KeepN.new wr e.y a e.cs.length cp
      obtain ⟨wA, hwA⟩ : ∃ x, wr.alloc (.cells #[.int .i64 e.y, .slice a e.cs.length cp] 40) = x := ⟨_, rfl⟩
      have hbA : Below w.heap.size w wA := by rw [← hwA]; exact belowGo hb k0.bel
      have HB := Lib.hid (fun y : Sub (Bel wA) => (belowGo hbA y.h : Below w.heap.size w y.w))
      rw [hwA] at k0
      have q0 : ∀ y : Sub (Bel wA), y.w.cell? ⟨wr.heap.size, 0, none⟩ = some (.int .i64 e.y) := fun y => (k0.step y.h).c0
      have q1 : ∀ y : Sub (Bel wA), y.w.cell? ⟨wr.heap.size, 1, none⟩ = some (.slice a e.cs.length cp) := fun y => (k0.step y.h).c1
      obtain ⟨v, hv⟩ : ∃ v, (inr e.y 1970 2069 && rbB e.cs) = v := ⟨_, rfl⟩
      have HV := Lib.hid (fun y : Sub (Bel wA) => edValid_y (c := cp) (hct.below k0.bel) hv y)
      cases v
      · have E : Hid (lbB es = false) := Lib.hid (lb_no hlt (lbAt_no he.out hv))
        clear hok he hct hv
        go_wp2_with fail
        try rw [hwA]
        refine region_held (Bel wA) (by kernel_rfl) (by kernel_rfl) (Bel.drew wA) ?_
        repeat (go_big_quiet_step ((first | rfl | (go_at_call 54; exact HV.out _))))
        refine wpQuiet_nil ?_
        rintro _ ⟨y, rfl⟩
        go_wp2_with fail
        go_ret
        exact ⟨by rw [E.out] <;> rfl, HB.out y⟩
      · have HA := lbAt_v he.out hv
        by_cases hk0 : 0 < k
        · obtain ⟨b', off', d, a', cp', e2, hl', hd, c0', _, _⟩ := (HR.out.below hb).at (k := k - 1) (by omega)
          obtain ⟨rfl, rfl⟩ : b = b' ∧ off = off' := by injection e2 with e2; injection e2 with e3 e4; exact ⟨e3, e4⟩
          have p0 : ∀ y : Sub (Bel wA), y.w.cell? ⟨b, off + (k - 1) * 2, none⟩ = some (.int .i64 d.y) := fun y => (Below.cell (show Below wr.heap.size wr y.w from (k0.step y.h).bel) (p := ⟨b, off + (k - 1) * 2, none⟩) hl').trans c0'
          have ho : lbAt es k = decide (d.y < e.y) := by
            rw [HA, hd.out]; simp; omega
          have HT := Lib.hid (lbTo_succ es k)
          rw [hok.out, Bool.true_and, ho] at HT
          have E := Lib.hid (fun h : decide (d.y < e.y) = false => lb_no hlt (ho.trans h))
          have kk : decide (0 < (k : Int)) = true := decide_eq_true (by omega)
          clear hok he hd hct c0' e2 ho hv HA
          by_cases hqr : d.y < e.y
          · rw [decide_eq_true hqr] at HT
            clear E
            go_wp2_with fail
            try rw [hwA]
            refine region_held (Bel wA) (by kernel_rfl) (by kernel_rfl) (Bel.drew wA) ?_
            repeat (go_big_quiet_step ((first | rfl | (go_at_call 54; exact HV.out _))))
            refine wpQuiet_nil ?_
            rintro _ ⟨y, rfl⟩
            go_wp2_with fail
            go_roundw
            case rel => exact ⟨k + 1, by omega, by go_num, HT, HB.out y⟩
            case measure => simp [intOf]; omega
          · have E3 : Hid (lbB es = false) := Lib.hid (E.out (decide_eq_false hqr))
            have hqr : e.y ≤ d.y := by omega
            clear E HT
            go_wp2_with fail
            try rw [hwA]
            refine region_held (Bel wA) (by kernel_rfl) (by kernel_rfl) (Bel.drew wA) ?_
            repeat (go_big_quiet_step ((first | rfl | (go_at_call 54; exact HV.out _))))
            refine wpQuiet_nil ?_
            rintro _ ⟨y, rfl⟩
            go_wp2_with fail
            go_ret
            exact ⟨by rw [E3.out] <;> rfl, HB.out y⟩
        · have HT : Hid (lbTo es (k + 1) = true) := Lib.hid (by
            rw [lbTo_succ, hok.out, HA]
            obtain rfl : k = 0 := by omega
            rfl)
          have hd0 : decide (0 < (k : Int)) = false := by simp; omega
          clear hok he hct hv HA
          go_wp2_with fail
          try rw [hwA]
          refine region_held (Bel wA) (by kernel_rfl) (by kernel_rfl) (Bel.drew wA) ?_
          repeat (go_big_quiet_step ((first | rfl | (go_at_call 54; exact HV.out _))))
          refine wpQuiet_nil ?_
          rintro _ ⟨y, rfl⟩
          go_wp2_with fail
          go_roundw
          case rel => exact ⟨k + 1, by omega, by go_num, HT, HB.out y⟩
          case measure => simp [intOf]; omega
    · have E : Hid (lbB es = true) := Lib.hid (by
        obtain rfl : k = es.length := by omega
        rw [lb_all hok.out]; exact inr_iff.2 (by omega))
      clear hok
      go_wp2_with fail
      go_ret
      exact ⟨by rw [E.out] <;> rfl, hb⟩
theorem isLib_i (A : Option Addr) (c : Nat) (es : List Edn) (w : World) (h : LTblC w A c es) :
    Calls Try.prog 15 #[.slice A es.length c] w (Gives w (.bool (lbB es))) := isLibI_i A c es w h.tbl
theorem lbI_q {w : World} {A : Option Addr} {c : Nat} {es : List Edn} {b : Bool} (h : LTbl w A es) (hb : lbB es = b) : Calls Try.prog 15 #[.slice A es.length c] w (Gives w (.bool b)) := by
  subst hb; exact isLibI_i A c es w h
end Go.Proofs.Ytpdkgjmppknbpaa
