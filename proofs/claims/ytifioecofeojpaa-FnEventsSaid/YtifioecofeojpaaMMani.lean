import Derived.Test.YtifioecofeojpaaSpl
/- impl.haveKindsOfManifest, impl.IsManifest, spec.IsManifest. -/
namespace Go.Proofs.Ytifioecofeojpaa
open Go.ChangeShapes Go.WideShapes Go.ChangeAt Go.RowKit
set_option linter.unusedVariables false

theorem kinds_3 {ps : List Ist} (h : ordToM ps ps.length = true) {k : Nat} {p : Ist} (hp : ps[k]? = some p) : p.k = 0 ∨ p.k = 1 ∨ p.k = 2 ∨ p.k = 3 := by
  have := (iok (ord_okM h hp)).2.2.1; omega
theorem cntK_next (j : Int) {ps : List Ist} {k : Nat} {p : Ist} (hp : ps[k]? = some p) : cntK j (ps.take (k + 1)) = cntK j (ps.take k) + (if p.k = j then 1 else 0) := by rw [snoc_of hp, cntK_snoc]
theorem old_alloc {W : World} {g : Nat} {o u : Obj} (h : W.heap[g]? = some u) : (W.alloc o).heap[g]? = some u := ((below_alloc W o).block _ (lt_some h)).trans h
theorem rowB_at {W : World} {C : Nat} {x0 x1 x2 : Value} {t : TypeId} (h : W.heap[C]? = some (.cells #[x0, x1, x2] t (0, 0))) :
    W.cell? ⟨C, 0, none⟩ = some x0 ∧ W.cell? ⟨C, 1, none⟩ = some x1 ∧ W.cell? ⟨C, 2, none⟩ = some x2 ∧ W.frozen? ⟨C, 0, none⟩ = false ∧ W.frozen? ⟨C, 1, none⟩ = false ∧ W.frozen? ⟨C, 2, none⟩ = false :=
  ⟨by rw [cell_of_row _ _ _ _ _ _ h]; rfl, by rw [cell_of_row _ _ _ _ _ _ h]; rfl, by rw [cell_of_row _ _ _ _ _ _ h]; rfl,
   frozen_of_row W C 0 _ _ h, frozen_of_row W C 1 _ _ h, frozen_of_row W C 2 _ _ h⟩

set_option maxRecDepth 100000 in
set_option maxHeartbeats 4000000 in
theorem kinds_i (A : Option Addr) (c : Nat) (ps : List Ist) (w : World) (h : IstR w A ps) (hn : ps.length ≤ 1048576) (ho : ordToM ps ps.length = true) :
    Calls Try.prog 90 #[.slice A ps.length c] w (Gives w (.bool (kndB ps))) := by
  go_enter Try.func90, Try.ntmps90
  go_wp2_with fail
  go_loopw [3, 11] (fun s i wr => ∃ (k : Nat) (b0 b1 b2 : Bool), k ≤ ps.length ∧ i = .int .i64 k ∧ s = .bool b0 ∧ wr.heap[w.heap.size]? = some (.cells #[.bool b0, .bool b1, .bool b2] 116 (0, 0)) ∧
    Hid (b0 = decide (cntK 0 (ps.take k) = 1) ∧ b1 = decide (cntK 1 (ps.take k) = 1) ∧ b2 = decide (cntK 2 (ps.take k) = 1) ∧ cntK 0 (ps.take k) ≤ 1 ∧ cntK 1 (ps.take k) ≤ 1 ∧ cntK 2 (ps.take k) ≤ 1) ∧ Below w.heap.size w wr) (fun _ i _ => ps.length - (intOf i).toNat)
  case atStart => exact ⟨0, false, false, false, Nat.zero_le _, rfl, rfl, heap_alloc_new _ _, Lib.hid (by simp [cntK]), (Below.refl _ _).alloc (Nat.le_refl _) _⟩
  case round =>
    obtain ⟨k, b0, b1, b2, hk, rfl, rfl, hrow, hc, hb⟩ := hrel
    by_cases hlt : k < ps.length
    · obtain ⟨b, off, p, rfl, hl, hp, h4⟩ := (h.below hb).at hlt
      have g0 := h4.c0; have g1 := h4.c1; have g2 := h4.c2; have g3 := h4.c3; have g4 := h4.c4
      have hwl : w.heap.size < wr.heap.size := lt_some hrow
      have hkk := kinds_3 ho hp.out
      have N0 := cntK_next 0 hp.out
      have N1 := cntK_next 1 hp.out
      have N2 := cntK_next 2 hp.out
      obtain ⟨e0, e1, e2, l0, l1, l2⟩ := hc.out
      have T0 := cntK_take 0 ps (k + 1)
      have T1 := cntK_take 1 ps (k + 1)
      have T2 := cntK_take 2 ps (k + 1)
      obtain ⟨OB, hOB⟩ : ∃ OB : Obj, OB = .cells #[.string ⟨p.c.toArray⟩, .int .i64 p.k, .string ⟨p.o.toArray⟩, .int .i64 p.v, .int .i64 p.a] 95 := ⟨_, rfl⟩
      have hrowX : (wr.alloc OB).heap[w.heap.size]? = some (.cells #[.bool b0, .bool b1, .bool b2] 116 (0, 0)) := ((below_alloc wr OB).block _ hwl).trans hrow
      obtain ⟨c0, c1, c2, f0, f1, f2⟩ := rowB_at hrowX
      have hbX : Below w.heap.size w (wr.alloc OB) := hb.alloc hb.size OB
      have HS := fun (j : Nat) (u : Value) => Lib.hid ((hb.setCell (p := ⟨w.heap.size, j, none⟩) (Nat.le_refl _) u).alloc (hb.setCell (p := ⟨w.heap.size, j, none⟩) (Nat.le_refl _) u).size OB)
      have HR0 := fun (u : Value) => Lib.hid (show ((wr.setCell ⟨w.heap.size, 0, none⟩ u).alloc OB).heap[w.heap.size]? = some (.cells #[u, .bool b1, .bool b2] 116 (0, 0)) from old_alloc (by rw [heap_setCell_same _ _ 0 _ _ _ hrow]; rfl))
      have HR1 := fun (u : Value) => Lib.hid (show ((wr.setCell ⟨w.heap.size, 1, none⟩ u).alloc OB).heap[w.heap.size]? = some (.cells #[.bool b0, u, .bool b2] 116 (0, 0)) from old_alloc (by rw [heap_setCell_same _ _ 1 _ _ _ hrow]; rfl))
      have HR2 := fun (u : Value) => Lib.hid (show ((wr.setCell ⟨w.heap.size, 2, none⟩ u).alloc OB).heap[w.heap.size]? = some (.cells #[.bool b0, .bool b1, u] 116 (0, 0)) from old_alloc (by rw [heap_setCell_same _ _ 2 _ _ _ hrow]; rfl))
      have HX := Lib.hid hbX
      have HRX := Lib.hid hrowX
      clear hrowX hbX h hp h4 hc ho
      rcases hkk with hk0 | hk0 | hk0 | hk0
      · rw [hk0] at N0 N1 N2 g1 hOB
        rw [if_pos rfl] at N0
        rw [if_neg (by decide)] at N1 N2
        cases b0 with
        | true =>
          have E : Hid (kndB ps = false) := Lib.hid (kndB_no fun hh => by have := of_decide_eq_true e0.symm; omega)
          clear e0 e1 e2 l0 l1 l2 N0 N1 N2 T0 T1 T2
          subst hOB
          go_wp2_with fail
          go_ret
          exact ⟨by rw [E.out] <;> rfl, HX.out⟩
        | false =>
          have E : Hid (true = decide (cntK 0 (ps.take (k + 1)) = 1) ∧ b1 = decide (cntK 1 (ps.take (k + 1)) = 1) ∧ b2 = decide (cntK 2 (ps.take (k + 1)) = 1) ∧ cntK 0 (ps.take (k + 1)) ≤ 1 ∧ cntK 1 (ps.take (k + 1)) ≤ 1 ∧ cntK 2 (ps.take (k + 1)) ≤ 1) := Lib.hid (by
            have := of_decide_eq_false e0.symm
            refine ⟨(decide_eq_true (by omega)).symm, by rw [N1]; exact e1, by rw [N2]; exact e2, by omega, by omega, by omega⟩)
          clear e0 e1 e2 l0 l1 l2 N0 N1 N2 T0 T1 T2
          subst hOB
          go_wp2_with fail
          go_roundw
          case rel => exact ⟨k + 1, true, b1, b2, by omega, by go_num, rfl, (HR0 _).out, E, (HS 0 _).out⟩
          case measure => simp [intOf]; omega
      · rw [hk0] at N0 N1 N2 g1 hOB
        rw [if_pos rfl] at N1
        rw [if_neg (by decide)] at N0 N2
        cases b1 with
        | true =>
          have E : Hid (kndB ps = false) := Lib.hid (kndB_no fun hh => by have := of_decide_eq_true e1.symm; omega)
          clear e0 e1 e2 l0 l1 l2 N0 N1 N2 T0 T1 T2
          subst hOB
          go_wp2_with fail
          go_ret
          exact ⟨by rw [E.out] <;> rfl, HX.out⟩
        | false =>
          have E : Hid (b0 = decide (cntK 0 (ps.take (k + 1)) = 1) ∧ true = decide (cntK 1 (ps.take (k + 1)) = 1) ∧ b2 = decide (cntK 2 (ps.take (k + 1)) = 1) ∧ cntK 0 (ps.take (k + 1)) ≤ 1 ∧ cntK 1 (ps.take (k + 1)) ≤ 1 ∧ cntK 2 (ps.take (k + 1)) ≤ 1) := Lib.hid (by
            have := of_decide_eq_false e1.symm
            refine ⟨by rw [N0]; exact e0, (decide_eq_true (by omega)).symm, by rw [N2]; exact e2, by omega, by omega, by omega⟩)
          clear e0 e1 e2 l0 l1 l2 N0 N1 N2 T0 T1 T2
          subst hOB
          go_wp2_with fail
          go_roundw
          case rel => exact ⟨k + 1, b0, true, b2, by omega, by go_num, rfl, (HR1 _).out, E, (HS 1 _).out⟩
          case measure => simp [intOf]; omega
      · rw [hk0] at N0 N1 N2 g1 hOB
        rw [if_pos rfl] at N2
        rw [if_neg (by decide)] at N0 N1
        cases b2 with
        | true =>
          have E : Hid (kndB ps = false) := Lib.hid (kndB_no fun hh => by have := of_decide_eq_true e2.symm; omega)
          clear e0 e1 e2 l0 l1 l2 N0 N1 N2 T0 T1 T2
          subst hOB
          go_wp2_with fail
          go_ret
          exact ⟨by rw [E.out] <;> rfl, HX.out⟩
        | false =>
          have E : Hid (b0 = decide (cntK 0 (ps.take (k + 1)) = 1) ∧ b1 = decide (cntK 1 (ps.take (k + 1)) = 1) ∧ true = decide (cntK 2 (ps.take (k + 1)) = 1) ∧ cntK 0 (ps.take (k + 1)) ≤ 1 ∧ cntK 1 (ps.take (k + 1)) ≤ 1 ∧ cntK 2 (ps.take (k + 1)) ≤ 1) := Lib.hid (by
            have := of_decide_eq_false e2.symm
            refine ⟨by rw [N0]; exact e0, by rw [N1]; exact e1, (decide_eq_true (by omega)).symm, by omega, by omega, by omega⟩)
          clear e0 e1 e2 l0 l1 l2 N0 N1 N2 T0 T1 T2
          subst hOB
          go_wp2_with fail
          go_roundw
          case rel => exact ⟨k + 1, b0, b1, true, by omega, by go_num, rfl, (HR2 _).out, E, (HS 2 _).out⟩
          case measure => simp [intOf]; omega
      · rw [hk0] at N0 N1 N2 g1 hOB
        rw [if_neg (by decide)] at N0 N1 N2
        have E : Hid (b0 = decide (cntK 0 (ps.take (k + 1)) = 1) ∧ b1 = decide (cntK 1 (ps.take (k + 1)) = 1) ∧ b2 = decide (cntK 2 (ps.take (k + 1)) = 1) ∧ cntK 0 (ps.take (k + 1)) ≤ 1 ∧ cntK 1 (ps.take (k + 1)) ≤ 1 ∧ cntK 2 (ps.take (k + 1)) ≤ 1) := Lib.hid (by
          refine ⟨by rw [N0]; exact e0, by rw [N1]; exact e1, by rw [N2]; exact e2, by omega, by omega, by omega⟩)
        clear e0 e1 e2 l0 l1 l2 N0 N1 N2 T0 T1 T2
        subst hOB
        go_wp2_with fail
        go_roundw
        case rel => exact ⟨k + 1, b0, b1, b2, by omega, by go_num, rfl, HRX.out, E, HX.out⟩
        case measure => simp [intOf]; omega
    · have E : Hid (kndB ps = b0) := Lib.hid (by
        obtain ⟨e0, e1, e2, l0, l1, l2⟩ := hc.out
        rw [take_all hk hlt] at e0 l0 l1 l2
        unfold kndB
        rw [decide_eq_true l1, decide_eq_true l2, Bool.and_true, Bool.and_true]; exact e0.symm)
      clear hc h ho
      go_wp2_with fail
      go_ret
      exact ⟨by rw [E.out] <;> rfl, hb⟩

set_option maxRecDepth 100000 in
set_option maxHeartbeats 4000000 in
theorem isMan_i (A : Option Addr) (c : Nat) (ps : List Ist) (w : World) (h : ITbl w A ps) :
    Calls Try.prog 65 #[.slice A ps.length c] w (Gives w (.bool (manB ps))) := by
  have hR := h.row
  have hs := h.txt
  have hn := h.len
  clear h
  by_cases h12 : 10 < ps.length
  · have E : Hid (manB ps = false) := Lib.hid (man_long h12)
    go_enter Try.func65, Try.ntmps65
    go_wp2_with fail
    go_ret
    exact ⟨by rw [E.out] <;> rfl, Below.refl _ _⟩
  · go_enter Try.func65, Try.ntmps65
    go_wp2_with fail
    go_loopw [10] (fun i wr => ∃ k : Nat, k ≤ ps.length ∧ i = .int .i64 k ∧ Hid (ordToM ps k = true) ∧ Below w.heap.size w wr) (fun i _ => ps.length - (intOf i).toNat)
    case atStart => exact ⟨0, Nat.zero_le _, rfl, Lib.hid rfl, Below.refl _ _⟩
    case round =>
      obtain ⟨k, hk, rfl, hok, hb⟩ := hrel
      by_cases hlt : k < ps.length
      · obtain ⟨b, off, p, rfl, hl, hp, h4⟩ := (hR.below hb).at hlt
        obtain ⟨hpc, hpo⟩ := sz_i (hs p (List.mem_of_getElem? hp.out))
        have k0 := (KeepI.new wr p).drew
        have HV := Lib.hid (fun y : Sub (KeepI wr p) => (ivalid_i p y.w hpc hpo).mono fun e w' h => (⟨h.1, ⟨w', y.h.step h.2⟩, rfl⟩ : e = .returned (.bool p.ok) ∧ ∃ z : Sub (KeepI wr p), w' = z.w))
        have q0 : ∀ y : Sub (KeepI wr p), y.w.cell? ⟨wr.heap.size, 0, none⟩ = some (.string ⟨p.c.toArray⟩) := fun y => y.h.cells.c0
        have q1 : ∀ y : Sub (KeepI wr p), y.w.cell? ⟨wr.heap.size, 1, none⟩ = some (.int .i64 p.k) := fun y => y.h.cells.c1
        have q2 : ∀ y : Sub (KeepI wr p), y.w.cell? ⟨wr.heap.size, 2, none⟩ = some (.string ⟨p.o.toArray⟩) := fun y => y.h.cells.c2
        have q3 : ∀ y : Sub (KeepI wr p), y.w.cell? ⟨wr.heap.size, 3, none⟩ = some (.int .i64 p.v) := fun y => y.h.cells.c3
        have q4 : ∀ y : Sub (KeepI wr p), y.w.cell? ⟨wr.heap.size, 4, none⟩ = some (.int .i64 p.a) := fun y => y.h.cells.c4
        have HB := Lib.hid (fun y : Sub (KeepI wr p) => (belowGo hb y.h.bel : Below w.heap.size w y.w))
        have c0 := h4.c0; have c1 := h4.c1; have c2 := h4.c2; have c3 := h4.c3; have c4 := h4.c4
        rcases Bool.eq_false_or_eq_true p.ok with hv | hv
        · rw [hv] at HV
          by_cases hk0 : 0 < k
          · obtain ⟨b', off', q, e2, hl', hq, h4'⟩ := (hR.below hb).at (k := k - 1) (by omega)
            obtain ⟨rfl, rfl⟩ : b = b' ∧ off = off' := by injection e2 with e2; injection e2 with e3 e4; exact ⟨e3, e4⟩
            have p0 : ∀ y : Sub (KeepI wr p), y.w.cell? ⟨b, off + (k - 1) * 5, none⟩ = some (.string ⟨q.c.toArray⟩) := fun y => (h4'.below hl' y.h.bel).c0
            have ho : ordAtM ps k = Op.bytesLess q.c p.c := by
              obtain ⟨j, rfl⟩ : ∃ j, k = j + 1 := ⟨k - 1, by omega⟩
              rw [ordAt_sM hp.out (by simpa using hq.out), hv, Bool.true_and]; rfl
            have HT := Lib.hid (ordTo_succM ps k)
            rw [hok.out, Bool.true_and, ho] at HT
            have E := Lib.hid (fun h : Op.bytesLess q.c p.c = false => man_no1 hlt (ho.trans h))
            clear hR hs hp hok hv hq h4' h4 e2 ho
            rcases Bool.eq_false_or_eq_true (Op.bytesLess q.c p.c) with hbl | hbl
            · rw [hbl] at HT
              clear E
              go_wp2_with fail
              refine region_held (KeepI wr p) (by kernel_rfl) (by kernel_rfl) k0 ?_
              repeat (go_big_quiet_step ((first | rfl | (go_at_call 89; exact HV.out _))))
              refine wpQuiet_nil ?_
              rintro _ ⟨y, rfl⟩
              go_wp2_with fail
              go_roundw
              case rel => exact ⟨k + 1, by omega, by go_num, HT, HB.out y⟩
              case measure => simp [intOf]; omega
            · have E3 : Hid (manB ps = false) := Lib.hid (E.out hbl)
              clear E HT
              go_wp2_with fail
              refine region_held (KeepI wr p) (by kernel_rfl) (by kernel_rfl) k0 ?_
              repeat (go_big_quiet_step ((first | rfl | (go_at_call 89; exact HV.out _))))
              refine wpQuiet_nil ?_
              rintro _ ⟨y, rfl⟩
              go_wp2_with fail
              go_ret
              exact ⟨by rw [E3.out] <;> rfl, HB.out y⟩
          · have HT : Hid (ordToM ps (k + 1) = true) := Lib.hid (by
              rw [ordTo_succM, hok.out, Bool.true_and]
              obtain rfl : k = 0 := by omega
              rw [ordAt_0M hp.out, hv])
            have hd : decide (0 < (k : Int)) = false := by simp; omega
            clear hR hs hp hok hv h4
            go_wp2_with fail
            refine region_held (KeepI wr p) (by kernel_rfl) (by kernel_rfl) k0 ?_
            repeat (go_big_quiet_step ((first | rfl | (go_at_call 89; exact HV.out _))))
            refine wpQuiet_nil ?_
            rintro _ ⟨y, rfl⟩
            go_wp2_with fail
            go_roundw
            case rel => exact ⟨k + 1, by omega, by go_num, HT, HB.out y⟩
            case measure => simp [intOf]; omega
        · rw [hv] at HV
          have E3 : Hid (manB ps = false) := Lib.hid (man_no1 hlt (ordAt_noM hp.out hv))
          clear hR hs hp hok hv h4
          go_wp2_with fail
          refine region_held (KeepI wr p) (by kernel_rfl) (by kernel_rfl) k0 ?_
          repeat (go_big_quiet_step ((first | rfl | (go_at_call 89; exact HV.out _))))
          refine wpQuiet_nil ?_
          rintro _ ⟨y, rfl⟩
          go_wp2_with fail
          go_ret
          exact ⟨by rw [E3.out] <;> rfl, HB.out y⟩
      · have HO : ordToM ps ps.length = true := by
          obtain rfl : k = ps.length := by omega
          exact hok.out
        have E := Lib.hid (man_end h12 HO)
        have HK := Lib.hid (kinds_i A c ps wr (hR.below hb) hn HO)
        clear hok HO hR hs
        go_wp2_with fail
        refine HK.out.mono ?_
        rintro e w1 ⟨rfl, b1⟩
        go_wp2_with fail
        go_ret
        exact ⟨by rw [E.out] <;> rfl, belowGo hb b1⟩
end Go.Proofs.Ytifioecofeojpaa

/- spec.IsManifest. -/
namespace Go.Proofs.Ytifioecofeojpaa
open Go.ChangeShapes Go.WideShapes Go.ChangeAt Go.RowKit
set_option linter.unusedVariables false

theorem rowI_at {W : World} {C : Nat} {x0 x1 x2 x3 : Value} {t : TypeId} (h : W.heap[C]? = some (.cells #[x0, x1, x2, x3] t (0, 0))) :
    W.cell? ⟨C, 0, none⟩ = some x0 ∧ W.cell? ⟨C, 1, none⟩ = some x1 ∧ W.cell? ⟨C, 2, none⟩ = some x2 ∧ W.cell? ⟨C, 3, none⟩ = some x3 ∧ W.frozen? ⟨C, 0, none⟩ = false ∧ W.frozen? ⟨C, 1, none⟩ = false ∧ W.frozen? ⟨C, 2, none⟩ = false ∧ W.frozen? ⟨C, 3, none⟩ = false :=
  ⟨by rw [cell_of_row _ _ _ _ _ _ h]; rfl, by rw [cell_of_row _ _ _ _ _ _ h]; rfl, by rw [cell_of_row _ _ _ _ _ _ h]; rfl, by rw [cell_of_row _ _ _ _ _ _ h]; rfl,
   frozen_of_row W C 0 _ _ h, frozen_of_row W C 1 _ _ h, frozen_of_row W C 2 _ _ h, frozen_of_row W C 3 _ _ h⟩
def InvC (ps : List Ist) (k n0 n1 n2 n3 : Nat) : Prop := n0 = cntK 0 (ps.take k) ∧ n1 = cntK 1 (ps.take k) ∧ n2 = cntK 2 (ps.take k) ∧ n3 = cntK 3 (ps.take k)
theorem InvC.next {ps : List Ist} {k n0 n1 n2 n3 : Nat} (h : InvC ps k n0 n1 n2 n3) {p : Ist} (hp : ps[k]? = some p) :
    InvC ps (k + 1) (n0 + if p.k = 0 then 1 else 0) (n1 + if p.k = 1 then 1 else 0) (n2 + if p.k = 2 then 1 else 0) (n3 + if p.k = 3 then 1 else 0) := by
  obtain ⟨h0, h1, h2, h3⟩ := h
  subst h0 h1 h2 h3
  exact ⟨(cntK_next 0 hp).symm, (cntK_next 1 hp).symm, (cntK_next 2 hp).symm, (cntK_next 3 hp).symm⟩
theorem InvC.le {ps : List Ist} {k n0 n1 n2 n3 : Nat} (h : InvC ps k n0 n1 n2 n3) : n0 ≤ ps.length ∧ n1 ≤ ps.length ∧ n2 ≤ ps.length ∧ n3 ≤ ps.length := by
  obtain ⟨h0, h1, h2, h3⟩ := h
  subst h0 h1 h2 h3
  have hl : (ps.take k).length ≤ ps.length := by rw [List.length_take]; omega
  exact ⟨Nat.le_trans (cntK_le _ _) hl, Nat.le_trans (cntK_le _ _) hl, Nat.le_trans (cntK_le _ _) hl, Nat.le_trans (cntK_le _ _) hl⟩

set_option maxRecDepth 100000 in
set_option maxHeartbeats 4000000 in
theorem isMan_s (A : Option Addr) (c : Nat) (ps : List Ist) (w : World) (h : ITbl w A ps) :
    Calls Try.prog 67 #[.slice A ps.length c] w (Gives w (.bool (manB ps))) := by
  have hR := h.row
  have hs := h.txt
  have hn := h.len
  clear h
  go_enter Try.func67, Try.ntmps67
  go_wp2_with fail
  go_loopw [4] (fun i wr => ∃ (k n0 n1 n2 n3 : Nat), k ≤ ps.length ∧ i = .int .i64 k ∧ wr.heap[w.heap.size]? = some (.cells #[.int .i64 n0, .int .i64 n1, .int .i64 n2, .int .i64 n3] 2 (0, 0)) ∧ Hid (InvC ps k n0 n1 n2 n3) ∧ Hid (ordToM ps k = true) ∧ Below w.heap.size w wr) (fun i _ => ps.length - (intOf i).toNat)
  case atStart => exact ⟨0, 0, 0, 0, 0, Nat.zero_le _, rfl, heap_alloc_new _ _, Lib.hid ⟨rfl, rfl, rfl, rfl⟩, Lib.hid rfl, (Below.refl _ _).alloc (Nat.le_refl _) _⟩
  case round =>
    obtain ⟨k, n0, n1, n2, n3, hk, rfl, hrow, hc, hok, hb⟩ := hrel
    obtain ⟨l0, l1, l2, l3⟩ := hc.out.le
    by_cases hlt : k < ps.length
    · obtain ⟨b, off, p, rfl, hl, hp, h4⟩ := (hR.below hb).at hlt
      obtain ⟨hpc, hpo⟩ := sz_i (hs p (List.mem_of_getElem? hp.out))
      have k0 : Below wr.heap.size wr wr.drew := (Below.refl _ _).drew
      have HV := Lib.hid (fun y : Sub (Below wr.heap.size wr) => (ivalid_s p y.w hpc hpo).mono fun e w' h => (⟨h.1, ⟨w', belowGo y.h h.2⟩, rfl⟩ : e = .returned (.bool p.ok) ∧ ∃ z : Sub (Below wr.heap.size wr), w' = z.w))
      have q0 : ∀ y : Sub (Below wr.heap.size wr), y.w.cell? ⟨b, off + k * 5, none⟩ = some (.string ⟨p.c.toArray⟩) := fun y => (h4.below hl y.h).c0
      have q1 : ∀ y : Sub (Below wr.heap.size wr), y.w.cell? ⟨b, off + k * 5 + 1, none⟩ = some (.int .i64 p.k) := fun y => (h4.below hl y.h).c1
      have q2 : ∀ y : Sub (Below wr.heap.size wr), y.w.cell? ⟨b, off + k * 5 + 2, none⟩ = some (.string ⟨p.o.toArray⟩) := fun y => (h4.below hl y.h).c2
      have q3 : ∀ y : Sub (Below wr.heap.size wr), y.w.cell? ⟨b, off + k * 5 + 3, none⟩ = some (.int .i64 p.v) := fun y => (h4.below hl y.h).c3
      have q4 : ∀ y : Sub (Below wr.heap.size wr), y.w.cell? ⟨b, off + k * 5 + 4, none⟩ = some (.int .i64 p.a) := fun y => (h4.below hl y.h).c4
      have HB := Lib.hid (fun y : Sub (Below wr.heap.size wr) => (belowGo hb y.h : Below w.heap.size w y.w))
      have HRW := Lib.hid (fun y : Sub (Below wr.heap.size wr) => ((y.h.block _ (lt_some hrow)).trans hrow))
      rcases Bool.eq_false_or_eq_true (ordAtM ps k) with ho | ho
      · have hv : p.ok = true := by
          unfold ordAtM at ho; rw [hp.out] at ho; simp only [Bool.and_eq_true] at ho; exact ho.1
        rw [hv] at HV
        have HT : Hid (ordToM ps (k + 1) = true) := Lib.hid (by rw [ordTo_succM, hok.out, ho]; rfl)
        have HN := Lib.hid (hc.out.next hp.out)
        have hkk : p.k = 0 ∨ p.k = 1 ∨ p.k = 2 ∨ p.k = 3 := by have := (iok hv).2.2.1; omega
        have HS := Lib.hid (fun (y : Sub (Below wr.heap.size wr)) (j : Nat) (u : Value) => (HB.out y).setCell (p := ⟨w.heap.size, j, none⟩) (Nat.le_refl _) u)
        have HR0 := Lib.hid (fun (y : Sub (Below wr.heap.size wr)) (u : Value) => (show (y.w.setCell ⟨w.heap.size, 0, none⟩ u).heap[w.heap.size]? = some (.cells #[u, .int .i64 n1, .int .i64 n2, .int .i64 n3] 2 (0, 0)) by rw [heap_setCell_same _ _ 0 _ _ _ (HRW.out y)]; rfl))
        have HR1 := Lib.hid (fun (y : Sub (Below wr.heap.size wr)) (u : Value) => (show (y.w.setCell ⟨w.heap.size, 1, none⟩ u).heap[w.heap.size]? = some (.cells #[.int .i64 n0, u, .int .i64 n2, .int .i64 n3] 2 (0, 0)) by rw [heap_setCell_same _ _ 1 _ _ _ (HRW.out y)]; rfl))
        have HR2 := Lib.hid (fun (y : Sub (Below wr.heap.size wr)) (u : Value) => (show (y.w.setCell ⟨w.heap.size, 2, none⟩ u).heap[w.heap.size]? = some (.cells #[.int .i64 n0, .int .i64 n1, u, .int .i64 n3] 2 (0, 0)) by rw [heap_setCell_same _ _ 2 _ _ _ (HRW.out y)]; rfl))
        have HR3 := Lib.hid (fun (y : Sub (Below wr.heap.size wr)) (u : Value) => (show (y.w.setCell ⟨w.heap.size, 3, none⟩ u).heap[w.heap.size]? = some (.cells #[.int .i64 n0, .int .i64 n1, .int .i64 n2, u] 2 (0, 0)) by rw [heap_setCell_same _ _ 3 _ _ _ (HRW.out y)]; rfl))
        by_cases hk0 : 0 < k
        · obtain ⟨b', off', q, e2, hl', hq, h4'⟩ := (hR.below hb).at (k := k - 1) (by omega)
          obtain ⟨rfl, rfl⟩ : b = b' ∧ off = off' := by injection e2 with e2; injection e2 with e3 e4; exact ⟨e3, e4⟩
          have p0 : ∀ y : Sub (Below wr.heap.size wr), y.w.cell? ⟨b, off + (k - 1) * 5, none⟩ = some (.string ⟨q.c.toArray⟩) := fun y => (h4'.below hl' y.h).c0
          have hbl : Op.bytesLess q.c p.c = true := by
            obtain ⟨j, rfl⟩ : ∃ j, k = j + 1 := ⟨k - 1, by omega⟩
            rw [ordAt_sM hp.out (by simpa using hq.out), hv, Bool.true_and] at ho; exact ho
          clear hR hs hp hok hv hq h4' h4 e2 ho hc hrow hb HB
          rcases hkk with hk1 | hk1 | hk1 | hk1
          all_goals
            rw [hk1] at HN
            simp only [hk1] at q1
            simp only [Int.reduceEq, if_true, if_false, Nat.add_zero] at HN
            go_wp2_with fail
            refine region_held (Below wr.heap.size wr) (by kernel_rfl) (by kernel_rfl) k0 ?_
            repeat (go_big_quiet_step ((first | rfl | (go_at_call 93; rw [← hk1]; exact HV.out _))))
            refine wpQuiet_nil ?_
            rintro _ ⟨y, rfl⟩
            have d1 := q1 y
            obtain ⟨r0, r1, r2, r3, f0, f1, f2, f3⟩ := rowI_at (HRW.out y)
            go_wp2_with fail
            go_roundw
            case rel => exact ⟨k + 1, _, _, _, _, by omega, by go_num, by first | exact HR0.out y _ | exact HR1.out y _ | exact HR2.out y _ | exact HR3.out y _, HN, HT, HS.out y _ _⟩
            case measure => simp [intOf]; omega
        · have hd : decide (0 < (k : Int)) = false := by simp; omega
          clear hR hs hp hok hv h4 ho hc hrow hb HB
          rcases hkk with hk1 | hk1 | hk1 | hk1
          all_goals
            rw [hk1] at HN
            simp only [hk1] at q1
            simp only [Int.reduceEq, if_true, if_false, Nat.add_zero] at HN
            go_wp2_with fail
            refine region_held (Below wr.heap.size wr) (by kernel_rfl) (by kernel_rfl) k0 ?_
            repeat (go_big_quiet_step ((first | rfl | (go_at_call 93; rw [← hk1]; exact HV.out _))))
            refine wpQuiet_nil ?_
            rintro _ ⟨y, rfl⟩
            have d1 := q1 y
            obtain ⟨r0, r1, r2, r3, f0, f1, f2, f3⟩ := rowI_at (HRW.out y)
            go_wp2_with fail
            go_roundw
            case rel => exact ⟨k + 1, _, _, _, _, by omega, by go_num, by first | exact HR0.out y _ | exact HR1.out y _ | exact HR2.out y _ | exact HR3.out y _, HN, HT, HS.out y _ _⟩
            case measure => simp [intOf]; omega
      · have E3 : Hid (manB ps = false) := Lib.hid (man_no1 hlt ho)
        rcases Bool.eq_false_or_eq_true p.ok with hv | hv
        · have hk0 : 0 < k := by
            rcases Nat.eq_zero_or_pos k with rfl | h
            · rw [ordAt_0M hp.out, hv] at ho; cases ho
            · exact h
          obtain ⟨b', off', q, e2, hl', hq, h4'⟩ := (hR.below hb).at (k := k - 1) (by omega)
          obtain ⟨rfl, rfl⟩ : b = b' ∧ off = off' := by injection e2 with e2; injection e2 with e3 e4; exact ⟨e3, e4⟩
          have p0 : ∀ y : Sub (Below wr.heap.size wr), y.w.cell? ⟨b, off + (k - 1) * 5, none⟩ = some (.string ⟨q.c.toArray⟩) := fun y => (h4'.below hl' y.h).c0
          have hbl : Op.bytesLess q.c p.c = false := by
            obtain ⟨j, rfl⟩ : ∃ j, k = j + 1 := ⟨k - 1, by omega⟩
            rw [ordAt_sM hp.out (by simpa using hq.out), hv, Bool.true_and] at ho; exact ho
          rw [hv] at HV
          clear hR hs hp hok hv hq h4' h4 e2 ho hc hrow hb
          go_wp2_with fail
          refine region_held (Below wr.heap.size wr) (by kernel_rfl) (by kernel_rfl) k0 ?_
          repeat (go_big_quiet_step ((first | rfl | (go_at_call 93; exact HV.out _))))
          refine wpQuiet_nil ?_
          rintro _ ⟨y, rfl⟩
          go_wp2_with fail
          go_ret
          exact ⟨by rw [E3.out] <;> rfl, HB.out y⟩
        · rw [hv] at HV
          clear hR hs hp hok hv h4 ho hc hrow hb
          go_wp2_with fail
          refine region_held (Below wr.heap.size wr) (by kernel_rfl) (by kernel_rfl) k0 ?_
          repeat (go_big_quiet_step ((first | rfl | (go_at_call 93; exact HV.out _))))
          refine wpQuiet_nil ?_
          rintro _ ⟨y, rfl⟩
          go_wp2_with fail
          go_ret
          exact ⟨by rw [E3.out] <;> rfl, HB.out y⟩
    · have HO : ordToM ps ps.length = true := by
        obtain rfl : k = ps.length := by omega
        exact hok.out
      obtain ⟨e0, e1, e2, e3⟩ := hc.out
      rw [take_all hk hlt] at e0 e1 e2
      obtain ⟨r0, r1, r2, r3, f0, f1, f2, f3⟩ := rowI_at hrow
      by_cases h10 : 10 < ps.length
      · have E : Hid (manB ps = false) := Lib.hid (man_long h10)
        have hd : decide ((ps.length : Int) ≤ 10) = false := by simp; omega
        clear hok HO hR hs hc e0 e1 e2 e3
        go_wp2_with fail
        go_ret
        exact ⟨by rw [E.out] <;> rfl, hb⟩
      · have hd : decide ((ps.length : Int) ≤ 10) = true := by simp; omega
        have hm : manB ps = (decide (n0 = 1) && (decide (n1 ≤ 1) && decide (n2 ≤ 1))) := by rw [man_end h10 HO, e0, e1, e2]; rfl
        by_cases a0 : n0 = 1
        · by_cases a1 : n1 ≤ 1
          · have E : Hid (manB ps = decide ((n2 : Int) ≤ 1)) := Lib.hid (by
              rw [hm, decide_eq_true a0, decide_eq_true a1, Bool.true_and, Bool.true_and, decide_eq_decide]; omega)
            have b0 : ((n0 : Int) == 1) = true := by rw [beq_iff_eq]; omega
            have b1 : decide ((n1 : Int) ≤ 1) = true := by simp; omega
            clear hok HO hR hs hc e0 e1 e2 e3 hm
            go_wp2_with fail
            go_ret
            exact ⟨by rw [E.out] <;> rfl, hb⟩
          · have E : Hid (manB ps = false) := Lib.hid (by rw [hm, decide_eq_false a1]; simp)
            have b0 : ((n0 : Int) == 1) = true := by rw [beq_iff_eq]; omega
            have b1 : decide ((n1 : Int) ≤ 1) = false := by simp; omega
            clear hok HO hR hs hc e0 e1 e2 e3 hm
            go_wp2_with fail
            go_ret
            exact ⟨by rw [E.out] <;> rfl, hb⟩
        · have E : Hid (manB ps = false) := Lib.hid (by rw [hm, decide_eq_false a0]; simp)
          have b0 : ((n0 : Int) == 1) = false := by rw [beq_eq_false_iff_ne]; omega
          clear hok HO hR hs hc e0 e1 e2 e3 hm
          go_wp2_with fail
          go_ret
          exact ⟨by rw [E.out] <;> rfl, hb⟩
theorem manI_q {w : World} {A : Option Addr} {c : Nat} {ps : List Ist} {b : Bool} (h : ITbl w A ps) (hb : manB ps = b) : Calls Try.prog 65 #[.slice A ps.length c] w (Gives w (.bool b)) := by
  subst hb; exact isMan_i A c ps w h
theorem manS_q {w : World} {A : Option Addr} {c : Nat} {ps : List Ist} {b : Bool} (h : ITbl w A ps) (hb : manB ps = b) : Calls Try.prog 67 #[.slice A ps.length c] w (Gives w (.bool b)) := by
  subst hb; exact isMan_s A c ps w h
end Go.Proofs.Ytifioecofeojpaa

