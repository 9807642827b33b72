/- impl.checkRegister, impl.IsRegister. -/
import Derived.Test.YtjgagiigpijaiaaDoorRegb
namespace Go.Proofs.YtjgagiigpijaiaaDoor
open Go.ChangeShapes Go.WideShapes Go.ChangeAt Go.RowKit
set_option linter.unusedVariables false

/-- A box of a party stands as it was laid; nothing below is written. -/
structure KeepP (w0 : World) (p : Pty) (W : World) : Prop where
  a : W.heap[w0.heap.size]? = some (.cells #[.string ⟨p.c.toArray⟩, .int .i64 p.k, .string ⟨p.a.toArray⟩] 35 (0, 0))
  bel : Below w0.heap.size w0 W
theorem KeepP.step {w0 W w' : World} {p : Pty} (k : KeepP w0 p W) (b : Below W.heap.size W w') : KeepP w0 p w' := ⟨(b.block _ (lt_some k.a)).trans k.a, belowGo k.bel b⟩
theorem KeepP.drew {w0 W : World} {p : Pty} (k : KeepP w0 p W) : KeepP w0 p W.drew := ⟨k.a, k.bel.drew⟩
theorem KeepP.new (w : World) (p : Pty) : KeepP w p (w.alloc (.cells #[.string ⟨p.c.toArray⟩, .int .i64 p.k, .string ⟨p.a.toArray⟩] 35)) := ⟨heap_alloc_new _ _, (Below.refl _ _).alloc (Nat.le_refl _) _⟩
theorem KeepP.cells {w0 W : World} {p : Pty} (k : KeepP w0 p W) : PtyC W w0.heap.size 0 p :=
  ⟨by rw [cell_of_row _ _ _ _ _ _ k.a]; rfl, by rw [cell_of_row _ _ _ _ _ _ k.a]; rfl, by rw [cell_of_row _ _ _ _ _ _ k.a]; rfl⟩
/-- What the checks of a register say. -/
def ErrR (b : Bool) (v : Value) : Prop := if b = true then v = .nilIface else (v = errC 1 ∨ ∃ s, v = errP s 1)
/-- Parties that a function takes: their texts are short. -/
structure PTbl (w : World) (A : Option Addr) (ps : List Pty) : Prop where
  row : PtyR w A ps
  txt : ∀ p ∈ ps, p.sz ≤ 1048576
  len : ps.length ≤ 1048576
theorem PTbl.below {w w' : World} {A : Option Addr} {ps : List Pty} (h : PTbl w A ps) (hb : Below w.heap.size w w') : PTbl w' A ps := ⟨h.row.below hb, h.txt, h.len⟩
theorem sz_c {p : Pty} (h : p.sz ≤ 1048576) : p.c.length ≤ 9223372036854775807 ∧ p.a.length ≤ 9223372036854775807 := by unfold Pty.sz at h; omega

set_option maxRecDepth 100000 in
set_option maxHeartbeats 4000000 in
theorem check_i (A : Option Addr) (c : Nat) (ps : List Pty) (w : World) (h : PTbl w A ps) :
    Calls Tryd.prog 73 #[.slice A ps.length c] w fun e w' => ∃ v, e = .returned v ∧ ErrR (regB ps) v ∧ Below w.heap.size w w' := by
  have hR := h.row
  have hs := h.txt
  clear h
  by_cases h12 : 12 < ps.length
  · have E : Hid (ErrR (regB ps) (errC 1)) := Lib.hid (by rw [reg_long h12]; exact .inl rfl)
    go_enter Tryd.func73, Tryd.ntmps73
    go_wp2_with fail
    go_ret
    exact ⟨_, rfl, E.out, Below.refl _ _⟩
  · go_enter Tryd.func73, Tryd.ntmps73
    go_wp2_with fail
    go_loopw [13] (fun i wr => ∃ k : Nat, k ≤ ps.length ∧ i = .int .i64 k ∧ Hid (ordTo ps k = true) ∧ Below w.heap.size w wr) (fun i _ => ps.length - (intOf i).toNat)
    case atStart => exact ⟨0, Nat.zero_le _, rfl, Lib.hid rfl, Below.refl _ _⟩
    case round =>
      obtain ⟨k, hk, rfl, hok, hb⟩ := hrel
      by_cases hlt : k < ps.length
      · obtain ⟨b, off, p, rfl, hl, hp, h4⟩ := (hR.below hb).at hlt
        obtain ⟨hpc, hpa⟩ := sz_c (hs p (List.mem_of_getElem? hp.out))
        have k0 := (KeepP.new wr p).drew
        have HV := Lib.hid (fun y : Sub (KeepP wr p) => (pvalid_i p y.w hpc hpa).mono fun e w' h => (⟨h.1, ⟨w', y.h.step h.2⟩, rfl⟩ : e = .returned (.bool p.ok) ∧ ∃ z : Sub (KeepP wr p), w' = z.w))
        have q0 : ∀ y : Sub (KeepP wr p), y.w.cell? ⟨wr.heap.size, 0, none⟩ = some (.string ⟨p.c.toArray⟩) := fun y => y.h.cells.c0
        have q1 : ∀ y : Sub (KeepP wr p), y.w.cell? ⟨wr.heap.size, 1, none⟩ = some (.int .i64 p.k) := fun y => y.h.cells.c1
        have q2 : ∀ y : Sub (KeepP wr p), y.w.cell? ⟨wr.heap.size, 2, none⟩ = some (.string ⟨p.a.toArray⟩) := fun y => y.h.cells.c2
        have HB := Lib.hid (fun y : Sub (KeepP wr p) => (belowGo hb y.h.bel : Below w.heap.size w y.w))
        have HEr := Lib.hid (fun w => errorAbout_i p.c 1 w)
        have c0 := h4.c0; have c1 := h4.c1; have c2 := h4.c2
        rcases Bool.eq_false_or_eq_true p.ok with hv | hv
        · rw [hv] at HV
          by_cases hk0 : 0 < k
          · obtain ⟨b', off', q, e2, hl', hq, h4'⟩ := (hR.below hb).at (k := k - 1) (by omega)
            obtain ⟨rfl, rfl⟩ : b = b' ∧ off = off' := by injection e2 with e2; injection e2 with e3 e4; exact ⟨e3, e4⟩
            have p0 : ∀ y : Sub (KeepP wr p), y.w.cell? ⟨b, off + (k - 1) * 3, none⟩ = some (.string ⟨q.c.toArray⟩) := fun y => (h4'.below hl' y.h.bel).c0
            have p1 : ∀ y : Sub (KeepP wr p), y.w.cell? ⟨b, off + (k - 1) * 3 + 1, none⟩ = some (.int .i64 q.k) := fun y => (h4'.below hl' y.h.bel).c1
            have p2 : ∀ y : Sub (KeepP wr p), y.w.cell? ⟨b, off + (k - 1) * 3 + 2, none⟩ = some (.string ⟨q.a.toArray⟩) := fun y => (h4'.below hl' y.h.bel).c2
            have ho : ordAt ps k = Op.bytesLess q.c p.c := by
              obtain ⟨j, rfl⟩ : ∃ j, k = j + 1 := ⟨k - 1, by omega⟩
              rw [ordAt_s hp.out (by simpa using hq.out), hv, Bool.true_and]; rfl
            have HT := Lib.hid (ordTo_succ ps k)
            rw [hok.out, Bool.true_and, ho] at HT
            have E := Lib.hid (fun h : Op.bytesLess q.c p.c = false => reg_no1 hlt (ho.trans h))
            clear hR hs hp hok hv hq h4' h4 e2 ho
            rcases Bool.eq_false_or_eq_true (Op.bytesLess q.c p.c) with hbl | hbl
            · rw [hbl] at HT
              clear E
              go_wp2_with fail
              refine region_held (KeepP wr p) (by kernel_rfl) (by kernel_rfl) k0 ?_
              repeat (go_big_quiet_step ((first | rfl | (go_at_call 60; exact HV.out _))))
              refine wpQuiet_nil ?_
              rintro _ ⟨y, rfl⟩
              go_wp2_with fail
              go_roundw
              case rel => exact ⟨k + 1, by omega, by go_num, HT, HB.out y⟩
              case measure => simp [intOf]; omega
            · have E3 : Hid (ErrR (regB ps) (errP p.c 1)) := Lib.hid (by rw [E.out hbl]; exact .inr ⟨_, rfl⟩)
              clear E HT
              go_wp2_with fail
              refine region_held (KeepP wr p) (by kernel_rfl) (by kernel_rfl) k0 ?_
              repeat (go_big_quiet_step ((first | rfl | (go_at_call 60; exact HV.out _))))
              refine wpQuiet_nil ?_
              rintro _ ⟨y, rfl⟩
              have c0 := q0 y
              go_wp2_with fail
              refine (HEr.out _).mono ?_
              rintro e w1 ⟨rfl, rfl⟩
              go_wp2_with fail
              go_ret
              exact ⟨_, rfl, E3.out, HB.out y⟩
          · have HT : Hid (ordTo ps (k + 1) = true) := Lib.hid (by
              rw [ordTo_succ, hok.out, Bool.true_and]
              obtain rfl : k = 0 := by omega
              rw [ordAt_0 hp.out, hv])
            have hd : decide (0 < (k : Int)) = false := by simp; omega
            clear hR hs hp hok hv h4
            go_wp2_with fail
            refine region_held (KeepP wr p) (by kernel_rfl) (by kernel_rfl) k0 ?_
            repeat (go_big_quiet_step ((first | rfl | (go_at_call 60; exact HV.out _))))
            refine wpQuiet_nil ?_
            rintro _ ⟨y, rfl⟩
            go_wp2_with fail
            go_roundw
            case rel => exact ⟨k + 1, by omega, by go_num, HT, HB.out y⟩
            case measure => simp [intOf]; omega
        · rw [hv] at HV
          have E3 : Hid (ErrR (regB ps) (errP p.c 1)) := Lib.hid (by rw [reg_no1 hlt (ordAt_no hp.out hv)]; exact .inr ⟨_, rfl⟩)
          clear hR hs hp hok hv h4
          go_wp2_with fail
          refine region_held (KeepP wr p) (by kernel_rfl) (by kernel_rfl) k0 ?_
          repeat (go_big_quiet_step ((first | rfl | (go_at_call 60; exact HV.out _))))
          refine wpQuiet_nil ?_
          rintro _ ⟨y, rfl⟩
          have c0 := q0 y
          go_wp2_with fail
          refine (HEr.out _).mono ?_
          rintro e w1 ⟨rfl, rfl⟩
          go_wp2_with fail
          go_ret
          exact ⟨_, rfl, E3.out, HB.out y⟩
      · have HO : Hid (ordTo ps ps.length = true) := Lib.hid (by obtain rfl : k = ps.length := by omega
                                                                 exact hok.out)
        clear hok
        go_wp2_with fail
        go_loopw [42] (fun i wz => ∃ k : Nat, k ≤ ps.length ∧ i = .int .i64 k ∧ Hid (agTo ps k = true) ∧ Below w.heap.size w wz) (fun i _ => ps.length - (intOf i).toNat)
        case atStart => exact ⟨0, Nat.zero_le _, rfl, Lib.hid rfl, hb⟩
        case round =>
          clear hb hlt hk
          obtain ⟨k, hk, rfl, hok, hb⟩ := hrel
          by_cases hlt : k < ps.length
          · obtain ⟨b, off, p, rfl, hl, hp, h4⟩ := (hR.below hb).at hlt
            have c0 := h4.c0; have c1 := h4.c1; have c2 := h4.c2
            have HEr := Lib.hid (fun w => errorAbout_i p.c 1 w)
            have hag := agAt_eq hp.out
            have HM := Lib.hid (fun wz (hb2 : Below w.heap.size w wz) => mayBe_i (some ⟨b, off, none⟩) c ps p.a wz (hR.below hb2) (by omega) HO.out)
            have HT := Lib.hid (agTo_succ ps k)
            rw [hok.out, Bool.true_and, hag] at HT
            have E := Lib.hid (fun h : (p.a == [] || agB ps p.a) = false => reg_no2 hlt (hag.trans h))
            clear hR hs hp hok h4 hag HO
            rcases Bool.eq_false_or_eq_true (p.a == []) with ha | ha
            · have HT2 : Hid (agTo ps (k + 1) = true) := Lib.hid (by rw [HT.out, ha]; rfl)
              have hne : (p.a != []) = false := by simpa using ha
              clear HT E HM
              go_wp2_with fail
              go_roundw
              case rel => exact ⟨k + 1, by omega, by go_num, HT2, hb.alloc hb.size _⟩
              case measure => simp [intOf]; omega
            · have hne : (p.a != []) = true := by simpa using ha
              have hb3 := fun o => Lib.hid (hb.alloc hb.size o)
              rcases Bool.eq_false_or_eq_true (agB ps p.a) with hg | hg
              · have HT2 : Hid (agTo ps (k + 1) = true) := Lib.hid (by rw [HT.out, ha, hg]; rfl)
                rw [hg] at HM
                clear HT E hg
                go_wp2_with (go_at_call 86; refine (HM.out _ (hb3 _).out).mono ?_; rintro e w1 ⟨rfl, b1⟩)
                go_roundw
                case rel => exact ⟨k + 1, by omega, by go_num, HT2, (hb3 _).out.trans (b1.mono (hb3 _).out.size)⟩
                case measure => simp [intOf]; omega
              · have E3 : Hid (ErrR (regB ps) (errP p.c 1)) := Lib.hid (by rw [E.out (by rw [ha, hg]; rfl)]; exact .inr ⟨_, rfl⟩)
                rw [hg] at HM
                clear HT E hg
                have kn := KeepP.new wr p
                go_wp2_with (go_at_call 86; refine (HM.out _ (hb3 _).out).mono ?_; rintro e w1 ⟨rfl, b1⟩; have c0' := (kn.step b1).cells.c0)
                refine (HEr.out _).mono ?_
                rintro e w1 ⟨rfl, rfl⟩
                go_wp2_with fail
                go_ret
                exact ⟨_, rfl, E3.out, (hb3 _).out.trans (b1.mono (hb3 _).out.size)⟩
          · have E3 : Hid (ErrR (regB ps) .nilIface) := Lib.hid (by
              rw [reg_yes h12 HO.out (by obtain rfl : k = ps.length := by omega
                                         exact hok.out)]; exact rfl)
            clear hR hs hok HO
            go_wp2_with fail
            go_ret
            exact ⟨_, rfl, E3.out, hb⟩
theorem isReg_i (A : Option Addr) (c : Nat) (ps : List Pty) (w : World) (h : PTbl w A ps) :
    Calls Tryd.prog 44 #[.slice A ps.length c] w (Gives w (.bool (regB ps))) := by
  have HC := Lib.hid (check_i A c ps w h)
  clear h
  generalize regB ps = b at *
  go_enter Tryd.func44, Tryd.ntmps44
  go_wp2_with fail
  refine HC.out.mono ?_
  rintro e w1 ⟨v, rfl, hv, b1⟩
  unfold ErrR at hv
  cases b
  · rw [if_neg Bool.false_ne_true] at hv
    rcases hv with rfl | ⟨s, rfl⟩
    · unfold errC
      go_wp2_with fail
      go_ret
      exact ⟨rfl, b1⟩
    · unfold errP
      go_wp2_with fail
      go_ret
      exact ⟨rfl, b1⟩
  · rw [if_pos rfl] at hv
    subst hv
    go_wp2_with fail
    go_ret
    exact ⟨rfl, b1⟩
end Go.Proofs.YtjgagiigpijaiaaDoor
