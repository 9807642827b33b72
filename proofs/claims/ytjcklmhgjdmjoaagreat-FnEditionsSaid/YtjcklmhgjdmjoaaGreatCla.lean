import Derived.Test.YtjcklmhgjdmjoaaGreatMCll
namespace Go.Proofs.YtjcklmhgjdmjoaaGreat
open Go.ChangeShapes Go.WideShapes Go.ChangeAt Go.RowKit
set_option linter.unusedVariables false
theorem heap_setRow_sameC {w : World} {g : Nat} {cs cs' : Array Value} {t : TypeId} (h : w.heap[g]? = some (.cells cs t (0, 0))) : (w.setRow g cs').heap[g]? = some (.cells cs' t (0, 0)) := by
 have hl := (Array.getElem?_eq_some_iff.1 h).1
 have h2 := (Array.getElem?_eq_some_iff.1 h).2
 simp [World.setRow, Array.getElem?_modify, h]
theorem heap_setRow_otherC {w : World} {g i : Nat} {cs : Array Value} (h : i ≠ g) : (w.setRow g cs).heap[i]? = w.heap[i]? := by
 simp [World.setRow, Array.getElem?_modify, Ne.symm h]
theorem below_setRowC {w0 w : World} {B g : Nat} {cs : Array Value} (h : Below B w0 w) (hg : B <= g) : Below B w0 (w.setRow g cs) :=
 ⟨h.os, h.tape, h.output, by rw [size_setRow]; exact h.size, fun i hi => by rw [heap_setRow_otherC (by omega)]; exact h.block i hi⟩
theorem needSz : (Tryz.prog.info? 115).map (·.size) = some 3 := by kernel_rfl
theorem innC_qI {n lo hi : Int} {b : Bool} (h : inr n lo hi = b) (w : World) : Calls Tryz.prog 75 #[.int .i64 n, .int .i64 lo, .int .i64 hi] w fun e w' => e = .returned (.bool b) /\ w = w' := within_q h w
set_option maxHeartbeats 1000000 in
theorem order_i (p : Cls) (w : World) : Calls Tryz.prog 83 #[.agg #[.string ⟨p.c.toArray⟩, .int .i64 p.k, .int .i64 p.p, .int .i64 p.v, .int .i64 p.r, .int .i64 p.e, .string ⟨p.t.toArray⟩]] w (Gives w (.agg #[.int .i64 p.p, .int .i64 p.v, .int .i64 p.r])) := by
 have o1 := heap_alloc2_new w (.cells #[.string ⟨p.c.toArray⟩, .int .i64 p.k, .int .i64 p.p, .int .i64 p.v, .int .i64 p.r, .int .i64 p.e, .string ⟨p.t.toArray⟩] 47) (.cells #[.int .i64 0, .int .i64 0, .int .i64 0] 115)
 have B := belowGo (below_alloc w (.cells #[.string ⟨p.c.toArray⟩, .int .i64 p.k, .int .i64 p.p, .int .i64 p.v, .int .i64 p.r, .int .i64 p.e, .string ⟨p.t.toArray⟩] 47)) (below_alloc _ (.cells #[.int .i64 0, .int .i64 0, .int .i64 0] 115))
 have hg2 := heap_setRow_sameC (cs' := #[.int .i64 p.p, .int .i64 p.v, .int .i64 p.r]) o1
 have hb2 := Lib.hid (below_setRowC (g := w.heap.size + 1) (cs := #[.int .i64 p.p, .int .i64 p.v, .int .i64 p.r]) B (Nat.le_succ _))
 clear B
 go_enter Tryz.func83, Tryz.ntmps83
 go_wp2_with (refine wpList_store_row rfl 115 (.tmp 2) (.tmp 9) rfl (w.heap.size + 1) #[.int .i64 p.p, .int .i64 p.v, .int .i64 p.r] rfl rfl 115 #[.int .i64 0, .int .i64 0, .int .i64 0] o1 needSz rfl (by simp [Value.oneCell']) ?_)
 (try simp only [Exit.inBlock, Exit.then])
 refine bodyPost_ret (v := .agg #[.int .i64 p.p, .int .i64 p.v, .int .i64 p.r]) ?_ ?_ ?_
 ·
  exact results_cell_row rfl _ _ (w.heap.size + 1) 115 _ (0, 0) _ rfl hg2 Tryz.underlying115 rfl needSz
 ·
  rfl
 exact ⟨rfl, hb2.out⟩
def ndC (p : Cls) : Nat -> Int
 | 0 => p.p
 | 1 => p.v
 | _ => p.r
def nto (p : Cls) (k : Nat) : Bool := (List.range k).all fun j => inr (ndC p j) 0 2
def needsB (p : Cls) : Bool := inr p.p 0 2 && (inr p.v 0 2 && inr p.r 0 2)
theorem nto_3 (p : Cls) : nto p 3 = needsB p := by
 show (inr p.p 0 2 && (inr p.v 0 2 && (inr p.r 0 2 && true))) = _
 rw [Bool.and_true]; rfl
theorem nto_succ (p : Cls) (k : Nat) : nto p (k + 1) = (nto p k && inr (ndC p k) 0 2) := by simp [nto, List.range_succ]
theorem nto_no {p : Cls} {k : Nat} (hk : k < 3) (h : inr (ndC p k) 0 2 = false) : needsB p = false := by
 rw [<- nto_3]; unfold nto; rw [List.all_eq_false]; exact ⟨k, List.mem_range.2 hk, by rw [h]; decide⟩
set_option maxHeartbeats 2000000 in
theorem needs_i (p : Cls) (w : World) : Calls Tryz.prog 76 #[.agg #[.string ⟨p.c.toArray⟩, .int .i64 p.k, .int .i64 p.p, .int .i64 p.v, .int .i64 p.r, .int .i64 p.e, .string ⟨p.t.toArray⟩]] w (Gives w (.bool (needsB p))) := by
 have kb := KeepC.new w p
 have HO := Lib.hid (fun w => order_i p w)
 go_enter Tryz.func76, Tryz.ntmps76
 go_wp2_with fail
 refine (HO.out _).mono ?_
 rintro e w1 ⟨rfl, b1⟩
 have hb := Lib.hid (belowGo kb.bel b1)
 clear kb HO b1
 go_wp2_with fail
 go_loop [7] (fun i => ∃ k : Nat, k <= 3 /\ i = .int .i64 k /\ Hid (nto p k = true)) (fun i => 3 - (intOf i).toNat)
 case atStart => exact ⟨0, Nat.zero_le _, rfl, Lib.hid rfl⟩
 case round =>
  obtain ⟨k, hk, rfl, hok⟩ := hrel
  have i0 : ∀ w, (Instr.index 115 (.agg #[.int .i64 p.p, .int .i64 p.v, .int .i64 p.r]) (.int .i64 0)).run Tryz.prog w = .ok (.int .i64 p.p) w := fun _ => by kernel_rfl
  have i1 : ∀ w, (Instr.index 115 (.agg #[.int .i64 p.p, .int .i64 p.v, .int .i64 p.r]) (.int .i64 1)).run Tryz.prog w = .ok (.int .i64 p.v) w := fun _ => by kernel_rfl
  have i2 : ∀ w, (Instr.index 115 (.agg #[.int .i64 p.p, .int .i64 p.v, .int .i64 p.r]) (.int .i64 2)).run Tryz.prog w = .ok (.int .i64 p.r) w := fun _ => by kernel_rfl
  have HN := Lib.hid (@nto_no p k)
  have HS := Lib.hid (nto_succ p k)
  have H3 := Lib.hid (nto_3 p)
  rcases (by omega : k = 0 ∨ k = 1 ∨ k = 2 ∨ k = 3) with rfl | rfl | rfl | rfl
  ·
   have ST : Hid (inr p.p 0 2 = true -> nto p 1 = true) := Lib.hid fun h => by rw [HS.out, hok.out]; exact h
   rcases Bool.eq_false_or_eq_true (inr p.p 0 2) with h | h
   ·
    have EK := Lib.hid (ST.out h)
    clear HN HS H3 ST
    go_wp2_with (go_at_call 75; refine (innC_qI (by assumption) _).mono ?_; rintro e w' ⟨rfl, rfl⟩)
    go_round
    case rel => exact ⟨1, by omega, rfl, EK⟩
    case measure => simp [intOf]
   ·
    have E := Lib.hid (HN.out (by omega) h)
    clear HN HS H3 ST
    go_wp2_with (go_at_call 75; refine (innC_qI (by assumption) _).mono ?_; rintro e w' ⟨rfl, rfl⟩)
    go_ret
    exact ⟨by rw [E.out] <;> rfl, hb.out⟩
  ·
   have ST : Hid (inr p.v 0 2 = true -> nto p 2 = true) := Lib.hid fun h => by rw [HS.out, hok.out]; exact h
   rcases Bool.eq_false_or_eq_true (inr p.v 0 2) with h | h
   ·
    have EK := Lib.hid (ST.out h)
    clear HN HS H3 ST
    go_wp2_with (go_at_call 75; refine (innC_qI (by assumption) _).mono ?_; rintro e w' ⟨rfl, rfl⟩)
    go_round
    case rel => exact ⟨2, by omega, rfl, EK⟩
    case measure => simp [intOf]
   ·
    have E := Lib.hid (HN.out (by omega) h)
    clear HN HS H3 ST
    go_wp2_with (go_at_call 75; refine (innC_qI (by assumption) _).mono ?_; rintro e w' ⟨rfl, rfl⟩)
    go_ret
    exact ⟨by rw [E.out] <;> rfl, hb.out⟩
  ·
   have ST : Hid (inr p.r 0 2 = true -> nto p 3 = true) := Lib.hid fun h => by rw [HS.out, hok.out]; exact h
   rcases Bool.eq_false_or_eq_true (inr p.r 0 2) with h | h
   ·
    have EK := Lib.hid (ST.out h)
    clear HN HS H3 ST
    go_wp2_with (go_at_call 75; refine (innC_qI (by assumption) _).mono ?_; rintro e w' ⟨rfl, rfl⟩)
    go_round
    case rel => exact ⟨3, by omega, rfl, EK⟩
    case measure => simp [intOf]
   ·
    have E := Lib.hid (HN.out (by omega) h)
    clear HN HS H3 ST
    go_wp2_with (go_at_call 75; refine (innC_qI (by assumption) _).mono ?_; rintro e w' ⟨rfl, rfl⟩)
    go_ret
    exact ⟨by rw [E.out] <;> rfl, hb.out⟩
  ·
   have E : Hid (needsB p = true) := Lib.hid (H3.out.symm.trans hok.out)
   clear HN HS H3
   go_wp2_with fail
   go_ret
   exact ⟨by rw [E.out] <;> rfl, hb.out⟩
theorem needs_q {p : Cls} {b : Bool} (h : needsB p = b) (w : World) : Calls Tryz.prog 76 #[.agg #[.string ⟨p.c.toArray⟩, .int .i64 p.k, .int .i64 p.p, .int .i64 p.v, .int .i64 p.r, .int .i64 p.e, .string ⟨p.t.toArray⟩]] w (Gives w (.bool b)) := h ▸ needs_i p w
def toB (p : Cls) : Bool := if p.e == 3 then pcode p.t else p.t.isEmpty
set_option maxHeartbeats 1000000 in
theorem to_i (p : Cls) (w : World) (ht : p.t.length <= 9223372036854775807) : Calls Tryz.prog 77 #[.agg #[.string ⟨p.c.toArray⟩, .int .i64 p.k, .int .i64 p.p, .int .i64 p.v, .int .i64 p.r, .int .i64 p.e, .string ⟨p.t.toArray⟩]] w (Gives w (.bool (toB p))) := by
 have B : ∀ o, Hid (Below w.heap.size w (w.alloc o)) := fun o => Lib.hid ((Below.refl _ _).alloc (Nat.le_refl _) _)
 have E : Hid (toB p = if p.e == 3 then pcode p.t else p.t.isEmpty) := Lib.hid rfl
 have HP := Lib.hid (fun w => isPcode_i p.t w ht)
 have HE := Lib.hid (empC p.t)
 rcases Bool.eq_false_or_eq_true (p.e == 3) with h | h
 ·
  have E2 : Hid (toB p = pcode p.t) := Lib.hid (by rw [E.out, if_pos h])
  clear E HE
  go_enter Tryz.func77, Tryz.ntmps77
  go_wp2_with (go_at_call 74; refine (HP.out _).mono ?_; rintro e w' ⟨rfl, rfl⟩)
  go_ret
  exact ⟨by rw [E2.out] <;> rfl, (B _).out⟩
 ·
  have E2 : Hid (toB p = p.t.isEmpty) := Lib.hid (by rw [E.out, if_neg (by rw [h]; decide)])
  clear E
  go_enter Tryz.func77, Tryz.ntmps77
  go_wp2_with fail
  go_ret
  exact ⟨by rw [E2.out, <- HE.out] <;> rfl, (B _).out⟩
theorem to_q {p : Cls} {b : Bool} (h : toB p = b) (w : World) (ht : p.t.length <= 9223372036854775807) : Calls Tryz.prog 77 #[.agg #[.string ⟨p.c.toArray⟩, .int .i64 p.k, .int .i64 p.p, .int .i64 p.v, .int .i64 p.r, .int .i64 p.e, .string ⟨p.t.toArray⟩]] w (Gives w (.bool b)) := h ▸ to_i p w ht
theorem ok_two (p : Cls) : p.ok = (pcode p.c && (inr p.k (-1) 6 && (needsB p && (inr p.e 0 3 && toB p)))) := by
 unfold Cls.ok needsB toB
 simp only [Bool.and_assoc]
inductive CWayI (r : Cls) : Bool -> Prop where
 | code (h : pcode r.c = false) : CWayI r false
 | kind (h : pcode r.c = true) (h1 : inr r.k (-1) 6 = false) : CWayI r false
 | need (h : pcode r.c = true) (h1 : inr r.k (-1) 6 = true) (h2 : needsB r = false) : CWayI r false
 | res (h : pcode r.c = true) (h1 : inr r.k (-1) 6 = true) (h2 : needsB r = true) (h5 : inr r.e 0 3 = false) : CWayI r false
 | fin (b : Bool) (h : pcode r.c = true) (h1 : inr r.k (-1) 6 = true) (h2 : needsB r = true) (h5 : inr r.e 0 3 = true) (h6 : toB r = b) : CWayI r b
theorem cwayI (r : Cls) : CWayI r r.ok := by
 rw [ok_two]
 rcases Bool.eq_false_or_eq_true (pcode r.c) with h | h
 ·
  rcases Bool.eq_false_or_eq_true (inr r.k (-1) 6) with h1 | h1
  ·
   rcases Bool.eq_false_or_eq_true (needsB r) with h2 | h2
   ·
    rcases Bool.eq_false_or_eq_true (inr r.e 0 3) with h5 | h5
    ·
     rw [h, h1, h2, h5]; exact .fin _ h h1 h2 h5 rfl
    ·
     rw [h, h1, h2, h5]; exact .res h h1 h2 h5
   ·
    rw [h, h1, h2]; exact .need h h1 h2
  ·
   rw [h, h1]; exact .kind h h1
 ·
  rw [h]; exact .code h
set_option maxRecDepth 100000 in
set_option maxHeartbeats 4000000 in
theorem cvalid_i (p : Cls) (w : World) (hc : p.c.length <= 9223372036854775807) (ht : p.t.length <= 9223372036854775807) : Calls Tryz.prog 52 #[.agg #[.string ⟨p.c.toArray⟩, .int .i64 p.k, .int .i64 p.p, .int .i64 p.v, .int .i64 p.r, .int .i64 p.e, .string ⟨p.t.toArray⟩]] w (Gives w (.bool p.ok)) := by
 have kb := KeepC.new w p
 have W := cwayI p
 obtain ⟨b, hb⟩ : ∃ b, b = p.ok := ⟨_, rfl⟩
 rw [<- hb] at W
 rw [<- hb]
 clear hb
 cases W
 all_goals
  go_enter Tryz.func52, Tryz.ntmps52
  have t1 := kb.bel
  go_wp2_with (first
   | (go_at_call 75; refine (innC_qI (by assumption) _).mono ?_; rintro e w' ⟨rfl, rfl⟩)
   | (go_at_call 74; refine (pcodeI_qC (by assumption) (by assumption) _).mono ?_; rintro e w' ⟨rfl, rfl⟩)
   | (go_at_call 76; refine (needs_q (by assumption) _).mono ?_; rintro e w1 ⟨rfl, b1⟩; replace kb := kb.step b1; replace t1 := kb.bel; have d0 := kb.cells.c0; have d1 := kb.cells.c1; have d2 := kb.cells.c2; have d3 := kb.cells.c3; have d4 := kb.cells.c4; have d5 := kb.cells.c5; have d6 := kb.cells.c6)
   | (go_at_call 77; refine (to_q (by assumption) _ ht).mono ?_; rintro e w2 ⟨rfl, b2⟩; replace kb := kb.step b2; replace t1 := kb.bel))
  go_ret
  exact ⟨by first | rfl | simp_all, t1⟩
end Go.Proofs.YtjcklmhgjdmjoaaGreat
