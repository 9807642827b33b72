/- DecideEvent, both sides. (by gen_del.py) -/
import Derived.Test.YtjcklmhgjdmjoaaDci
import Derived.Test.YtjcklmhgjdmjoaaClo
import Derived.Test.YtjcklmhgjdmjoaaClb
import Derived.Test.YtjcklmhgjdmjoaaEvi
namespace Go.Proofs.Ytjcklmhgjdmjoaa
open Go.ChangeShapes Go.WideShapes Go.ChangeAt Go.RowKit
set_option linter.unusedVariables false

def deR (ps : List Cls) (q : Evt) : Dcn × Int := if rbB ps = true ∧ q.ok = true then (decE ps q, 0) else (⟨0, []⟩, 1)
theorem deR_no {ps : List Cls} {q : Evt} (h : rbB ps = false ∨ q.ok = false) : deR ps q = (⟨0, []⟩, 1) := by
  unfold deR; rw [if_neg]; rintro ⟨h1, h2⟩; rcases h with h | h <;> simp_all
theorem deR_ok {ps : List Cls} {q : Evt} (h : rbB ps = true) (h1 : q.ok = true) : deR ps q = (decE ps q, 0) := by unfold deR; rw [if_pos ⟨h, h1⟩]
def NewDecC (w : World) (x : Dcn × Int) (e : Ending) (w' : World) : Prop :=
  ∃ A c, e = .returned (.tuple #[.agg #[.int .i64 x.1.y, .slice A x.1.cs.length c], .int .i64 x.2]) ∧ Ost w' w.heap.size A x.1.cs.length c x.1.cs ∧ Below w.heap.size w w'
/-- The event's box, the answer's box behind it. -/
structure KE2 (w : World) (q : Evt) (W : World) : Prop where
  ev : KeepE w q W
  rz : W.heap[w.heap.size + 1]? = some (.cells #[.int .i64 0, .slice none 0 0] 31 (0, 0))
section
variable {w W W' : World} {q : Evt}
theorem KE2.new (w : World) (q : Evt) : KE2 w q ((w.alloc (.cells #[.int .i64 q.d, .int .i64 q.k, .string ⟨q.c.toArray⟩, .int .i64 q.a, .bool q.p, .bool q.v, .bool q.r] 26)).alloc (.cells #[.int .i64 0, .slice none 0 0] 31)) := by
  have := heap_alloc_new (w.alloc (.cells #[.int .i64 q.d, .int .i64 q.k, .string ⟨q.c.toArray⟩, .int .i64 q.a, .bool q.p, .bool q.v, .bool q.r] 26)) (.cells #[.int .i64 0, .slice none 0 0] 31)
  rw [show (w.alloc (.cells #[.int .i64 q.d, .int .i64 q.k, .string ⟨q.c.toArray⟩, .int .i64 q.a, .bool q.p, .bool q.v, .bool q.r] 26)).heap.size = w.heap.size + 1 by simp] at this
  exact ⟨(KeepE.new w q).step (below_alloc _ _), this⟩
theorem KE2.step (k : KE2 w q W) (b : Below W.heap.size W W') : KE2 w q W' := ⟨k.ev.step b, (b.block _ (lt_some k.rz)).trans k.rz⟩
theorem KE2.z0 (k : KE2 w q W) : W.cell? ⟨w.heap.size + 1, 0, none⟩ = some (.int .i64 0) := by rw [cell_of_row _ _ _ _ _ _ k.rz]; rfl
theorem KE2.z1 (k : KE2 w q W) : W.cell? ⟨w.heap.size + 1, 1, none⟩ = some (.slice none 0 0) := by rw [cell_of_row _ _ _ _ _ _ k.rz]; rfl
theorem KE2.f0 (k : KE2 w q W) : W.frozen? ⟨w.heap.size + 1, 0, none⟩ = false := frozen_of_row W _ 0 _ _ k.rz
theorem KE2.f1 (k : KE2 w q W) : W.frozen? ⟨w.heap.size + 1, 1, none⟩ = false := frozen_of_row W _ 1 _ _ k.rz
end
set_option maxRecDepth 100000 in
set_option maxHeartbeats 8000000 in
theorem de_i (A : Option Addr) (c : Nat) (ps : List Cls) (q : Evt) (w : World) (h : CTblC w A c ps) (hq : q.sz ≤ 1048600) :
    Calls Try.prog 15 #[.slice A ps.length c, .agg #[.int .i64 q.d, .int .i64 q.k, .string ⟨q.c.toArray⟩, .int .i64 q.a, .bool q.p, .bool q.v, .bool q.r]] w (NewDecC w (deR ps q)) := by
  have hcap := h.cap
  replace h := h.tbl
  have k0 := KE2.new w q
  have hn := h.len
  have HE := Lib.hid (fun W => evalid_i q W (sz_e hq))
  have c0 := k0.ev.cells.c0; have c1 := k0.ev.cells.c1; have c2 := k0.ev.cells.c2; have c3 := k0.ev.cells.c3; have c4 := k0.ev.cells.c4; have c5 := k0.ev.cells.c5; have c6 := k0.ev.cells.c6
  have cz0 := k0.z0; have cz1 := k0.z1; have cf0 := k0.f0; have cf1 := k0.f1
  clear hq
  rcases Bool.eq_false_or_eq_true (rbB ps) with hr | hr
  · have HT := Lib.hid (fun W (hb : Below w.heap.size w W) => rbI_q (c := c) (h.below hb) hr)
    rcases Bool.eq_false_or_eq_true q.ok with h1 | h1
    · rw [h1] at HE
      have E := Lib.hid (deR_ok hr h1)
      have HD := Lib.hid (fun W (b : Below w.heap.size w W) => decide_i A c ps q W (h.below b) (rb_of hr) hcap)
      clear h hr h1
      generalize decE ps q = D at *
      go_enter Try.func15, Try.ntmps15
      go_wp2_with (first
        | (go_at_call 68; refine (HT.out _ k0.ev.bel).mono ?_; rintro e w1 ⟨rfl, b1⟩; have k1 := k0.step b1; have x0 := k1.ev.cells.c0; have x1 := k1.ev.cells.c1; have x2 := k1.ev.cells.c2; have x3 := k1.ev.cells.c3; have x4 := k1.ev.cells.c4; have x5 := k1.ev.cells.c5; have x6 := k1.ev.cells.c6; have xz0 := k1.z0; have xz1 := k1.z1; have xf0 := k1.f0; have xf1 := k1.f1)
        | (go_at_call 69; refine (HE.out _).mono ?_; rintro e w2 ⟨rfl, b2⟩; have k2 := k1.step b2; have y0 := k2.ev.cells.c0; have y1 := k2.ev.cells.c1; have y2 := k2.ev.cells.c2; have y3 := k2.ev.cells.c3; have y4 := k2.ev.cells.c4; have y5 := k2.ev.cells.c5; have y6 := k2.ev.cells.c6; have yz0 := k2.z0; have yz1 := k2.z1; have yf0 := k2.f0; have yf1 := k2.f1)
        | (go_at_call 70; refine (HD.out _ k2.ev.bel).mono ?_; rintro e w3 ⟨B, d, rfl, o3, b3⟩; have k3 := k2.step b3; have uz0 := k3.z0; have uz1 := k3.z1; have uf0 := k3.f0; have uf1 := k3.f1))
      have HB := Lib.hid (dbox_done k3.rz (.int .i64 D.y) (.slice B D.cs.length d))
      obtain ⟨W', hW, y0', y1', hbw, hoo⟩ := HB.out
      rw [hW]
      rw [E.out]
      refine bodyPost_ret (v := .tuple #[.agg #[.int .i64 D.y, .slice B D.cs.length d], .int .i64 0]) (by simp [results, Try.results15, go_sem, y0', y1']) rfl ⟨B, d, rfl, (hoo _ _ _ _ _ (lt_some k2.rz) o3).mono (by have := k2.ev.bel.size; omega), k3.ev.bel.trans (hbw _ (by omega))⟩
    · have E := Lib.hid (@deR_no ps q (.inr h1))
      rw [h1] at HE
      clear h hr h1
      go_enter Try.func15, Try.ntmps15
      go_wp2_with (first
        | (go_at_call 68; refine (HT.out _ k0.ev.bel).mono ?_; rintro e w1 ⟨rfl, b1⟩; have k1 := k0.step b1; have x0 := k1.ev.cells.c0; have x1 := k1.ev.cells.c1; have x2 := k1.ev.cells.c2; have x3 := k1.ev.cells.c3; have x4 := k1.ev.cells.c4; have x5 := k1.ev.cells.c5; have x6 := k1.ev.cells.c6; have xz0 := k1.z0; have xz1 := k1.z1; have xf0 := k1.f0; have xf1 := k1.f1)
        | (go_at_call 69; refine (HE.out _).mono ?_; rintro e w2 ⟨rfl, b2⟩; have k2 := k1.step b2; have y0 := k2.ev.cells.c0; have y1 := k2.ev.cells.c1; have y2 := k2.ev.cells.c2; have y3 := k2.ev.cells.c3; have y4 := k2.ev.cells.c4; have y5 := k2.ev.cells.c5; have y6 := k2.ev.cells.c6; have yz0 := k2.z0; have yz1 := k2.z1; have yf0 := k2.f0; have yf1 := k2.f1))
      have HD := Lib.hid (dbox_done k2.rz (.int .i64 0) (.slice none 0 0))
      obtain ⟨W', hW, y0', y1', hbw, hoo⟩ := HD.out
      rw [hW]
      rw [E.out]
      refine bodyPost_ret (v := .tuple #[.agg #[.int .i64 0, .slice none 0 0], .int .i64 1]) (by simp [results, Try.results15, go_sem, y0', y1']) rfl ⟨none, 0, rfl, Ost.nil _ _, k2.ev.bel.trans (hbw _ (by omega))⟩
  · have HT := Lib.hid (fun W (hb : Below w.heap.size w W) => rbI_q (c := c) (h.below hb) hr)
    have E := Lib.hid (@deR_no ps q (.inl hr))
    clear h hr
    go_enter Try.func15, Try.ntmps15
    go_wp2_with (go_at_call 68; refine (HT.out _ k0.ev.bel).mono ?_; rintro e w1 ⟨rfl, b1⟩; have k1 := k0.step b1; have x0 := k1.ev.cells.c0; have x1 := k1.ev.cells.c1; have x2 := k1.ev.cells.c2; have x3 := k1.ev.cells.c3; have x4 := k1.ev.cells.c4; have x5 := k1.ev.cells.c5; have x6 := k1.ev.cells.c6; have xz0 := k1.z0; have xz1 := k1.z1; have xf0 := k1.f0; have xf1 := k1.f1)
    have HD := Lib.hid (dbox_done k1.rz (.int .i64 0) (.slice none 0 0))
    obtain ⟨W', hW, y0', y1', hbw, hoo⟩ := HD.out
    rw [hW]
    rw [E.out]
    refine bodyPost_ret (v := .tuple #[.agg #[.int .i64 0, .slice none 0 0], .int .i64 1]) (by simp [results, Try.results15, go_sem, y0', y1']) rfl ⟨none, 0, rfl, Ost.nil _ _, k1.ev.bel.trans (hbw _ (by omega))⟩
set_option maxRecDepth 100000 in
set_option maxHeartbeats 8000000 in
theorem de_s (A : Option Addr) (c : Nat) (ps : List Cls) (q : Evt) (w : World) (h : CTbl w A ps) (hq : q.sz ≤ 1048600) :
    Calls Try.prog 16 #[.slice A ps.length c, .agg #[.int .i64 q.d, .int .i64 q.k, .string ⟨q.c.toArray⟩, .int .i64 q.a, .bool q.p, .bool q.v, .bool q.r]] w (NewDecC w (deR ps q)) := by
  have k0 := KE2.new w q
  have hn := h.len
  have HE := Lib.hid (fun W => evalid_s q W (sz_e hq))
  have c0 := k0.ev.cells.c0; have c1 := k0.ev.cells.c1; have c2 := k0.ev.cells.c2; have c3 := k0.ev.cells.c3; have c4 := k0.ev.cells.c4; have c5 := k0.ev.cells.c5; have c6 := k0.ev.cells.c6
  have cz0 := k0.z0; have cz1 := k0.z1; have cf0 := k0.f0; have cf1 := k0.f1
  clear hq
  rcases Bool.eq_false_or_eq_true (rbB ps) with hr | hr
  · have HT := Lib.hid (fun W (hb : Below w.heap.size w W) => rbS_q (c := c) (h.below hb) hr)
    rcases Bool.eq_false_or_eq_true q.ok with h1 | h1
    · rw [h1] at HE
      have E := Lib.hid (deR_ok hr h1)
      have HD := Lib.hid (fun W (b : Below w.heap.size w W) => dec_s A c ps q W (h.below b) (rb_of hr))
      clear h hr h1
      generalize decE ps q = D at *
      go_enter Try.func16, Try.ntmps16
      go_wp2_with (first
        | (go_at_call 71; refine (HT.out _ k0.ev.bel).mono ?_; rintro e w1 ⟨rfl, b1⟩; have k1 := k0.step b1; have x0 := k1.ev.cells.c0; have x1 := k1.ev.cells.c1; have x2 := k1.ev.cells.c2; have x3 := k1.ev.cells.c3; have x4 := k1.ev.cells.c4; have x5 := k1.ev.cells.c5; have x6 := k1.ev.cells.c6; have xz0 := k1.z0; have xz1 := k1.z1; have xf0 := k1.f0; have xf1 := k1.f1)
        | (go_at_call 72; refine (HE.out _).mono ?_; rintro e w2 ⟨rfl, b2⟩; have k2 := k1.step b2; have y0 := k2.ev.cells.c0; have y1 := k2.ev.cells.c1; have y2 := k2.ev.cells.c2; have y3 := k2.ev.cells.c3; have y4 := k2.ev.cells.c4; have y5 := k2.ev.cells.c5; have y6 := k2.ev.cells.c6; have yz0 := k2.z0; have yz1 := k2.z1; have yf0 := k2.f0; have yf1 := k2.f1)
        | (go_at_call 73; refine (HD.out _ k2.ev.bel).mono ?_; rintro e w3 ⟨B, d, rfl, o3, b3⟩; have k3 := k2.step b3; have uz0 := k3.z0; have uz1 := k3.z1; have uf0 := k3.f0; have uf1 := k3.f1))
      have HB := Lib.hid (dbox_done k3.rz (.int .i64 D.y) (.slice B D.cs.length d))
      obtain ⟨W', hW, y0', y1', hbw, hoo⟩ := HB.out
      rw [hW]
      rw [E.out]
      refine bodyPost_ret (v := .tuple #[.agg #[.int .i64 D.y, .slice B D.cs.length d], .int .i64 0]) (by simp [results, Try.results16, go_sem, y0', y1']) rfl ⟨B, d, rfl, (hoo _ _ _ _ _ (lt_some k2.rz) o3).mono (by have := k2.ev.bel.size; omega), k3.ev.bel.trans (hbw _ (by omega))⟩
    · have E := Lib.hid (@deR_no ps q (.inr h1))
      rw [h1] at HE
      clear h hr h1
      go_enter Try.func16, Try.ntmps16
      go_wp2_with (first
        | (go_at_call 71; refine (HT.out _ k0.ev.bel).mono ?_; rintro e w1 ⟨rfl, b1⟩; have k1 := k0.step b1; have x0 := k1.ev.cells.c0; have x1 := k1.ev.cells.c1; have x2 := k1.ev.cells.c2; have x3 := k1.ev.cells.c3; have x4 := k1.ev.cells.c4; have x5 := k1.ev.cells.c5; have x6 := k1.ev.cells.c6; have xz0 := k1.z0; have xz1 := k1.z1; have xf0 := k1.f0; have xf1 := k1.f1)
        | (go_at_call 72; refine (HE.out _).mono ?_; rintro e w2 ⟨rfl, b2⟩; have k2 := k1.step b2; have y0 := k2.ev.cells.c0; have y1 := k2.ev.cells.c1; have y2 := k2.ev.cells.c2; have y3 := k2.ev.cells.c3; have y4 := k2.ev.cells.c4; have y5 := k2.ev.cells.c5; have y6 := k2.ev.cells.c6; have yz0 := k2.z0; have yz1 := k2.z1; have yf0 := k2.f0; have yf1 := k2.f1))
      have HD := Lib.hid (dbox_done k2.rz (.int .i64 0) (.slice none 0 0))
      obtain ⟨W', hW, y0', y1', hbw, hoo⟩ := HD.out
      rw [hW]
      rw [E.out]
      refine bodyPost_ret (v := .tuple #[.agg #[.int .i64 0, .slice none 0 0], .int .i64 1]) (by simp [results, Try.results16, go_sem, y0', y1']) rfl ⟨none, 0, rfl, Ost.nil _ _, k2.ev.bel.trans (hbw _ (by omega))⟩
  · have HT := Lib.hid (fun W (hb : Below w.heap.size w W) => rbS_q (c := c) (h.below hb) hr)
    have E := Lib.hid (@deR_no ps q (.inl hr))
    clear h hr
    go_enter Try.func16, Try.ntmps16
    go_wp2_with (go_at_call 71; refine (HT.out _ k0.ev.bel).mono ?_; rintro e w1 ⟨rfl, b1⟩; have k1 := k0.step b1; have x0 := k1.ev.cells.c0; have x1 := k1.ev.cells.c1; have x2 := k1.ev.cells.c2; have x3 := k1.ev.cells.c3; have x4 := k1.ev.cells.c4; have x5 := k1.ev.cells.c5; have x6 := k1.ev.cells.c6; have xz0 := k1.z0; have xz1 := k1.z1; have xf0 := k1.f0; have xf1 := k1.f1)
    have HD := Lib.hid (dbox_done k1.rz (.int .i64 0) (.slice none 0 0))
    obtain ⟨W', hW, y0', y1', hbw, hoo⟩ := HD.out
    rw [hW]
    rw [E.out]
    refine bodyPost_ret (v := .tuple #[.agg #[.int .i64 0, .slice none 0 0], .int .i64 1]) (by simp [results, Try.results16, go_sem, y0', y1']) rfl ⟨none, 0, rfl, Ost.nil _ _, k1.ev.bel.trans (hbw _ (by omega))⟩
end Go.Proofs.Ytjcklmhgjdmjoaa
