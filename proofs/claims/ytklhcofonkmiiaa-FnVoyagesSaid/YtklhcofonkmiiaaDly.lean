/- slices.Clone over stops; DelayBy on both sides. (by gen_dly.py) -/
import Derived.Test.YtklhcofonkmiiaaVit
namespace Go.Proofs.Ytklhcofonkmiiaa
open Go.ChangeShapes Go.WideShapes Go.ChangeAt Go.RowKit
set_option linter.unusedVariables false

theorem flat_set2 {L : List Sto} {m : Nat} {r : Sto} {a b : Int} (h : L[m]? = some r) : ((L.flatMap Sto.cells).set (m * 3 + 1) (.int .i64 a)).set (m * 3 + 2) (.int .i64 b) = (L.set m ⟨r.p, a, b⟩).flatMap Sto.cells := by
  have hm := (List.getElem?_eq_some_iff.1 h).1
  rw [← flat_setV (x := ⟨r.p, a, b⟩) hm]
  have h0 : (L.flatMap Sto.cells)[m * 3]? = some (.string ⟨r.p.toArray⟩) := flat_at Sto.cells 3 (fun _ => rfl) L m 0 _ h (by decide)
  obtain ⟨hl, e⟩ := List.getElem?_eq_some_iff.1 h0
  have hs : (L.flatMap Sto.cells).set (m * 3) (.string ⟨r.p.toArray⟩) = L.flatMap Sto.cells := by rw [← e]; exact List.set_getElem_self hl
  simp only
  rw [hs]
theorem flat_set1 {L : List Sto} {m : Nat} {r : Sto} {b : Int} (h : L[m]? = some r) : (L.flatMap Sto.cells).set (m * 3 + 2) (.int .i64 b) = (L.set m ⟨r.p, r.i, b⟩).flatMap Sto.cells := by
  rw [← flat_set2 h]
  have h0 : (L.flatMap Sto.cells)[m * 3 + 1]? = some (.int .i64 r.i) := flat_at Sto.cells 3 (fun _ => rfl) L m 1 _ h (by decide)
  obtain ⟨hl, e⟩ := List.getElem?_eq_some_iff.1 h0
  have hs : (L.flatMap Sto.cells).set (m * 3 + 1) (.int .i64 r.i) = L.flatMap Sto.cells := by rw [← e]; exact List.set_getElem_self hl
  rw [hs]
theorem made0s (w : World) (base : Nat) (e : TypeId) (size : Nat) (hb : base ≤ w.heap.size) : (w.alloc (Obj.cells #[] e)).ownsRow base e size (.slice (some ⟨w.heap.size, 0, none⟩) 0 0) 0 [] :=
  World.ownsRow_made w #[] 0 hb (by decide) (by simp)
/-- A row at hand and what a store into one element's last two cells leaves. -/
structure DRow (W : World) (base g q : Nat) (L : List Sto) : Prop where
  own : StoO W base (some ⟨g, 0, none⟩) L.length q L
theorem DRow.read {W : World} {base g q : Nat} {L : List Sto} (h : DRow W base g q L) {m : Nat} {r : Sto} (hr : L[m]? = some r) :
    W.cell? ⟨g, m * 3 + 1, none⟩ = some (.int .i64 r.i) ∧ W.cell? ⟨g, m * 3 + 2, none⟩ = some (.int .i64 r.o) ∧ W.frozen? ⟨g, m * 3 + 1, none⟩ = false ∧ W.frozen? ⟨g, m * 3 + 2, none⟩ = false ∧ base ≤ g := by
  have hm := (List.getElem?_eq_some_iff.1 hr).1
  refine ⟨?_, ?_, h.own.frozenAt _, h.own.frozenAt _, (h.own.lt g rfl).1⟩
  · rw [h.own.cellAt (m * 3 + 1) (by omega)]; exact flat_at Sto.cells 3 (fun _ => rfl) L m 1 _ hr (by decide)
  · rw [h.own.cellAt (m * 3 + 2) (by omega)]; exact flat_at Sto.cells 3 (fun _ => rfl) L m 2 _ hr (by decide)
theorem DRow.put1 {W : World} {base g q : Nat} {L : List Sto} (h : DRow W base g q L) {m : Nat} {r : Sto} (hr : L[m]? = some r) (b : Int) : DRow (W.setCell ⟨g, m * 3 + 2, none⟩ (.int .i64 b)) base g q (L.set m ⟨r.p, r.i, b⟩) := by
  have := (h.own.stored (m * 3 + 2) (.int .i64 b)).1
  rw [flat_set1 hr] at this
  exact ⟨by rw [List.length_set]; exact this⟩
theorem DRow.put2 {W : World} {base g q : Nat} {L : List Sto} (h : DRow W base g q L) {m : Nat} {r : Sto} (hr : L[m]? = some r) (a b : Int) : DRow ((W.setCell ⟨g, m * 3 + 1, none⟩ (.int .i64 a)).setCell ⟨g, m * 3 + 2, none⟩ (.int .i64 b)) base g q (L.set m ⟨r.p, a, b⟩) := by
  have := ((h.own.stored (m * 3 + 1) (.int .i64 a)).1.stored (m * 3 + 2) (.int .i64 b)).1
  rw [flat_set2 hr] at this
  exact ⟨by rw [List.length_set]; exact this⟩
theorem wpList_append_cl {ops : Array Oper} {rest : List Oper} {o : Oper} {a : Act} {Q : Exit → Act → World → Prop} (w : World) (hgd : o.guard = none) (s x : Operand)
    (ho : o.op = .call { callee := .builtin .append, args := #[s, x], argTypes := #[24, 24] }) (base : Nat) (v : Value) (hs : a.eval s = v) (hown : w.ownsRow base 35 3 v 0 []) (b off c : Nat) (ps : List Sto)
    (hx : a.eval x = .slice (some ⟨b, off, none⟩) ps.length c) (hR : StoR w (some ⟨b, off, none⟩) ps) (h0 : 0 < ps.length) (hn : ps.length ≤ 1000) (hb : base ≤ w.heap.size)
    (h : ∀ g q W', DRow W' base g q ps → ps.length ≤ q → Below base w W' → wpList Try.prog ops Q rest (a.put o.dst (.slice (some ⟨g, 0, none⟩) ps.length q)) W') : wpList Try.prog ops Q (o :: rest) a w := by
  obtain ⟨i0, hi, hz0, hz1, hz2⟩ := info_parts stoInfo
  refine wpList_append_own _ hgd s x 24 ho base 35 i0 _ 3 32 Try.underlying24 hi hz0 hz1 hz2 rfl (by decide) _ 0 _ hs hown ⟨b, off, none⟩ ps.length c (ps.flatMap Sto.cells) hx (flat_len Sto.cells 3 (fun _ => rfl) ps) (stoR_cells hR) (cells_oneV ps) (by unfold maxLen; omega) (by omega) hb ?_
  intro v' w3 g2 g3 g4
  rw [Nat.zero_add] at g2
  obtain ⟨O, q, rfl⟩ := own_form g2
  have g5 : StoO w3 base O ps.length q ps := by simpa [StoO] using g2
  obtain ⟨g, rfl⟩ : ∃ g, O = some ⟨g, 0, none⟩ := by
    rcases g5.2 with ⟨_, e2⟩ | ⟨g, cap, cur, e, _⟩
    · omega
    · injection e with e _ _; exact ⟨g, e⟩
  exact h g q w3 ⟨g5⟩ (sto_cap g5) ((Below.refl _ _).grown g3 hb (fun k hk => (hown.lt k hk).1))
set_option maxRecDepth 100000 in
set_option maxHeartbeats 2000000 in
theorem cloneV_i (b off c : Nat) (ps : List Sto) (w : World) (hR : StoR w (some ⟨b, off, none⟩) ps) (hn : ps.length ≤ 1000) (h0 : 0 < ps.length) :
    Calls Try.prog 53 #[.slice (some ⟨b, off, none⟩) ps.length c] w fun e w' =>
      ∃ g q, e = .returned (.slice (some ⟨g, 0, none⟩) ps.length q) ∧ StoO w' w.heap.size (some ⟨g, 0, none⟩) ps.length q ps ∧ Below w.heap.size w w' := by
  obtain ⟨i0, hi, hz0, hz1, hz2⟩ := info_parts stoInfo
  have HO := Lib.hid (made0s w w.heap.size 35 3 (Nat.le_refl _))
  have HSZ : Hid (w.heap.size ≤ (w.alloc (Obj.cells #[] 35)).heap.size) := Lib.hid (by simp)
  have HB := Lib.hid (below_alloc w (Obj.cells #[] 35))
  have HC := Lib.hid (stoR_cells (hR.below HB.out))
  clear hR
  have q22 : ∀ (w : World) (a : Option Addr) (n c n' c' : Nat), (binOp .eql 24 (.slice a n c) (.slice none n' c')).run Try.prog w = .ok (.bool a.isNone) w := fun w a n c n' c' => Lib.run_eql_slice_nil w _ _ a n c n' c' Try.underlying24
  go_enter Try.func53, Try.ntmps53
  go_wp2_with (at_builtin; refine wpList_append_own _ rfl (.tmp 5) (.tmp 6) 24 rfl w.heap.size 35 i0 _ 3 32 Try.underlying24 hi hz0 hz1 hz2 rfl (by decide) _ 0 _ rfl HO.out ⟨b, off, none⟩ ps.length c (ps.flatMap Sto.cells) rfl (flat_len Sto.cells 3 (fun _ => rfl) ps) HC.out (cells_oneV ps) (by unfold maxLen; omega) (by omega) HSZ.out ?_; intro v' w' h2 h3 h4)
  go_ret
  rw [Nat.zero_add] at h2
  obtain ⟨O, q, rfl⟩ := own_form h2
  have h5 := h2
  rcases h2.2 with ⟨e, e2⟩ | ⟨g, cap, cur, e, _⟩
  · omega
  · injection e with e1 e2 e3
    subst e1
    exact ⟨g, q, rfl, by simpa [StoO] using h5, HB.out.trans ((Below.refl _ _).grown h3 HSZ.out (fun k hk => (HO.out.lt k hk).1))⟩
end Go.Proofs.Ytklhcofonkmiiaa
