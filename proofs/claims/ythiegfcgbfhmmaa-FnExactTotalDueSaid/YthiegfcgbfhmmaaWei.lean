/- impl.weightBetween. -/
import Derived.Test.YthiegfcgbfhmmaaItr
namespace Go.Proofs.Ythiegfcgbfhmmaa
open Go.ChangeShapes Go.WideShapes Go.ChangeAt Go.RowKit Go.Shelf
set_option linter.unusedVariables false
attribute [local go_sem] Oper.semAt_some

theorem Rs.rows {w : World} {A : Option Addr} {rs : List St} (h : Rs w A rs) (hp : 0 < rs.length) :
    ∃ b off, A = some ⟨b, off, none⟩ ∧ b < w.heap.size ∧ ∀ j r, rs[j]? = some r → w.cell? ⟨b, off + j * 2, none⟩ = some (.int .i64 r.day) ∧ w.cell? ⟨b, off + j * 2 + 1, none⟩ = some (.int .i64 r.pts) := by
  obtain ⟨b, off, r, rfl, hb, _, _, _⟩ := h.at hp
  refine ⟨b, off, rfl, hb, fun j r hr => ?_⟩
  obtain ⟨b', off', r', e, _, hr', c0, c1⟩ := h.at (List.getElem?_eq_some_iff.1 hr).1
  cases e
  have := hr'.out
  rw [hr] at this; cases this
  exact ⟨c0, c1⟩

set_option maxRecDepth 100000 in
set_option maxHeartbeats 4000000 in
theorem weight_i (A : Option Addr) (c : Nat) (rs : List St) (f t : Int) (w : World) (hR : Rs w A rs) (hs : schB rs = true) (hcap : rs.length ≤ c) (f0 : 0 ≤ f) (f1 : f ≤ 36525) (t1 : t ≤ 36525) :
    Calls Try.prog 58 #[.slice A rs.length c, .int .i64 f, .int .i64 t] w (Gives w (.int .i64 (wgt rs f t))) := by
  have hlen := (sch_iff.1 hs).2
  obtain ⟨b, off, rfl, hb, hc⟩ := hR.rows (by omega)
  refine (callsIn_wide (n := 9)).1 ?_
  refine callsIn_of_wp_marks Try.func58 rfl trivial ?_ rfl
  simp only [Try.ntmps58, List.size_toArray, List.length_cons, List.length_nil, Nat.reduceAdd, Nat.reduceSub, Array.replicate_succ, Array.replicate_zero, List.push_toArray, List.append_toArray, List.nil_append, List.cons_append]
  gi_wp2_with (refine ⟨trivial, ?_⟩; gi_at_call 61; refine (daysOf_in _ _ _ _ _ _ _).mono ?_; rintro e w' ⟨rfl, rfl⟩)
  have bX := Boxed.new w 2 (.int .i64 0)
  have b1 := Boxed.new (w.alloc (.cells #[.int .i64 0] 2)) 24 (.slice (some ⟨b, off, none⟩) rs.length c)
  have b2 := Boxed.new ((w.alloc (.cells #[.int .i64 0] 2)).alloc (.cells #[.slice (some ⟨b, off, none⟩) rs.length c] 24)) 2 (.int .i64 f)
  have b3 := Boxed.new (((w.alloc (.cells #[.int .i64 0] 2)).alloc (.cells #[.slice (some ⟨b, off, none⟩) rs.length c] 24)).alloc (.cells #[.int .i64 f] 2)) 2 (.int .i64 t)
  simp only [World.size_alloc] at b1 b2 b3
  have hB0 : Below w.heap.size w ((((w.alloc (.cells #[.int .i64 0] 2)).alloc (.cells #[.slice (some ⟨b, off, none⟩) rs.length c] 24)).alloc (.cells #[.int .i64 f] 2)).alloc (.cells #[.int .i64 t] 2)) :=
    ((((Below.refl _ w).alloc (Nat.le_refl _) _).alloc (by simp) _).alloc (by simp; omega) _).alloc (by simp; omega) _
  have HF := Lib.hid (sumN_range hs f (t - f).toNat)
  have HE := Lib.hid (show wgt rs f (f + ((t - f).toNat : Nat)) = wgt rs f t by
    by_cases h : f ≤ t
    · rw [show f + ((t - f).toNat : Nat) = t by omega]
    · rw [wgt_none (t := t) (by omega), wgt_none (by omega)])
  refine wpIn_rangeFunc_ownG rfl (by omega) (gf := 74) (lb := #[.pointer (some ⟨w.heap.size + 1, 0, none⟩), .pointer (some ⟨w.heap.size + 1 + 1, 0, none⟩), .pointer (some ⟨w.heap.size + 1 + 1 + 1, 0, none⟩)]) rfl trivial (enters_of Try.func74 (by kernel_rfl) rfl)
    (days_stops 8 (by omega) (w.heap.size + 1) (w.heap.size + 4) w.heap.size b off c rs f t hs hcap f0 f1 t1 (by omega) (by omega) (by omega) (by omega) _ (by simp <;> omega) (((b1.alloc _).alloc _).cell) ((b2.alloc _).cell) b3.cell (by simp <;> omega)
      (fun j r hr => ⟨(hB0.cell (p := ⟨b, off + j * 2, none⟩) hb).trans (hc j r hr).1, (hB0.cell (p := ⟨b, off + j * 2 + 1, none⟩) hb).trans (hc j r hr).2⟩)) KeepX.trans (KeepX.put (by simp)) (Below.refl _ _) (fun _ => rfl)
    (fun pre W => (W.cell? ⟨w.heap.size, 0, none⟩ = some (.int .i64 (sumN rs f pre)) ∧ W.frozen? ⟨w.heap.size, 0, none⟩ = false) ∧ Below w.heap.size w W)
    (fun _ _ _ => False)
    (OwnFrom.and (Own.from (fun s A B row hs hg hr => ⟨cell_kept hs.1 hg hr, (frozen_kept hs.1 hg hr).trans hs.2⟩) _) (ownFrom_below (Nat.le_refl _) (by simp; omega)))
    (fun _ _ _ _ _ hs _ _ => hs)
    ⟨⟨(((bX.alloc _).alloc _).alloc _).cell, (((bX.alloc _).alloc _).alloc _).frozen⟩, hB0⟩
    (fun j => { tmps := #[.slice (some ⟨b, off, none⟩) rs.length c, .int .i64 f, .int .i64 t, undef, undef, undef, .int .i64 0, .pointer (some ⟨w.heap.size, 0, none⟩), undef, .int .i64 (onL rs (f + (j : Nat))), .slice (some ⟨b, off, none⟩) rs.length c, .int .i64 f, .int .i64 t,
      .func (.func 74) #[] #[.pointer (some ⟨w.heap.size + 1, 0, none⟩), .pointer (some ⟨w.heap.size + 1 + 1, 0, none⟩), .pointer (some ⟨w.heap.size + 1 + 1 + 1, 0, none⟩)], .int .i64 (f + (j : Nat)), .int .i64 (onL rs (f + (j : Nat))), undef, undef, undef, undef], defers := [] }) ?assign ?body ?done ?stop
  case assign =>
    intro l x W K hK
    gi_wp2
    exact hK
  case body =>
    rintro l pre x W ⟨⟨hcl, hf⟩, hB⟩ hpre
    have h1 := sumN_bd hs f pre
    have h2 := onL_bd hs (f + (x : Nat))
    have HS := Lib.hid (sumN_snoc rs f pre x)
    generalize sumN rs f pre = s at *
    generalize onL rs (f + (x : Nat)) = o at *
    gi_wp2
    exact ⟨(KeepsOthers.setCell _ _ _).from _, KeepX.set _ _, ⟨by rw [HS.out]; exact World.cell?_setCell_same' _ _ _ (by rw [hcl]; rfl), by rw [World.frozen?_setCell]; exact hf⟩, hB.setCell (p := ⟨w.heap.size, 0, none⟩) (Nat.le_refl _) _⟩
  case done =>
    rintro D ys W hD rfl ⟨⟨hcl, _⟩, hB⟩ hK
    rw [HF.out, HE.out] at hcl
    gi_wp2
    refine ⟨by simp, .inl ⟨_, _, rfl, run_takeDeferred hK, ?_⟩⟩
    exact ⟨_, results_tmp rfl _ _ _, rfl, hB.trans (belowK_b (w := w) (Nat.le_refl _) W D _ _ (by simp at hD; omega) hK rfl rfl)⟩
  case stop =>
    rintro D c pre W _ _ h _
    exact h.elim
end Go.Proofs.Ythiegfcgbfhmmaa
