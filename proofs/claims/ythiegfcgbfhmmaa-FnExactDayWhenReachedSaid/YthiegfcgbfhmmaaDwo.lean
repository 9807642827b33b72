/- impl.DayWhenReached: its walk through the days. -/
import Derived.Test.YthiegfcgbfhmmaaDwi
namespace Go.Proofs.Ythiegfcgbfhmmaa
open Go.ChangeShapes Go.WideShapes Go.ChangeAt Go.RowKit Go.Shelf
set_option linter.unusedVariables false
attribute [local go_sem] Oper.semAt_some

theorem keeps_below {B : Nat} {W W' : World} (h : Below W.heap.size W W') : KeepsFrom B W W' := ⟨h.size, fun k o _ hk _ => (h.block k (Array.getElem?_eq_some_iff.1 hk).1).trans hk⟩
theorem Dbx.own {β : Type} (g : Nat) (a i r c : β → Int) : Own (fun (s : β) W => Dbx g (a s) (i s) (r s) (c s) W) := fun s X Y row hs hg hr =>
  ⟨boxed_own g 2 (fun s => .int .i64 (a s)) s X Y row hs.a hg hr, boxed_own (g + 1) 2 (fun s => .int .i64 (i s)) s X Y row hs.i hg hr,
   boxed_own (g + 1 + 1) 2 (fun s => .int .i64 (r s)) s X Y row hs.r hg hr, boxed_own (g + 1 + 1 + 1) 2 (fun s => .int .i64 (c s)) s X Y row hs.c hg hr⟩
theorem Dbx.other {g G : Nat} {a i r c : Int} {W : World} (h : Dbx g a i r c W) (hG : g + 4 < G) (v : Value) : Dbx g a i r c (W.setCell ⟨G, 0, none⟩ v) :=
  ⟨h.a.other (by omega) _, h.i.other (by omega) _, h.r.other (by omega) _, h.c.other (by omega) _⟩
/-- Between two rounds. -/
def DwI (rs : List St) (a f i : Int) (w : World) (G : Nat) (pre : List Nat) (W : World) : Prop :=
  (Boxed W G 2 (.int .i64 (sumN rs f pre)) ∧ Dbx w.heap.size a i 0 0 W ∧ ∀ k, k < pre.length → reaL rs a f i (pre.take k) = false) ∧ Below w.heap.size w W
/-- When a day is handed back. -/
def DwX (rs : List St) (a f i : Int) (w : World) (pre : List Nat) (W : World) : Prop :=
  (∃ ini j, pre = ini ++ [j] ∧ reaL rs a f i ini = true ∧ (∀ k, k < ini.length → reaL rs a f i (ini.take k) = false) ∧ Dbx w.heap.size a i (f + (j : Nat)) 0 W) ∧ Below w.heap.size w W
theorem DwI.own (rs : List St) (a f i : Int) (w : World) (G B : Nat) (hB : w.heap.size ≤ B) : OwnFrom B (DwI rs a f i w G) :=
  OwnFrom.and (Own.from (fun s X Y row hs hg hr => ⟨boxed_own (β := List Nat) G 2 (fun s => .int .i64 (sumN rs f s)) s X Y row hs.1 hg hr, Dbx.own (β := List Nat) w.heap.size (fun _ => a) (fun _ => i) (fun _ => 0) (fun _ => 0) s X Y row hs.2.1 hg hr, hs.2.2⟩) _) (ownFrom_below (Nat.le_refl _) hB)
theorem DwX.own (rs : List St) (a f i : Int) (w : World) (B : Nat) (hB : w.heap.size ≤ B) : OwnFrom B (DwX rs a f i w) :=
  OwnFrom.and (Own.from (fun s X Y row hs hg hr => by
    obtain ⟨ini, j, e, h1, h2, h3⟩ := hs
    exact ⟨ini, j, e, h1, h2, Dbx.own (β := List Nat) w.heap.size (fun _ => a) (fun _ => i) (fun _ => f + (j : Nat)) (fun _ => 0) s X Y row h3 hg hr⟩) _) (ownFrom_below (Nat.le_refl _) hB)

set_option maxRecDepth 100000 in
set_option maxHeartbeats 4000000 in
theorem reach_ok (A : Option Addr) (c : Nat) (rs : List St) (a f i : Int) (w : World) (hR : Rs w A rs) (hcap : rs.length ≤ c) (hs : schB rs = true) (ha : amt a = true) (hi : amt i = true) (f0 : 0 ≤ f) (f1 : f ≤ 36524) :
    Calls Try.prog 25 #[.slice A rs.length c, .int .i64 a, .int .i64 f, .int .i64 i] w (GivP w (seek (reaB rs a f i) f (36525 - f).toNat)) := by
  have hlen := (sch_iff.1 hs).2
  obtain ⟨a0, a1⟩ := amt_iff.1 ha
  obtain ⟨i0, i1⟩ := amt_iff.1 hi
  have bA := (((((Below.refl _ w).alloc (Nat.le_refl _) (.cells #[.int .i64 a] 2)).alloc (by simp) (.cells #[.int .i64 i] 2)).alloc (by simp; omega) (.cells #[.int .i64 0] 2)).alloc (by simp; omega) (.cells #[.int .i64 0] 2))
  have hX := Dbx.new w a i
  have hD := Ir.new1 ((((w.alloc (.cells #[.int .i64 a] 2)).alloc (.cells #[.int .i64 i] 2)).alloc (.cells #[.int .i64 0] 2)).alloc (.cells #[.int .i64 0] 2)) f 2
  have bB := bA.alloc bA.size (.cells #[.int .i64 f] 2)
  have hX := hX.below (below_alloc _ (.cells #[.int .i64 f] 2))
  simp only [World.size_alloc] at hD
  have hch : codeR rs 0 f f = 0 := by unfold codeR; rw [if_pos hs, if_pos (by rw [show amt 0 = true by decide, inr_iff.2 ⟨f0, f1⟩]; rfl)]
  have HC := Lib.hid (@check_iq A _ c 1 rs [f] 1 0 _ (hR.below bB) hD rfl (by omega) (chk1.trans hch))
  clear hD bA hch
  obtain ⟨b, off, rfl, hb, hc⟩ := hR.rows (by omega)
  refine (callsIn_wide (n := 9)).1 ?_
  refine callsIn_of_wp_marks Try.func25 rfl trivial ?_ rfl
  simp only [Try.ntmps25, List.size_toArray, List.length_cons, List.length_nil, Nat.reduceAdd, Nat.reduceSub, Array.replicate_succ, Array.replicate_zero, List.push_toArray, List.append_toArray, List.nil_append, List.cons_append]
  gi_wp2_with (first
    | (refine ⟨trivial, ?_⟩; gi_at_call 57; refine (callsIn_wide.2 HC.out).mono ?_; rintro e w1 ⟨rfl, b1⟩; have hX := hX.below b1; have q1 := belowGo bB b1; have x0 := hX.a.cell; have y0 := hX.i.cell; have r0 := hX.r.cell; have r1 := hX.r.frozen; have s0 := hX.c.cell; have s1 := hX.c.frozen)
    | (refine ⟨trivial, ?_⟩; gi_at_call 43; refine (callsIn_wide.2 (amtI_q (by assumption) _)).mono ?_; rintro e w' ⟨rfl, rfl⟩)
    | (refine ⟨trivial, ?_⟩; gi_at_call 62; refine (callsIn_wide.2 (start_i _ _ (by omega) (by omega))).mono ?_; rintro e w' ⟨rfl, rfl⟩; rw [start_end])
    | (refine ⟨trivial, ?_⟩; gi_at_call 61; refine (daysOf_in _ _ _ _ _ _ _).mono ?_; rintro e w' ⟨rfl, rfl⟩))
  have bG := Boxed.new w1 2 (.int .i64 0)
  have g1 := Boxed.new (w1.alloc (.cells #[.int .i64 0] 2)) 24 (.slice (some ⟨b, off, none⟩) rs.length c)
  have g2 := Boxed.new ((w1.alloc (.cells #[.int .i64 0] 2)).alloc (.cells #[.slice (some ⟨b, off, none⟩) rs.length c] 24)) 2 (.int .i64 f)
  have g3 := Boxed.new (((w1.alloc (.cells #[.int .i64 0] 2)).alloc (.cells #[.slice (some ⟨b, off, none⟩) rs.length c] 24)).alloc (.cells #[.int .i64 f] 2)) 2 (.int .i64 36525)
  simp only [World.size_alloc] at g1 g2 g3
  have hB1 : Below w1.heap.size w1 ((((w1.alloc (.cells #[.int .i64 0] 2)).alloc (.cells #[.slice (some ⟨b, off, none⟩) rs.length c] 24)).alloc (.cells #[.int .i64 f] 2)).alloc (.cells #[.int .i64 36525] 2)) :=
    ((((Below.refl _ w1).alloc (Nat.le_refl _) _).alloc (by simp) _).alloc (by simp; omega) _).alloc (by simp; omega) _
  have hB0 := belowGo q1 hB1
  have hX4 := hX.below hB1
  have hw1 : w.heap.size + 4 < w1.heap.size := by have := hX.c.lt; have := b1.size; simp at this; omega
  refine wpIn_rangeFunc_ownG rfl (by omega) (gf := 74) (lb := #[.pointer (some ⟨w1.heap.size + 1, 0, none⟩), .pointer (some ⟨w1.heap.size + 1 + 1, 0, none⟩), .pointer (some ⟨w1.heap.size + 1 + 2, 0, none⟩)]) rfl trivial (enters_of Try.func74 (by kernel_rfl) rfl)
    (days_stops 8 (by omega) (w1.heap.size + 1) (w1.heap.size + 4) w1.heap.size b off c rs f 36525 hs hcap f0 (by omega) (by omega) (by omega) (by omega) (by omega) (by omega) _ (by simp <;> omega) (((g1.alloc _).alloc _).cell) ((g2.alloc _).cell) g3.cell (by simp <;> omega)
      (fun j r hr => ⟨(hB0.cell (p := ⟨b, off + j * 2, none⟩) hb).trans (hc j r hr).1, (hB0.cell (p := ⟨b, off + j * 2 + 1, none⟩) hb).trans (hc j r hr).2⟩)) KeepX.trans (KeepX.put (by simp)) (Below.refl _ _) (fun _ => rfl)
    (DwI rs a f i w w1.heap.size)
    (fun cd pre W => cd = .ret ∧ DwX rs a f i w pre W)
    (DwI.own _ _ _ _ _ _ _ (by simp; omega))
    (fun cd s X Y row hs hg hr => ⟨hs.1, DwX.own rs a f i w _ (by simp; omega) s X Y row hs.2 hg hr⟩)
    ⟨⟨((bG.alloc _).alloc _).alloc _, hX4, fun k hk => by simp at hk⟩, hB0⟩
    (fun j => { tmps := #[.slice (some ⟨b, off, none⟩) rs.length c, .int .i64 a, .int .i64 f, .int .i64 i, undef, .pointer (some ⟨w.heap.size, 0, none⟩), undef, .pointer (some ⟨w.heap.size + 1, 0, none⟩), .pointer (some ⟨w.heap.size + 1 + 1, 0, none⟩), .pointer (some ⟨w.heap.size + 1 + 1 + 1, 0, none⟩), .int .i64 0, .pointer (some ⟨w1.heap.size, 0, none⟩), .int .i64 (f + (j : Nat)), .int .i64 (onL rs (f + (j : Nat))), undef, undef, .slice (some ⟨b, off, none⟩) rs.length c, .int .i64 f, .slice (some ⟨w.heap.size + 1 + 1 + 1 + 1, 0, none⟩) 1 1, .int .i64 0, .int .i64 0, .bool false, undef, .int .i64 a, .bool true, .bool false, .bool false, .int .i64 i, .bool true, .bool false, .bool false, .slice (some ⟨b, off, none⟩) rs.length c, .int .i64 f, .int .i64 36525, .func (.func 74) #[] #[.pointer (some ⟨w1.heap.size + 1, 0, none⟩), .pointer (some ⟨w1.heap.size + 1 + 1, 0, none⟩), .pointer (some ⟨w1.heap.size + 1 + 2, 0, none⟩)], .int .i64 (f + (j : Nat)), .int .i64 (onL rs (f + (j : Nat))), undef, undef, undef, undef, undef, undef, undef, undef, undef, undef, undef, undef, undef, undef, undef, undef, undef], defers := [] }) ?assign ?body ?done ?stop
  case assign =>
    intro l x W K hK
    gi_wp2
    exact hK
  case body =>
    rintro l pre x W ⟨⟨hG, hX, hno⟩, hB⟩ hpre
    have h1 := sumN_bd hs f pre
    have h2 := onL_bd hs (f + (x : Nat))
    have HS := Lib.hid (sumN_snoc rs f pre x)
    have HR : Hid (reaL rs a f i pre = decide (i ≤ nearest (a * sumN rs f pre) 3650000)) := Lib.hid rfl
    have hs1 : sumN rs f pre ≤ 365250000 := by omega
    have hmul : 0 ≤ a * sumN rs f pre := Int.mul_nonneg a0 h1.1
    have HN := Lib.hid (fun w => near_iq a (sumN rs f pre) 3650000 w a0 a1 h1.1 (by omega) (by omega) (by omega))
    have hcase := nearR_code (a := a) (b := sumN rs f pre) (c := 3650000) i1 hmul (by omega)
    clear hmul
    generalize sumN rs f pre = s at *
    generalize hn : nearest (a * s) 3650000 = n at *
    generalize (nearR a s 3650000).1 = v1 at *
    generalize (nearR a s 3650000).2 = v2 at *
    clear hn
    generalize onL rs (f + (x : Nat)) = o at *
    have x0 := hX.a.cell
    have z0 := hG.cell
    by_cases hyes : i ≤ n
    · have HY : Hid (reaL rs a f i pre = true) := Lib.hid (by rw [HR.out, decide_eq_true hyes])
      have hNO := Lib.hid hno
      clear HR HS hno
      rcases hcase with ⟨rfl, _⟩ | ⟨rfl, rfl⟩
      all_goals
        gi_wp2_with (refine ⟨trivial, ?_⟩; gi_at_call 44; refine (CallsIn.inRound l (callsIn_wide.2 (HN.out _))).mono ?_; rintro e W2 ⟨rfl, b2⟩; have hX2 := hX.below b2; have hG2 := box_below hG b2; have hB2 := belowGo hB b2; have y0 := hX2.i.cell; have r0 := hX2.r.cell; have r1 := hX2.r.frozen; have s0 := hX2.c.cell; have s1 := hX2.c.frozen; have t0 := hG2.cell; have t1 := hG2.frozen)
        exact ⟨(keeps_below b2).trans (((KeepsOthers.setCell _ _ _).from _).trans ((KeepsOthers.setCell _ _ _).from _)), rfl, ⟨pre, x, rfl, HY.out, hNO.out, hX2.put _ _⟩,
          (hB2.setCell (p := ⟨w.heap.size + 1 + 1, 0, none⟩) (show w.heap.size ≤ w.heap.size + 1 + 1 by omega) _).setCell (p := ⟨w.heap.size + 1 + 1 + 1, 0, none⟩) (show w.heap.size ≤ w.heap.size + 1 + 1 + 1 by omega) _⟩
    · have hlt : n < i := by omega
      have hv : v2 = 0 ∧ v1 = n := by
        rcases hcase with ⟨_, h⟩ | h
        · omega
        · exact h
      obtain ⟨rfl, rfl⟩ := hv
      have HNO : Hid (∀ k, k < (pre ++ [x]).length → reaL rs a f i ((pre ++ [x]).take k) = false) := Lib.hid (fun k hk => by
        rw [List.length_append, List.length_singleton] at hk
        rw [List.take_append_of_le_length (by omega)]
        rcases Nat.lt_or_ge k pre.length with h | h
        · exact hno k h
        · rw [List.take_of_length_le h, HR.out, decide_eq_false hyes])
      clear HR hno hcase hyes
      gi_wp2_with (refine ⟨trivial, ?_⟩; gi_at_call 44; refine (CallsIn.inRound l (callsIn_wide.2 (HN.out _))).mono ?_; rintro e W2 ⟨rfl, b2⟩; have hX2 := hX.below b2; have hG2 := box_below hG b2; have hB2 := belowGo hB b2; have y0 := hX2.i.cell; have r0 := hX2.r.cell; have r1 := hX2.r.frozen; have s0 := hX2.c.cell; have s1 := hX2.c.frozen; have t0 := hG2.cell; have t1 := hG2.frozen)
      exact ⟨(keeps_below b2).trans ((KeepsOthers.setCell _ _ _).from _), (KeepX.of_below b2).trans (KeepX.set _ _), ⟨by rw [HS.out]; exact hG2.set _, hX2.other (by omega) _, HNO.out⟩,
        hB2.setCell (p := ⟨w1.heap.size, 0, none⟩) (show w.heap.size ≤ w1.heap.size by omega) _⟩
  case done =>
    rintro D ys W hD rfl ⟨⟨hG, hX, hno⟩, hB⟩ hK
    have HF : Hid (seek (reaB rs a f i) f (36525 - f).toNat = (0, 4)) := Lib.hid (dwr_none hs (fun m hm => by
      have := hno m (by rw [List.length_range]; exact hm)
      rwa [List.take_range, Nat.min_eq_left (by omega)] at this))
    have r0 := hX.r.cell; have r1 := hX.r.frozen; have s0 := hX.c.cell; have s1 := hX.c.frozen
    clear hno
    gi_wp2
    have hX2 := hX.put 0 4
    have hK' := ((KeepsOthers.setCell W ⟨w.heap.size + 1 + 1, 0, none⟩ (.int .i64 0)).trans (KeepsOthers.setCell _ ⟨w.heap.size + 1 + 1 + 1, 0, none⟩ (.int .i64 4))).same D _ hK rfl
    have hB2 := (hB.setCell (p := ⟨w.heap.size + 1 + 1, 0, none⟩) (show w.heap.size ≤ w.heap.size + 1 + 1 by omega) (.int .i64 0)).setCell (p := ⟨w.heap.size + 1 + 1 + 1, 0, none⟩) (show w.heap.size ≤ w.heap.size + 1 + 1 + 1 by omega) (.int .i64 4)
    refine ⟨by simp, .inl ⟨_, _, rfl, run_takeDeferred hK', ?_⟩⟩
    have hcA := cell_kept hX2.r.cell (grownBy_putObj' _ D (.deferred none)) (fun r e => by cases e; exact ⟨_, hK', rfl⟩)
    have hcB := cell_kept hX2.c.cell (grownBy_putObj' _ D (.deferred none)) (fun r e => by cases e; exact ⟨_, hK', rfl⟩)
    refine ⟨.tuple #[.int .i64 0, .int .i64 4], ?_, by rw [HF.out], hB2.trans (belowK_b (w := w) (Nat.le_refl _) _ D _ _ (by simp at hD; omega) hK' rfl rfl)⟩
    simp [results, Try.results25, go_sem, hcA, hcB]
  case stop =>
    rintro D cd pre W hD ⟨k, hk, rfl⟩ ⟨rfl, ⟨ini, j, e1, hy, hno, hX⟩, hB⟩ hK
    rw [List.range_succ] at e1
    obtain ⟨rfl, e2⟩ := List.append_inj' e1 rfl
    obtain rfl : k = j := by simpa using e2
    have HF : Hid (seek (reaB rs a f i) f (36525 - f).toNat = (f + (k : Nat), 0)) := Lib.hid (dwr_at hs hk (fun m hm => by
      have := hno m (by rw [List.length_range]; exact hm)
      rwa [List.take_range, Nat.min_eq_left (by omega)] at this) hy)
    clear hno hy e1 e2
    gi_wp2
    refine ⟨by simp, .inl ⟨_, _, rfl, run_takeDeferred hK, ?_⟩⟩
    have hcA := cell_kept hX.r.cell (grownBy_putObj' _ D (.deferred none)) (fun r e => by cases e; exact ⟨_, hK, rfl⟩)
    have hcB := cell_kept hX.c.cell (grownBy_putObj' _ D (.deferred none)) (fun r e => by cases e; exact ⟨_, hK, rfl⟩)
    refine ⟨.tuple #[.int .i64 (f + (k : Nat)), .int .i64 0], ?_, by rw [HF.out], hB.trans (belowK_b (w := w) (Nat.le_refl _) _ D _ _ (by simp at hD; omega) hK rfl rfl)⟩
    simp [results, Try.results25, go_sem, hcA, hcB]

theorem reach_i (A : Option Addr) (c : Nat) (rs : List St) (a f i : Int) (w : World) (hR : Rs w A rs) (hcap : rs.length ≤ c) :
    Calls Try.prog 25 #[.slice A rs.length c, .int .i64 a, .int .i64 f, .int .i64 i] w (GivP w (dwrR rs a f i)) := by
  have e0 : amt 0 = true := by decide
  rcases Bool.eq_false_or_eq_true (schB rs) with h | h
  · rcases Bool.eq_false_or_eq_true (inr f 0 36524) with h1 | h1
    · have hz : codeR rs 0 f f = 0 := by unfold codeR; rw [if_pos h, e0, h1]; rfl
      rcases Bool.eq_false_or_eq_true (amt a) with h2 | h2
      · have hz2 : codeR rs a f f = 0 := by unfold codeR; rw [if_pos h, h2, h1]; rfl
        rcases Bool.eq_false_or_eq_true (amt i) with h3 | h3
        · rw [show dwrR rs a f i = seek (reaB rs a f i) f (36525 - f).toNat by unfold dwrR; rw [if_pos hz2, if_pos h3]]
          exact reach_ok A c rs a f i w hR hcap h h2 h3 (inr_iff.1 h1).1 (inr_iff.1 h1).2
        · rw [show dwrR rs a f i = (0, 2) by unfold dwrR; rw [if_pos hz2, h3]; rfl]
          exact reach_amt hR hz (.inr ⟨h2, h3⟩)
      · have hz2 : codeR rs a f f = 2 := by unfold codeR; rw [if_pos h, h2]; rfl
        rw [show dwrR rs a f i = (0, 2) by unfold dwrR; rw [hz2]; rfl]
        exact reach_amt hR hz (.inl h2)
    · have hz : ∀ a, codeR rs a f f = 2 := fun a => by unfold codeR; rw [if_pos h, h1]; simp
      rw [show dwrR rs a f i = (0, 2) by unfold dwrR; rw [hz]; rfl]
      exact reach_err hR 2 (.inr rfl) (hz 0)
  · have hz : ∀ a, codeR rs a f f = 1 := fun a => by unfold codeR; rw [if_neg (by rw [h]; exact Bool.false_ne_true)]
    rw [show dwrR rs a f i = (0, 1) by unfold dwrR; rw [hz]; rfl]
    exact reach_err hR 1 (.inl rfl) (hz 0)
end Go.Proofs.Ythiegfcgbfhmmaa
