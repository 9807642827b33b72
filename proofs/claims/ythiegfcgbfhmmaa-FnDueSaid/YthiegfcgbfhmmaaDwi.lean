/- impl.DayWhenReached. -/
import Derived.Test.YthiegfcgbfhmmaaDws
namespace Go.Proofs.Ythiegfcgbfhmmaa
open Go.ChangeShapes Go.WideShapes Go.ChangeAt Go.RowKit Go.Shelf
set_option linter.unusedVariables false

theorem nearR_code {a b c i : Int} (hi : i ≤ 1000000000) (hx : 0 ≤ a * b) (hc : 1 ≤ c) : ((nearR a b c).2 = 3 ∧ i ≤ nearest (a * b) c) ∨ ((nearR a b c).2 = 0 ∧ (nearR a b c).1 = nearest (a * b) c) := by
  rcases Bool.eq_false_or_eq_true (amt (nearest (a * b) c)) with h | h
  · rw [nearR_ok h]; exact .inr ⟨rfl, rfl⟩
  · rw [nearR_no h]
    have := amt_no.1 h
    have := near_nn hx hc
    exact .inl ⟨rfl, by omega⟩
/-- The interest is reached when some days have passed. -/
def reaL (rs : List St) (a f i : Int) (js : List Nat) : Bool := decide (i ≤ nearest (a * sumN rs f js) 3650000)
theorem reaL_range {rs : List St} (hs : schB rs = true) (a f i : Int) (k : Nat) : reaL rs a f i (List.range k) = reaB rs a f i (f + (k : Nat)) := by
  unfold reaL reaB; rw [sumN_range hs]
theorem dwr_at {rs : List St} (hs : schB rs = true) {a f i : Int} {k : Nat} (hk : k < (36525 - f).toNat) (hno : ∀ m, m < k → reaL rs a f i (List.range m) = false) (hy : reaL rs a f i (List.range k) = true) : seek (reaB rs a f i) f (36525 - f).toNat = (f + (k : Nat), 0) := by
  refine seek_at _ _ _ (by omega) (by omega) (fun x hx hx2 => ?_) (by rw [← reaL_range hs]; exact hy)
  have := hno (x - f).toNat (by omega)
  rw [reaL_range hs, show f + ((x - f).toNat : Int) = x by omega] at this
  exact this
theorem dwr_none {rs : List St} (hs : schB rs = true) {a f i : Int} (hno : ∀ m, m < (36525 - f).toNat → reaL rs a f i (List.range m) = false) : seek (reaB rs a f i) f (36525 - f).toNat = (0, 4) := by
  refine seek_none _ _ (fun x hx hx2 => ?_)
  have := hno (x - f).toNat (by omega)
  rw [reaL_range hs, show f + ((x - f).toNat : Int) = x by omega] at this
  exact this

theorem box_below {w w' : World} {B : Nat} {t : TypeId} {v : Value} (h : Boxed w B t v) (hb : Below w.heap.size w w') : Boxed w' B t v := (hb.block B h.lt).trans h
/-- The boxes of DayWhenReached: the amount, the interest, the two answers. -/
structure Dbx (g : Nat) (a i r c : Int) (W : World) : Prop where
  a : Boxed W g 2 (.int .i64 a)
  i : Boxed W (g + 1) 2 (.int .i64 i)
  r : Boxed W (g + 1 + 1) 2 (.int .i64 r)
  c : Boxed W (g + 1 + 1 + 1) 2 (.int .i64 c)
theorem Dbx.new (w : World) (a i : Int) : Dbx w.heap.size a i 0 0 ((((w.alloc (.cells #[.int .i64 a] 2)).alloc (.cells #[.int .i64 i] 2)).alloc (.cells #[.int .i64 0] 2)).alloc (.cells #[.int .i64 0] 2)) := by
  have b0 := Boxed.new w 2 (.int .i64 a)
  have b1 := Boxed.new (w.alloc (.cells #[.int .i64 a] 2)) 2 (.int .i64 i)
  have b2 := Boxed.new ((w.alloc (.cells #[.int .i64 a] 2)).alloc (.cells #[.int .i64 i] 2)) 2 (.int .i64 0)
  have b3 := Boxed.new (((w.alloc (.cells #[.int .i64 a] 2)).alloc (.cells #[.int .i64 i] 2)).alloc (.cells #[.int .i64 0] 2)) 2 (.int .i64 0)
  simp only [World.size_alloc] at b1 b2 b3
  exact ⟨((b0.alloc _).alloc _).alloc _, (b1.alloc _).alloc _, b2.alloc _, b3⟩
theorem Dbx.below {g : Nat} {a i r c : Int} {w w' : World} (h : Dbx g a i r c w) (hb : Below w.heap.size w w') : Dbx g a i r c w' := ⟨box_below h.a hb, box_below h.i hb, box_below h.r hb, box_below h.c hb⟩
theorem Dbx.put {g : Nat} {a i r c : Int} {w : World} (h : Dbx g a i r c w) (x y : Int) : Dbx g a i x y ((w.setCell ⟨g + 1 + 1, 0, none⟩ (.int .i64 x)).setCell ⟨g + 1 + 1 + 1, 0, none⟩ (.int .i64 y)) :=
  ⟨(h.a.other (by omega) _).other (by omega) _, (h.i.other (by omega) _).other (by omega) _, (h.r.set _).other (by omega) _, (h.c.other (by omega) _).set _⟩
set_option maxHeartbeats 1000000 in
theorem reach_err {A : Option Addr} {c : Nat} {rs : List St} {a f i : Int} {w : World} (hR : Rs w A rs) (v : Int) (hv : v = 1 ∨ v = 2) (h : codeR rs 0 f f = v) : Calls Try.prog 25 #[.slice A rs.length c, .int .i64 a, .int .i64 f, .int .i64 i] w (GivP w (0, v)) := by
  have bA := (((((Below.refl _ w).alloc (Nat.le_refl _) (.cells #[.int .i64 a] 2)).alloc (by simp) (.cells #[.int .i64 i] 2)).alloc (by simp; omega) (.cells #[.int .i64 0] 2)).alloc (by simp; omega) (.cells #[.int .i64 0] 2))
  have hX := Dbx.new w a i
  have hD := Ir.new1 ((((w.alloc (.cells #[.int .i64 a] 2)).alloc (.cells #[.int .i64 i] 2)).alloc (.cells #[.int .i64 0] 2)).alloc (.cells #[.int .i64 0] 2)) f 2
  have bB := bA.alloc bA.size (.cells #[.int .i64 f] 2)
  have hX := hX.below (below_alloc _ (.cells #[.int .i64 f] 2))
  simp only [World.size_alloc] at hD
  have HC := Lib.hid (@check_iq A _ c 1 rs [f] 1 v _ (hR.below bB) hD rfl (by omega) (chk1.trans h))
  clear hD bA
  rcases hv with rfl | rfl
  all_goals
    go_enter Try.func25, Try.ntmps25
    go_wp2_with (go_at_call 57; refine HC.out.mono ?_; rintro e w1 ⟨rfl, b1⟩; have hX := hX.below b1; have q1 := belowGo bB b1; have r0 := hX.r.cell; have r1 := hX.r.frozen; have s0 := hX.c.cell; have s1 := hX.c.frozen)
    first
      | exact bodyPost_ret (v := .tuple #[.int .i64 0, .int .i64 1]) (by simp [results, Try.results25, go_sem, (hX.put 0 1).r.cell, (hX.put 0 1).c.cell]) rfl ⟨rfl, (q1.setCell (p := ⟨w.heap.size + 1 + 1, 0, none⟩) (show w.heap.size ≤ w.heap.size + 1 + 1 by omega) _).setCell (p := ⟨w.heap.size + 1 + 1 + 1, 0, none⟩) (show w.heap.size ≤ w.heap.size + 1 + 1 + 1 by omega) _⟩
      | exact bodyPost_ret (v := .tuple #[.int .i64 0, .int .i64 2]) (by simp [results, Try.results25, go_sem, (hX.put 0 2).r.cell, (hX.put 0 2).c.cell]) rfl ⟨rfl, (q1.setCell (p := ⟨w.heap.size + 1 + 1, 0, none⟩) (show w.heap.size ≤ w.heap.size + 1 + 1 by omega) _).setCell (p := ⟨w.heap.size + 1 + 1 + 1, 0, none⟩) (show w.heap.size ≤ w.heap.size + 1 + 1 + 1 by omega) _⟩
set_option maxHeartbeats 1000000 in
theorem reach_amt {A : Option Addr} {c : Nat} {rs : List St} {a f i : Int} {w : World} (hR : Rs w A rs) (h : codeR rs 0 f f = 0) (hv : amt a = false ∨ (amt a = true ∧ amt i = false)) : Calls Try.prog 25 #[.slice A rs.length c, .int .i64 a, .int .i64 f, .int .i64 i] w (GivP w (0, 2)) := by
  have bA := (((((Below.refl _ w).alloc (Nat.le_refl _) (.cells #[.int .i64 a] 2)).alloc (by simp) (.cells #[.int .i64 i] 2)).alloc (by simp; omega) (.cells #[.int .i64 0] 2)).alloc (by simp; omega) (.cells #[.int .i64 0] 2))
  have hX := Dbx.new w a i
  have hD := Ir.new1 ((((w.alloc (.cells #[.int .i64 a] 2)).alloc (.cells #[.int .i64 i] 2)).alloc (.cells #[.int .i64 0] 2)).alloc (.cells #[.int .i64 0] 2)) f 2
  have bB := bA.alloc bA.size (.cells #[.int .i64 f] 2)
  have hX := hX.below (below_alloc _ (.cells #[.int .i64 f] 2))
  simp only [World.size_alloc] at hD
  have HC := Lib.hid (@check_iq A _ c 1 rs [f] 1 0 _ (hR.below bB) hD rfl (by omega) (chk1.trans h))
  clear hD bA
  rcases hv with h1 | ⟨h1, h2⟩
  all_goals
    go_enter Try.func25, Try.ntmps25
    go_wp2_with (first
      | (go_at_call 57; refine HC.out.mono ?_; rintro e w1 ⟨rfl, b1⟩; have hX := hX.below b1; have q1 := belowGo bB b1; have r0 := hX.r.cell; have r1 := hX.r.frozen; have s0 := hX.c.cell; have s1 := hX.c.frozen; have x0 := hX.a.cell; have y0 := hX.i.cell)
      | (go_at_call 43; refine (amtI_q (by assumption) _).mono ?_; rintro e w' ⟨rfl, rfl⟩))
    have h2 := hX.put 0 2
    exact bodyPost_ret (v := .tuple #[.int .i64 0, .int .i64 2]) (by simp [results, Try.results25, go_sem, h2.r.cell, h2.c.cell]) rfl ⟨rfl, (q1.setCell (p := ⟨w.heap.size + 1 + 1, 0, none⟩) (show w.heap.size ≤ w.heap.size + 1 + 1 by omega) _).setCell (p := ⟨w.heap.size + 1 + 1 + 1, 0, none⟩) (show w.heap.size ≤ w.heap.size + 1 + 1 + 1 by omega) _⟩
end Go.Proofs.Ythiegfcgbfhmmaa
