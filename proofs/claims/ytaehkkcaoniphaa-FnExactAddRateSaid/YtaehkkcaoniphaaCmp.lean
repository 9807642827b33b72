/- Comparisons: cmp.Compare, cmp.Or, impl.compareRates; spec.l03Before. -/
import Derived.Test.YtaehkkcaoniphaaRateq
import Derived.Test.YtaehkkcaoniphaaCode
import Derived.Test.YtaehkkcaoniphaaDayp
import Derived.StillTailTactics
namespace Go.Proofs.Ytaehkkcaoniphaa
open Go.ChangeShapes Go.WideShapes Go.ChangeAt Go.RowKit
set_option linter.unusedVariables false

def ordS (x y : List UInt8) : Int := if Op.bytesLess x y = true then -1 else if x = y then 0 else 1
def ordI (x y : Int) : Int := if x < y then -1 else if x = y then 0 else 1
theorem cmpS_i (x y : List UInt8) (w : World) : Calls Try.prog 74 #[.string ⟨x.toArray⟩, .string ⟨y.toArray⟩] w fun e w' => e = .returned (.int .i64 (ordS x y)) ∧ w = w' := by
  rcases Bool.eq_false_or_eq_true (Op.bytesLess x y) with h | h
  · have E : Hid (ordS x y = -1) := Lib.hid (by rw [ordS, if_pos h])
    go_enter Try.func74, Try.ntmps74
    go_wp2
    go_ret
    exact ⟨by rw [E.out] <;> rfl, rfl⟩
  · rcases Bool.eq_false_or_eq_true (x == y) with h2 | h2
    · obtain rfl : x = y := by simpa using h2
      have E : Hid (ordS x x = 0) := Lib.hid (by rw [ordS, if_neg (by simp [h]), if_pos rfl])
      go_enter Try.func74, Try.ntmps74
      go_wp2
      go_ret
      exact ⟨by rw [E.out] <;> rfl, rfl⟩
    · have E : Hid (ordS x y = 1) := Lib.hid (by rw [ordS, if_neg (by simp [h]), if_neg (by simpa using h2)])
      go_enter Try.func74, Try.ntmps74
      go_wp2
      go_ret
      exact ⟨by rw [E.out] <;> rfl, rfl⟩
theorem cmpI_i (x y : Int) (w : World) : Calls Try.prog 75 #[.int .i64 x, .int .i64 y] w fun e w' => e = .returned (.int .i64 (ordI x y)) ∧ w = w' := by
  rcases (by omega : x < y ∨ x = y ∨ y < x) with h | rfl | h
  · have E : Hid (ordI x y = -1) := Lib.hid (by rw [ordI, if_pos h])
    go_enter Try.func75, Try.ntmps75
    go_wp2
    go_ret
    exact ⟨by rw [E.out] <;> rfl, rfl⟩
  · have E : Hid (ordI x x = 0) := Lib.hid (by rw [ordI, if_neg (by omega), if_pos rfl])
    go_enter Try.func75, Try.ntmps75
    go_wp2
    go_ret
    exact ⟨by rw [E.out] <;> rfl, rfl⟩
  · have E : Hid (ordI x y = 1) := Lib.hid (by rw [ordI, if_neg (by omega), if_neg (by omega)])
    go_enter Try.func75, Try.ntmps75
    go_wp2
    go_ret
    exact ⟨by rw [E.out] <;> rfl, rfl⟩
def orI (a b : Int) : Int := if a = 0 then b else a
theorem or_i (a b : Int) (w : World) : Calls Try.prog 73 #[.slice (some ⟨w.heap.size, 0, none⟩) 2 2] (w.alloc (.cells #[.int .i64 a, .int .i64 b] 3)) fun e w' => e = .returned (.int .i64 (orI a b)) ∧ w.alloc (.cells #[.int .i64 a, .int .i64 b] 3) = w' := by
  by_cases ha : a = 0
  · have E : Hid (orI a b = b) := Lib.hid (by rw [orI, if_pos ha])
    subst ha
    by_cases hb : b = 0
    · subst hb
      go_enter Try.func73, Try.ntmps73
      go_wp2_with fail
      go_loop [8, 5] (fun i v => ∃ k : Nat, k ≤ 2 ∧ i = .int .i64 k) (fun i _ => 2 - (intOf i).toNat)
      case atStart => exact ⟨0, by omega, rfl⟩
      case round =>
        obtain ⟨k, hk, rfl⟩ := hrel
        rcases (by omega : k = 0 ∨ k = 1 ∨ k = 2) with rfl | rfl | rfl
        · go_wp2_with fail
          go_round
          case rel => exact ⟨1, by omega, rfl⟩
          case measure => simp [intOf]
        · go_wp2_with fail
          go_round
          case rel => exact ⟨2, by omega, rfl⟩
          case measure => simp [intOf]
        · go_wp2_with fail
          go_ret
          exact ⟨by rw [E.out] <;> rfl, rfl⟩
    · have hb' : (b == 0) = false := by simpa using hb
      have hb2 : (b != 0) = true := by simpa using hb
      go_enter Try.func73, Try.ntmps73
      go_wp2_with fail
      go_loop [8, 5] (fun i v => ∃ k : Nat, k ≤ 1 ∧ i = .int .i64 k) (fun i _ => 2 - (intOf i).toNat)
      case atStart => exact ⟨0, by omega, rfl⟩
      case round =>
        obtain ⟨k, hk, rfl⟩ := hrel
        rcases (by omega : k = 0 ∨ k = 1) with rfl | rfl
        · go_wp2_with fail
          go_round
          case rel => exact ⟨1, by omega, rfl⟩
          case measure => simp [intOf]
        · go_wp2_with fail
          go_ret
          exact ⟨by rw [E.out] <;> rfl, rfl⟩
  · have E : Hid (orI a b = a) := Lib.hid (by rw [orI, if_neg ha])
    have ha' : (a == 0) = false := by simpa using ha
    have ha2 : (a != 0) = true := by simpa using ha
    clear ha
    go_enter Try.func73, Try.ntmps73
    go_wp2_with fail
    go_loop [8, 5] (fun i v => i = .int .i64 0) (fun i _ => 2 - (intOf i).toNat)
    case atStart => rfl
    case round =>
      obtain rfl := hrel
      go_wp2_with fail
      go_ret
      exact ⟨by rw [E.out] <;> rfl, rfl⟩

/-! ### rates -/
def ordR (a b : Rt) : Int := orI (ordS a.c b.c) (ordI a.day b.day)
theorem ordR_neg (a b : Rt) : decide (ordR a b < 0) = bef a b := by
  unfold ordR bef orI ordS
  rcases Bool.eq_false_or_eq_true (Op.bytesLess a.c b.c) with h | h
  · simp [h]
  · by_cases h2 : a.c = b.c
    · simp [h2, less_irr, ordI]
      by_cases h3 : a.day < b.day
      · simp [h3]
      · by_cases h4 : a.day = b.day <;> simp [h3, h4]
    · simp [h, h2]
/-- Two boxes stand as they were laid; nothing below is written. -/
structure Keep2 (w0 : World) (x y : Array Value) (t : TypeId) (W : World) : Prop where
  a : W.heap[w0.heap.size]? = some (.cells x t (0, 0))
  b : W.heap[w0.heap.size + 1]? = some (.cells y t (0, 0))
  bel : Below w0.heap.size w0 W
theorem lt_some {wr : World} {g : Nat} {o : Obj} (h : wr.heap[g]? = some o) : g < wr.heap.size := by
  rcases Nat.lt_or_ge g wr.heap.size with hlt | hge
  · exact hlt
  · rw [Array.getElem?_eq_none hge] at h; cases h
theorem Keep2.step {w0 W w' : World} {x y : Array Value} {t : TypeId} (k : Keep2 w0 x y t W) (b : Below W.heap.size W w') : Keep2 w0 x y t w' :=
  ⟨(b.block _ (lt_some k.a)).trans k.a, (b.block _ (lt_some k.b)).trans k.b, belowGo k.bel b⟩
theorem Keep2.drew {w0 W : World} {x y : Array Value} {t : TypeId} (k : Keep2 w0 x y t W) : Keep2 w0 x y t W.drew := ⟨k.a, k.b, k.bel.drew⟩
theorem Keep2.new (w : World) (x y : Array Value) (t : TypeId) : Keep2 w x y t ((w.alloc (.cells x t)).alloc (.cells y t)) :=
  ⟨heap_alloc2_old _ _ _, heap_alloc2_new _ _ _, ((Below.refl _ _).alloc (Nat.le_refl _) _).alloc (by simp) _⟩
theorem Keep2.all {w0 W : World} {a b c d e f g h : Value} {t : TypeId} (k : Keep2 w0 #[a, b, c, d] #[e, f, g, h] t W) :
    W.cell? ⟨w0.heap.size, 0, none⟩ = some a ∧ W.cell? ⟨w0.heap.size, 1, none⟩ = some b ∧ W.cell? ⟨w0.heap.size + 1, 0, none⟩ = some e ∧ W.cell? ⟨w0.heap.size + 1, 1, none⟩ = some f ∧ Keep2 w0 #[a, b, c, d] #[e, f, g, h] t W :=
  ⟨by rw [cell_of_row _ _ _ _ _ _ k.a]; rfl, by rw [cell_of_row _ _ _ _ _ _ k.a]; rfl, by rw [cell_of_row _ _ _ _ _ _ k.b]; rfl, by rw [cell_of_row _ _ _ _ _ _ k.b]; rfl, k⟩
theorem Keep2.alloc {w0 W : World} {x y : Array Value} {t : TypeId} (k : Keep2 w0 x y t W) (o : Obj) : Keep2 w0 x y t (W.alloc o) := k.step ((Below.refl _ _).alloc (Nat.le_refl _) _)

theorem still_tail {P : Program} {id : Nat} {Q : Exit → Act → World → Prop} {a : Act} {w : World} {l : List Oper} (n : Nat) (hm : P.follows .mixedOrders = true) (hB : Region.lexTailB .any l.toArray n = true)
    (h : wpStill P l.toArray w.drew (fun a' => wpList P l.toArray Q (l.drop n) a' w.drew) (l.take n) a) : (Code.region id l.toArray true).wp P Q a w := wp_region_still_tail n hm hB h
set_option maxRecDepth 100000 in
set_option maxHeartbeats 400000 in
theorem cmpR_i (a b : Rt) (w : World) : Calls Try.prog 52 #[.agg #[.string ⟨a.c.toArray⟩, .int .i64 a.day, .int .i64 a.num, .int .i64 a.den], .agg #[.string ⟨b.c.toArray⟩, .int .i64 b.day, .int .i64 b.num, .int .i64 b.den]] w
    (Gives w (.int .i64 (ordR a b))) := by
  have HC := Lib.hid (fun x y w => (cmpS_i x y w).mono fun e w' h => (⟨h.1, h.2.symm⟩ : e = .returned (.int .i64 (ordS x y)) ∧ w' = w))
  have HD := Lib.hid (fun x y w => (cmpI_i x y w).mono fun e w' h => (⟨h.1, h.2.symm⟩ : e = .returned (.int .i64 (ordI x y)) ∧ w' = w))
  have HO := Lib.hid (fun x y w => or_i x y w)
  have E : Hid (ordR a b = orI (ordS a.c b.c) (ordI a.day b.day)) := Lib.hid rfl
  have k0 := (Keep2.new w #[.string ⟨a.c.toArray⟩, .int .i64 a.day, .int .i64 a.num, .int .i64 a.den] #[.string ⟨b.c.toArray⟩, .int .i64 b.day, .int .i64 b.num, .int .i64 b.den] 30).drew
  go_enter Try.func52, Try.ntmps52
  go_wp2_with fail
  refine still_tail 10 (by kernel_rfl) (by kernel_rfl) ?_
  simp only [List.take_succ_cons, List.take_zero, List.drop_succ_cons, List.drop_zero]
  generalize ((w.alloc (.cells #[.string ⟨a.c.toArray⟩, .int .i64 a.day, .int .i64 a.num, .int .i64 a.den] 30)).alloc (.cells #[.string ⟨b.c.toArray⟩, .int .i64 b.day, .int .i64 b.num, .int .i64 b.den] 30)).drew = W at *
  obtain ⟨c0, c1, c2, c3, _⟩ := k0.all
  repeat still_step
  still_call (HC.out _ _ _)
  repeat still_step
  still_call (HD.out _ _ _)
  refine wpStill_nil ?_
  go_wp2_with fail
  refine (HO.out _ _ _).mono ?_
  rintro e w1 ⟨rfl, rfl⟩
  go_wp2_with fail
  go_ret
  exact ⟨by rw [E.out] <;> rfl, (k0.alloc _).bel⟩

theorem bef_lt {a b : Rt} (h : Op.bytesLess a.c b.c = true) : bef a b = true := by simp [bef, h]
theorem bef_no {a b : Rt} (h : Op.bytesLess a.c b.c = false) (h2 : (a.c == b.c) = false) : bef a b = false := by simp [bef, h, h2]
theorem bef_day {a b : Rt} (h : Op.bytesLess a.c b.c = false) (h2 : (a.c == b.c) = true) : bef a b = decide (a.day < b.day) := by simp [bef, h, h2]
theorem before_s (a b : Rt) (w : World) : Calls Try.prog 55 #[.agg #[.string ⟨a.c.toArray⟩, .int .i64 a.day, .int .i64 a.num, .int .i64 a.den], .agg #[.string ⟨b.c.toArray⟩, .int .i64 b.day, .int .i64 b.num, .int .i64 b.den]] w
    (Gives w (.bool (bef a b))) := by
  have B : ∀ o p, Hid (Below w.heap.size w ((w.alloc o).alloc p)) := fun o p => Lib.hid (((Below.refl _ _).alloc (Nat.le_refl _) _).alloc (by simp) _)
  rcases Bool.eq_false_or_eq_true (Op.bytesLess a.c b.c) with h | h
  · have E := Lib.hid (bef_lt h)
    go_enter Try.func55, Try.ntmps55
    go_wp2_with fail
    go_ret
    exact ⟨by rw [E.out] <;> rfl, (B _ _).out⟩
  · rcases Bool.eq_false_or_eq_true (a.c == b.c) with h2 | h2
    · have E := Lib.hid (bef_day h h2)
      go_enter Try.func55, Try.ntmps55
      go_wp2_with fail
      go_ret
      exact ⟨by rw [E.out] <;> rfl, (B _ _).out⟩
    · have E := Lib.hid (bef_no h h2)
      go_enter Try.func55, Try.ntmps55
      go_wp2_with fail
      go_ret
      exact ⟨by rw [E.out] <;> rfl, (B _ _).out⟩
end Go.Proofs.Ytaehkkcaoniphaa
