/- Texts of events: what they are; cmp.Or over two strings, (impl.truths).letters, (impl.Event).told. -/
import Derived.Test.YtifioecofeojpaaDoorDyt
import Derived.Test.YtifioecofeojpaaDoorJn5
import Derived.Test.YtifioecofeojpaaDoorEvi
namespace Go.Proofs.YtifioecofeojpaaDoor
open Go.ChangeShapes Go.WideShapes Go.ChangeAt Go.RowKit
set_option linter.unusedVariables false

/-- The letters of what is true. -/
def lets (p v r : Bool) : List UInt8 := (if p = true then [112] else []) ++ ((if v = true then [118] else []) ++ (if r = true then [114] else []))
def flg (p v r : Bool) : List UInt8 := if lets p v r = [] then [45] else lets p v r
theorem flg_le (p v r : Bool) : (flg p v r).length ≤ 3 := by cases p <;> cases v <;> cases r <;> decide
noncomputable def etext (p : Evt) : List UInt8 := dayT p.d ++ 47 :: (Lib.decDigits p.k.toNat ++ 47 :: (p.c ++ 47 :: (money p.a ++ 47 :: flg p.p p.v p.r)))
noncomputable def etR (p : Evt) : List UInt8 × Int := if p.ok = true then (etext p, 0) else ([], 1)
theorem etR_ok {p : Evt} (h : p.ok = true) : etR p = (etext p, 0) := by unfold etR; rw [if_pos h]
theorem etR_no {p : Evt} (h : p.ok = false) : etR p = ([], 1) := by unfold etR; rw [if_neg (by rw [h]; exact Bool.false_ne_true)]
theorem flg_tf (p v r : Bool) : flg p v r = if p = true then (if v = true then (if r = true then [112, 118, 114] else [112, 118]) else (if r = true then [112, 114] else [112])) else (if v = true then (if r = true then [118, 114] else [118]) else (if r = true then [114] else [45])) := by
  cases p <;> cases v <;> cases r <;> rfl

theorem orS_nil (w : World) (n : Nat) (hn : n = w.heap.size) : Calls Tryd.prog 41 #[.slice (some ⟨n, 0, none⟩) 2 2] (w.alloc (.cells #[.string ⟨#[]⟩, .string ⟨#[45]⟩] 9)) fun e w' => e = .returned (.string ⟨#[45]⟩) ∧ w.alloc (.cells #[.string ⟨#[]⟩, .string ⟨#[45]⟩] 9) = w' := by
  subst hn
  go_enter Tryd.func41, Tryd.ntmps41
  go_wp2_with fail
  go_loop [8, 5] (fun i v => ∃ k : Nat, k ≤ 1 ∧ i = .int .i64 k) (fun i _ => 2 - (intOf i).toNat)
  case atStart => exact ⟨0, by omega, rfl⟩
  case round =>
    obtain ⟨k, hk, rfl⟩ := hrel
    rcases (by omega : k = 0 ∨ k = 1) with rfl | rfl
    · go_wp2_with fail
      go_round
      case rel => exact ⟨1, by omega, rfl⟩
      case measure => simp [intOf]
    · go_wp2_with fail
      go_ret
      exact ⟨rfl, rfl⟩
theorem orS_cons (x : UInt8) (l : List UInt8) (w : World) (n : Nat) (hn : n = w.heap.size) : Calls Tryd.prog 41 #[.slice (some ⟨n, 0, none⟩) 2 2] (w.alloc (.cells #[.string ⟨(x :: l).toArray⟩, .string ⟨#[45]⟩] 9)) fun e w' => e = .returned (.string ⟨(x :: l).toArray⟩) ∧ w.alloc (.cells #[.string ⟨(x :: l).toArray⟩, .string ⟨#[45]⟩] 9) = w' := by
  subst hn
  go_enter Tryd.func41, Tryd.ntmps41
  go_wp2_with fail
  go_loop [8, 5] (fun i v => i = .int .i64 0) (fun i _ => 2 - (intOf i).toNat)
  case atStart => rfl
  case round =>
    obtain rfl := hrel
    go_wp2_with fail
    go_ret
    exact ⟨rfl, rfl⟩
set_option maxHeartbeats 4000000 in
theorem letters_i (p v r : Bool) (w : World) : Calls Tryd.prog 29 #[.agg #[.bool p, .bool v, .bool r]] w (Gives1 w (flg p v r)) := by
  have B : ∀ o q, Hid (Below w.heap.size w ((w.alloc o).alloc q)) := fun o q => Lib.hid (((Below.refl _ _).alloc (Nat.le_refl _) _).alloc (by simp) _)
  cases p <;> cases v <;> cases r
  all_goals
    go_enter Tryd.func29, Tryd.ntmps29
    go_wp2_with (go_at_call 41; refine (by first | exact orS_nil _ _ (by simp) | exact orS_cons _ _ _ _ (by simp) : Calls _ _ _ _ _).mono ?_; rintro e w' ⟨rfl, rfl⟩)
    go_ret
    exact ⟨rfl, (B _ _).out⟩
set_option maxHeartbeats 4000000 in
theorem told_i (p : Evt) (w : World) : Calls Tryd.prog 11 #[.agg #[.int .i64 p.d, .int .i64 p.k, .string ⟨p.c.toArray⟩, .int .i64 p.a, .bool p.p, .bool p.v, .bool p.r]] w (Gives w (.agg #[.int .i64 p.d, .int .i64 p.k, .string ⟨p.c.toArray⟩, .int .i64 p.a, .bool p.p, .bool p.v, .bool p.r])) := by
  have B : ∀ o q, Hid (Below w.heap.size w ((w.alloc o).alloc q)) := fun o q => Lib.hid (((Below.refl _ _).alloc (Nat.le_refl _) _).alloc (by simp) _)
  go_enter Tryd.func11, Tryd.ntmps11
  go_wp2_with fail
  exact bodyPost_ret (v := .agg #[.int .i64 p.d, .int .i64 p.k, .string ⟨p.c.toArray⟩, .int .i64 p.a, .bool p.p, .bool p.v, .bool p.r]) (by simp [results, Tryd.results11, go_sem]) rfl ⟨rfl, (B _ _).out⟩
/-- A box of a told event. -/
structure KeepT (w0 : World) (p : Evt) (W : World) : Prop where
  a : W.heap[w0.heap.size]? = some (.cells #[.int .i64 p.d, .int .i64 p.k, .string ⟨p.c.toArray⟩, .int .i64 p.a, .bool p.p, .bool p.v, .bool p.r] 35 (0, 0))
  bel : Below w0.heap.size w0 W
theorem KeepT.step {w0 W w' : World} {p : Evt} (k : KeepT w0 p W) (b : Below W.heap.size W w') : KeepT w0 p w' := ⟨(b.block _ (lt_some k.a)).trans k.a, belowGo k.bel b⟩
theorem KeepT.drew {w0 W : World} {p : Evt} (k : KeepT w0 p W) : KeepT w0 p W.drew := ⟨k.a, k.bel.drew⟩
theorem KeepT.new (w : World) (p : Evt) : KeepT w p (w.alloc (.cells #[.int .i64 p.d, .int .i64 p.k, .string ⟨p.c.toArray⟩, .int .i64 p.a, .bool p.p, .bool p.v, .bool p.r] 35)) := ⟨heap_alloc_new _ _, (Below.refl _ _).alloc (Nat.le_refl _) _⟩
theorem KeepT.cells {w0 W : World} {p : Evt} (k : KeepT w0 p W) : EvtC W w0.heap.size 0 p :=
  ⟨by rw [cell_of_row _ _ _ _ _ _ k.a]; rfl, by rw [cell_of_row _ _ _ _ _ _ k.a]; rfl, by rw [cell_of_row _ _ _ _ _ _ k.a]; rfl, by rw [cell_of_row _ _ _ _ _ _ k.a]; rfl, by rw [cell_of_row _ _ _ _ _ _ k.a]; rfl, by rw [cell_of_row _ _ _ _ _ _ k.a]; rfl, by rw [cell_of_row _ _ _ _ _ _ k.a]; rfl⟩
end Go.Proofs.YtifioecofeojpaaDoor
