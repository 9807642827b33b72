/- laws.toInt64S copies; laws.markInt64S numbers the cells; laws.heldInt64S finds the numbers. -/
import Derived.Test.YtjcklmhgjdmjoaaInts
namespace Go.Proofs.Ytjcklmhgjdmjoaa
open Go.ChangeShapes Go.WideShapes Go.ChangeAt Go.RowKit
set_option linter.unusedVariables false

theorem intInfo : (Try.prog.info? 2).map (fun i => (i.zero, i.size, i.bytes)) = some (some (.int .i64 0), 1, 8) := by kernel_rfl

theorem set_take {ys : List Value} {k : Nat} {v : Value} (hk : k < ys.length) : (ys.set k v).take (k + 1) = ys.take k ++ [v] := by
  rw [List.take_add_one, List.take_set_of_le (Nat.le_refl k)]
  simp [hk]

/-- The numbers k, k + 1, .. of n cells. -/
def marks (k : Int) (n : Nat) : List Int := (List.range n).map fun j : Nat => k + (j : Int)
theorem marks_len (k : Int) (n : Nat) : (marks k n).length = n := by simp [marks]
theorem marks_at {k : Int} {n j : Nat} (h : j < n) : (marks k n)[j]? = some (k + j) := by simp [marks, h]
theorem marks_succ (k : Int) (n : Nat) : marks k (n + 1) = marks k n ++ [k + n] := by simp [marks, List.range_succ]

def Marked (w : World) (base : Nat) (A : Option Addr) (n c : Nat) (k : Int) (e : Ending) (w' : World) : Prop :=
  e = .returned (.int .i64 (k + n)) ∧ Oi w' base A n c (marks k n) ∧ w.grownBy w' (Value.slice A n c).ownBlock

set_option maxHeartbeats 400000 in
theorem markInts (A : Option Addr) (n c : Nat) (k0 : Int) (xs : List Int) (base : Nat) (w : World) (hx : Oi w base A n c xs) (hn : n ≤ 1048576) (h0 : 0 ≤ k0) (h1 : k0 ≤ 1000000000000) :
    Calls Try.prog 63 #[.slice A n c, .int .i64 k0] w (Marked w base A n c k0) := by
  by_cases hz : n = 0
  · have HO : Hid (Oi w base A n c (marks k0 n)) := Lib.hid (by
      have h := hx.len; subst hz
      have : xs = [] := List.eq_nil_of_length_eq_zero h
      subst this; exact hx)
    subst hz
    go_enter Try.func63, Try.ntmps63
    go_wp2_with fail
    go_loop [1, 5] (fun k i => k = .int .i64 k0 ∧ i = .int .i64 0) (fun _ _ => 0)
    case atStart => exact ⟨rfl, rfl⟩
    case round =>
      obtain ⟨rfl, rfl⟩ := hrel
      go_wp2_with fail
      go_ret
      exact ⟨by simp, HO.out, World.grownBy.refl w _⟩
  · obtain ⟨g, hA⟩ : ∃ g, A = some ⟨g, 0, none⟩ := by
      rcases hx.2 with ⟨_, h⟩ | ⟨g, _, _, h, _⟩
      · exact absurd h hz
      · injection h with h; exact ⟨g, h⟩
    subst hA
    go_enter Try.func63, Try.ntmps63
    go_wp2_with fail
    go_loopw [1, 5] (fun k i wr => ∃ (j : Nat) (ys : List Value), j ≤ n ∧ i = .int .i64 j ∧ k = .int .i64 (k0 + j) ∧ wr.ownsRow base 2 1 (.slice (some ⟨g, 0, none⟩) n c) n ys ∧
      Hid (ys.take j = (marks k0 j).map (Value.int .i64)) ∧ w.grownBy wr (some g)) (fun _ i _ => n - (intOf i).toNat)
    case atStart => exact ⟨0, _, Nat.zero_le _, rfl, by simp, hx, Lib.hid rfl, World.grownBy.refl w _⟩
    case round =>
      obtain ⟨j, ys, hj, rfl, rfl, hown, ht, hg⟩ := hrel
      clear hx
      by_cases hlt : j < n
      · have hyl : j < ys.length := by have := hown.1; omega
        obtain ⟨old, hold⟩ : ∃ v, wr.cell? ⟨g, j, none⟩ = some v := ⟨ys[j], by rw [hown.cellAt j (by omega)]; simp [hyl]⟩
        have hfz := hown.frozenAt j
        have HS := Lib.hid (hown.stored j (.int .i64 (k0 + j)))
        have HT : Hid ((ys.set j (.int .i64 (k0 + j))).take (j + 1) = (marks k0 (j + 1)).map (Value.int .i64)) := Lib.hid (by rw [set_take hyl, marks_succ, ht.out]; simp)
        clear ht hown
        go_wp2_with fail
        go_roundw
        case rel => exact ⟨j + 1, _, by omega, by go_num, by go_num, HS.out.1, HT, hg.trans HS.out.2⟩
        case measure => simp [intOf]; omega
      · obtain rfl : j = n := by omega
        have HT : Hid (ys = (marks k0 j).map (Value.int .i64)) := Lib.hid (by
          have h1 := ht.out; have h2 := hown.1
          rwa [List.take_of_length_le (by omega)] at h1)
        clear ht
        go_wp2_with fail
        go_ret
        exact ⟨rfl, by have := HT.out; subst this; exact hown, hg⟩

theorem heldInts (A : Option Addr) (n c : Nat) (k0 : Int) (w : World) (hx : Ir w A (marks k0 n)) (hn : n ≤ 1048576) (h0 : 0 ≤ k0) (h1 : k0 ≤ 1000000000000) :
    Calls Try.prog 64 #[.slice A n c, .int .i64 k0] w fun e w' => e = .returned (.int .i64 (k0 + n)) ∧ w = w' := by
  go_enter Try.func64, Try.ntmps64
  go_wp2_with fail
  go_loop [1, 5] (fun k i => ∃ j : Nat, j ≤ n ∧ i = .int .i64 j ∧ k = .int .i64 (k0 + j)) (fun _ i => n - (intOf i).toNat)
  case atStart => exact ⟨0, Nat.zero_le _, rfl, by simp⟩
  case round =>
    obtain ⟨j, hj, rfl, rfl⟩ := hrel
    by_cases hlt : j < n
    · obtain ⟨b, off, x, rfl, hc, hxk⟩ := hx.at (k := j) (by rw [marks_len]; exact hlt)
      obtain rfl : k0 + j = x := by have := hxk.out; rw [marks_at hlt] at this; exact Option.some.inj this
      clear hx hxk
      have hne : ((k0 + (j : Int)) != k0 + j) = false := by simp
      go_wp2_with fail
      go_round
      case rel => exact ⟨j + 1, by omega, by go_num, by go_num⟩
      case measure => simp [intOf]; omega
    · obtain rfl : j = n := by omega
      clear hx
      go_wp2_with fail
      go_ret
      exact ⟨rfl, rfl⟩

theorem eqInts' (A B : Option Addr) (n m c d : Nat) (xs ys : List Int) (w : World) (hx : Ir w A xs) (hy : Ir w B ys) (hn : xs.length = n) (hm : ys.length = m) (hb : n ≤ 1000000000) :
    Calls Try.prog 62 #[.slice A n c, .slice B m d] w fun e w' => e = .returned (.bool (decide (xs = ys))) ∧ Below w.heap.size w w' := by
  subst hn hm
  refine (eqInts A B c d xs ys w hx hy hb).mono ?_
  rintro e w' ⟨rfl, n, rfl⟩
  exact ⟨rfl, below_drewN _ _⟩
theorem eqInts_same (A B : Option Addr) (n m c d : Nat) (xs : List Int) (w : World) (hx : Ir w A xs) (hy : Ir w B xs) (hn : xs.length = n) (hm : xs.length = m) (hb : n ≤ 1000000000) :
    Calls Try.prog 62 #[.slice A n c, .slice B m d] w fun e w' => e = .returned (.bool true) ∧ Below w.heap.size w w' := by
  refine (eqInts' A B n m c d xs xs w hx hy hn hm hb).mono ?_
  rintro e w' ⟨rfl, h⟩
  exact ⟨by simp, h⟩
end Go.Proofs.Ytjcklmhgjdmjoaa
