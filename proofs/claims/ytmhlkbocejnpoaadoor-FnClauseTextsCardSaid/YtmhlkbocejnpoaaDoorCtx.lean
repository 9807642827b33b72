/- Texts of clauses: what they are; cmp.Or over two strings; a number's text. (by gen_ctx.py) -/
import Derived.Test.YtmhlkbocejnpoaaDoorClt
import Derived.Test.YtmhlkbocejnpoaaDoorJn5
import Derived.Test.YtmhlkbocejnpoaaDoorTwo
namespace Go.Proofs.YtmhlkbocejnpoaaDoor
open Go.ChangeShapes Go.WideShapes Go.ChangeAt Go.RowKit
set_option linter.unusedVariables false

def toT (p : Cls) : List UInt8 := if p.t = [] then [46] else p.t
def ctext (p : Cls) : List UInt8 := p.c ++ 47 :: (Lib.itoa p.k ++ 47 :: (ltrs p ++ 47 :: (Lib.itoa p.e ++ 47 :: toT p)))
def ctR (p : Cls) : List UInt8 × Int := if p.ok = true then (ctext p, 0) else ([], 1)
theorem ctR_ok {p : Cls} (h : p.ok = true) : ctR p = (ctext p, 0) := by unfold ctR; rw [if_pos h]
theorem ctR_no {p : Cls} (h : p.ok = false) : ctR p = ([], 1) := by unfold ctR; rw [if_neg (by rw [h]; exact Bool.false_ne_true)]
theorem itoa_le {n : Int} (h : -1 ≤ n ∧ n ≤ 6) : (Lib.itoa n).length ≤ 21 := by
  by_cases h0 : n = -1
  · subst h0
    rw [show (-1 : Int) = -((1 : Nat) : Int) from rfl, Lib.itoa_neg 1 (by decide), Lib.decDigits_one (by decide)]; decide
  · obtain ⟨u, rfl⟩ := Int.eq_ofNat_of_zero_le (show 0 ≤ n by omega)
    rw [Lib.itoa_nonneg]
    have := dec_len 18 u (by omega)
    omega
theorem toT_le {p : Cls} (h : p.ok = true) : (toT p).length ≤ 6 := by
  unfold toT
  obtain ⟨_, _, _, _, _, _, hr⟩ := cok h
  split
  · simp
  · rename_i hne
    rcases hr with ⟨_, h2⟩ | ⟨_, h2⟩
    · exact (pcode_iff.1 h2).1.2
    · exact absurd h2 hne
theorem fmt_any (n : Int) (h : -1 ≤ n ∧ n ≤ 6) (w : World) (ht : Tab w) : Calls Tryd.prog 19 #[.int .i64 n, .int .i64 10] w (Gives1 w (Lib.itoa n)) := by
  refine (Tryd.strconv_FormatInt_10 n (by omega) (by omega) w ht).mono ?_
  rintro e w' ⟨rfl, k, os, rfl⟩
  exact ⟨rfl, Lib.below_grow _ _ (Nat.le_refl _) _ _⟩
def orT (x : List UInt8) : List UInt8 := if x = [] then [46] else x
theorem orS_row (x : List UInt8) (g : Nat) (w : World) (h : w.heap[g]? = some (.cells #[.string ⟨x.toArray⟩, .string ⟨#[46]⟩] 9 (0, 0))) : Calls Tryd.prog 22 #[.slice (some ⟨g, 0, none⟩) 2 2] w (Gives1 w (orT x)) := by
  have c0 : w.cell? ⟨g, 0, none⟩ = some (.string ⟨x.toArray⟩) := by rw [cell_of_row _ _ _ _ _ _ h]; rfl
  have c1 : w.cell? ⟨g, 1, none⟩ = some (.string ⟨#[46]⟩) := by rw [cell_of_row _ _ _ _ _ _ h]; rfl
  have HB := Lib.hid (Below.refl w.heap.size w)
  clear h
  cases x with
  | nil =>
    go_enter Tryd.func22, Tryd.ntmps22
    go_wp2_with fail
    go_loop [8, 5] (fun i v => ∃ k : Nat, k ≤ 1 ∧ i = .int .i64 k) (fun i _ => 2 - (intOf i).toNat)
    case atStart => exact ⟨0, by omega, rfl⟩
    case round =>
      obtain ⟨k, hk, rfl⟩ := hrel
      rcases (by omega : k = 0 ∨ k = 1) with rfl | rfl
      · go_wp2_with fail
        go_round
        case rel => exact ⟨1, by omega, rfl⟩
        case measure => simp [intOf]
      · go_wp2_with fail
        go_ret
        exact ⟨rfl, HB.out⟩
  | cons y l =>
    go_enter Tryd.func22, Tryd.ntmps22
    go_wp2_with fail
    go_loop [8, 5] (fun i v => i = .int .i64 0) (fun i _ => 2 - (intOf i).toNat)
    case atStart => rfl
    case round =>
      obtain rfl := hrel
      go_wp2_with fail
      go_ret
      exact ⟨rfl, HB.out⟩
end Go.Proofs.YtmhlkbocejnpoaaDoor
