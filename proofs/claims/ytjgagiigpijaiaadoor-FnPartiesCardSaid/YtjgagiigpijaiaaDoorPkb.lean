/- Parties that are the same; a party's box; the size of what is drawn from. -/
import Derived.Test.YtjgagiigpijaiaaDoorDpa
import Derived.Laws.StructEq
namespace Go.Proofs.YtjgagiigpijaiaaDoor
open Go.ChangeShapes Go.WideShapes Go.ChangeAt Go.RowKit
set_option linter.unusedVariables false

theorem store3 {W : World} {R : Nat} {x0 x1 x2 : Value} (h : W.heap[R]? = some (.cells #[x0, x1, x2] 35 (0, 0))) (a b e : Value) :
    (((W.setCell ⟨R, 0, none⟩ a).setCell ⟨R, 1, none⟩ b).setCell ⟨R, 2, none⟩ e).heap[R]? = some (.cells #[a, b, e] 35 (0, 0)) := by
  have h1 : (W.setCell ⟨R, 0, none⟩ a).heap[R]? = some (.cells #[a, x1, x2] 35 (0, 0)) := by rw [heap_setCell_same W R 0 _ _ _ h]; rfl
  have h2 : ((W.setCell ⟨R, 0, none⟩ a).setCell ⟨R, 1, none⟩ b).heap[R]? = some (.cells #[a, b, x2] 35 (0, 0)) := by rw [heap_setCell_same _ R 1 _ _ _ h1]; rfl
  rw [heap_setCell_same _ R 2 _ _ _ h2]; rfl
theorem big_p (A : Option Addr) (c : Nat) (bs : List Int) (w : World) (hm : bs.length ≤ maxLen) :
    Calls Tryd.prog 34 #[.slice A bs.length c] w fun e w' => e = .returned (.bool (decide (4096 < bs.length))) ∧ w = w' := by
  have hm2 : bs.length ≤ 9223372036854775807 := by unfold maxLen at hm; omega
  have E : Hid (decide (4096 < (bs.length : Int)) = decide (4096 < bs.length)) := Lib.hid (by rw [decide_eq_decide]; omega)
  go_enter Tryd.func34, Tryd.ntmps34
  go_wp2_with fail
  go_ret
  exact ⟨by rw [← E.out] <;> rfl, rfl⟩
theorem neq_pty (W : World) (p : Pty) : (binOp .neq 35 (.agg #[.string ⟨p.c.toArray⟩, .int .i64 p.k, .string ⟨p.a.toArray⟩]) (.agg #[.string ⟨p.c.toArray⟩, .int .i64 p.k, .string ⟨p.a.toArray⟩])).run Tryd.prog W = .ok (.bool false) W := by
  have h : (Op.equalIn (9999 + 1) 35 (.agg #[.string ⟨p.c.toArray⟩, .int .i64 p.k, .string ⟨p.a.toArray⟩]) (.agg #[.string ⟨p.c.toArray⟩, .int .i64 p.k, .string ⟨p.a.toArray⟩])).run Tryd.prog W = .ok true W := by
    rw [run_equalIn_agg W 9999 35 _ _ (by kernel_rfl) (by kernel_rfl)]
    obtain ⟨k, hk⟩ : ∃ k, 9999 = k + 1 := ⟨9998, rfl⟩
    rw [hk]
    simp only [Program.fieldsOf, Tryd.underlying35]
    have H := fun (x y : Int) => run_equalIn_int (P := Tryd.prog) W k 2 .i64 .i64 x y Tryd.underlying2
    have HS := fun (x y : ByteArray) => run_equalIn_string (P := Tryd.prog) W k 9 x y Tryd.underlying9
    clear hk
    simp [Op.eqFields, go_sem, part, H, HS]
  rw [run_neq_struct]
  exact (congrArg (fun r => Result.andThen r _) h).trans rfl
theorem keepH {w w' : World} {k : Nat} {o : Obj} (hb : Below w.heap.size w w') (h : w.heap[k]? = some o) : w'.heap[k]? = some o := (hb.block _ (lt_ofs h)).trans h
end Go.Proofs.YtjgagiigpijaiaaDoor
