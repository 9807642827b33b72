/- spec.IsEvent, spec.IsLog. (by gen_ev.py) -/
import Derived.Test.YtmhlkbocejnpoaaEvl
namespace Go.Proofs.Ytmhlkbocejnpoaa
open Go.ChangeShapes Go.WideShapes Go.ChangeAt Go.RowKit
set_option linter.unusedVariables false

set_option maxRecDepth 100000 in
set_option maxHeartbeats 4000000 in
theorem evalid_s (p : Evt) (w : World) (hc : p.c.length ≤ 9223372036854775807) : Calls Try.prog 39 #[.agg #[.int .i64 p.d, .int .i64 p.k, .string ⟨p.c.toArray⟩, .int .i64 p.a, .bool p.p, .bool p.v, .bool p.r]] w (Gives w (.bool p.ok)) := by
  have B : ∀ o, Hid (Below w.heap.size w (w.alloc o)) := fun o => Lib.hid ((Below.refl _ _).alloc (Nat.le_refl _) _)
  have W := eway p
  obtain ⟨b, hb⟩ : ∃ b, b = p.ok := ⟨_, rfl⟩
  rw [← hb] at W
  rw [← hb]
  clear hb
  cases W
  all_goals
    go_enter Try.func39, Try.ntmps39
    go_wp2_with (first
      | (go_at_call 55; refine (is_q (by assumption) _).mono ?_; rintro e w' ⟨rfl, rfl⟩)
      | (go_at_call 29; refine (innE_q (by assumption) _).mono ?_; rintro e w' ⟨rfl, rfl⟩)
      | (go_at_call 28; refine (pcodeS_qE (by assumption) (by assumption) _).mono ?_; rintro e w' ⟨rfl, rfl⟩)
      | (go_at_call 56; refine (amtS_qE (by assumption) _).mono ?_; rintro e w' ⟨rfl, rfl⟩))
    go_ret
    exact ⟨by first | rfl | simp_all, (B _).out⟩
end Go.Proofs.Ytmhlkbocejnpoaa
