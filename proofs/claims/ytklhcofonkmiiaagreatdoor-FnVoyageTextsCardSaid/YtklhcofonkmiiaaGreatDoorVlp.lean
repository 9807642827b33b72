/- big, and like lists of stops. -/
import Derived.Test.YtklhcofonkmiiaaGreatDoorMSto
import Derived.Laws.StructEq
namespace Go.Proofs.YtklhcofonkmiiaaGreatDoor
open Go.ChangeShapes Go.WideShapes Go.ChangeAt Go.RowKit
set_option linter.unusedVariables false

theorem big_p (A : Option Addr) (c : Nat) (bs : List Int) (w : World) (hm : bs.length ≤ maxLen) :
    Calls Tryz.prog 5 #[.slice A bs.length c] w fun e w' => e = .returned (.bool (decide (4096 < bs.length))) ∧ w = w' := by
  have hm2 : bs.length ≤ 9223372036854775807 := by unfold maxLen at hm; omega
  have E : Hid (decide (4096 < (bs.length : Int)) = decide (4096 < bs.length)) := Lib.hid (by rw [decide_eq_decide]; omega)
  go_enter Tryz.func5, Tryz.ntmps5
  go_wp2_with fail
  go_ret
  exact ⟨by rw [← E.out] <;> rfl, rfl⟩
theorem neq_stp (W : World) (p : Sto) : (binOp .neq 40 (.agg #[.string ⟨p.p.toArray⟩, .int .i64 p.i, .int .i64 p.o]) (.agg #[.string ⟨p.p.toArray⟩, .int .i64 p.i, .int .i64 p.o])).run Tryz.prog W = .ok (.bool false) W := by
  have h : (Op.equalIn (9999 + 1) 40 (.agg #[.string ⟨p.p.toArray⟩, .int .i64 p.i, .int .i64 p.o]) (.agg #[.string ⟨p.p.toArray⟩, .int .i64 p.i, .int .i64 p.o])).run Tryz.prog W = .ok true W := by
    rw [run_equalIn_agg W 9999 40 _ _ (by kernel_rfl) (by kernel_rfl)]
    obtain ⟨k, hk⟩ : ∃ k, 9999 = k + 1 := ⟨9998, rfl⟩
    rw [hk]
    simp only [Program.fieldsOf, Tryz.underlying40]
    have H := fun (x y : Int) => run_equalIn_int (P := Tryz.prog) W k 2 .i64 .i64 x y Tryz.underlying2
    have HS := fun (x y : ByteArray) => run_equalIn_string (P := Tryz.prog) W k 9 x y Tryz.underlying9
    clear hk
    simp [Op.eqFields, go_sem, part, H, HS]
  rw [run_neq_struct]
  exact (congrArg (fun r => Result.andThen r _) h).trans rfl
set_option maxHeartbeats 1000000 in
theorem likeV (A B : Option Addr) (c d : Nat) (ps : List Sto) (w : World) (hx : StoR w A ps) (hy : StoR w B ps) (hn : ps.length ≤ 1000000000) :
    Calls Tryz.prog 12 #[.slice A ps.length c, .slice B ps.length d] w fun e w' => e = .returned (.bool true) ∧ Below w.heap.size w w' := by
  have hl1 : ((ps.length : Int) != ps.length) = false := by simp
  go_enter Tryz.func12, Tryz.ntmps12
  go_wp2_with fail
  go_loopw [5] (fun i wr => ∃ k : Nat, k ≤ ps.length ∧ i = .int .i64 k ∧ ∃ n, wr = w.drewN n) (fun i _ => ps.length - (intOf i).toNat)
  case atStart => exact ⟨0, Nat.zero_le _, rfl, 0, rfl⟩
  case round =>
    obtain ⟨k, hk, rfl, n, rfl⟩ := hrel
    by_cases hlt : k < ps.length
    · obtain ⟨b, off, r, rfl, hbl, hrk, hc⟩ := hx.at hlt
      obtain ⟨b2, off2, r2, rfl, hbl2, hrk2, hc2⟩ := hy.at hlt
      have : r = r2 := by have := hrk.out.symm.trans hrk2.out; simpa using this
      subst this
      obtain ⟨c0, c1, c2⟩ := hc
      obtain ⟨d0, d1, d2⟩ := hc2
      have N := fun W => neq_stp W r
      clear hx hy hl1
      go_wp2_with fail
      go_quiet (fail)
      go_wp2_with fail
      go_roundw
      case rel => exact ⟨k + 1, by omega, by go_num, _, rfl⟩
      case measure => simp [intOf]; omega
    · go_wp2_with fail
      go_ret
      exact ⟨rfl, below_drewN _ _⟩
end Go.Proofs.YtklhcofonkmiiaaGreatDoor
