/- Like slices: lists of parties, texts that are the same. -/
import Derived.Test.YtjgagiigpijaiaaDoorPkb
import Derived.Test.YtjgagiigpijaiaaDoorStrs
namespace Go.Proofs.YtjgagiigpijaiaaDoor
open Go.ChangeShapes Go.WideShapes Go.ChangeAt Go.RowKit
set_option linter.unusedVariables false

theorem eql_pty (W : World) (p : Pty) : (binOp .eql 35 (.agg #[.string ⟨p.c.toArray⟩, .int .i64 p.k, .string ⟨p.a.toArray⟩]) (.agg #[.string ⟨p.c.toArray⟩, .int .i64 p.k, .string ⟨p.a.toArray⟩])).run Tryd.prog W = .ok (.bool true) W := by
  have h := neq_pty W p
  rw [run_neq_struct] at h
  rw [run_eql_struct]
  revert h
  generalize (Op.equalIn 10000 35 (.agg #[.string ⟨p.c.toArray⟩, .int .i64 p.k, .string ⟨p.a.toArray⟩]) (.agg #[.string ⟨p.c.toArray⟩, .int .i64 p.k, .string ⟨p.a.toArray⟩])).run Tryd.prog W = r
  intro h
  cases r with
  | ok v w' =>
    simp only [Result.andThen_ok, Result.ok.injEq, Value.bool.injEq] at h ⊢
    simp at h
    simp [h]
  | halt x w' => simp [Result.andThen] at h
set_option maxHeartbeats 1000000 in
theorem likeP (A B : Option Addr) (n m c d : Nat) (ps : List Pty) (w : World) (hx : PtyR w A ps) (hy : PtyR w B ps) (hn1 : ps.length = n) (hm1 : ps.length = m) (hn : n ≤ 1000000000) :
    Calls Tryd.prog 42 #[.slice A n c, .slice B m d] w fun e w' => e = .returned (.bool true) ∧ Below w.heap.size w w' := by
  subst hn1 hm1
  have hl1 : ((ps.length : Int) != ps.length) = false := by simp
  go_enter Tryd.func42, Tryd.ntmps42
  go_wp2_with fail
  go_loopw [5] (fun i wr => ∃ k : Nat, k ≤ ps.length ∧ i = .int .i64 k ∧ ∃ n, wr = w.drewN n) (fun i _ => ps.length - (intOf i).toNat)
  case atStart => exact ⟨0, Nat.zero_le _, rfl, 0, rfl⟩
  case round =>
    obtain ⟨k, hk, rfl, n, rfl⟩ := hrel
    by_cases hlt : k < ps.length
    · obtain ⟨b, off, r, rfl, hbl, hrk, hc⟩ := hx.at hlt
      obtain ⟨b2, off2, r2, rfl, hbl2, hrk2, hc2⟩ := hy.at hlt
      have : r = r2 := by have := hrk.out.symm.trans hrk2.out; simpa using this
      subst this
      obtain ⟨c0, c1, c2⟩ := hc
      obtain ⟨d0, d1, d2⟩ := hc2
      have N := fun W => neq_pty W r
      clear hx hy hl1
      go_wp2_with fail
      go_quiet (fail)
      go_wp2_with fail
      go_roundw
      case rel => exact ⟨k + 1, by omega, by go_num, _, rfl⟩
      case measure => simp [intOf]; omega
    · go_wp2_with fail
      go_ret
      exact ⟨rfl, below_drewN _ _⟩
set_option maxHeartbeats 1000000 in
theorem likeT (A B : Option Addr) (n m c d : Nat) (ws : List (List UInt8)) (w : World) (hx : Sr w A ws) (hy : Sr w B ws) (hn : ws.length = n) (hm : ws.length = m) (hb : n ≤ 1000000000) :
    Calls Tryd.prog 43 #[.slice A n c, .slice B m d] w fun e w' => e = .returned (.bool true) ∧ Below w.heap.size w w' := by
  subst hn hm
  have hl1 : ((ws.length : Int) != ws.length) = false := by simp
  go_enter Tryd.func43, Tryd.ntmps43
  go_wp2_with fail
  go_loopw [5] (fun i wr => ∃ k : Nat, k ≤ ws.length ∧ i = .int .i64 k ∧ ∃ n, wr = w.drewN n) (fun i _ => ws.length - (intOf i).toNat)
  case atStart => exact ⟨0, Nat.zero_le _, rfl, 0, rfl⟩
  case round =>
    obtain ⟨k, hk, rfl, n, rfl⟩ := hrel
    by_cases hlt : k < ws.length
    · obtain ⟨b, off, r, rfl, hbl, hc, hrk⟩ := hx.at hlt
      obtain ⟨b2, off2, r2, rfl, hbl2, hc2, hrk2⟩ := hy.at hlt
      have : r = r2 := by have := hrk.out.symm.trans hrk2.out; simpa using this
      subst this
      clear hx hy hl1
      go_wp2_with fail
      go_quiet (fail)
      go_wp2_with fail
      go_roundw
      case rel => exact ⟨k + 1, by omega, by go_num, _, rfl⟩
      case measure => simp [intOf]; omega
    · go_wp2_with fail
      go_ret
      exact ⟨rfl, below_drewN _ _⟩
end Go.Proofs.YtjgagiigpijaiaaDoor
