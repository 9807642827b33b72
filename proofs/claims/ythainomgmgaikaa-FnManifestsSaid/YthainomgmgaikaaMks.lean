/- Like lists of interests, like texts; what the law FnManifests needs in plain lists. (by gen_mks.py) -/
import Derived.Test.YthainomgmgaikaaSpl
import Derived.Test.YthainomgmgaikaaDia
import Derived.Test.YthainomgmgaikaaStrs
import Derived.Laws.StructEq
namespace Go.Proofs.Ythainomgmgaikaa
open Go.ChangeShapes Go.WideShapes Go.ChangeAt Go.RowKit
set_option linter.unusedVariables false

theorem big_p (A : Option Addr) (c : Nat) (bs : List Int) (w : World) (hm : bs.length ≤ maxLen) :
    Calls Try.prog 11 #[.slice A bs.length c] w fun e w' => e = .returned (.bool (decide (4096 < bs.length))) ∧ w = w' := by
  have hm2 : bs.length ≤ 9223372036854775807 := by unfold maxLen at hm; omega
  have E : Hid (decide (4096 < (bs.length : Int)) = decide (4096 < bs.length)) := Lib.hid (by rw [decide_eq_decide]; omega)
  go_enter Try.func11, Try.ntmps11
  go_wp2_with fail
  go_ret
  exact ⟨by rw [← E.out] <;> rfl, rfl⟩
theorem neq_ist (W : World) (p : Ist) : (binOp .neq 46 (.agg #[.string ⟨p.c.toArray⟩, .int .i64 p.k, .string ⟨p.o.toArray⟩, .int .i64 p.v, .int .i64 p.a]) (.agg #[.string ⟨p.c.toArray⟩, .int .i64 p.k, .string ⟨p.o.toArray⟩, .int .i64 p.v, .int .i64 p.a])).run Try.prog W = .ok (.bool false) W := by
  have h : (Op.equalIn (9999 + 1) 46 (.agg #[.string ⟨p.c.toArray⟩, .int .i64 p.k, .string ⟨p.o.toArray⟩, .int .i64 p.v, .int .i64 p.a]) (.agg #[.string ⟨p.c.toArray⟩, .int .i64 p.k, .string ⟨p.o.toArray⟩, .int .i64 p.v, .int .i64 p.a])).run Try.prog W = .ok true W := by
    rw [run_equalIn_agg W 9999 46 _ _ (by kernel_rfl) (by kernel_rfl)]
    obtain ⟨k, hk⟩ : ∃ k, 9999 = k + 1 := ⟨9998, rfl⟩
    rw [hk]
    simp only [Program.fieldsOf, Try.underlying46]
    have H := fun (x y : Int) => run_equalIn_int (P := Try.prog) W k 2 .i64 .i64 x y Try.underlying2
    have HS := fun (x y : ByteArray) => run_equalIn_string (P := Try.prog) W k 9 x y Try.underlying9
    clear hk
    simp [Op.eqFields, go_sem, part, H, HS]
  rw [run_neq_struct]
  exact (congrArg (fun r => Result.andThen r _) h).trans rfl
set_option maxHeartbeats 1000000 in
theorem likeI (A B : Option Addr) (n m c d : Nat) (ps : List Ist) (w : World) (hx : IstR w A ps) (hy : IstR w B ps) (hn1 : ps.length = n) (hm1 : ps.length = m) (hn : n ≤ 1000000000) :
    Calls Try.prog 26 #[.slice A n c, .slice B m d] w fun e w' => e = .returned (.bool true) ∧ Below w.heap.size w w' := by
  subst hn1 hm1
  have hl1 : ((ps.length : Int) != ps.length) = false := by simp
  go_enter Try.func26, Try.ntmps26
  go_wp2_with fail
  go_loopw [5] (fun i wr => ∃ k : Nat, k ≤ ps.length ∧ i = .int .i64 k ∧ ∃ n, wr = w.drewN n) (fun i _ => ps.length - (intOf i).toNat)
  case atStart => exact ⟨0, Nat.zero_le _, rfl, 0, rfl⟩
  case round =>
    obtain ⟨k, hk, rfl, n, rfl⟩ := hrel
    by_cases hlt : k < ps.length
    · obtain ⟨b, off, r, rfl, hbl, hrk, hc⟩ := hx.at hlt
      obtain ⟨b2, off2, r2, rfl, hbl2, hrk2, hc2⟩ := hy.at hlt
      have : r = r2 := by have := hrk.out.symm.trans hrk2.out; simpa using this
      subst this
      obtain ⟨c0, c1, c2, c3, c4⟩ := hc
      obtain ⟨d0, d1, d2, d3, d4⟩ := hc2
      have N := fun W => neq_ist W r
      clear hx hy hl1
      go_wp2_with fail
      go_quiet (fail)
      go_wp2_with fail
      go_roundw
      case rel => exact ⟨k + 1, by omega, by go_num, _, rfl⟩
      case measure => simp [intOf]; omega
    · go_wp2_with fail
      go_ret
      exact ⟨rfl, below_drewN _ _⟩
set_option maxHeartbeats 1000000 in
theorem likeT (A B : Option Addr) (n m c d : Nat) (ws : List (List UInt8)) (w : World) (hx : Sr w A ws) (hy : Sr w B ws) (hn : ws.length = n) (hm : ws.length = m) (hb : n ≤ 1000000000) :
    Calls Try.prog 27 #[.slice A n c, .slice B m d] w fun e w' => e = .returned (.bool true) ∧ Below w.heap.size w w' := by
  subst hn hm
  have hl1 : ((ws.length : Int) != ws.length) = false := by simp
  go_enter Try.func27, Try.ntmps27
  go_wp2_with fail
  go_loopw [5] (fun i wr => ∃ k : Nat, k ≤ ws.length ∧ i = .int .i64 k ∧ ∃ n, wr = w.drewN n) (fun i _ => ws.length - (intOf i).toNat)
  case atStart => exact ⟨0, Nat.zero_le _, rfl, 0, rfl⟩
  case round =>
    obtain ⟨k, hk, rfl, n, rfl⟩ := hrel
    by_cases hlt : k < ws.length
    · obtain ⟨b, off, r, rfl, hbl, hc, hrk⟩ := hx.at hlt
      obtain ⟨b2, off2, r2, rfl, hbl2, hc2, hrk2⟩ := hy.at hlt
      have : r = r2 := by have := hrk.out.symm.trans hrk2.out; simpa using this
      subst this
      clear hx hy hl1
      go_wp2_with fail
      go_quiet (fail)
      go_wp2_with fail
      go_roundw
      case rel => exact ⟨k + 1, by omega, by go_num, _, rfl⟩
      case measure => simp [intOf]; omega
    · go_wp2_with fail
      go_ret
      exact ⟨rfl, below_drewN _ _⟩
theorem man_way (ps : List Ist) : ∃ (n tc : Int) (os : List (List UInt8)), totR ps = (n, tc) ∧ ownR ps = (os, tc) ∧ manB ps = (tc == 0) ∧ os.length ≤ ps.length ∧ (tc = 0 → manB ps = true ∧ os = ownU (ps.map Ist.o)) := by
  rcases Bool.eq_false_or_eq_true (manB ps) with h | h
  · exact ⟨_, 0, _, totR_ok h, ownR_ok h, h, Nat.le_trans (ownU_len _) (by simp), fun _ => ⟨h, rfl⟩⟩
  · exact ⟨_, 1, _, totR_no h, ownR_no h, h, Nat.zero_le _, fun e => by cases e⟩
theorem man_sz {ps : List Ist} (h : manB ps = true) : ∀ p ∈ ps, p.sz ≤ 1048576 := fun p hp => by
  have h1 := iok ((ord_iffM.1 (manB_iff.1 h).2.1).1 p hp)
  have h2 := (pcode_iff.1 h1.1).1.2
  have h3 := (pcode_iff.1 h1.2.1).1.2
  unfold Ist.sz; omega
theorem cntU_pos {l : List (List UInt8)} {o : List UInt8} (h : o ∈ l) : 0 < cntU l o := by
  unfold cntU
  exact List.length_pos_of_mem (List.mem_filter.2 ⟨h, by simp⟩)
theorem cntU_le (l : List (List UInt8)) (o : List UInt8) : cntU l o ≤ l.length := List.length_filter_le _ _
/-- A round of the owners. -/
theorem own_round {ps : List Ist} {o : List UInt8} {k : Nat} (h : manB ps = true) (ho : (ownU (ps.map Ist.o))[k]? = some o) :
    ∃ ds : List (List UInt8), codR ps o = (ds, 0) ∧ 0 < ds.length ∧ ds.length ≤ 10 ∧ (((ownU (ps.map Ist.o)).take (k + 1)).map (cntU (ps.map Ist.o))).sum = (((ownU (ps.map Ist.o)).take k).map (cntU (ps.map Ist.o))).sum + ds.length := by
  refine ⟨_, codR_ok h, ?_, ?_, ?_⟩
  · rw [cod_cnt]; exact cntU_pos ((ownU_mem _ _).1 (List.mem_of_getElem? ho))
  · rw [cod_cnt]; have := cntU_le (ps.map Ist.o) o; have := (manB_iff.1 h).1; rw [List.length_map] at *; omega
  · rw [cod_cnt, snoc_of ho]; simp
theorem own_end {ps : List Ist} {k : Nat} (hk : k ≤ (ownU (ps.map Ist.o)).length) (h : ¬ k < (ownU (ps.map Ist.o)).length) : (((ownU (ps.map Ist.o)).take k).map (cntU (ps.map Ist.o))).sum = ps.length := by
  rw [take_all hk h, sum_cnt (ownU_strict _) _ (fun x hx => (ownU_mem _ _).2 hx), List.length_map]
end Go.Proofs.Ythainomgmgaikaa
