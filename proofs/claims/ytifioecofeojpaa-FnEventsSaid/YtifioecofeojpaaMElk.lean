import Derived.Test.YtifioecofeojpaaMEvl
import Derived.Test.YtifioecofeojpaaInts
import Derived.Laws.StructEq
import Derived.Test.YtifioecofeojpaaEdw
import Derived.Test.YtifioecofeojpaaEvq
/- big; equal events; like lists of events and of numbers; a sum. -/
namespace Go.Proofs.Ytifioecofeojpaa
open Go.ChangeShapes Go.WideShapes Go.ChangeAt Go.RowKit
set_option linter.unusedVariables false

theorem big_pE (A : Option Addr) (c : Nat) (bs : List Int) (w : World) (hm : bs.length ≤ maxLen) :
    Calls Try.prog 11 #[.slice A bs.length c] w fun e w' => e = .returned (.bool (decide (4096 < bs.length))) ∧ w = w' := by
  have hm2 : bs.length ≤ 9223372036854775807 := by unfold maxLen at hm; omega
  have E : Hid (decide (4096 < (bs.length : Int)) = decide (4096 < bs.length)) := Lib.hid (by rw [decide_eq_decide]; omega)
  go_enter Try.func11, Try.ntmps11
  go_wp2_with fail
  go_ret
  exact ⟨by rw [← E.out] <;> rfl, rfl⟩
/-- Both events are the same in all fields. -/
def evB (p q : Evt) : Bool := p.d == q.d && (p.k == q.k && (p.c == q.c && (p.a == q.a && (p.p == q.p && (p.v == q.v && p.r == q.r)))))
theorem evB_same (p : Evt) : evB p p = true := by simp [evB]
theorem toList_mkE (s : List UInt8) : (⟨s.toArray⟩ : ByteArray).toList = s := by simp [ByteArray.toList_eq]
theorem eqIn_evt (W : World) (p q : Evt) : (Op.equalIn 10000 26 (.agg #[.int .i64 p.d, .int .i64 p.k, .string ⟨p.c.toArray⟩, .int .i64 p.a, .bool p.p, .bool p.v, .bool p.r]) (.agg #[.int .i64 q.d, .int .i64 q.k, .string ⟨q.c.toArray⟩, .int .i64 q.a, .bool q.p, .bool q.v, .bool q.r])).run Try.prog W = .ok (evB p q) W := by
  show (Op.equalIn (9999 + 1) 26 _ _).run Try.prog W = _
  rw [run_equalIn_agg W 9999 26 _ _ (by kernel_rfl) (by kernel_rfl)]
  obtain ⟨k, hk⟩ : ∃ k, 9999 = k + 1 := ⟨9998, rfl⟩
  rw [hk]
  simp only [Program.fieldsOf, Try.underlying26]
  have H := fun (x y : Int) => run_equalIn_int (P := Try.prog) W k 2 .i64 .i64 x y Try.underlying2
  have HS : ∀ (x y : List UInt8), (Op.equalIn (k + 1) 9 (.string ⟨x.toArray⟩) (.string ⟨y.toArray⟩)).run Try.prog W = .ok (x == y) W := fun x y => by
    have h := run_equalIn_string (P := Try.prog) W k 9 ⟨x.toArray⟩ ⟨y.toArray⟩ Try.underlying9
    rw [h]
    simp [toList_mkE, beq_toListBytes]
  have HBo := fun (x y : Bool) => run_equalIn_bool (P := Try.prog) W k 4 x y Try.underlying4
  clear hk
  unfold evB
  by_cases h1 : p.d = q.d
  · simp [Op.eqFields, go_sem, part, H, HS, HBo, h1]
    repeat' split
    all_goals simp_all
  · simp [Op.eqFields, go_sem, part, H, HS, HBo, h1]
theorem eql_evt (W : World) (p q : Evt) : (binOp .eql 26 (.agg #[.int .i64 p.d, .int .i64 p.k, .string ⟨p.c.toArray⟩, .int .i64 p.a, .bool p.p, .bool p.v, .bool p.r]) (.agg #[.int .i64 q.d, .int .i64 q.k, .string ⟨q.c.toArray⟩, .int .i64 q.a, .bool q.p, .bool q.v, .bool q.r])).run Try.prog W = .ok (.bool (evB p q)) W := by
  rw [run_eql_struct]
  exact (congrArg (fun r => Result.andThen r _) (eqIn_evt W p q)).trans rfl
theorem neq_evtE (W : World) (p q : Evt) : (binOp .neq 26 (.agg #[.int .i64 p.d, .int .i64 p.k, .string ⟨p.c.toArray⟩, .int .i64 p.a, .bool p.p, .bool p.v, .bool p.r]) (.agg #[.int .i64 q.d, .int .i64 q.k, .string ⟨q.c.toArray⟩, .int .i64 q.a, .bool q.p, .bool q.v, .bool q.r])).run Try.prog W = .ok (.bool (!evB p q)) W := by
  rw [run_neq_struct]
  exact (congrArg (fun r => Result.andThen r _) (eqIn_evt W p q)).trans rfl
theorem neq_sameE (W : World) (p : Evt) : (binOp .neq 26 (.agg #[.int .i64 p.d, .int .i64 p.k, .string ⟨p.c.toArray⟩, .int .i64 p.a, .bool p.p, .bool p.v, .bool p.r]) (.agg #[.int .i64 p.d, .int .i64 p.k, .string ⟨p.c.toArray⟩, .int .i64 p.a, .bool p.p, .bool p.v, .bool p.r])).run Try.prog W = .ok (.bool false) W := by
  rw [neq_evtE, evB_same]; rfl
set_option maxHeartbeats 1000000 in
theorem likeE (A B : Option Addr) (c d : Nat) (ps : List Evt) (w : World) (hx : EvtR w A ps) (hy : EvtR w B ps) (hn : ps.length ≤ 1000000000) :
    Calls Try.prog 27 #[.slice A ps.length c, .slice B ps.length d] w fun e w' => e = .returned (.bool true) ∧ Below w.heap.size w w' := by
  have hl1 : ((ps.length : Int) != ps.length) = false := by simp
  go_enter Try.func27, Try.ntmps27
  go_wp2_with fail
  go_loopw [5] (fun i wr => ∃ k : Nat, k ≤ ps.length ∧ i = .int .i64 k ∧ ∃ n, wr = w.drewN n) (fun i _ => ps.length - (intOf i).toNat)
  case atStart => exact ⟨0, Nat.zero_le _, rfl, 0, rfl⟩
  case round =>
    obtain ⟨k, hk, rfl, n, rfl⟩ := hrel
    by_cases hlt : k < ps.length
    · obtain ⟨b, off, r, rfl, hbl, hrk, hc⟩ := hx.at hlt
      obtain ⟨b2, off2, r2, rfl, hbl2, hrk2, hc2⟩ := hy.at hlt
      have : r = r2 := by have := hrk.out.symm.trans hrk2.out; simpa using this
      subst this
      obtain ⟨c0, c1, c2, c3, c4, c5, c6⟩ := hc
      obtain ⟨d0, d1, d2, d3, d4, d5, d6⟩ := hc2
      have N := fun W => neq_sameE W r
      clear hx hy hl1
      go_wp2_with fail
      go_quiet (fail)
      go_wp2_with fail
      go_roundw
      case rel => exact ⟨k + 1, by omega, by go_num, _, rfl⟩
      case measure => simp [intOf]; omega
    · go_wp2_with fail
      go_ret
      exact ⟨rfl, below_drewN _ _⟩
theorem likeIE (A B : Option Addr) (c d : Nat) (xs : List Int) (w : World) (hx : Ir w A xs) (hy : Ir w B xs) (hb : xs.length ≤ 1000000000) :
    Calls Try.prog 28 #[.slice A xs.length c, .slice B xs.length d] w fun e w' => e = .returned (.bool true) ∧ Below w.heap.size w w' := by
  have hl1 : ((xs.length : Int) != xs.length) = false := by simp
  go_enter Try.func28, Try.ntmps28
  go_wp2_with fail
  go_loopw [5] (fun i wr => ∃ k : Nat, k ≤ xs.length ∧ i = .int .i64 k ∧ ∃ n, wr = w.drewN n) (fun i _ => xs.length - (intOf i).toNat)
  case atStart => exact ⟨0, Nat.zero_le _, rfl, 0, rfl⟩
  case round =>
    obtain ⟨k, hk, rfl, n, rfl⟩ := hrel
    by_cases hlt : k < xs.length
    · obtain ⟨b, off, x, rfl, hc, hxk⟩ := hx.at hlt
      obtain ⟨b2, off2, y, rfl, hc2, hyk⟩ := hy.at hlt
      have : x = y := by have := hxk.out.symm.trans hyk.out; simpa using this
      subst this
      clear hx hy hl1
      go_wp2_with fail
      go_quiet (fail)
      go_wp2_with fail
      go_roundw
      case rel => exact ⟨k + 1, by omega, by go_num, _, rfl⟩
      case measure => simp [intOf]; omega
    · go_wp2_with fail
      go_ret
      exact ⟨rfl, below_drewN _ _⟩
theorem sumE (A : Option Addr) (c : Nat) (xs : List Int) (w : World) (hx : Ir w A xs) (ha : ∀ k, 0 ≤ isum (xs.take k) ∧ isum (xs.take k) ≤ 1000000000000) (hn : xs.length ≤ 1048576) :
    Calls Try.prog 30 #[.slice A xs.length c] w fun e w' => e = .returned (.int .i64 (isum xs)) ∧ w = w' := by
  have HA := Lib.hid ha; clear ha
  go_enter Try.func30, Try.ntmps30
  go_wp2_with fail
  go_loop [3, 4] (fun s i => ∃ (k : Nat) (t : Int), k ≤ xs.length ∧ i = .int .i64 k ∧ s = .int .i64 t ∧ Hid (isum (xs.take k) = t)) (fun _ i => xs.length - (intOf i).toNat)
  case atStart => exact ⟨0, 0, Nat.zero_le _, rfl, rfl, Lib.hid rfl⟩
  case round =>
    obtain ⟨k, t, hk, rfl, rfl, ht⟩ := hrel
    by_cases hlt : k < xs.length
    · obtain ⟨b, off, x, rfl, hc, hxk⟩ := hx.at hlt
      have HT : Hid (isum (xs.take (k + 1)) = t + x) := Lib.hid (by rw [snoc_of hxk.out, isum_snoc, ht.out])
      obtain ⟨hb0, hb1⟩ : 0 ≤ t + x ∧ t + x ≤ 1000000000000 := by have := HA.out (k + 1); rwa [HT.out] at this
      clear ht hx
      go_wp2_with fail
      go_round
      case rel => exact ⟨k + 1, t + x, by omega, by go_num, rfl, HT⟩
      case measure => simp [intOf]; omega
    · have HT : Hid (isum xs = t) := Lib.hid (by have := ht.out; rwa [take_all hk hlt] at this)
      clear ht
      go_wp2_with fail
      go_ret
      exact ⟨by rw [HT.out] <;> rfl, rfl⟩
end Go.Proofs.Ytifioecofeojpaa

/- What FnEvents needs in plain lists: sums by kind, logs with a further event. -/
namespace Go.Proofs.Ytifioecofeojpaa
set_option linter.unusedVariables false

theorem tot_sum {rs : List Evt} (h : logB rs = true) : ∀ k, k ≤ rs.length → isum (totL (rs.take k)) = isum ((rs.take k).map Evt.a)
  | 0, _ => by simp [totL, totE, isum]
  | k + 1, hk => by
    have ih := tot_sum h k (by omega)
    obtain ⟨r, hr⟩ : ∃ r, rs[k]? = some r := ⟨_, List.getElem?_eq_getElem (by omega)⟩
    have hkk := (eok (log_ok h hr)).2.1
    rw [snoc_of hr, List.map_append, isum_app]
    generalize isum ((rs.take k).map Evt.a) = S at ih ⊢
    simp only [totL, isum, totE_snoc, List.map_cons, List.map_nil] at ih ⊢
    rcases (by omega : r.k = 0 ∨ r.k = 1 ∨ r.k = 2 ∨ r.k = 3 ∨ r.k = 4 ∨ r.k = 5 ∨ r.k = 6) with e | e | e | e | e | e | e <;> simp [e] <;> omega
theorem tot_all {rs : List Evt} (h : logB rs = true) : isum (totL rs) = isum (rs.map Evt.a) := by
  have := tot_sum h rs.length (Nat.le_refl _)
  rwa [List.take_of_length_le (Nat.le_refl _)] at this
theorem sums_bd {rs : List Evt} (h : logB rs = true) (k : Nat) : 0 ≤ isum ((rs.take k).map Evt.a) ∧ isum ((rs.take k).map Evt.a) ≤ 15000000000 := by
  have h15 := (log_iff.1 h).2
  have H : ∀ l : List Evt, (∀ r ∈ l, r.ok = true) → 0 ≤ isum (l.map Evt.a) ∧ isum (l.map Evt.a) ≤ l.length * 1000000000 := by
    intro l
    induction l with
    | nil => intro _; simp [isum]
    | cons r l ih =>
      intro hl
      have h1 := ih (fun q hq => hl q (List.mem_cons_of_mem _ hq))
      have h2 := (eok (hl r (List.mem_cons_self ..))).2.2.2
      rw [List.map_cons, isum, List.length_cons]; omega
  have h3 := H (rs.take k) (fun r hr => by
    obtain ⟨i, hi⟩ := List.getElem?_of_mem (List.mem_of_mem_take hr)
    exact log_ok h hi)
  have h4 : (rs.take k).length ≤ 15 := by rw [List.length_take]; omega
  omega
theorem tot_take {rs : List Evt} (h : logB rs = true) (k : Nat) : 0 ≤ isum ((totL rs).take k) ∧ isum ((totL rs).take k) ≤ 1000000000000 := by
  have H := fun j => tot_bd h rs.length j
  rw [List.take_of_length_le (Nat.le_refl _)] at H
  have h0 := H 0; have h1 := H 1; have h2 := H 2; have h3 := H 3; have h4 := H 4; have h5 := H 5; have h6 := H 6
  unfold totL
  match k with
  | 0 => simp [isum]
  | 1 => simp [isum]; omega
  | 2 => simp [isum]; omega
  | 3 => simp [isum]; omega
  | 4 => simp [isum]; omega
  | 5 => simp [isum]; omega
  | 6 => simp [isum]; omega
  | k + 7 => simp [isum]; omega
theorem tbk_code (rs : List Evt) : logB rs = ((tbkR rs).2 == 0) := by
  rcases Bool.eq_false_or_eq_true (logB rs) with h | h
  · rw [tbkR_ok h, h]; rfl
  · rw [tbkR_no h, h]; rfl
theorem tbk_zero {rs : List Evt} (h : (tbkR rs).2 = 0) : logB rs = true ∧ (tbkR rs).1 = totL rs := by
  rcases Bool.eq_false_or_eq_true (logB rs) with g | g
  · rw [tbkR_ok g]; exact ⟨g, rfl⟩
  · rw [tbkR_no g] at h; cases h
theorem addR_zero {ps : List Evt} {x : Evt} (h : (addR ps x).2 = 0) : logB ps = true ∧ x.ok = true ∧ ps.length ≠ 15 ∧ (addR ps x).1 = addE ps x := by
  unfold addR at h ⊢
  split at h
  · rename_i hc
    split at h
    · simp at h
    · rename_i h15
      rw [if_pos hc, if_neg h15]; exact ⟨hc.1, hc.2, h15, rfl⟩
  · simp at h
theorem addE_lo (ps : List Evt) (x : Evt) {i : Nat} (h : i < plcE ps x.d) : (addE ps x)[i]? = ps[i]? := by
  have := plc_leE ps x.d
  unfold addE
  rw [List.getElem?_append_left (by rw [List.length_take]; omega), List.getElem?_take_of_lt h]
theorem addE_mid (ps : List Evt) (x : Evt) : (addE ps x)[plcE ps x.d]? = some x := by
  have := plc_leE ps x.d
  unfold addE
  rw [List.getElem?_append_right (by rw [List.length_take]; omega), List.length_take, Nat.min_eq_left this]; simp
theorem addE_hi (ps : List Evt) (x : Evt) {k : Nat} (h : plcE ps x.d ≤ k) : (addE ps x)[k + 1]? = ps[k]? := by
  have := plc_leE ps x.d
  unfold addE
  rw [List.getElem?_append_right (by rw [List.length_take]; omega), List.length_take, Nat.min_eq_left this, show k + 1 - plcE ps x.d = (k - plcE ps x.d) + 1 by omega, List.getElem?_cons_succ, List.getElem?_drop, show plcE ps x.d + (k - plcE ps x.d) = k by omega]
theorem addE_log {ps : List Evt} {x : Evt} (h : logB ps = true) (hx : x.ok = true) (h15 : ps.length ≠ 15) : logB (addE ps x) = true := by
  have hl := (log_iff.1 h).2
  refine log_iff.2 ⟨lTo_iff.2 ⟨fun k r hr => ?_, fun k q r hq hr => ?_⟩, by rw [addE_len]; omega⟩
  · rcases Nat.lt_trichotomy k (plcE ps x.d) with g | g | g
    · rw [addE_lo ps x g] at hr; exact log_ok h hr
    · rw [g, addE_mid] at hr; obtain rfl := Option.some.inj hr; exact hx
    · obtain ⟨j, rfl⟩ : ∃ j, k = j + 1 := ⟨k - 1, by omega⟩
      rw [addE_hi ps x (by omega)] at hr; exact log_ok h hr
  · rcases Nat.lt_trichotomy k (plcE ps x.d) with g | g | g
    · rw [addE_lo ps x g] at hq
      rcases Nat.lt_or_ge (k + 1) (plcE ps x.d) with g2 | g2
      · rw [addE_lo ps x g2] at hr; exact log_le h hq hr
      · have e : k + 1 = plcE ps x.d := by omega
        rw [e, addE_mid] at hr; obtain rfl := Option.some.inj hr
        exact plc_lessE g hq
    · rw [g, addE_mid] at hq; obtain rfl := Option.some.inj hq
      rw [addE_hi ps x (by omega), g] at hr
      exact Int.le_of_lt (plc_atE hr)
    · obtain ⟨j, rfl⟩ : ∃ j, k = j + 1 := ⟨k - 1, by omega⟩
      rw [addE_hi ps x (by omega)] at hq
      rw [addE_hi ps x (by omega)] at hr
      exact log_le h hq hr
/-- An event that was added, as the law looks at it. -/
structure Added (ps L : List Evt) (x : Evt) (P : Nat) : Prop where
  len : L.length = ps.length + 1
  le : P ≤ ps.length
  short : ps.length ≤ 15
  lo : ∀ i : Nat, i < P → L[i]? = ps[i]?
  mid : L[P]? = some x
  hi : ∀ k : Nat, P ≤ k → L[k + 1]? = ps[k]?
  before : ∀ (i : Nat) (q : Evt), i < P → ps[i]? = some q → q.d ≤ x.d
  after : ∀ q : Evt, ps[P]? = some q → x.d < q.d
  log : logB L = true
theorem added_of {ps : List Evt} {x : Evt} (h : (addR ps x).2 = 0) : ∃ P, Added ps (addR ps x).1 x P := by
  obtain ⟨h1, h2, h3, h4⟩ := addR_zero h
  rw [h4]
  exact ⟨plcE ps x.d, addE_len ps x, plc_leE ps x.d, (log_iff.1 h1).2, fun i hi => addE_lo ps x hi, addE_mid ps x, fun k hk => addE_hi ps x hk, fun i q hi hq => plc_lessE hi hq, fun q hq => plc_atE hq, addE_log h1 h2 h3⟩
end Go.Proofs.Ytifioecofeojpaa

