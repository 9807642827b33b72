import Derived.Test.YtjcklmhgjdmjoaaEvl
import Derived.Test.YtjcklmhgjdmjoaaEvm
import Derived.Test.YtjcklmhgjdmjoaaInts
import Derived.Laws.StructEq
import Derived.Test.YtjcklmhgjdmjoaaDcnf
import Derived.Test.YtjcklmhgjdmjoaaCun
import Derived.Test.YtjcklmhgjdmjoaaLgc
/- big; equal events; like lists of events and of numbers; a sum. -/
namespace Go.Proofs.Ytjcklmhgjdmjoaa
open Go.ChangeShapes Go.WideShapes Go.ChangeAt Go.RowKit
set_option linter.unusedVariables false

theorem big_pE (A : Option Addr) (c : Nat) (bs : List Int) (w : World) (hm : bs.length ≤ maxLen) :
    Calls Try.prog 13 #[.slice A bs.length c] w fun e w' => e = .returned (.bool (decide (4096 < bs.length))) ∧ w = w' := by
  have hm2 : bs.length ≤ 9223372036854775807 := by unfold maxLen at hm; omega
  have E : Hid (decide (4096 < (bs.length : Int)) = decide (4096 < bs.length)) := Lib.hid (by rw [decide_eq_decide]; omega)
  go_enter Try.func13, Try.ntmps13
  go_wp2_with fail
  go_ret
  exact ⟨by rw [← E.out] <;> rfl, rfl⟩
/-- Both events are the same in all fields. -/
def evB (p q : Evt) : Bool := p.d == q.d && (p.k == q.k && (p.c == q.c && (p.a == q.a && (p.p == q.p && (p.v == q.v && p.r == q.r)))))
theorem evB_same (p : Evt) : evB p p = true := by simp [evB]
theorem toList_mkE (s : List UInt8) : (⟨s.toArray⟩ : ByteArray).toList = s := by simp [ByteArray.toList_eq]
theorem eqIn_evt (W : World) (p q : Evt) : (Op.equalIn 10000 26 (.agg #[.int .i64 p.d, .int .i64 p.k, .string ⟨p.c.toArray⟩, .int .i64 p.a, .bool p.p, .bool p.v, .bool p.r]) (.agg #[.int .i64 q.d, .int .i64 q.k, .string ⟨q.c.toArray⟩, .int .i64 q.a, .bool q.p, .bool q.v, .bool q.r])).run Try.prog W = .ok (evB p q) W := by
  show (Op.equalIn (9999 + 1) 26 _ _).run Try.prog W = _
  rw [run_equalIn_agg W 9999 26 _ _ (by kernel_rfl) (by kernel_rfl)]
  obtain ⟨k, hk⟩ : ∃ k, 9999 = k + 1 := ⟨9998, rfl⟩
  rw [hk]
  simp only [Program.fieldsOf, Try.underlying26]
  have H := fun (x y : Int) => run_equalIn_int (P := Try.prog) W k 2 .i64 .i64 x y Try.underlying2
  have HS : ∀ (x y : List UInt8), (Op.equalIn (k + 1) 9 (.string ⟨x.toArray⟩) (.string ⟨y.toArray⟩)).run Try.prog W = .ok (x == y) W := fun x y => by
    have h := run_equalIn_string (P := Try.prog) W k 9 ⟨x.toArray⟩ ⟨y.toArray⟩ Try.underlying9
    rw [h]
    simp [toList_mkE, beq_toListBytes]
  have HBo := fun (x y : Bool) => run_equalIn_bool (P := Try.prog) W k 4 x y Try.underlying4
  clear hk
  unfold evB
  by_cases h1 : p.d = q.d
  · simp [Op.eqFields, go_sem, part, H, HS, HBo, h1]
    repeat' split
    all_goals simp_all
  · simp [Op.eqFields, go_sem, part, H, HS, HBo, h1]
theorem eql_evt (W : World) (p q : Evt) : (binOp .eql 26 (.agg #[.int .i64 p.d, .int .i64 p.k, .string ⟨p.c.toArray⟩, .int .i64 p.a, .bool p.p, .bool p.v, .bool p.r]) (.agg #[.int .i64 q.d, .int .i64 q.k, .string ⟨q.c.toArray⟩, .int .i64 q.a, .bool q.p, .bool q.v, .bool q.r])).run Try.prog W = .ok (.bool (evB p q)) W := by
  rw [run_eql_struct]
  exact (congrArg (fun r => Result.andThen r _) (eqIn_evt W p q)).trans rfl
theorem neq_evtE (W : World) (p q : Evt) : (binOp .neq 26 (.agg #[.int .i64 p.d, .int .i64 p.k, .string ⟨p.c.toArray⟩, .int .i64 p.a, .bool p.p, .bool p.v, .bool p.r]) (.agg #[.int .i64 q.d, .int .i64 q.k, .string ⟨q.c.toArray⟩, .int .i64 q.a, .bool q.p, .bool q.v, .bool q.r])).run Try.prog W = .ok (.bool (!evB p q)) W := by
  rw [run_neq_struct]
  exact (congrArg (fun r => Result.andThen r _) (eqIn_evt W p q)).trans rfl
theorem neq_sameE (W : World) (p : Evt) : (binOp .neq 26 (.agg #[.int .i64 p.d, .int .i64 p.k, .string ⟨p.c.toArray⟩, .int .i64 p.a, .bool p.p, .bool p.v, .bool p.r]) (.agg #[.int .i64 p.d, .int .i64 p.k, .string ⟨p.c.toArray⟩, .int .i64 p.a, .bool p.p, .bool p.v, .bool p.r])).run Try.prog W = .ok (.bool false) W := by
  rw [neq_evtE, evB_same]; rfl
theorem likeIE (A B : Option Addr) (c d : Nat) (xs : List Int) (w : World) (hx : Ir w A xs) (hy : Ir w B xs) (hb : xs.length ≤ 1000000000) :
    Calls Try.prog 31 #[.slice A xs.length c, .slice B xs.length d] w fun e w' => e = .returned (.bool true) ∧ Below w.heap.size w w' := by
  have hl1 : ((xs.length : Int) != xs.length) = false := by simp
  go_enter Try.func31, Try.ntmps31
  go_wp2_with fail
  go_loopw [5] (fun i wr => ∃ k : Nat, k ≤ xs.length ∧ i = .int .i64 k ∧ ∃ n, wr = w.drewN n) (fun i _ => xs.length - (intOf i).toNat)
  case atStart => exact ⟨0, Nat.zero_le _, rfl, 0, rfl⟩
  case round =>
    obtain ⟨k, hk, rfl, n, rfl⟩ := hrel
    by_cases hlt : k < xs.length
    · obtain ⟨b, off, x, rfl, hc, hxk⟩ := hx.at hlt
      obtain ⟨b2, off2, y, rfl, hc2, hyk⟩ := hy.at hlt
      have : x = y := by have := hxk.out.symm.trans hyk.out; simpa using this
      subst this
      clear hx hy hl1
      go_wp2_with fail
      go_quiet (fail)
      go_wp2_with fail
      go_roundw
      case rel => exact ⟨k + 1, by omega, by go_num, _, rfl⟩
      case measure => simp [intOf]; omega
    · go_wp2_with fail
      go_ret
      exact ⟨rfl, below_drewN _ _⟩
theorem sumE (A : Option Addr) (c : Nat) (xs : List Int) (w : World) (hx : Ir w A xs) (ha : ∀ k, 0 ≤ isum (xs.take k) ∧ isum (xs.take k) ≤ 1000000000000) (hn : xs.length ≤ 1048576) :
    Calls Try.prog 32 #[.slice A xs.length c] w fun e w' => e = .returned (.int .i64 (isum xs)) ∧ w = w' := by
  have HA := Lib.hid ha; clear ha
  go_enter Try.func32, Try.ntmps32
  go_wp2_with fail
  go_loop [3, 4] (fun s i => ∃ (k : Nat) (t : Int), k ≤ xs.length ∧ i = .int .i64 k ∧ s = .int .i64 t ∧ Hid (isum (xs.take k) = t)) (fun _ i => xs.length - (intOf i).toNat)
  case atStart => exact ⟨0, 0, Nat.zero_le _, rfl, rfl, Lib.hid rfl⟩
  case round =>
    obtain ⟨k, t, hk, rfl, rfl, ht⟩ := hrel
    by_cases hlt : k < xs.length
    · obtain ⟨b, off, x, rfl, hc, hxk⟩ := hx.at hlt
      have HT : Hid (isum (xs.take (k + 1)) = t + x) := Lib.hid (by rw [snoc_of hxk.out, isum_snoc, ht.out])
      obtain ⟨hb0, hb1⟩ : 0 ≤ t + x ∧ t + x ≤ 1000000000000 := by have := HA.out (k + 1); rwa [HT.out] at this
      clear ht hx
      go_wp2_with fail
      go_round
      case rel => exact ⟨k + 1, t + x, by omega, by go_num, rfl, HT⟩
      case measure => simp [intOf]; omega
    · have HT : Hid (isum xs = t) := Lib.hid (by have := ht.out; rwa [take_all hk hlt] at this)
      clear ht
      go_wp2_with fail
      go_ret
      exact ⟨by rw [HT.out] <;> rfl, rfl⟩
end Go.Proofs.Ytjcklmhgjdmjoaa

/- Like decisions; what FnDecisions needs in plain lists. (by gen_dlk.py) -/
namespace Go.Proofs.Ytjcklmhgjdmjoaa
open Go.ChangeShapes Go.WideShapes Go.ChangeAt Go.RowKit
set_option linter.unusedVariables false

set_option maxHeartbeats 1000000 in
theorem likeT10 (A B : Option Addr) (n m c d : Nat) (ws : List (List UInt8)) (w : World) (hx : Sr w A ws) (hy : Sr w B ws) (hn : ws.length = n) (hm : ws.length = m) (hb : n ≤ 1000000000) :
    Calls Try.prog 86 #[.slice A n c, .slice B m d] w fun e w' => e = .returned (.bool true) ∧ Below w.heap.size w w' := by
  subst hn hm
  have hl1 : ((ws.length : Int) != ws.length) = false := by simp
  go_enter Try.func86, Try.ntmps86
  go_wp2_with fail
  go_loopw [5] (fun i wr => ∃ k : Nat, k ≤ ws.length ∧ i = .int .i64 k ∧ ∃ n, wr = w.drewN n) (fun i _ => ws.length - (intOf i).toNat)
  case atStart => exact ⟨0, Nat.zero_le _, rfl, 0, rfl⟩
  case round =>
    obtain ⟨k, hk, rfl, n, rfl⟩ := hrel
    by_cases hlt : k < ws.length
    · obtain ⟨b, off, r, rfl, hbl, hc, hrk⟩ := hx.at hlt
      obtain ⟨b2, off2, r2, rfl, hbl2, hc2, hrk2⟩ := hy.at hlt
      have : r = r2 := by have := hrk.out.symm.trans hrk2.out; simpa using this
      subst this
      clear hx hy hl1
      go_wp2_with fail
      go_quiet (fail)
      go_wp2_with fail
      go_roundw
      case rel => exact ⟨k + 1, by omega, by go_num, _, rfl⟩
      case measure => simp [intOf]; omega
    · go_wp2_with fail
      go_ret
      exact ⟨rfl, below_drewN _ _⟩
set_option maxHeartbeats 1000000 in
theorem likeD11 (y : Int) (A B : Option Addr) (n m c d : Nat) (cs : List (List UInt8)) (w : World) (hx : Sr w A cs) (hy : Sr w B cs) (hn1 : cs.length = n) (hm1 : cs.length = m) (hn : n ≤ 1000000000) :
    Calls Try.prog 29 #[.agg #[.int .i64 y, .slice A n c], .agg #[.int .i64 y, .slice B m d]] w (Gives w (.bool true)) := by
  have HC := Lib.hid (fun (W : World) (b : Below w.heap.size w W) => likeT10 A B n m c d cs W (hx.below b) (hy.below b) hn1 hm1 hn)
  have B2 : ∀ o p, Hid (Below w.heap.size w ((w.alloc o).alloc p)) := fun o p => Lib.hid (((Below.refl _ _).alloc (Nat.le_refl _) _).alloc (by simp) _)
  have d1 : (y == y) = true := by simp
  clear hx hy
  go_enter Try.func29, Try.ntmps29
  go_wp2_with (go_at_call 86; refine (HC.out _ (B2 _ _).out).mono ?_; rintro e w1 ⟨rfl, b1⟩)
  go_ret
  exact ⟨rfl, (B2 _ _).out.trans (b1.mono (B2 _ _).out.size)⟩
set_option maxHeartbeats 2000000 in
theorem likeDs11 (A B : Option Addr) (n m c d : Nat) (rs : List Dcn) (w : World) (hx : DcnR w A rs) (hy : DcnR w B rs) (hn1 : rs.length = n) (hm1 : rs.length = m) (hn : n ≤ 1000000000) (hcs : ∀ e ∈ rs, e.cs.length ≤ 1000000000) :
    Calls Try.prog 30 #[.slice A n c, .slice B m d] w (Gives w (.bool true)) := by
  subst hn1 hm1
  go_enter Try.func30, Try.ntmps30
  go_wp2_with fail
  go_loopw [5] (fun i wr => ∃ k : Nat, k ≤ rs.length ∧ i = .int .i64 k ∧ Below w.heap.size w wr) (fun i _ => rs.length - (intOf i).toNat)
  case atStart => exact ⟨0, Nat.zero_le _, rfl, Below.refl _ _⟩
  case round =>
    obtain ⟨k, hk, rfl, hb⟩ := hrel
    by_cases hlt : k < rs.length
    · obtain ⟨b, off, r, a, e1, rfl, hl, hr, u0, u1, hc1⟩ := (hx.below hb).at hlt
      obtain ⟨b', off', q, a', e2, rfl, hl', hq, v0, v1, hc2⟩ := (hy.below hb).at hlt
      obtain rfl : r = q := by have h1 := hr.out; have h2 := hq.out; rw [h1] at h2; exact Option.some.inj h2
      have q0 : ∀ z : Sub (Bel wr), z.w.cell? ⟨b, off + k * 2, none⟩ = some (.int .i64 r.y) := fun z => (Below.cell (show Below wr.heap.size wr z.w from z.h) (p := ⟨b, off + k * 2, none⟩) hl).trans u0
      have q1 : ∀ z : Sub (Bel wr), z.w.cell? ⟨b, off + k * 2 + 1, none⟩ = some (.slice a r.cs.length e1) := fun z => (Below.cell (show Below wr.heap.size wr z.w from z.h) (p := ⟨b, off + k * 2 + 1, none⟩) hl).trans u1
      have p0 : ∀ z : Sub (Bel wr), z.w.cell? ⟨b', off' + k * 2, none⟩ = some (.int .i64 r.y) := fun z => (Below.cell (show Below wr.heap.size wr z.w from z.h) (p := ⟨b', off' + k * 2, none⟩) hl').trans v0
      have p1 : ∀ z : Sub (Bel wr), z.w.cell? ⟨b', off' + k * 2 + 1, none⟩ = some (.slice a' r.cs.length e2) := fun z => (Below.cell (show Below wr.heap.size wr z.w from z.h) (p := ⟨b', off' + k * 2 + 1, none⟩) hl').trans v1
      have HB := Lib.hid (fun y : Sub (Bel wr) => (belowGo hb y.h : Below w.heap.size w y.w))
      have HE := Lib.hid (fun z : Sub (Bel wr) => (likeD11 r.y a a' r.cs.length r.cs.length e1 e2 r.cs z.w (hc1.below z.h) (hc2.below z.h) rfl rfl (hcs r (List.mem_of_getElem? hr.out))).mono fun e w' h => (⟨h.1, ⟨w', Bel.step z h.2⟩, rfl⟩ : e = .returned (.bool true) ∧ ∃ z : Sub (Bel wr), w' = z.w))
      clear hx hy hr hq u0 u1 v0 v1 hc1 hc2
      go_wp2_with fail
      refine region_held (Bel wr) (by kernel_rfl) (by kernel_rfl) (Bel.drew wr) ?_
      repeat (go_big_quiet_step ((first | rfl | (go_at_call 29; exact HE.out _))))
      refine wpQuiet_nil ?_
      rintro _ ⟨y, rfl⟩
      go_wp2_with fail
      go_roundw
      case rel => exact ⟨k + 1, by omega, by go_num, HB.out y⟩
      case measure => simp [intOf]; omega
    · clear hx hy
      go_wp2_with fail
      go_ret
      exact ⟨rfl, hb⟩

theorem isum_addAt : ∀ (t : List Int) (k : Nat) (a : Int), k < t.length → isum (addAt t k a) = isum t + a
  | [], k, a, h => by simp at h
  | x :: t, 0, a, h => by simp [addAt, isum]; omega
  | x :: t, k + 1, a, h => by
    have ih := isum_addAt t k a (by simpa using h)
    unfold addAt at ih ⊢
    simp only [List.set_cons_succ, List.getElem?_cons_succ, isum] at ih ⊢
    omega
theorem trfold_sum {ps : List Cls} (hr : RB ps) : ∀ (es : List Evt) (t : List Int), t.length = 3 → isum (es.foldl (fun t e => addAt t (resC ps e).toNat e.a) t) = isum t + isum (es.map Evt.a)
  | [], t, h => by simp [isum]
  | e :: es, t, h => by
    obtain ⟨k, hk, hk3⟩ := resC_bd hr e
    rw [List.foldl_cons, trfold_sum hr es _ (by rw [addAt_len]; exact h), isum_addAt _ _ _ (by rw [hk]; omega), List.map_cons, isum]; omega
theorem trL_sum {ps : List Cls} (hr : RB ps) (es : List Evt) : isum (trL ps es) = isum (es.map Evt.a) := by
  unfold trL; rw [trfold_sum hr es _ rfl]; simp [isum]
theorem ones_sum : ∀ (xs t : List Int), (∀ x ∈ xs, x.toNat < t.length) → isum (ones t xs) = isum t + (xs.length : Int)
  | [], t, h => by simp [ones]
  | x :: xs, t, h => by
    have h1 := isum_addAt t x.toNat 1 (h x (List.mem_cons_self ..))
    have h2 := ones_sum xs (addAt t x.toNat 1) (fun y hy => by rw [addAt_len]; exact h y (List.mem_cons_of_mem _ hy))
    show isum (ones (addAt t x.toNat 1) xs) = _
    rw [h2, h1, List.length_cons]; omega
theorem cufold_sum {ps : List Cls} (hr : RB ps) : ∀ (es : List Evt) (t : List Int), t.length = ps.length → isum (es.foldl (fun t e => ones t (chainL ps e)) t) = isum t + isum (es.map fun e => ((chainL ps e).length : Int))
  | [], t, h => by simp [isum]
  | e :: es, t, h => by
    rw [List.foldl_cons, cufold_sum hr es _ (by rw [ones_len]; exact h), ones_sum _ _ (fun x hx => by obtain ⟨j, h1, h2⟩ := chainL_bd hr hx; rw [h1]; omega), List.map_cons, isum]; omega
theorem isum_rep : ∀ n : Nat, isum (List.replicate n 0) = 0
  | 0 => rfl
  | n + 1 => by rw [List.replicate_succ, isum, isum_rep n]; rfl
theorem cuL_sum {ps : List Cls} (hr : RB ps) (es : List Evt) : isum (cuL ps es) = isum (es.map fun e => ((chainL ps e).length : Int)) := by
  unfold cuL; rw [cufold_sum hr es _ (by simp), isum_rep]; omega
theorem isum_bdM {M : Int} (hM : 0 ≤ M) : ∀ (xs : List Int), (∀ x ∈ xs, 0 ≤ x ∧ x ≤ M) → ∀ k, 0 ≤ isum (xs.take k) ∧ isum (xs.take k) ≤ M * (xs.length : Int)
  | [], h, k => by simp [isum]
  | x :: xs, h, 0 => by
    have : 0 ≤ M * (((x :: xs).length : Nat) : Int) := Int.mul_nonneg hM (by omega)
    simp only [List.take_zero, isum]; omega
  | x :: xs, h, k + 1 => by
    have h1 := isum_bdM hM xs (fun y hy => h y (List.mem_cons_of_mem _ hy)) k
    have h2 := h x (List.mem_cons_self ..)
    rw [List.take_succ_cons, isum, List.length_cons]
    have : M * ((xs.length + 1 : Nat) : Int) = M * (xs.length : Int) + M := by rw [Int.natCast_add, Int.mul_add]; simp
    omega
theorem amt_bd {es : List Evt} (h : logB es = true) (k : Nat) : 0 ≤ isum ((es.take k).map Evt.a) ∧ isum ((es.take k).map Evt.a) ≤ 15000000000 := by
  have h15 := (log_iff.1 h).2
  have := isum_bdM (M := 1000000000) (by omega) (es.map Evt.a) (fun x hx => by
    obtain ⟨e, he, rfl⟩ := List.mem_map.1 hx
    obtain ⟨i, hi⟩ := List.getElem?_of_mem he
    exact (eok (log_ok h hi)).2.2.2) k
  rw [List.length_map, ← List.map_take] at this
  omega
theorem len_bd {es : List Evt} (h : logB es = true) (ps : List Cls) (k : Nat) : 0 ≤ isum ((es.take k).map fun e => ((chainL ps e).length : Int)) ∧ isum ((es.take k).map fun e => ((chainL ps e).length : Int)) ≤ 195 := by
  have h15 := (log_iff.1 h).2
  have := isum_bdM (M := 13) (by omega) (es.map fun e => ((chainL ps e).length : Int)) (fun x hx => by
    obtain ⟨e, he, rfl⟩ := List.mem_map.1 hx
    have : (chainL ps e).length ≤ 13 := chain_len ps e 13 0
    omega) k
  rw [List.length_map, ← List.map_take] at this
  omega
theorem tr_part {ps : List Cls} {es : List Evt} (h : logB es = true) (k : Nat) : 0 ≤ isum ((trL ps es).take k) ∧ isum ((trL ps es).take k) ≤ 1000000000000 := by
  have := isum_bdM (M := 15000000000) (by omega) (trL ps es) (fun x hx => by
    obtain ⟨i, hi⟩ := List.getElem?_of_mem hx
    have q := @trL_bd ps es h es.length i x
    rw [List.take_length] at q
    exact q hi) k
  rw [trL_len] at this
  omega
theorem cu_part {ps : List Cls} (hr : RB ps) {es : List Evt} (h : logB es = true) (k : Nat) : 0 ≤ isum ((cuL ps es).take k) ∧ isum ((cuL ps es).take k) ≤ 1000000000000 := by
  have h12 := hr.hi
  have h15 := (log_iff.1 h).2
  have := isum_bdM (M := 195) (by omega) (cuL ps es) (fun x hx => by
    obtain ⟨i, hi⟩ := List.getElem?_of_mem hx
    have := cufold_bd (ps := ps) es _ 0 (Int.le_refl _) (fun i x hx => by
      rw [List.getElem?_replicate] at hx; split at hx
      · have := Option.some.inj hx; omega
      · cases hx) i x hi
    omega) k
  rw [cuL_len] at this
  omega
theorem lg_max {ps : List Cls} {es : List Evt} : ∀ (k i : Nat) (e : Evt), i < k → es[i]? = some e → (chainL ps e).length ≤ (lgS ps es k).2
  | 0, i, e, hi, he => by omega
  | k + 1, i, e, hi, he => by
    by_cases hik : i = k
    · subst hik
      by_cases hc : (lgS ps es i).2 < (chainL ps e).length
      · rw [lgS_yes he hc]; exact Nat.le_refl _
      · rw [lgS_no he hc]; omega
    · have ih := lg_max (ps := ps) k i e (by omega) he
      cases hk : es[k]? with
      | none => rw [lgS, hk]; exact ih
      | some e2 =>
        by_cases hc : (lgS ps es k).2 < (chainL ps e2).length
        · rw [lgS_yes hk hc]; show _ ≤ (chainL ps e2).length; omega
        · rw [lgS_no hk hc]; exact ih
/-- The longest chain is not shorter than any. -/
theorem lg_le {ps : List Cls} (hr : RB ps) {es : List Evt} {i : Nat} {e f : Evt} (hi : es[i]? = some e) (hf : es[(lgS ps es es.length).1]? = some f) : (chainL ps e).length ≤ (chainL ps f).length := by
  have hl := (List.getElem?_eq_some_iff.1 hi).1
  have h1 := lg_max (ps := ps) es.length i e hl hi
  rcases lgS_inv hr es.length (Nat.le_refl _) with ⟨_, h2, _⟩ | ⟨_, _, _, f2, h3, h4⟩
  · omega
  · rw [hf] at h3
    rw [Option.some.inj h3]; omega
theorem chain_asc {ps : List Cls} (h : RB ps) (e : Evt) : ∀ (n k i : Nat) (x y : Int), k < ps.length → (chainC ps e n k)[i]? = some x → (chainC ps e n k)[i + 1]? = some y → x < y
  | 0, k, i, x, y, hk, hx, hy => by simp [chainC] at hx
  | n + 1, k, i, x, y, hk, hx, hy => by
    have hf := h.first hk e
    have hp : ps[firstC ps k e]? = some ps[firstC ps k e] := List.getElem?_eq_getElem hf
    rcases Bool.eq_false_or_eq_true (ps[firstC ps k e].e == 3) with he | he
    · have hto := h.to _ _ hp (by simpa using he)
      have hb := (fndIC_bd ps ps[firstC ps k e].t).2
      rw [chain_go hp he] at hx hy
      rw [List.getElem?_cons_succ] at hy
      match i, hx, hy with
      | 0, hx, hy =>
        simp at hx
        obtain ⟨j, h1, _, h3⟩ := chain_bd h e n (fndIC ps ps[firstC ps k e].t).toNat y (by omega) (List.mem_of_getElem? hy)
        omega
      | i + 1, hx, hy =>
        rw [List.getElem?_cons_succ] at hx
        exact chain_asc h e n _ i x y (by omega) hx hy
    · rw [chain_stop hp he] at hy
      simp at hy
/-- Where the clause before stands, ahead of index i of a chain. -/
def befC (xs : List Int) : Nat → Int
  | 0 => -1
  | i + 1 => match xs[i]? with | some x => x | none => -1
theorem befC_lt {ps : List Cls} (h : RB ps) (e : Evt) {i : Nat} {x : Int} (hx : (chainL ps e)[i]? = some x) : befC (chainL ps e) i < x := by
  cases i with
  | zero => obtain ⟨j, h1, _⟩ := chainL_bd h (List.mem_of_getElem? hx); show (-1 : Int) < x; omega
  | succ i =>
    have hl := (List.getElem?_eq_some_iff.1 hx).1
    have hy : (chainL ps e)[i]? = some (chainL ps e)[i] := List.getElem?_eq_getElem (by omega)
    have := chain_asc h e 13 0 i _ x h.lo hy hx
    show (match (chainL ps e)[i]? with | some x => x | none => -1) < x
    rw [hy]; exact this
theorem befC_next {xs : List Int} {i : Nat} {x : Int} (hx : xs[i]? = some x) : befC xs (i + 1) = x := by
  show (match xs[i]? with | some x => x | none => -1) = x
  rw [hx]
theorem befC_end {ps : List Cls} (h : RB ps) (e : Evt) : ∃ (j : Nat) (q : Cls), befC (chainL ps e) (chainL ps e).length = (j : Int) ∧ j < ps.length ∧ ps[j]? = some q ∧ q.e = resC ps e := by
  have h1 := h.lo
  obtain ⟨xs, j, p, h2, h3, h4⟩ := chain_last h e 13 0 (by omega) (by omega)
  have h5 : chainL ps e = xs ++ [(j : Int)] := h2
  refine ⟨j, p, ?_, (List.getElem?_eq_some_iff.1 h3).1, h3, (resC_of h5 h3).symm⟩
  rw [h5, List.length_append]
  exact befC_next (by simp)
end Go.Proofs.Ytjcklmhgjdmjoaa

