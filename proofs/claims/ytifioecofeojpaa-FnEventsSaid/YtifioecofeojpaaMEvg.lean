import Derived.Test.YtifioecofeojpaaEva
import Derived.Laws.Append
import Derived.Test.YtifioecofeojpaaEvw
import Derived.Deep.CutRange
/- slices.Grow, slices.Concat over events; the three pieces of an insertion. (by gen_cat8.py) -/
namespace Go.Proofs.Ytifioecofeojpaa
open Go.ChangeShapes Go.WideShapes Go.ChangeAt Go.RowKit
set_option linter.unusedVariables false


theorem run_append_makeE {P : Program} (w : World) (t u ty e : TypeId) (k : IntKind) (i : TypeInfo) (z : Value) (ht : P.underlying t = some (.slice e)) (hu : P.underlying u = some (.int k)) (hi : P.info? e = some i) (hz : i.zero = some z)
    (n : Nat) (h0 : 0 < n) (hs : 0 < i.size) (hn : n ≤ 1000) (hb : i.bytes ≤ 1000) :
    (Builtin.append_ #[t, u] ty #[.slice none 0 0, .int .i64 n]).run P w =
      .ok (.slice (some ⟨w.heap.size, 0, none⟩) n (grownCap w n 0 e)) (w.drew.alloc (.cells (Builtin.zeroCells z.cells n ++ Builtin.zeroCells z.cells (grownCap w n 0 e - n)) e)) := by
  have hw : IntKind.i64.wrap (n : Int) = (n : Int) := by rw [IntKind.wrap_i64]; omega
  have h1 : ¬ ((n : Int) < 0) := by omega
  have hm : n * i.bytes ≤ 1000 * 1000 := Nat.mul_le_mul hn hb
  have h2 : ¬ (281474976710656 < (n : Int) * (i.bytes : Int)) := by
    rw [← Int.natCast_mul]; omega
  have h3 : n ≠ 0 := by omega
  have h63' : ¬ (9223372036854775807 < (n : Int)) := by omega
  have h5 : ¬ (n * i.size = 0) := Nat.ne_of_gt (Nat.mul_pos h0 hs)
  have h48' : ¬ (281474976710656 < Builtin.nextslicecap n 0 * i.bytes) := by rw [nextslicecap_zero h0]; omega
  simp [Builtin.append_, run_underlying ht, run_underlying hu, sizeOf, typeInfo, zeroValue, hi, hz, hw, h1, h2, h3, h5, h63', h48', Question.forced, run_firstCells_none, newRow, grownCap, asInt, asIntOf]
theorem wpList_append_makeE {P : Program} (w : World) {ops : Array Oper} {rest : List Oper} {o : Oper} {a : Act} {Q : Exit → Act → World → Prop} (hgd : o.guard = none) (s x : Operand) (t u : TypeId)
    (ho : o.op = .call { callee := .builtin .append, args := #[s, x], argTypes := #[t, u] }) (n : Nat) (hs : a.eval s = .slice none 0 0) (hx : a.eval x = .int .i64 n) (v : Value) (w' : World)
    (hr : ∀ ty, (Builtin.append_ #[t, u] ty #[.slice none 0 0, .int .i64 n]).run P w = .ok v w') (h : wpList P ops Q rest (a.put o.dst v) w') : wpList P ops Q (o :: rest) a w := by
  refine wpList_plain hgd fun K hK => ?_
  unfold Oper.wp execOp
  simp only [ho, resolve, invoke, builtin, Sem.run_bind, Sem.run_pure, Result.andThen_ok, List.map_toArray, List.map_cons, List.map_nil, hs, hx, hr]
  exact hK _ _ h
theorem made_zeroE (w : World) (n : Nat) (base : Nat) (h0 : base ≤ w.heap.size) (hn : n ≤ 1000) (z : Array Value) (hz : z.size = 7) :
    (w.drew.alloc (.cells (Builtin.zeroCells z n ++ Builtin.zeroCells z (grownCap w n 0 26 - n)) 26)).ownsRow base 26 7 (.slice (some ⟨w.heap.size, 0, none⟩) 0 (grownCap w n 0 26)) 0 [] := by
  have hg := grownCap_ge w n 0 26
  have hm := grownCap_le_maxLen w n 0 26 (by unfold maxLen; omega)
  refine ⟨rfl, .inr ⟨w.heap.size, _, _, rfl, h0, heap_alloc_new w.drew _, Nat.zero_le _, hm, ?_, ?_⟩⟩
  · rw [Array.size_append, size_zeroCells, size_zeroCells, hz]; omega
  · simp
set_option maxRecDepth 100000 in
set_option maxHeartbeats 2000000 in
theorem grow0E (n : Nat) (w : World) (hn : n ≤ 1000) : Calls Try.prog 84 #[.slice none 0 0, .int .i64 n] w fun e w' =>
    ∃ A c, e = .returned (.slice A 0 c) ∧ w'.ownsRow w.heap.size 26 7 (.slice A 0 c) 0 [] ∧ Below w.heap.size w w' := by
  obtain ⟨i0, hi, hz0, hz1, hz2⟩ := info_parts evtInfo
  by_cases h0 : 0 < n
  · have hap := fun ty => run_append_makeE w 24 3 ty 26 .i64 i0 _ Try.underlying24 Try.underlying3 hi hz0 n h0 (by omega) hn (by omega)
    have hown := made_zeroE w n w.heap.size (Nat.le_refl _) hn #[.int .i64 0, .int .i64 0, .string ⟨#[]⟩, .int .i64 0, .bool false, .bool false, .bool false] rfl
    have hb : Below w.heap.size w (w.drew.alloc (.cells (Builtin.zeroCells #[.int .i64 0, .int .i64 0, .string ⟨#[]⟩, .int .i64 0, .bool false, .bool false, .bool false] n ++ Builtin.zeroCells #[.int .i64 0, .int .i64 0, .string ⟨#[]⟩, .int .i64 0, .bool false, .bool false, .bool false] (grownCap w n 0 26 - n)) 26)) := (Below.refl _ _).drew.alloc (Nat.le_refl _) _
    go_enter Try.func84, Try.ntmps84
    go_wp2_with (at_builtin; refine wpList_append_makeE _ rfl (.tmp 20) (.tmp 21) 24 3 rfl n rfl rfl _ _ hap ?_)
    go_ret
    exact ⟨_, _, rfl, hown, hb⟩
  · obtain rfl : n = 0 := by omega
    go_enter Try.func84, Try.ntmps84
    go_wp2_with fail
    go_ret
    exact ⟨none, 0, rfl, World.ownsRow_nil _ _ _ _, Below.refl _ _⟩
set_option maxRecDepth 100000 in
/-- append of a whole row of rates, which may be nil. -/
theorem wpList_append_rrE (w : World) {ops : Array Oper} {rest : List Oper} {o : Oper} {a : Act} {Q : Exit → Act → World → Prop} (hgd : o.guard = none) (s x : Operand)
    (ho : o.op = .call { callee := .builtin .append, args := #[s, x], argTypes := #[24, 24] }) (base : Nat) (O : Option Addr) (n q : Nat) (xs : List Value) (hs : a.eval s = .slice O n q) (hown : w.ownsRow base 26 7 (.slice O n q) n xs)
    (A : Option Addr) (c : Nat) (l : List Evt) (hx : a.eval x = .slice A l.length c) (hR : EvtR w A l) (hA : A = none ∨ ∃ b off, A = some ⟨b, off, none⟩) (h63 : n + l.length ≤ 1000) (hbase : base ≤ w.heap.size)
    (h : ∀ O' q' w', w'.ownsRow base 26 7 (.slice O' (n + l.length) q') (n + l.length) (xs ++ l.flatMap Evt.cells) → Below base w w' → wpList Try.prog ops Q rest (a.put o.dst (.slice O' (n + l.length) q')) w') :
    wpList Try.prog ops Q (o :: rest) a w := by
  obtain ⟨i0, hi, hz0, hz1, hz2⟩ := info_parts evtInfo
  rcases hA with rfl | ⟨b, off, rfl⟩
  · have hl : l = [] := by
      cases l with
      | nil => rfl
      | cons y l => obtain ⟨_, _, _, e, _⟩ := hR.at (k := 0) (by simp); cases e
    subst hl
    have hr := fun ty => run_append_nilE (P := Try.prog) w 24 ty 26 i0 Try.underlying24 hi O n q c (own_roomE hown)
    refine wpList_plain hgd fun K hK => ?_
    unfold Oper.wp execOp
    have hx' : a.eval x = .slice none 0 c := hx
    simp only [ho, resolve, invoke, builtin, Sem.run_bind, Sem.run_pure, Result.andThen_ok, List.map_toArray, List.map_cons, List.map_nil, hs, hx', hr]
    exact hK _ _ (h O q w (by simpa using hown) (Below.refl _ _))
  · refine wpList_append_own w hgd s x 24 ho base 26 i0 _ 7 48 Try.underlying24 hi hz0 hz1 hz2 rfl (by decide) _ n xs hs hown ⟨b, off, none⟩ l.length c (l.flatMap Evt.cells) hx (flat_len Evt.cells 7 (fun _ => rfl) l) ?_ ?_ (by unfold maxLen; omega) (by omega) hbase ?_
    · intro j u hu
      have hp : 0 < (l.flatMap Evt.cells).length := by have := (List.getElem?_eq_some_iff.1 hu).1; omega
      obtain ⟨b', off', e, _, hc⟩ := hR hp
      simp only [Option.some.injEq, Addr.mk.injEq, and_true] at e
      obtain ⟨rfl, rfl⟩ := e
      rw [show ((⟨b, off, none⟩ : Addr).add j) = ⟨b, off + j, none⟩ from by unfold Addr.add; split <;> simp_all]
      exact hc j u hu
    · intro u hu
      obtain ⟨y, _, hy⟩ := List.mem_flatMap.1 hu
      unfold Evt.cells at hy
      simp only [List.mem_cons, List.not_mem_nil, or_false] at hy
      rcases hy with rfl | rfl | rfl | rfl | rfl | rfl | rfl <;> simp [Value.oneCell']
    · intro v' w' h2 h3 h4
      obtain ⟨O', q', rfl⟩ := own_form h2
      exact h O' q' w' h2 ((Below.refl base w).grown h3 hbase (fun k hk => (hown.lt k hk).1))


/-- Slices of rates in a block. -/
structure PiecesE (w : World) (g : Nat) (ss : List (Option Addr × Nat × List Evt)) : Prop where
  lt : g < w.heap.size
  cell : ∀ (k : Nat) (s : Option Addr × Nat × List Evt), ss[k]? = some s → w.cell? ⟨g, k, none⟩ = some (.slice s.1 s.2.2.length s.2.1)
  row : ∀ s ∈ ss, EvtR w s.1 s.2.2 ∧ (s.1 = none ∨ ∃ b off, s.1 = some ⟨b, off, none⟩)
theorem PiecesE.below {w w' : World} {g : Nat} {ss : List (Option Addr × Nat × List Evt)} (h : PiecesE w g ss) (hb : Below w.heap.size w w') : PiecesE w' g ss :=
  ⟨Nat.lt_of_lt_of_le h.lt hb.size, fun k s hs => (hb.cell (p := ⟨g, k, none⟩) h.lt).trans (h.cell k s hs), fun s hs => ⟨(h.row s hs).1.below hb, (h.row s hs).2⟩⟩
def joinE (ss : List (Option Addr × Nat × List Evt)) : List Evt := ss.flatMap (·.2.2)
theorem joinP_snocE (ss : List (Option Addr × Nat × List Evt)) (s : Option Addr × Nat × List Evt) : joinE (ss ++ [s]) = joinE ss ++ s.2.2 := by simp [joinE]
theorem joinP_leE (ss : List (Option Addr × Nat × List Evt)) (k : Nat) : (joinE (ss.take k)).length ≤ (joinE ss).length := by
  have : joinE ss = joinE (ss.take k) ++ joinE (ss.drop k) := by unfold joinE; rw [← List.flatMap_append, List.take_append_drop]
  rw [this, List.length_append]; omega

set_option maxRecDepth 100000 in
set_option maxHeartbeats 4000000 in
theorem concat_iE (g : Nat) (ss : List (Option Addr × Nat × List Evt)) (c : Nat) (w : World) (h : PiecesE w g ss) (hn : ss.length ≤ 10) (hj : (joinE ss).length ≤ 900) :
    Calls Try.prog 52 #[.slice (some ⟨g, 0, none⟩) ss.length c] w fun e w' =>
      ∃ O q, e = .returned (.slice O (joinE ss).length q) ∧ EvtO w' w.heap.size O (joinE ss).length q (joinE ss) ∧ Below w.heap.size w w' := by
  go_enter Try.func52, Try.ntmps52
  go_wp2_with fail
  go_loopw [3, 11] (fun z i wr => ∃ (k m : Nat), k ≤ ss.length ∧ i = .int .i64 k ∧ z = .int .i64 m ∧ Hid (m = (joinE (ss.take k)).length) ∧ Below w.heap.size w wr) (fun _ i _ => ss.length - (intOf i).toNat)
  case atStart => exact ⟨0, 0, Nat.zero_le _, rfl, rfl, Lib.hid rfl, Below.refl _ _⟩
  case round =>
    obtain ⟨k, m, hk, rfl, rfl, hm, hb⟩ := hrel
    have hml : m ≤ 900 := by have := joinP_leE ss k; rw [hm.out]; omega
    by_cases hlt : k < ss.length
    · obtain ⟨s, hs⟩ : ∃ s, ss[k]? = some s := ⟨ss[k], by simp [hlt]⟩
      have hc := (h.below hb).cell k s hs
      have HM : Hid (m + s.2.2.length = (joinE (ss.take (k + 1))).length) := Lib.hid (by rw [snoc_of hs, joinP_snocE, List.length_append, hm.out])
      have hle : m + s.2.2.length ≤ 900 := by have := joinP_leE ss (k + 1); rw [HM.out]; omega
      obtain ⟨A, cc, l⟩ := s
      simp only at hc hle HM
      clear hs hm h
      go_wp2_with fail
      go_roundw
      case rel => exact ⟨k + 1, m + l.length, by omega, by go_num, by go_num, HM, hb⟩
      case measure => simp [intOf]; omega
    · have hM : Hid (m = (joinE ss).length) := Lib.hid (by have := hm.out; rwa [take_all hk hlt] at this)
      have HP := Lib.hid (fun W hW => h.below (w' := W) hW)
      clear hm h
      go_wp2_with (go_at_call 84; refine (grow0E m _ (by omega)).mono ?_; rintro e w1 ⟨O1, q1, rfl, hown1, b1⟩)
      have hb1 := hb.trans (b1.mono hb.size)
      have hw : w.heap.size ≤ wr.heap.size := hb.size
      have hw2 : wr.heap.size ≤ w1.heap.size := b1.size
      clear hb b1
      obtain ⟨wz, hwz⟩ : ∃ x, x = wr := ⟨_, rfl⟩
      subst hwz
      go_loopw [6, 27] (fun o i wr => ∃ (k : Nat) (js : List Evt) (O : Option Addr) (q : Nat), k ≤ ss.length ∧ i = .int .i64 k ∧ o = .slice O js.length q ∧ Hid (js = joinE (ss.take k)) ∧ wr.ownsRow wz.heap.size 26 7 (.slice O js.length q) js.length (js.flatMap Evt.cells) ∧ Below wz.heap.size w1 wr) (fun _ i _ => ss.length - (intOf i).toNat)
      case atStart => exact ⟨0, [], O1, q1, Nat.zero_le _, rfl, rfl, Lib.hid rfl, hown1, Below.refl _ _⟩
      case round =>
        obtain ⟨k', js, O, q, hk', rfl, rfl, hjs, hrow, hB⟩ := hrel
        by_cases hlt' : k' < ss.length
        · obtain ⟨s, hs⟩ : ∃ s, ss[k']? = some s := ⟨ss[k'], by simp [hlt']⟩
          have hP := HP.out wr (hb1.trans (hB.mono hw))
          have hc := hP.cell k' s hs
          obtain ⟨hR, hA⟩ := hP.row s (List.mem_of_getElem? hs)
          have HM : Hid (js ++ s.2.2 = joinE (ss.take (k' + 1))) := Lib.hid (by rw [snoc_of hs, joinP_snocE, hjs.out])
          have hle : js.length + s.2.2.length ≤ 900 := by have := joinP_leE ss (k' + 1); rw [← HM.out, List.length_append] at this; omega
          obtain ⟨A, cc, l⟩ := s
          simp only at hc hle HM hR hA
          have hsz : wz.heap.size ≤ wr.heap.size := Nat.le_trans hw2 hB.size
          clear hs hjs HP hP hM
          go_wp2_with (at_builtin; refine wpList_append_rrE _ rfl (.tmp 31) (.tmp 32) rfl wz.heap.size O js.length q _ rfl hrow A cc l rfl hR hA (by omega) hsz ?_; intro O' q' w' hown' hb')
          go_roundw
          case rel => exact ⟨k' + 1, js ++ l, O', q', by omega, by go_num, by rw [List.length_append], HM, by rw [List.length_append, List.flatMap_append]; exact hown', hB.trans hb'⟩
          case measure => simp [intOf]; omega
        · have hJ : Hid (js = joinE ss) := Lib.hid (by have := hjs.out; rwa [take_all hk' hlt'] at this)
          clear hjs HP hM
          go_wp2_with fail
          go_ret
          rw [← hJ.out]
          exact ⟨O, q, rfl, EvtO.mono hrow hw, hb1.trans (hB.mono hw)⟩
theorem EvtR.alloc {w : World} {A : Option Addr} {rs : List Evt} (h : EvtR w A rs) (o : Obj) : EvtR (w.alloc o) A rs := h.below (below_alloc w o)
theorem pieces3E {w : World} {A1 A3 : Option Addr} {c1 c3 n1 n3 : Nat} {l1 l3 : List Evt} (r : Evt) (h1 : EvtR w A1 l1) (h3 : EvtR w A3 l3) (a1 : A1 = none ∨ ∃ b off, A1 = some ⟨b, off, none⟩) (a3 : A3 = none ∨ ∃ b off, A3 = some ⟨b, off, none⟩) (e1 : l1.length = n1) (e3 : l3.length = n3) :
    PiecesE ((w.alloc (.cells #[.int .i64 r.d, .int .i64 r.k, .string ⟨r.c.toArray⟩, .int .i64 r.a, .bool r.p, .bool r.v, .bool r.r] 26)).alloc (.cells #[.slice A1 n1 c1, .slice (some ⟨w.heap.size, 0, none⟩) 1 1, .slice A3 n3 c3] 24)) (w.heap.size + 1)
      [(A1, c1, l1), (some ⟨w.heap.size, 0, none⟩, 1, [r]), (A3, c3, l3)] := by
  subst e1 e3
  refine ⟨by simp, ?_, ?_⟩
  · have hb : ((w.alloc (.cells #[.int .i64 r.d, .int .i64 r.k, .string ⟨r.c.toArray⟩, .int .i64 r.a, .bool r.p, .bool r.v, .bool r.r] 26)).alloc (.cells #[.slice A1 l1.length c1, .slice (some ⟨w.heap.size, 0, none⟩) 1 1, .slice A3 l3.length c3] 24)).heap[w.heap.size + 1]? = some (.cells #[.slice A1 l1.length c1, .slice (some ⟨w.heap.size, 0, none⟩) 1 1, .slice A3 l3.length c3] 24) := heap_alloc2_new w _ _
    intro k s hs
    rw [cell_of_row _ _ _ _ _ _ hb]
    match k, hs with
    | 0, hs => simp at hs; subst hs; rfl
    | 1, hs => simp at hs; subst hs; rfl
    | 2, hs => simp at hs; subst hs; rfl
    | k + 3, hs => simp at hs
  · intro s hs
    simp only [List.mem_cons, List.not_mem_nil, or_false] at hs
    rcases hs with rfl | rfl | rfl
    · exact ⟨(h1.alloc _).alloc _, a1⟩
    · refine ⟨EvtR.alloc (fun _ => ⟨w.heap.size, 0, rfl, by simp, fun j v hj => ?_⟩) _, .inr ⟨_, _, rfl⟩⟩
      rw [Nat.zero_add, cell_of_row _ _ _ _ _ _ (heap_alloc_new w _)]
      simpa [Evt.cells] using hj
    · exact ⟨(h3.alloc _).alloc _, a3⟩

theorem concat_qE {g : Nat} {ss : List (Option Addr × Nat × List Evt)} {n c : Nat} {w : World} {L : List Evt} (h : PiecesE w g ss) (hn : ss.length = n) (hn2 : n ≤ 10) (hL : joinE ss = L) (hj : L.length ≤ 900) :
    Calls Try.prog 52 #[.slice (some ⟨g, 0, none⟩) n c] w fun e w' => ∃ O q, e = .returned (.slice O L.length q) ∧ EvtO w' w.heap.size O L.length q L ∧ Below w.heap.size w w' := by
  subst hL hn
  exact concat_iE g ss c w h hn2 hj
end Go.Proofs.Ytifioecofeojpaa

/- (impl.Event).compareDay, slices.BinarySearchFunc over events. (by gen_evj.py) -/
namespace Go.Proofs.Ytifioecofeojpaa
open Go.ChangeShapes Go.WideShapes Go.ChangeAt Go.RowKit
set_option linter.unusedVariables false

theorem plc_eqE2 {rs : List Evt} {d : Int} {p : Nat} (hp : p ≤ rs.length) (h1 : ∀ (i : Nat) (q : Evt), i < p → rs[i]? = some q → q.d ≤ d) (h2 : ∀ (i : Nat) (q : Evt), p ≤ i → rs[i]? = some q → d < q.d) : plcE rs d = p := plc_eqE hp h1 fun q hq => h2 p q (Nat.le_refl _) hq
theorem ordI_negE (x y : Int) : decide (ordI x y < 0) = decide (x < y) := by
  unfold ordI
  by_cases h : x < y
  · simp [h]
  · by_cases h2 : x = y <;> simp [h, h2]
theorem ordI_zeroE (x y : Int) : (ordI x y == 0) = (x == y) := by
  unfold ordI
  by_cases h : x < y
  · have : x ≠ y := by omega
    simp [h, this]
  · by_cases h2 : x = y <;> simp [h, h2]
theorem cmpDay_i (p : Evt) (d : Int) (w : World) : Calls Try.prog 51 #[.agg #[.int .i64 p.d, .int .i64 p.k, .string ⟨p.c.toArray⟩, .int .i64 p.a, .bool p.p, .bool p.v, .bool p.r], .int .i64 d] w (Gives w (.int .i64 (ordI p.d d))) := by
  have B : ∀ o, Hid (Below w.heap.size w (w.alloc o)) := fun o => Lib.hid ((Below.refl _ _).alloc (Nat.le_refl _) _)
  go_enter Try.func51, Try.ntmps51
  go_wp2_with (go_at_call 83; refine (cmpI_i _ _ _).mono ?_; rintro e w' ⟨rfl, rfl⟩)
  go_ret
  exact ⟨rfl, (B _).out⟩
/-- Whether an event is on the day after. -/
def hasE (rs : List Evt) (d : Int) : Bool := match rs[plcE rs d]? with | some q => q.d == d + 1 | none => false
set_option maxRecDepth 100000 in
set_option maxHeartbeats 4000000 in
theorem binE_i (A : Option Addr) (c : Nat) (ps : List Evt) (d : Int) (w : World) (h : EvtR w A ps) (hn : ps.length ≤ 1048576) (hd0 : 0 ≤ d) (hd1 : d ≤ 36524) (ho : logB ps = true) :
    Calls Try.prog 50 #[.slice A ps.length c, .int .i64 (d + 1), .func (.func 51) #[] #[]] w
      (Gives w (.tuple #[.int .i64 (plcE ps d : Int), .bool (hasE ps d)])) := by
  have HP := Lib.hid (fun (p : Nat) (hp : p ≤ ps.length) h1 h2 => plc_eqE2 (rs := ps) (d := d) hp h1 h2)
  have HH := Lib.hid (fun (p : Evt) (hp : ps[plcE ps d]? = some p) => (by unfold hasE; rw [hp] : hasE ps d = (p.d == d + 1)))
  have HX := Lib.hid (fun (hp : plcE ps d = ps.length) => (by unfold hasE; rw [hp, List.getElem?_eq_none (Nat.le_refl _)] : hasE ps d = false))
  have HM := Lib.hid (fun (i j : Nat) (q p : Evt) (hij : i < j) (hq : ps[i]? = some q) (hp : ps[j]? = some p) => (log_before ho (Nat.le_of_lt hij) hq hp : q.d ≤ p.d))
  clear ho
  go_enter Try.func50, Try.ntmps50
  go_wp2_with fail
  go_loopw [9, 10] (fun a b wr => ∃ i j : Nat, a = .int .i64 i ∧ b = .int .i64 j ∧ i ≤ j ∧ j ≤ ps.length ∧ Hid (∀ (k : Nat) (q : Evt), k < i → ps[k]? = some q → q.d ≤ d) ∧ Hid (∀ (k : Nat) (q : Evt), j ≤ k → ps[k]? = some q → d < q.d) ∧ Below w.heap.size w wr) (fun a b _ => (intOf b).toNat - (intOf a).toNat)
  case atStart => exact ⟨0, ps.length, rfl, rfl, by omega, by omega, Lib.hid (fun k q hk => by omega), Lib.hid (fun k q hk hq => by have := (List.getElem?_eq_some_iff.1 hq).1; omega), Below.refl _ _⟩
  case round =>
    obtain ⟨i, j, rfl, rfl, hij, hj, hlo, hhi, hb⟩ := hrel
    by_cases hlt : i < j
    · obtain ⟨m, hmm⟩ : ∃ m, m = (i + j) / 2 := ⟨_, rfl⟩
      have hmi : i ≤ m := by omega
      have hmj : m < j := by omega
      have e1 : ((i : Int) + (j : Int)) / 2 = (m : Int) := by omega
      obtain ⟨b, off, q, rfl, hl, hq, h4⟩ := (h.below hb).at (show m < ps.length by omega)
      have c0 := h4.c0; have c1 := h4.c1; have c2 := h4.c2; have c3 := h4.c3; have c4 := h4.c4; have c5 := h4.c5; have c6 := h4.c6
      have HC := Lib.hid (fun w => cmpDay_i q (d + 1) w)
      have hneg := ordI_negE q.d (d + 1)
      have HY := Lib.hid (fun (hb : q.d ≤ d) (k : Nat) (p : Evt) (hk : k < m + 1) (hp : ps[k]? = some p) => (by
        rcases Nat.lt_or_ge k m with h1 | h1
        · have := HM.out k m p q h1 hp hq.out; omega
        · obtain rfl : k = m := by omega
          rw [hq.out] at hp; obtain rfl := Option.some.inj hp; exact hb : p.d ≤ d))
      have HZ := Lib.hid (fun (hb : d < q.d) (k : Nat) (p : Evt) (hk : m ≤ k) (hp : ps[k]? = some p) => (by
        rcases Nat.lt_or_ge m k with h1 | h1
        · have := HM.out m k q p h1 hq.out hp; omega
        · obtain rfl : k = m := by omega
          rw [hq.out] at hp; obtain rfl := Option.some.inj hp; exact hb : d < p.d))
      by_cases hbe : q.d ≤ d
      · have HX : Hid (∀ (k : Nat) (p : Evt), k < m + 1 → ps[k]? = some p → p.d ≤ d) := Lib.hid (HY.out hbe)
        rw [decide_eq_true (show q.d < d + 1 by omega)] at hneg
        clear h4 h hq hmm HM HP HH HY HZ hbe
        generalize ordI q.d (d + 1) = o at *
        go_wp2_with (go_at_call 51; refine (HC.out _).mono ?_; rintro e w1 ⟨rfl, b1⟩)
        go_roundw
        case rel => exact ⟨m + 1, j, by go_num, rfl, by omega, by omega, HX, hhi, belowGo hb b1⟩
        case measure => simp [intOf]; omega
      · have HX : Hid (∀ (k : Nat) (p : Evt), m ≤ k → ps[k]? = some p → d < p.d) := Lib.hid (HZ.out (by omega))
        rw [decide_eq_false (show ¬ q.d < d + 1 by omega)] at hneg
        clear h4 h hq hmm HM HP HH HY HZ hbe
        generalize ordI q.d (d + 1) = o at *
        go_wp2_with (go_at_call 51; refine (HC.out _).mono ?_; rintro e w1 ⟨rfl, b1⟩)
        go_roundw
        case rel => exact ⟨i, m, rfl, rfl, by omega, by omega, hlo, HX, belowGo hb b1⟩
        case measure => simp [intOf]; omega
    · obtain rfl : i = j := by omega
      have hp := HP.out i hj hlo.out hhi.out
      have HE : Hid (plcE ps d = i) := Lib.hid hp
      by_cases hlen : i < ps.length
      · obtain ⟨b, off, q, rfl, hl, hq, h4⟩ := (h.below hb).at hlen
        have c0 := h4.c0; have c1 := h4.c1; have c2 := h4.c2; have c3 := h4.c3; have c4 := h4.c4; have c5 := h4.c5; have c6 := h4.c6
        have HC := Lib.hid (fun w => cmpDay_i q (d + 1) w)
        have HZ : Hid (hasE ps d = (ordI q.d (d + 1) == 0)) := Lib.hid (by rw [ordI_zeroE]; exact HH.out q (by rw [hp]; exact hq.out))
        clear h4 h hq HM HP HH HX hp hlo hhi
        generalize ordI q.d (d + 1) = o at *
        go_wp2_with (go_at_call 51; refine (HC.out _).mono ?_; rintro e w1 ⟨rfl, b1⟩)
        go_ret2
        exact ⟨by rw [HE.out, HZ.out] <;> rfl, belowGo hb b1⟩
      · have HZ : Hid (hasE ps d = false) := Lib.hid (HX.out (by rw [hp]; omega))
        clear h HM HP HH HX hp hlo hhi
        go_wp2_with fail
        go_ret2
        exact ⟨by rw [HE.out, HZ.out] <;> rfl, hb⟩
end Go.Proofs.Ytifioecofeojpaa

/- impl.AddEvent. (by gen_evj.py) -/
namespace Go.Proofs.Ytifioecofeojpaa
open Go.ChangeShapes Go.WideShapes Go.ChangeAt Go.RowKit
set_option linter.unusedVariables false


set_option maxRecDepth 100000 in
set_option maxHeartbeats 8000000 in
theorem adde_wa (x : Evt) (w : World) (h : ETbl w (none) ([] : List Evt)) (hx : x.sz ≤ 1048600) (hr : logB ([] : List Evt) = true) (hv : x.ok = true) (h15 : ([] : List Evt).length ≠ 15) (hpl : plcE ([] : List Evt) x.d = 0)  :
    Calls Try.prog 13 #[.slice (none) 0 0, .agg #[.int .i64 x.d, .int .i64 x.k, .string ⟨x.c.toArray⟩, .int .i64 x.a, .bool x.p, .bool x.v, .bool x.r]] w (NewEvtsC w (addR ([] : List Evt) x)) := by
  have kb := KeepE.new w x
  have h0 := h.below kb.bel
  have hxc := sz_e hx
  have HT := Lib.hid (logI_q (c := 0) h0 hr)
  have HV := Lib.hid (fun w => evalid_i x w hxc)
  rw [hv] at HV
  have HE := Lib.hid (addR_ok hr hv h15)
  have hn : ([] : List Evt).length ≤ 15 := (log_iff.1 hr).2
  have hday := (eok hv).1
  have z15 : ((0 : Int) == 15) = false := beq_eq_false_iff_ne.2 (by (try simp only [List.length_nil] at h15 ⊢); omega)
  have HS := Lib.hid (fun w hR => binE_i (none) (0) ([] : List Evt) x.d w hR (by omega) hday.1 hday.2 hr)
  have hput : Hid (addE ([] : List Evt) x = ([] : List Evt).take (0) ++ [x] ++ ([] : List Evt).drop (0)) := Lib.hid (by unfold addE; rw [hpl]; simp)
  rw [hpl] at HS
  generalize hasE ([] : List Evt) x.d = fb at HS
  clear h hpl hv hr h15
  go_enter Try.func13, Try.ntmps13
  go_wp2_with (first
    | (go_at_call 29; refine HT.out.mono ?_; rintro e w1 ⟨rfl, b1⟩; have kb1 := kb.step b1; have h1 := h0.below b1; have c0 := kb1.cells.c0; have c1 := kb1.cells.c1; have c2 := kb1.cells.c2; have c3 := kb1.cells.c3; have c4 := kb1.cells.c4; have c5 := kb1.cells.c5; have c6 := kb1.cells.c6)
    | (go_at_call 34; refine (HV.out _).mono ?_; rintro e w2 ⟨rfl, b2⟩; have kb2 := kb1.step b2; have h2 := h1.below b2; clear c0 c1 c2 c3 c4 c5 c6; have c0 := kb2.cells.c0; have c1 := kb2.cells.c1; have c2 := kb2.cells.c2; have c3 := kb2.cells.c3; have c4 := kb2.cells.c4; have c5 := kb2.cells.c5; have c6 := kb2.cells.c6)
    | (go_at_call 50; refine (HS.out _ h2.row).mono ?_; rintro e w3 ⟨rfl, b3⟩; have kb3 := kb2.step b3; have h3 := h2.below b3; clear c0 c1 c2 c3 c4 c5 c6; have c0 := kb3.cells.c0; have c1 := kb3.cells.c1; have c2 := kb3.cells.c2; have c3 := kb3.cells.c3; have c4 := kb3.cells.c4; have c5 := kb3.cells.c5; have c6 := kb3.cells.c6; clear HS HV))
  have hR3 := h3.row
  have q1 := (EvtR.none : EvtR w3 none [])
  have q3 := (EvtR.none : EvtR w3 none [])
  have l1 : ([] : List Evt).length = 0 := by rfl
  have l3 : ([] : List Evt).length = 0 := by rfl
  have hj : joinE [(none, 0, ([] : List Evt)), (some ⟨w3.heap.size, 0, none⟩, 1, [x]), (none, 0, ([] : List Evt))] = addE ([] : List Evt) x := by rw [hput.out]; simp [joinE]
  have HCQ := Lib.hid (concat_qE (g := w3.heap.size + 1) (n := 3) (c := 3) (L := addE ([] : List Evt) x) ((pieces3E (w := w3) (A1 := none) (A3 := none) (c1 := 0) (c3 := 0) (n1 := 0) (n3 := 0) x q1 q3 (.inl rfl) (.inl rfl) l1 l3).below (Below.refl _ _).drew) rfl (by decide) hj (by have := addE_len ([] : List Evt) x; omega))
  have HBL := ((kb3.bel.alloc kb3.bel.size (.cells #[.int .i64 x.d, .int .i64 x.k, .string ⟨x.c.toArray⟩, .int .i64 x.a, .bool x.p, .bool x.v, .bool x.r] 26)).alloc (Nat.le_trans kb3.bel.size (by simp)) (.cells #[.slice (none) 0 (0), .slice (some ⟨w3.heap.size, 0, none⟩) 1 1, .slice (none) 0 0] 24)).drew
  go_cut [4, 5] from 27 to 36 (fun v u wx => ∃ O q, v = .slice O (addE ([] : List Evt) x).length q ∧ u = .int .i64 0 ∧ EvtO wx w.heap.size O (addE ([] : List Evt) x).length q (addE ([] : List Evt) x) ∧ Below w.heap.size w wx)
  case first =>
    go_region_with (go_at_call 52; refine HCQ.out.mono ?_; rintro e w4 ⟨O, q, rfl, ho, b4⟩)
    all_goals
      go_wp2_with fail
      go_meet
      exact ⟨O, q, rfl, rfl, ho.mono HBL.size, belowGo HBL b4⟩
  case rest =>
    obtain ⟨O, q, rfl, rfl, ho, hbw⟩ := hcut
    go_wp2_with fail
    go_ret2
    unfold NewEvtsC
    rw [HE.out]
    exact ⟨O, q, rfl, ho, hbw⟩

set_option maxRecDepth 100000 in
set_option maxHeartbeats 8000000 in
theorem adde_wb (g off : Nat) (ps : List Evt) (x : Evt) (w : World) (h : ETbl w (some ⟨g, off, none⟩) ps) (hx : x.sz ≤ 1048600) (hr : logB ps = true) (hv : x.ok = true) (h15 : ps.length ≠ 15) (hpl : plcE ps x.d = ps.length)  :
    Calls Try.prog 13 #[.slice (some ⟨g, off, none⟩) ps.length ps.length, .agg #[.int .i64 x.d, .int .i64 x.k, .string ⟨x.c.toArray⟩, .int .i64 x.a, .bool x.p, .bool x.v, .bool x.r]] w (NewEvtsC w (addR ps x)) := by
  have kb := KeepE.new w x
  have h0 := h.below kb.bel
  have hxc := sz_e hx
  have HT := Lib.hid (logI_q (c := ps.length) h0 hr)
  have HV := Lib.hid (fun w => evalid_i x w hxc)
  rw [hv] at HV
  have HE := Lib.hid (addR_ok hr hv h15)
  have hn : ps.length ≤ 15 := (log_iff.1 hr).2
  have hday := (eok hv).1
  have z15 : ((ps.length : Int) == 15) = false := beq_eq_false_iff_ne.2 (by (try simp only [List.length_nil] at h15 ⊢); omega)
  have HS := Lib.hid (fun w hR => binE_i (some ⟨g, off, none⟩) (ps.length) ps x.d w hR (by omega) hday.1 hday.2 hr)
  have hput : Hid (addE ps x = ps.take (ps.length) ++ [x] ++ ps.drop (ps.length)) := Lib.hid (by unfold addE; rw [hpl]; simp)
  rw [hpl] at HS
  generalize hasE ps x.d = fb at HS
  clear h hpl hv hr h15
  go_enter Try.func13, Try.ntmps13
  go_wp2_with (first
    | (go_at_call 29; refine HT.out.mono ?_; rintro e w1 ⟨rfl, b1⟩; have kb1 := kb.step b1; have h1 := h0.below b1; have c0 := kb1.cells.c0; have c1 := kb1.cells.c1; have c2 := kb1.cells.c2; have c3 := kb1.cells.c3; have c4 := kb1.cells.c4; have c5 := kb1.cells.c5; have c6 := kb1.cells.c6)
    | (go_at_call 34; refine (HV.out _).mono ?_; rintro e w2 ⟨rfl, b2⟩; have kb2 := kb1.step b2; have h2 := h1.below b2; clear c0 c1 c2 c3 c4 c5 c6; have c0 := kb2.cells.c0; have c1 := kb2.cells.c1; have c2 := kb2.cells.c2; have c3 := kb2.cells.c3; have c4 := kb2.cells.c4; have c5 := kb2.cells.c5; have c6 := kb2.cells.c6)
    | (go_at_call 50; refine (HS.out _ h2.row).mono ?_; rintro e w3 ⟨rfl, b3⟩; have kb3 := kb2.step b3; have h3 := h2.below b3; clear c0 c1 c2 c3 c4 c5 c6; have c0 := kb3.cells.c0; have c1 := kb3.cells.c1; have c2 := kb3.cells.c2; have c3 := kb3.cells.c3; have c4 := kb3.cells.c4; have c5 := kb3.cells.c5; have c6 := kb3.cells.c6; clear HS HV))
  have hR3 := h3.row
  have q1 := (by rw [List.take_length]; exact hR3 : EvtR w3 (some ⟨g, off, none⟩) (ps.take ps.length))
  have q3 := (by rw [List.drop_length]; exact EvtR.none : EvtR w3 (some ⟨g, off, none⟩) (ps.drop ps.length))
  have l1 : (ps.take ps.length).length = ps.length := by rw [List.take_length]
  have l3 : (ps.drop ps.length).length = 0 := by rw [List.drop_length]; rfl
  have hj : joinE [(some ⟨g, off, none⟩, ps.length, (ps.take ps.length)), (some ⟨w3.heap.size, 0, none⟩, 1, [x]), (some ⟨g, off, none⟩, 0, (ps.drop ps.length))] = addE ps x := by rw [hput.out]; simp [joinE]
  have HCQ := Lib.hid (concat_qE (g := w3.heap.size + 1) (n := 3) (c := 3) (L := addE ps x) ((pieces3E (w := w3) (A1 := some ⟨g, off, none⟩) (A3 := some ⟨g, off, none⟩) (c1 := ps.length) (c3 := 0) (n1 := ps.length) (n3 := 0) x q1 q3 (.inr ⟨_, _, rfl⟩) (.inr ⟨_, _, rfl⟩) l1 l3).below (Below.refl _ _).drew) rfl (by decide) hj (by have := addE_len ps x; omega))
  have HBL := ((kb3.bel.alloc kb3.bel.size (.cells #[.int .i64 x.d, .int .i64 x.k, .string ⟨x.c.toArray⟩, .int .i64 x.a, .bool x.p, .bool x.v, .bool x.r] 26)).alloc (Nat.le_trans kb3.bel.size (by simp)) (.cells #[.slice (some ⟨g, off, none⟩) ps.length (ps.length), .slice (some ⟨w3.heap.size, 0, none⟩) 1 1, .slice (some ⟨g, off, none⟩) 0 0] 24)).drew
  go_cut [4, 5] from 27 to 36 (fun v u wx => ∃ O q, v = .slice O (addE ps x).length q ∧ u = .int .i64 0 ∧ EvtO wx w.heap.size O (addE ps x).length q (addE ps x) ∧ Below w.heap.size w wx)
  case first =>
    go_region_with (go_at_call 52; refine HCQ.out.mono ?_; rintro e w4 ⟨O, q, rfl, ho, b4⟩)
    all_goals
      go_wp2_with fail
      go_meet
      exact ⟨O, q, rfl, rfl, ho.mono HBL.size, belowGo HBL b4⟩
  case rest =>
    obtain ⟨O, q, rfl, rfl, ho, hbw⟩ := hcut
    go_wp2_with fail
    go_ret2
    unfold NewEvtsC
    rw [HE.out]
    exact ⟨O, q, rfl, ho, hbw⟩

set_option maxRecDepth 100000 in
set_option maxHeartbeats 8000000 in
theorem adde_wc (g off c p : Nat) (ps : List Evt) (x : Evt) (w : World) (h : ETbl w (some ⟨g, off, none⟩) ps) (hx : x.sz ≤ 1048600) (hr : logB ps = true) (hv : x.ok = true) (h15 : ps.length ≠ 15) (hpl : plcE ps x.d = p) (hp : p ≤ ps.length) (hc : ps.length ≤ c) (e1 : p ≠ c) (e2 : p < c) :
    Calls Try.prog 13 #[.slice (some ⟨g, off, none⟩) ps.length c, .agg #[.int .i64 x.d, .int .i64 x.k, .string ⟨x.c.toArray⟩, .int .i64 x.a, .bool x.p, .bool x.v, .bool x.r]] w (NewEvtsC w (addR ps x)) := by
  have kb := KeepE.new w x
  have h0 := h.below kb.bel
  have hxc := sz_e hx
  have HT := Lib.hid (logI_q (c := c) h0 hr)
  have HV := Lib.hid (fun w => evalid_i x w hxc)
  rw [hv] at HV
  have HE := Lib.hid (addR_ok hr hv h15)
  have hn : ps.length ≤ 15 := (log_iff.1 hr).2
  have hday := (eok hv).1
  have z15 : ((ps.length : Int) == 15) = false := beq_eq_false_iff_ne.2 (by (try simp only [List.length_nil] at h15 ⊢); omega)
  have HS := Lib.hid (fun w hR => binE_i (some ⟨g, off, none⟩) (c) ps x.d w hR (by omega) hday.1 hday.2 hr)
  have hput : Hid (addE ps x = ps.take (p) ++ [x] ++ ps.drop (p)) := Lib.hid (by unfold addE; rw [hpl]; simp)
  rw [hpl] at HS
  generalize hasE ps x.d = fb at HS
  clear h hpl hv hr h15
  go_enter Try.func13, Try.ntmps13
  go_wp2_with (first
    | (go_at_call 29; refine HT.out.mono ?_; rintro e w1 ⟨rfl, b1⟩; have kb1 := kb.step b1; have h1 := h0.below b1; have c0 := kb1.cells.c0; have c1 := kb1.cells.c1; have c2 := kb1.cells.c2; have c3 := kb1.cells.c3; have c4 := kb1.cells.c4; have c5 := kb1.cells.c5; have c6 := kb1.cells.c6)
    | (go_at_call 34; refine (HV.out _).mono ?_; rintro e w2 ⟨rfl, b2⟩; have kb2 := kb1.step b2; have h2 := h1.below b2; clear c0 c1 c2 c3 c4 c5 c6; have c0 := kb2.cells.c0; have c1 := kb2.cells.c1; have c2 := kb2.cells.c2; have c3 := kb2.cells.c3; have c4 := kb2.cells.c4; have c5 := kb2.cells.c5; have c6 := kb2.cells.c6)
    | (go_at_call 50; refine (HS.out _ h2.row).mono ?_; rintro e w3 ⟨rfl, b3⟩; have kb3 := kb2.step b3; have h3 := h2.below b3; clear c0 c1 c2 c3 c4 c5 c6; have c0 := kb3.cells.c0; have c1 := kb3.cells.c1; have c2 := kb3.cells.c2; have c3 := kb3.cells.c3; have c4 := kb3.cells.c4; have c5 := kb3.cells.c5; have c6 := kb3.cells.c6; clear HS HV))
  have hR3 := h3.row
  have q1 := hR3.take p
  have q3 := hR3.drop p
  have l1 : (ps.take p).length = p := by rw [List.length_take]; omega
  have l3 : (ps.drop p).length = (ps.length - p) := by exact List.length_drop
  have hj : joinE [(some ⟨g, off, none⟩, c, (ps.take p)), (some ⟨w3.heap.size, 0, none⟩, 1, [x]), (some ⟨g, off + p * 7, none⟩, (c - p), (ps.drop p))] = addE ps x := by rw [hput.out]; simp [joinE]
  have HCQ := Lib.hid (concat_qE (g := w3.heap.size + 1) (n := 3) (c := 3) (L := addE ps x) ((pieces3E (w := w3) (A1 := some ⟨g, off, none⟩) (A3 := some ⟨g, off + p * 7, none⟩) (c1 := c) (c3 := (c - p)) (n1 := p) (n3 := (ps.length - p)) x q1 q3 (.inr ⟨_, _, rfl⟩) (.inr ⟨_, _, rfl⟩) l1 l3).below (Below.refl _ _).drew) rfl (by decide) hj (by have := addE_len ps x; omega))
  have HBL := ((kb3.bel.alloc kb3.bel.size (.cells #[.int .i64 x.d, .int .i64 x.k, .string ⟨x.c.toArray⟩, .int .i64 x.a, .bool x.p, .bool x.v, .bool x.r] 26)).alloc (Nat.le_trans kb3.bel.size (by simp)) (.cells #[.slice (some ⟨g, off, none⟩) p (c), .slice (some ⟨w3.heap.size, 0, none⟩) 1 1, .slice (some ⟨g, off + p * 7, none⟩) (ps.length - p) (c - p)] 24)).drew
  go_cut [4, 5] from 27 to 36 (fun v u wx => ∃ O q, v = .slice O (addE ps x).length q ∧ u = .int .i64 0 ∧ EvtO wx w.heap.size O (addE ps x).length q (addE ps x) ∧ Below w.heap.size w wx)
  case first =>
    go_region_with (go_at_call 52; refine HCQ.out.mono ?_; rintro e w4 ⟨O, q, rfl, ho, b4⟩)
    all_goals
      go_wp2_with fail
      go_meet
      exact ⟨O, q, rfl, rfl, ho.mono HBL.size, belowGo HBL b4⟩
  case rest =>
    obtain ⟨O, q, rfl, rfl, ho, hbw⟩ := hcut
    go_wp2_with fail
    go_ret2
    unfold NewEvtsC
    rw [HE.out]
    exact ⟨O, q, rfl, ho, hbw⟩

set_option maxHeartbeats 2000000 in
theorem adde_i (A : Option Addr) (c : Nat) (ps : List Evt) (x : Evt) (w : World) (h : ETblC w A c ps) (hx : x.sz ≤ 1048600) :
    Calls Try.prog 13 #[.slice A ps.length c, .agg #[.int .i64 x.d, .int .i64 x.k, .string ⟨x.c.toArray⟩, .int .i64 x.a, .bool x.p, .bool x.v, .bool x.r]] w (NewEvtsC w (addR ps x)) := by
  have kb := KeepE.new w x
  have hxc := sz_e hx
  rcases Bool.eq_false_or_eq_true (logB ps) with hr | hr
  · rcases Bool.eq_false_or_eq_true x.ok with hv | hv
    · by_cases h15 : ps.length = 15
      · have HT := Lib.hid (logI_q (c := c) (h.below kb.bel).tbl hr)
        have HV := Lib.hid (fun w => evalid_i x w hxc)
        rw [hv] at HV
        have E := Lib.hid (addR_lim hr hv h15)
        have z15 : ((ps.length : Int) == 15) = true := by rw [beq_iff_eq]; omega
        clear h hv hr h15
        go_enter Try.func13, Try.ntmps13
        go_wp2_with (first
          | (go_at_call 29; refine HT.out.mono ?_; rintro e w1 ⟨rfl, b1⟩; have kb1 := kb.step b1; have c0 := kb1.cells.c0; have c1 := kb1.cells.c1; have c2 := kb1.cells.c2; have c3 := kb1.cells.c3; have c4 := kb1.cells.c4; have c5 := kb1.cells.c5; have c6 := kb1.cells.c6)
          | (go_at_call 34; refine (HV.out _).mono ?_; rintro e w2 ⟨rfl, b2⟩; have kb2 := kb1.step b2))
        go_ret2
        unfold NewEvtsC
        rw [E.out]
        exact ⟨none, 0, rfl, World.ownsRow_nil _ _ _ _, kb2.bel⟩
      · have hle := plc_leE ps x.d
        obtain ⟨p, hp⟩ : ∃ p, plcE ps x.d = p := ⟨_, rfl⟩
        have h0 := h.tbl
        have hcap := h.cap
        rcases h.adr with ⟨rfl, rfl⟩ | ⟨g, off, rfl⟩
        · obtain rfl : ps = [] := List.eq_nil_of_length_eq_zero (by omega)
          exact adde_wa x w h0 hx hr hv h15 (by simp at hle; omega)
        · rcases (by omega : (p = ps.length ∧ c = ps.length) ∨ (p ≠ c ∧ p < c)) with ⟨e1, e2⟩ | ⟨e1, e2⟩
          · subst e2; exact adde_wb g off ps x w h0 hx hr hv h15 (hp.trans e1)
          · exact adde_wc g off c p ps x w h0 hx hr hv h15 hp (by omega) hcap e1 e2
    · have HT := Lib.hid (logI_q (c := c) (h.below kb.bel).tbl hr)
      have HV := Lib.hid (fun w => evalid_i x w hxc)
      rw [hv] at HV
      have E := Lib.hid (@addR_no ps x (.inr hv))
      clear h hv
      go_enter Try.func13, Try.ntmps13
      go_wp2_with (first
        | (go_at_call 29; refine HT.out.mono ?_; rintro e w1 ⟨rfl, b1⟩; have kb1 := kb.step b1; have c0 := kb1.cells.c0; have c1 := kb1.cells.c1; have c2 := kb1.cells.c2; have c3 := kb1.cells.c3; have c4 := kb1.cells.c4; have c5 := kb1.cells.c5; have c6 := kb1.cells.c6)
        | (go_at_call 34; refine (HV.out _).mono ?_; rintro e w2 ⟨rfl, b2⟩; have kb2 := kb1.step b2))
      go_ret2
      unfold NewEvtsC
      rw [E.out]
      exact ⟨none, 0, rfl, World.ownsRow_nil _ _ _ _, kb2.bel⟩
  · have HT := Lib.hid (logI_q (c := c) (h.below kb.bel).tbl hr)
    have E := Lib.hid (@addR_no ps x (.inl hr))
    clear h hr
    go_enter Try.func13, Try.ntmps13
    go_wp2_with (go_at_call 29; refine HT.out.mono ?_; rintro e w1 ⟨rfl, b1⟩)
    go_ret2
    unfold NewEvtsC
    rw [E.out]
    exact ⟨none, 0, rfl, World.ownsRow_nil _ _ _ _, belowGo kb.bel b1⟩
end Go.Proofs.Ytifioecofeojpaa

