/- slices.Grow, slices.Concat over editions. (by gen_edh.py) -/
import Derived.Test.YtpdkgjmppknbpaaEdc
import Derived.Laws.Append
namespace Go.Proofs.Ytpdkgjmppknbpaa
open Go.ChangeShapes Go.WideShapes Go.ChangeAt Go.RowKit
set_option linter.unusedVariables false
theorem run_append_nilH {P : Program} (w : World) (t ty e : TypeId) (i : TypeInfo) (ht : P.underlying t = some (.slice e)) (hi : P.info? e = some i) (O : Option Addr) (n q c : Nat) (h : n ≤ q) :
    (Builtin.append_ #[t, t] ty #[.slice O n q, .slice none 0 c]).run P w = .ok (.slice O n q) w := by
  cases O <;> simp [Builtin.append_, run_underlying ht, sizeOf, typeInfo, hi, Builtin.lenOf, h, run_firstCells_none, storeCells]
theorem own_roomH {w : World} {base : Nat} {e : TypeId} {size n q : Nat} {O : Option Addr} {xs : List Value} (h : w.ownsRow base e size (.slice O n q) n xs) : n ≤ q := by
  rcases h.2 with ⟨h1, h2⟩ | ⟨g, cap, cur, h1, _, _, h4, _⟩
  · omega
  · injection h1 with _ _ h3; omega



theorem run_append_makeH {P : Program} (w : World) (t u ty e : TypeId) (k : IntKind) (i : TypeInfo) (z : Value) (ht : P.underlying t = some (.slice e)) (hu : P.underlying u = some (.int k)) (hi : P.info? e = some i) (hz : i.zero = some z)
    (n : Nat) (h0 : 0 < n) (hs : 0 < i.size) (hn : n ≤ 1000) (hb : i.bytes ≤ 1000) :
    (Builtin.append_ #[t, u] ty #[.slice none 0 0, .int .i64 n]).run P w =
      .ok (.slice (some ⟨w.heap.size, 0, none⟩) n (grownCap w n 0 e)) (w.drew.alloc (.cells (Builtin.zeroCells z.cells n ++ Builtin.zeroCells z.cells (grownCap w n 0 e - n)) e)) := by
  have hw : IntKind.i64.wrap (n : Int) = (n : Int) := by rw [IntKind.wrap_i64]; omega
  have h1 : ¬ ((n : Int) < 0) := by omega
  have hm : n * i.bytes ≤ 1000 * 1000 := Nat.mul_le_mul hn hb
  have h2 : ¬ (281474976710656 < (n : Int) * (i.bytes : Int)) := by
    rw [← Int.natCast_mul]; omega
  have h3 : n ≠ 0 := by omega
  have h63' : ¬ (9223372036854775807 < (n : Int)) := by omega
  have h5 : ¬ (n * i.size = 0) := Nat.ne_of_gt (Nat.mul_pos h0 hs)
  have h48' : ¬ (281474976710656 < Builtin.nextslicecap n 0 * i.bytes) := by rw [nextslicecap_zero h0]; omega
  simp [Builtin.append_, run_underlying ht, run_underlying hu, sizeOf, typeInfo, zeroValue, hi, hz, hw, h1, h2, h3, h5, h63', h48', Question.forced, run_firstCells_none, newRow, grownCap, asInt, asIntOf]
theorem wpList_append_makeH {P : Program} (w : World) {ops : Array Oper} {rest : List Oper} {o : Oper} {a : Act} {Q : Exit → Act → World → Prop} (hgd : o.guard = none) (s x : Operand) (t u : TypeId)
    (ho : o.op = .call { callee := .builtin .append, args := #[s, x], argTypes := #[t, u] }) (n : Nat) (hs : a.eval s = .slice none 0 0) (hx : a.eval x = .int .i64 n) (v : Value) (w' : World)
    (hr : ∀ ty, (Builtin.append_ #[t, u] ty #[.slice none 0 0, .int .i64 n]).run P w = .ok v w') (h : wpList P ops Q rest (a.put o.dst v) w') : wpList P ops Q (o :: rest) a w := by
  refine wpList_plain hgd fun K hK => ?_
  unfold Oper.wp execOp
  simp only [ho, resolve, invoke, builtin, Sem.run_bind, Sem.run_pure, Result.andThen_ok, List.map_toArray, List.map_cons, List.map_nil, hs, hx, hr]
  exact hK _ _ h
theorem made_zeroH (w : World) (n : Nat) (base : Nat) (h0 : base ≤ w.heap.size) (hn : n ≤ 1000) (z : Array Value) (hz : z.size = 2) :
    (w.drew.alloc (.cells (Builtin.zeroCells z n ++ Builtin.zeroCells z (grownCap w n 0 40 - n)) 40)).ownsRow base 40 2 (.slice (some ⟨w.heap.size, 0, none⟩) 0 (grownCap w n 0 40)) 0 [] := by
  have hg := grownCap_ge w n 0 40
  have hm := grownCap_le_maxLen w n 0 40 (by unfold maxLen; omega)
  refine ⟨rfl, .inr ⟨w.heap.size, _, _, rfl, h0, heap_alloc_new w.drew _, Nat.zero_le _, hm, ?_, ?_⟩⟩
  · rw [Array.size_append, size_zeroCells, size_zeroCells, hz]; omega
  · simp
set_option maxRecDepth 100000 in
set_option maxHeartbeats 2000000 in
theorem grow0H (n : Nat) (w : World) (hn : n ≤ 1000) : Calls Try.prog 89 #[.slice none 0 0, .int .i64 n] w fun e w' =>
    ∃ A c, e = .returned (.slice A 0 c) ∧ w'.ownsRow w.heap.size 40 2 (.slice A 0 c) 0 [] ∧ Below w.heap.size w w' := by
  obtain ⟨i0, hi, hz0, hz1, hz2⟩ := info_parts ednInfo
  by_cases h0 : 0 < n
  · have hap := fun ty => run_append_makeH w 25 3 ty 40 .i64 i0 _ Try.underlying25 Try.underlying3 hi hz0 n h0 (by omega) hn (by omega)
    have hown := made_zeroH w n w.heap.size (Nat.le_refl _) hn #[.int .i64 0, .slice none 0 0] rfl
    have hb : Below w.heap.size w (w.drew.alloc (.cells (Builtin.zeroCells #[.int .i64 0, .slice none 0 0] n ++ Builtin.zeroCells #[.int .i64 0, .slice none 0 0] (grownCap w n 0 40 - n)) 40)) := (Below.refl _ _).drew.alloc (Nat.le_refl _) _
    go_enter Try.func89, Try.ntmps89
    go_wp2_with (at_builtin; refine wpList_append_makeH _ rfl (.tmp 20) (.tmp 21) 25 3 rfl n rfl rfl _ _ hap ?_)
    go_ret
    exact ⟨_, _, rfl, hown, hb⟩
  · obtain rfl : n = 0 := by omega
    go_enter Try.func89, Try.ntmps89
    go_wp2_with fail
    go_ret
    exact ⟨none, 0, rfl, World.ownsRow_nil _ _ _ _, Below.refl _ _⟩
set_option maxRecDepth 100000 in
/-- append of a whole row of rates, which may be nil. -/
theorem wpList_append_rrH (w : World) {ops : Array Oper} {rest : List Oper} {o : Oper} {a : Act} {Q : Exit → Act → World → Prop} (hgd : o.guard = none) (s x : Operand)
    (ho : o.op = .call { callee := .builtin .append, args := #[s, x], argTypes := #[25, 25] }) (base : Nat) (O : Option Addr) (n q : Nat) (xs : List Value) (hs : a.eval s = .slice O n q) (hown : w.ownsRow base 40 2 (.slice O n q) n xs)
    (A : Option Addr) (c : Nat) (l : List Edh) (hx : a.eval x = .slice A l.length c) (hR : EdhR w A l) (hA : A = none ∨ ∃ b off, A = some ⟨b, off, none⟩) (h63 : n + l.length ≤ 1000) (hbase : base ≤ w.heap.size)
    (h : ∀ O' q' w', w'.ownsRow base 40 2 (.slice O' (n + l.length) q') (n + l.length) (xs ++ l.flatMap Edh.cells) → Below base w w' → wpList Try.prog ops Q rest (a.put o.dst (.slice O' (n + l.length) q')) w') :
    wpList Try.prog ops Q (o :: rest) a w := by
  obtain ⟨i0, hi, hz0, hz1, hz2⟩ := info_parts ednInfo
  rcases hA with rfl | ⟨b, off, rfl⟩
  · have hl : l = [] := by
      cases l with
      | nil => rfl
      | cons y l => obtain ⟨_, _, _, e, _⟩ := hR.at (k := 0) (by simp); cases e
    subst hl
    have hr := fun ty => run_append_nilH (P := Try.prog) w 25 ty 40 i0 Try.underlying25 hi O n q c (own_roomH hown)
    refine wpList_plain hgd fun K hK => ?_
    unfold Oper.wp execOp
    have hx' : a.eval x = .slice none 0 c := hx
    simp only [ho, resolve, invoke, builtin, Sem.run_bind, Sem.run_pure, Result.andThen_ok, List.map_toArray, List.map_cons, List.map_nil, hs, hx', hr]
    exact hK _ _ (h O q w (by simpa using hown) (Below.refl _ _))
  · refine wpList_append_own w hgd s x 25 ho base 40 i0 _ 2 32 Try.underlying25 hi hz0 hz1 hz2 rfl (by decide) _ n xs hs hown ⟨b, off, none⟩ l.length c (l.flatMap Edh.cells) hx (flat_len Edh.cells 2 (fun _ => rfl) l) ?_ ?_ (by unfold maxLen; omega) (by omega) hbase ?_
    · intro j u hu
      have hp : 0 < (l.flatMap Edh.cells).length := by have := (List.getElem?_eq_some_iff.1 hu).1; omega
      obtain ⟨b', off', e, _, hc⟩ := hR hp
      simp only [Option.some.injEq, Addr.mk.injEq, and_true] at e
      obtain ⟨rfl, rfl⟩ := e
      rw [show ((⟨b, off, none⟩ : Addr).add j) = ⟨b, off + j, none⟩ from by unfold Addr.add; split <;> simp_all]
      exact hc j u hu
    · intro u hu
      obtain ⟨y, _, hy⟩ := List.mem_flatMap.1 hu
      unfold Edh.cells at hy
      simp only [List.mem_cons, List.not_mem_nil, or_false] at hy
      rcases hy with rfl | rfl <;> simp [Value.oneCell']
    · intro v' w' h2 h3 h4
      obtain ⟨O', q', rfl⟩ := own_form h2
      exact h O' q' w' h2 ((Below.refl base w).grown h3 hbase (fun k hk => (hown.lt k hk).1))


/-- Slices of rates in a block. -/
structure PiecesH (w : World) (g : Nat) (ss : List (Option Addr × Nat × List Edh)) : Prop where
  lt : g < w.heap.size
  cell : ∀ (k : Nat) (s : Option Addr × Nat × List Edh), ss[k]? = some s → w.cell? ⟨g, k, none⟩ = some (.slice s.1 s.2.2.length s.2.1)
  row : ∀ s ∈ ss, EdhR w s.1 s.2.2 ∧ (s.1 = none ∨ ∃ b off, s.1 = some ⟨b, off, none⟩)
theorem PiecesH.below {w w' : World} {g : Nat} {ss : List (Option Addr × Nat × List Edh)} (h : PiecesH w g ss) (hb : Below w.heap.size w w') : PiecesH w' g ss :=
  ⟨Nat.lt_of_lt_of_le h.lt hb.size, fun k s hs => (hb.cell (p := ⟨g, k, none⟩) h.lt).trans (h.cell k s hs), fun s hs => ⟨(h.row s hs).1.below hb, (h.row s hs).2⟩⟩
def joinH (ss : List (Option Addr × Nat × List Edh)) : List Edh := ss.flatMap (·.2.2)
theorem joinP_snocH (ss : List (Option Addr × Nat × List Edh)) (s : Option Addr × Nat × List Edh) : joinH (ss ++ [s]) = joinH ss ++ s.2.2 := by simp [joinH]
theorem joinP_leH (ss : List (Option Addr × Nat × List Edh)) (k : Nat) : (joinH (ss.take k)).length ≤ (joinH ss).length := by
  have : joinH ss = joinH (ss.take k) ++ joinH (ss.drop k) := by unfold joinH; rw [← List.flatMap_append, List.take_append_drop]
  rw [this, List.length_append]; omega

set_option maxRecDepth 100000 in
set_option maxHeartbeats 4000000 in
theorem concat_iH (g : Nat) (ss : List (Option Addr × Nat × List Edh)) (c : Nat) (w : World) (h : PiecesH w g ss) (hn : ss.length ≤ 10) (hj : (joinH ss).length ≤ 900) :
    Calls Try.prog 59 #[.slice (some ⟨g, 0, none⟩) ss.length c] w fun e w' =>
      ∃ O q, e = .returned (.slice O (joinH ss).length q) ∧ EdhO w' w.heap.size O (joinH ss).length q (joinH ss) ∧ Below w.heap.size w w' := by
  go_enter Try.func59, Try.ntmps59
  go_wp2_with fail
  go_loopw [3, 11] (fun z i wr => ∃ (k m : Nat), k ≤ ss.length ∧ i = .int .i64 k ∧ z = .int .i64 m ∧ Hid (m = (joinH (ss.take k)).length) ∧ Below w.heap.size w wr) (fun _ i _ => ss.length - (intOf i).toNat)
  case atStart => exact ⟨0, 0, Nat.zero_le _, rfl, rfl, Lib.hid rfl, Below.refl _ _⟩
  case round =>
    obtain ⟨k, m, hk, rfl, rfl, hm, hb⟩ := hrel
    have hml : m ≤ 900 := by have := joinP_leH ss k; rw [hm.out]; omega
    by_cases hlt : k < ss.length
    · obtain ⟨s, hs⟩ : ∃ s, ss[k]? = some s := ⟨ss[k], by simp [hlt]⟩
      have hc := (h.below hb).cell k s hs
      have HM : Hid (m + s.2.2.length = (joinH (ss.take (k + 1))).length) := Lib.hid (by rw [snoc_of hs, joinP_snocH, List.length_append, hm.out])
      have hle : m + s.2.2.length ≤ 900 := by have := joinP_leH ss (k + 1); rw [HM.out]; omega
      obtain ⟨A, cc, l⟩ := s
      simp only at hc hle HM
      clear hs hm h
      go_wp2_with fail
      go_roundw
      case rel => exact ⟨k + 1, m + l.length, by omega, by go_num, by go_num, HM, hb⟩
      case measure => simp [intOf]; omega
    · have hM : Hid (m = (joinH ss).length) := Lib.hid (by have := hm.out; rwa [take_all hk hlt] at this)
      have HP := Lib.hid (fun W hW => h.below (w' := W) hW)
      clear hm h
      go_wp2_with (go_at_call 89; refine (grow0H m _ (by omega)).mono ?_; rintro e w1 ⟨O1, q1, rfl, hown1, b1⟩)
      have hb1 := hb.trans (b1.mono hb.size)
      have hw : w.heap.size ≤ wr.heap.size := hb.size
      have hw2 : wr.heap.size ≤ w1.heap.size := b1.size
      clear hb b1
      obtain ⟨wz, hwz⟩ : ∃ x, x = wr := ⟨_, rfl⟩
      subst hwz
      go_loopw [6, 27] (fun o i wr => ∃ (k : Nat) (js : List Edh) (O : Option Addr) (q : Nat), k ≤ ss.length ∧ i = .int .i64 k ∧ o = .slice O js.length q ∧ Hid (js = joinH (ss.take k)) ∧ wr.ownsRow wz.heap.size 40 2 (.slice O js.length q) js.length (js.flatMap Edh.cells) ∧ Below wz.heap.size w1 wr) (fun _ i _ => ss.length - (intOf i).toNat)
      case atStart => exact ⟨0, [], O1, q1, Nat.zero_le _, rfl, rfl, Lib.hid rfl, hown1, Below.refl _ _⟩
      case round =>
        obtain ⟨k', js, O, q, hk', rfl, rfl, hjs, hrow, hB⟩ := hrel
        by_cases hlt' : k' < ss.length
        · obtain ⟨s, hs⟩ : ∃ s, ss[k']? = some s := ⟨ss[k'], by simp [hlt']⟩
          have hP := HP.out wr (hb1.trans (hB.mono hw))
          have hc := hP.cell k' s hs
          obtain ⟨hR, hA⟩ := hP.row s (List.mem_of_getElem? hs)
          have HM : Hid (js ++ s.2.2 = joinH (ss.take (k' + 1))) := Lib.hid (by rw [snoc_of hs, joinP_snocH, hjs.out])
          have hle : js.length + s.2.2.length ≤ 900 := by have := joinP_leH ss (k' + 1); rw [← HM.out, List.length_append] at this; omega
          obtain ⟨A, cc, l⟩ := s
          simp only at hc hle HM hR hA
          have hsz : wz.heap.size ≤ wr.heap.size := Nat.le_trans hw2 hB.size
          clear hs hjs HP hP hM
          go_wp2_with (at_builtin; refine wpList_append_rrH _ rfl (.tmp 31) (.tmp 32) rfl wz.heap.size O js.length q _ rfl hrow A cc l rfl hR hA (by omega) hsz ?_; intro O' q' w' hown' hb')
          go_roundw
          case rel => exact ⟨k' + 1, js ++ l, O', q', by omega, by go_num, by rw [List.length_append], HM, by rw [List.length_append, List.flatMap_append]; exact hown', hB.trans hb'⟩
          case measure => simp [intOf]; omega
        · have hJ : Hid (js = joinH ss) := Lib.hid (by have := hjs.out; rwa [take_all hk' hlt'] at this)
          clear hjs HP hM
          go_wp2_with fail
          go_ret
          rw [← hJ.out]
          exact ⟨O, q, rfl, EdhO.mono hrow hw, hb1.trans (hB.mono hw)⟩
theorem EdhR.alloc {w : World} {A : Option Addr} {rs : List Edh} (h : EdhR w A rs) (o : Obj) : EdhR (w.alloc o) A rs := h.below (below_alloc w o)
theorem pieces3H {w : World} {A1 A3 : Option Addr} {c1 c3 n1 n3 : Nat} {l1 l3 : List Edh} (r : Edh) (h1 : EdhR w A1 l1) (h3 : EdhR w A3 l3) (a1 : A1 = none ∨ ∃ b off, A1 = some ⟨b, off, none⟩) (a3 : A3 = none ∨ ∃ b off, A3 = some ⟨b, off, none⟩) (e1 : l1.length = n1) (e3 : l3.length = n3) :
    PiecesH ((w.alloc (.cells #[.int .i64 r.y, .slice r.A r.n r.c] 40)).alloc (.cells #[.slice A1 n1 c1, .slice (some ⟨w.heap.size, 0, none⟩) 1 1, .slice A3 n3 c3] 25)) (w.heap.size + 1)
      [(A1, c1, l1), (some ⟨w.heap.size, 0, none⟩, 1, [r]), (A3, c3, l3)] := by
  subst e1 e3
  refine ⟨by simp, ?_, ?_⟩
  · have hb : ((w.alloc (.cells #[.int .i64 r.y, .slice r.A r.n r.c] 40)).alloc (.cells #[.slice A1 l1.length c1, .slice (some ⟨w.heap.size, 0, none⟩) 1 1, .slice A3 l3.length c3] 25)).heap[w.heap.size + 1]? = some (.cells #[.slice A1 l1.length c1, .slice (some ⟨w.heap.size, 0, none⟩) 1 1, .slice A3 l3.length c3] 25) := heap_alloc2_new w _ _
    intro k s hs
    rw [cell_of_row _ _ _ _ _ _ hb]
    match k, hs with
    | 0, hs => simp at hs; subst hs; rfl
    | 1, hs => simp at hs; subst hs; rfl
    | 2, hs => simp at hs; subst hs; rfl
    | k + 3, hs => simp at hs
  · intro s hs
    simp only [List.mem_cons, List.not_mem_nil, or_false] at hs
    rcases hs with rfl | rfl | rfl
    · exact ⟨(h1.alloc _).alloc _, a1⟩
    · refine ⟨EdhR.alloc (fun _ => ⟨w.heap.size, 0, rfl, by simp, fun j v hj => ?_⟩) _, .inr ⟨_, _, rfl⟩⟩
      rw [Nat.zero_add, cell_of_row _ _ _ _ _ _ (heap_alloc_new w _)]
      simpa [Edh.cells] using hj
    · exact ⟨(h3.alloc _).alloc _, a3⟩

theorem concat_qH {g : Nat} {ss : List (Option Addr × Nat × List Edh)} {n c : Nat} {w : World} {L : List Edh} (h : PiecesH w g ss) (hn : ss.length = n) (hn2 : n ≤ 10) (hL : joinH ss = L) (hj : L.length ≤ 900) :
    Calls Try.prog 59 #[.slice (some ⟨g, 0, none⟩) n c] w fun e w' => ∃ O q, e = .returned (.slice O L.length q) ∧ EdhO w' w.heap.size O L.length q L ∧ Below w.heap.size w w' := by
  subst hL hn
  exact concat_iH g ss c w h hn2 hj
end Go.Proofs.Ytpdkgjmppknbpaa
