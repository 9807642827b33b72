/- slices.Grow, slices.Concat over strings. (by gen_chi.py) -/
import Derived.Test.YtjcklmhgjdmjoaaMHeld
import Derived.Test.YtjcklmhgjdmjoaaMCal
import Derived.Laws.Append
namespace Go.Proofs.Ytjcklmhgjdmjoaa
open Go.ChangeShapes Go.WideShapes Go.ChangeAt Go.RowKit
set_option linter.unusedVariables false

theorem own_monoS {w : World} {base base' : Nat} {e : TypeId} {size n : Nat} {v : Value} {xs : List Value} (h : w.ownsRow base e size v n xs) (hb : base' ≤ base) : w.ownsRow base' e size v n xs := by
  refine ⟨h.1, h.2.imp id ?_⟩
  rintro ⟨g, cap, cur, h1, h2, h3⟩
  exact ⟨g, cap, cur, h1, by omega, h3⟩
theorem run_append_nilS {P : Program} (w : World) (t ty e : TypeId) (i : TypeInfo) (ht : P.underlying t = some (.slice e)) (hi : P.info? e = some i) (O : Option Addr) (n q c : Nat) (h : n ≤ q) :
    (Builtin.append_ #[t, t] ty #[.slice O n q, .slice none 0 c]).run P w = .ok (.slice O n q) w := by
  cases O <;> simp [Builtin.append_, run_underlying ht, sizeOf, typeInfo, hi, Builtin.lenOf, h, run_firstCells_none, storeCells]
theorem own_roomS {w : World} {base : Nat} {e : TypeId} {size n q : Nat} {O : Option Addr} {xs : List Value} (h : w.ownsRow base e size (.slice O n q) n xs) : n ≤ q := by
  rcases h.2 with ⟨h1, h2⟩ | ⟨g, cap, cur, h1, _, _, h4, _⟩
  · omega
  · injection h1 with _ _ h3; omega



theorem run_append_makeS {P : Program} (w : World) (t u ty e : TypeId) (k : IntKind) (i : TypeInfo) (z : Value) (ht : P.underlying t = some (.slice e)) (hu : P.underlying u = some (.int k)) (hi : P.info? e = some i) (hz : i.zero = some z)
    (n : Nat) (h0 : 0 < n) (hs : 0 < i.size) (hn : n ≤ 1000) (hb : i.bytes ≤ 1000) :
    (Builtin.append_ #[t, u] ty #[.slice none 0 0, .int .i64 n]).run P w =
      .ok (.slice (some ⟨w.heap.size, 0, none⟩) n (grownCap w n 0 e)) (w.drew.alloc (.cells (Builtin.zeroCells z.cells n ++ Builtin.zeroCells z.cells (grownCap w n 0 e - n)) e)) := by
  have hw : IntKind.i64.wrap (n : Int) = (n : Int) := by rw [IntKind.wrap_i64]; omega
  have h1 : ¬ ((n : Int) < 0) := by omega
  have hm : n * i.bytes ≤ 1000 * 1000 := Nat.mul_le_mul hn hb
  have h2 : ¬ (281474976710656 < (n : Int) * (i.bytes : Int)) := by
    rw [← Int.natCast_mul]; omega
  have h3 : n ≠ 0 := by omega
  have h63' : ¬ (9223372036854775807 < (n : Int)) := by omega
  have h5 : ¬ (n * i.size = 0) := Nat.ne_of_gt (Nat.mul_pos h0 hs)
  have h48' : ¬ (281474976710656 < Builtin.nextslicecap n 0 * i.bytes) := by rw [nextslicecap_zero h0]; omega
  simp [Builtin.append_, run_underlying ht, run_underlying hu, sizeOf, typeInfo, zeroValue, hi, hz, hw, h1, h2, h3, h5, h63', h48', Question.forced, run_firstCells_none, newRow, grownCap, asInt, asIntOf]
theorem wpList_append_makeS {P : Program} (w : World) {ops : Array Oper} {rest : List Oper} {o : Oper} {a : Act} {Q : Exit → Act → World → Prop} (hgd : o.guard = none) (s x : Operand) (t u : TypeId)
    (ho : o.op = .call { callee := .builtin .append, args := #[s, x], argTypes := #[t, u] }) (n : Nat) (hs : a.eval s = .slice none 0 0) (hx : a.eval x = .int .i64 n) (v : Value) (w' : World)
    (hr : ∀ ty, (Builtin.append_ #[t, u] ty #[.slice none 0 0, .int .i64 n]).run P w = .ok v w') (h : wpList P ops Q rest (a.put o.dst v) w') : wpList P ops Q (o :: rest) a w := by
  refine wpList_plain hgd fun K hK => ?_
  unfold Oper.wp execOp
  simp only [ho, resolve, invoke, builtin, Sem.run_bind, Sem.run_pure, Result.andThen_ok, List.map_toArray, List.map_cons, List.map_nil, hs, hx, hr]
  exact hK _ _ h
theorem made_zeroS (w : World) (n : Nat) (base : Nat) (h0 : base ≤ w.heap.size) (hn : n ≤ 1000) (z : Array Value) (hz : z.size = 1) :
    (w.drew.alloc (.cells (Builtin.zeroCells z n ++ Builtin.zeroCells z (grownCap w n 0 9 - n)) 9)).ownsRow base 9 1 (.slice (some ⟨w.heap.size, 0, none⟩) 0 (grownCap w n 0 9)) 0 [] := by
  have hg := grownCap_ge w n 0 9
  have hm := grownCap_le_maxLen w n 0 9 (by unfold maxLen; omega)
  refine ⟨rfl, .inr ⟨w.heap.size, _, _, rfl, h0, heap_alloc_new w.drew _, Nat.zero_le _, hm, ?_, ?_⟩⟩
  · rw [Array.size_append, size_zeroCells, size_zeroCells, hz]; omega
  · simp
set_option maxRecDepth 100000 in
set_option maxHeartbeats 2000000 in
theorem grow0S (n : Nat) (w : World) (hn : n ≤ 1000) : Calls Try.prog 128 #[.slice none 0 0, .int .i64 n] w fun e w' =>
    ∃ A c, e = .returned (.slice A 0 c) ∧ w'.ownsRow w.heap.size 9 1 (.slice A 0 c) 0 [] ∧ Below w.heap.size w w' := by
  obtain ⟨i0, hi, hz0, hz1, hz2⟩ := info_parts strInfo
  by_cases h0 : 0 < n
  · have hap := fun ty => run_append_makeS w 29 3 ty 9 .i64 i0 _ Try.underlying29 Try.underlying3 hi hz0 n h0 (by omega) hn (by omega)
    have hown := made_zeroS w n w.heap.size (Nat.le_refl _) hn #[.string ⟨#[]⟩] rfl
    have hb : Below w.heap.size w (w.drew.alloc (.cells (Builtin.zeroCells #[.string ⟨#[]⟩] n ++ Builtin.zeroCells #[.string ⟨#[]⟩] (grownCap w n 0 9 - n)) 9)) := (Below.refl _ _).drew.alloc (Nat.le_refl _) _
    go_enter Try.func128, Try.ntmps128
    go_wp2_with (at_builtin; refine wpList_append_makeS _ rfl (.tmp 20) (.tmp 21) 29 3 rfl n rfl rfl _ _ hap ?_)
    go_ret
    exact ⟨_, _, rfl, hown, hb⟩
  · obtain rfl : n = 0 := by omega
    go_enter Try.func128, Try.ntmps128
    go_wp2_with fail
    go_ret
    exact ⟨none, 0, rfl, World.ownsRow_nil _ _ _ _, Below.refl _ _⟩
set_option maxRecDepth 100000 in
/-- append of a whole row of rates, which may be nil. -/
theorem wpList_append_rrS (w : World) {ops : Array Oper} {rest : List Oper} {o : Oper} {a : Act} {Q : Exit → Act → World → Prop} (hgd : o.guard = none) (s x : Operand)
    (ho : o.op = .call { callee := .builtin .append, args := #[s, x], argTypes := #[29, 29] }) (base : Nat) (O : Option Addr) (n q : Nat) (xs : List Value) (hs : a.eval s = .slice O n q) (hown : w.ownsRow base 9 1 (.slice O n q) n xs)
    (A : Option Addr) (c : Nat) (l : List (List UInt8)) (hx : a.eval x = .slice A l.length c) (hR : Sr w A l) (hA : A = none ∨ ∃ b off, A = some ⟨b, off, none⟩) (h63 : n + l.length ≤ 1000) (hbase : base ≤ w.heap.size)
    (h : ∀ O' q' w', w'.ownsRow base 9 1 (.slice O' (n + l.length) q') (n + l.length) (xs ++ l.map encStr) → Below base w w' → wpList Try.prog ops Q rest (a.put o.dst (.slice O' (n + l.length) q')) w') :
    wpList Try.prog ops Q (o :: rest) a w := by
  obtain ⟨i0, hi, hz0, hz1, hz2⟩ := info_parts strInfo
  rcases hA with rfl | ⟨b, off, rfl⟩
  · have hl : l = [] := by
      cases l with
      | nil => rfl
      | cons y l => obtain ⟨_, _, _, e, _⟩ := hR.at (k := 0) (by simp); cases e
    subst hl
    have hr := fun ty => run_append_nilS (P := Try.prog) w 29 ty 9 i0 Try.underlying29 hi O n q c (own_roomS hown)
    refine wpList_plain hgd fun K hK => ?_
    unfold Oper.wp execOp
    have hx' : a.eval x = .slice none 0 c := hx
    simp only [ho, resolve, invoke, builtin, Sem.run_bind, Sem.run_pure, Result.andThen_ok, List.map_toArray, List.map_cons, List.map_nil, hs, hx', hr]
    exact hK _ _ (h O q w (by simpa using hown) (Below.refl _ _))
  · refine wpList_append_own w hgd s x 29 ho base 9 i0 _ 1 16 Try.underlying29 hi hz0 hz1 hz2 rfl (by decide) _ n xs hs hown ⟨b, off, none⟩ l.length c (l.map encStr) hx (by simp) ?_ ?_ (by unfold maxLen; omega) (by omega) hbase ?_
    · intro j u hu
      have hp : 0 < (l.map encStr).length := by have := (List.getElem?_eq_some_iff.1 hu).1; omega
      obtain ⟨b', off', e, _, hc⟩ := hR hp
      simp only [Option.some.injEq, Addr.mk.injEq, and_true] at e
      obtain ⟨rfl, rfl⟩ := e
      rw [show ((⟨b, off, none⟩ : Addr).add j) = ⟨b, off + j, none⟩ from by unfold Addr.add; split <;> simp_all]
      exact hc j u hu
    · intro u hu
      obtain ⟨y, _, rfl⟩ := List.mem_map.1 hu
      simp [encStr, Value.oneCell']
    · intro v' w' h2 h3 h4
      obtain ⟨O', q', rfl⟩ := own_form h2
      exact h O' q' w' h2 ((Below.refl base w).grown h3 hbase (fun k hk => (hown.lt k hk).1))


/-- Slices of rates in a block. -/
structure PiecesS (w : World) (g : Nat) (ss : List (Option Addr × Nat × List (List UInt8))) : Prop where
  lt : g < w.heap.size
  cell : ∀ (k : Nat) (s : Option Addr × Nat × List (List UInt8)), ss[k]? = some s → w.cell? ⟨g, k, none⟩ = some (.slice s.1 s.2.2.length s.2.1)
  row : ∀ s ∈ ss, Sr w s.1 s.2.2 ∧ (s.1 = none ∨ ∃ b off, s.1 = some ⟨b, off, none⟩)
theorem PiecesS.below {w w' : World} {g : Nat} {ss : List (Option Addr × Nat × List (List UInt8))} (h : PiecesS w g ss) (hb : Below w.heap.size w w') : PiecesS w' g ss :=
  ⟨Nat.lt_of_lt_of_le h.lt hb.size, fun k s hs => (hb.cell (p := ⟨g, k, none⟩) h.lt).trans (h.cell k s hs), fun s hs => ⟨(h.row s hs).1.below hb, (h.row s hs).2⟩⟩
def joinS (ss : List (Option Addr × Nat × List (List UInt8))) : List (List UInt8) := ss.flatMap (·.2.2)
theorem joinP_snocS (ss : List (Option Addr × Nat × List (List UInt8))) (s : Option Addr × Nat × List (List UInt8)) : joinS (ss ++ [s]) = joinS ss ++ s.2.2 := by simp [joinS]
theorem joinP_leS (ss : List (Option Addr × Nat × List (List UInt8))) (k : Nat) : (joinS (ss.take k)).length ≤ (joinS ss).length := by
  have : joinS ss = joinS (ss.take k) ++ joinS (ss.drop k) := by unfold joinS; rw [← List.flatMap_append, List.take_append_drop]
  rw [this, List.length_append]; omega

set_option maxRecDepth 100000 in
set_option maxHeartbeats 4000000 in
theorem concat_iS (g : Nat) (ss : List (Option Addr × Nat × List (List UInt8))) (c : Nat) (w : World) (h : PiecesS w g ss) (hn : ss.length ≤ 10) (hj : (joinS ss).length ≤ 900) :
    Calls Try.prog 97 #[.slice (some ⟨g, 0, none⟩) ss.length c] w fun e w' =>
      ∃ O q, e = .returned (.slice O (joinS ss).length q) ∧ Ost w' w.heap.size O (joinS ss).length q (joinS ss) ∧ Below w.heap.size w w' := by
  go_enter Try.func97, Try.ntmps97
  go_wp2_with fail
  go_loopw [3, 11] (fun z i wr => ∃ (k m : Nat), k ≤ ss.length ∧ i = .int .i64 k ∧ z = .int .i64 m ∧ Hid (m = (joinS (ss.take k)).length) ∧ Below w.heap.size w wr) (fun _ i _ => ss.length - (intOf i).toNat)
  case atStart => exact ⟨0, 0, Nat.zero_le _, rfl, rfl, Lib.hid rfl, Below.refl _ _⟩
  case round =>
    obtain ⟨k, m, hk, rfl, rfl, hm, hb⟩ := hrel
    have hml : m ≤ 900 := by have := joinP_leS ss k; rw [hm.out]; omega
    by_cases hlt : k < ss.length
    · obtain ⟨s, hs⟩ : ∃ s, ss[k]? = some s := ⟨ss[k], by simp [hlt]⟩
      have hc := (h.below hb).cell k s hs
      have HM : Hid (m + s.2.2.length = (joinS (ss.take (k + 1))).length) := Lib.hid (by rw [snoc_of hs, joinP_snocS, List.length_append, hm.out])
      have hle : m + s.2.2.length ≤ 900 := by have := joinP_leS ss (k + 1); rw [HM.out]; omega
      obtain ⟨A, cc, l⟩ := s
      simp only at hc hle HM
      clear hs hm h
      go_wp2_with fail
      go_roundw
      case rel => exact ⟨k + 1, m + l.length, by omega, by go_num, by go_num, HM, hb⟩
      case measure => simp [intOf]; omega
    · have hM : Hid (m = (joinS ss).length) := Lib.hid (by have := hm.out; rwa [take_all hk hlt] at this)
      have HP := Lib.hid (fun W hW => h.below (w' := W) hW)
      clear hm h
      go_wp2_with (go_at_call 128; refine (grow0S m _ (by omega)).mono ?_; rintro e w1 ⟨O1, q1, rfl, hown1, b1⟩)
      have hb1 := hb.trans (b1.mono hb.size)
      have hw : w.heap.size ≤ wr.heap.size := hb.size
      have hw2 : wr.heap.size ≤ w1.heap.size := b1.size
      clear hb b1
      obtain ⟨wz, hwz⟩ : ∃ x, x = wr := ⟨_, rfl⟩
      subst hwz
      go_loopw [6, 27] (fun o i wr => ∃ (k : Nat) (js : List (List UInt8)) (O : Option Addr) (q : Nat), k ≤ ss.length ∧ i = .int .i64 k ∧ o = .slice O js.length q ∧ Hid (js = joinS (ss.take k)) ∧ wr.ownsRow wz.heap.size 9 1 (.slice O js.length q) js.length (js.map encStr) ∧ Below wz.heap.size w1 wr) (fun _ i _ => ss.length - (intOf i).toNat)
      case atStart => exact ⟨0, [], O1, q1, Nat.zero_le _, rfl, rfl, Lib.hid rfl, hown1, Below.refl _ _⟩
      case round =>
        obtain ⟨k', js, O, q, hk', rfl, rfl, hjs, hrow, hB⟩ := hrel
        by_cases hlt' : k' < ss.length
        · obtain ⟨s, hs⟩ : ∃ s, ss[k']? = some s := ⟨ss[k'], by simp [hlt']⟩
          have hP := HP.out wr (hb1.trans (hB.mono hw))
          have hc := hP.cell k' s hs
          obtain ⟨hR, hA⟩ := hP.row s (List.mem_of_getElem? hs)
          have HM : Hid (js ++ s.2.2 = joinS (ss.take (k' + 1))) := Lib.hid (by rw [snoc_of hs, joinP_snocS, hjs.out])
          have hle : js.length + s.2.2.length ≤ 900 := by have := joinP_leS ss (k' + 1); rw [← HM.out, List.length_append] at this; omega
          obtain ⟨A, cc, l⟩ := s
          simp only at hc hle HM hR hA
          have hsz : wz.heap.size ≤ wr.heap.size := Nat.le_trans hw2 hB.size
          clear hs hjs HP hP hM
          go_wp2_with (at_builtin; refine wpList_append_rrS _ rfl (.tmp 31) (.tmp 32) rfl wz.heap.size O js.length q _ rfl hrow A cc l rfl hR hA (by omega) hsz ?_; intro O' q' w' hown' hb')
          go_roundw
          case rel => exact ⟨k' + 1, js ++ l, O', q', by omega, by go_num, by rw [List.length_append], HM, by rw [List.length_append, List.map_append]; exact hown', hB.trans hb'⟩
          case measure => simp [intOf]; omega
        · have hJ : Hid (js = joinS ss) := Lib.hid (by have := hjs.out; rwa [take_all hk' hlt'] at this)
          clear hjs HP hM
          go_wp2_with fail
          go_ret
          rw [← hJ.out]
          exact ⟨O, q, rfl, own_monoS hrow hw, hb1.trans (hB.mono hw)⟩
theorem pieces2S {w : World} {A1 A2 : Option Addr} {c1 c2 n1 n2 : Nat} {l1 l2 : List (List UInt8)} (h1 : Sr w A1 l1) (h2 : Sr w A2 l2) (a1 : A1 = none ∨ ∃ b off, A1 = some ⟨b, off, none⟩) (a2 : A2 = none ∨ ∃ b off, A2 = some ⟨b, off, none⟩) (e1 : l1.length = n1) (e2 : l2.length = n2) :
    PiecesS (w.alloc (.cells #[.slice A1 n1 c1, .slice A2 n2 c2] 29)) w.heap.size [(A1, c1, l1), (A2, c2, l2)] := by
  subst e1 e2
  refine ⟨by simp, ?_, ?_⟩
  · intro k s hs
    rw [cell_of_row _ _ _ _ _ _ (heap_alloc_new w _)]
    match k, hs with
    | 0, hs => simp at hs; subst hs; rfl
    | 1, hs => simp at hs; subst hs; rfl
    | k + 2, hs => simp at hs
  · intro s hs
    simp only [List.mem_cons, List.not_mem_nil, or_false] at hs
    rcases hs with rfl | rfl
    · exact ⟨h1.below (below_alloc _ _), a1⟩
    · exact ⟨h2.below (below_alloc _ _), a2⟩
theorem concat_qS {g : Nat} {ss : List (Option Addr × Nat × List (List UInt8))} {n c : Nat} {w : World} {L : List (List UInt8)} (h : PiecesS w g ss) (hn : ss.length = n) (hn2 : n ≤ 10) (hL : joinS ss = L) (hj : L.length ≤ 900) :
    Calls Try.prog 97 #[.slice (some ⟨g, 0, none⟩) n c] w fun e w' => ∃ O q, e = .returned (.slice O L.length q) ∧ Ost w' w.heap.size O L.length q L ∧ Below w.heap.size w w' := by
  subst hL hn
  exact concat_iS g ss c w h hn2 hj
end Go.Proofs.Ytjcklmhgjdmjoaa
