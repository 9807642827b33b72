/- impl.withStop, impl.InsertRefuge. (by gen_wst.py) -/
import Derived.Test.YtklhcofonkmiiaaVis
import Derived.Laws.CopyOwn
import Derived.Lib.Overlaps
import Derived.StillTailTactics
import Derived.Lib.AppendZerosOnto
import Derived.Shelf.RegionOpenPlain
namespace Go.Proofs.Ytklhcofonkmiiaa
open Go.ChangeShapes Go.WideShapes Go.ChangeAt Go.RowKit
set_option linter.unusedVariables false

theorem RowAV.low {lo lo' : Nat} {v : Value} {L : List Sto} {W : World} (h : RowAV lo v L W) (hl : lo' ≤ lo) : RowAV lo' v L W := by
  obtain ⟨O, q, e, ho⟩ := h; exact ⟨O, q, e, ho.mono hl⟩
theorem cells_oneV (qs : List Sto) : ∀ u ∈ qs.flatMap Sto.cells, u.oneCell' = true := fun u hu => by
  obtain ⟨y, _, hy⟩ := List.mem_flatMap.1 hu
  unfold Sto.cells at hy
  simp only [List.mem_cons, List.not_mem_nil, or_false] at hy
  rcases hy with rfl | rfl | rfl <;> simp [Value.oneCell']
theorem stoR_cells {w : World} {b off : Nat} {ps : List Sto} (h : StoR w (some ⟨b, off, none⟩) ps) : ∀ j u, (ps.flatMap Sto.cells)[j]? = some u → w.cell? ((⟨b, off, none⟩ : Addr).add j) = some u := fun j u hu => by
  have hp : 0 < (ps.flatMap Sto.cells).length := by have := (List.getElem?_eq_some_iff.1 hu).1; omega
  obtain ⟨b', off', e, _, hc⟩ := h hp
  simp only [Option.some.injEq, Addr.mk.injEq, and_true] at e
  obtain ⟨rfl, rfl⟩ := e
  rw [show ((⟨b, off, none⟩ : Addr).add j) = ⟨b, off + j, none⟩ from by unfold Addr.add; split <;> simp_all]
  exact hc j u hu
theorem wpOp_append_full {ops : Array Oper} {Q : Exit → Act → World → Prop} {i : Nat} {o : Oper} {K : Act → World → Prop} {a : Act} {W : World} (hoi : ops[i]? = some o) (hgd : o.guard = none) (s y : Operand)
    (ho : o.op = .call { callee := .builtin .append, args := #[s, y], argTypes := #[24, 24] }) (b off : Nat) (ps : List Sto) (x : Sto) (B : Nat) (hs : a.eval s = .slice (some ⟨b, off, none⟩) ps.length ps.length)
    (hy : a.eval y = .slice (some ⟨B, 0, none⟩) 1 1) (hR : StoR W (some ⟨b, off, none⟩) ps) (hB : W.heap[B]? = some (.cells #[.string ⟨x.p.toArray⟩, .int .i64 x.i, .int .i64 x.o] 35 (0, 0))) (hn : ps.length ≤ 1000)
    (h : ∀ v' W', RowAV W.heap.size v' (ps ++ [x]) W' → W.grownBy W' none → K (a.put o.dst v') W') : wpOp Try.prog ops Q i K a W := by
  obtain ⟨i0, hi, hz0, hz1, hz2⟩ := info_parts stoInfo
  refine wpOp_step hoi fun K' hK => ?_
  rw [if_pos (by simp only [Region.wanted, hgd])]
  obtain ⟨v', W', hr, h1, h2⟩ := run_append_arg_grows (P := Try.prog) W 24 o.type 35 i0 _ 3 32 Try.underlying24 hi hz0 hz1 hz2 rfl (by decide) ⟨b, off, none⟩ ps.length ps.length (ps.flatMap Sto.cells) (flat_len Sto.cells 3 (fun _ => rfl) ps) (stoR_cells hR)
    ⟨B, 0, none⟩ 1 1 x.cells rfl (fun j u hu => by
      rw [show ((⟨B, 0, none⟩ : Addr).add j) = ⟨B, j, none⟩ from by unfold Addr.add; split <;> simp_all, cell_of_row _ _ _ _ _ _ hB, ← hu]; simp [Sto.cells]) (by omega) (by unfold maxLen; omega) (by omega)
  obtain ⟨O, q, rfl⟩ := own_form h1
  unfold Oper.wp execOp
  simp only [ho, resolve, invoke, builtin, Sem.run_bind, Sem.run_pure, Result.andThen_ok, List.map_toArray, List.map_cons, List.map_nil, hs, hy, hr]
  refine hK _ _ (h _ W' ⟨O, q, by simp, ?_⟩ h2)
  unfold StoO
  rw [List.length_append, List.flatMap_append]
  simpa [Sto.cells] using h1
/-- copy over elements of several cells. -/
theorem run_copy_rowV {P : Program} (w : World) (dT sT ty elem : TypeId) (size g o dLen dCap : Nat) (a : Addr) (sLen sCap : Nat) (cur : Array Value) (t : TypeId) (cs : List Value)
    (hu : P.underlying dT = some (.slice elem)) (hs : (P.info? elem).map (·.size) = some size)
    (hg : w.heap[g]? = some (.cells cur t (0, 0))) (hn : cs.length = Nat.min sLen dLen * size)
    (hsrc : ∀ j v, cs[j]? = some v → w.cell? (a.add j) = some v) (hfit : o + cs.length ≤ cur.size) (h1 : ∀ v ∈ cs, v.oneCell' = true) :
    (Builtin.copy_ #[dT, sT] ty #[.slice (some ⟨g, o, none⟩) dLen dCap, .slice (some a) sLen sCap]).run P w =
      .ok (goInt (Nat.min sLen dLen)) (w.setRow g (cur.toList.take o ++ cs ++ cur.toList.drop (o + cs.length)).toArray) := by
  have hl := run_loadCells_list (P := P) w a cs hsrc
  have hst := run_storeCells_at P g o t cs 0 cur w hg (by simpa using hfit) h1
  cases hq : P.info? elem with
  | none => simp [hq] at hs
  | some i =>
    have hi : i.size = size := by simpa [hq] using hs
    simp [Builtin.copy_, run_underlying hu, Builtin.lenOf, Builtin.firstCells, sizeOf, typeInfo, hq, hi, ← hn, hl, hst]
theorem wpList_copy_runV {P : Program} (w : World) {ops : Array Oper} {rest : List Oper} {o : Oper} {a : Act} {Q : Exit → Act → World → Prop} (hgd : o.guard = none) (d s : Operand) (t u : TypeId)
    (ho : o.op = .call { callee := .builtin .copy, args := #[d, s], argTypes := #[t, u] }) (v x : Value) (hs : a.eval d = v) (hx : a.eval s = x) (r : Value) (w' : World)
    (hr : ∀ ty, (Builtin.copy_ #[t, u] ty #[v, x]).run P w = .ok r w') (h : wpList P ops Q rest (a.put o.dst r) w') : wpList P ops Q (o :: rest) a w := by
  refine wpList_plain hgd fun K hK => ?_
  unfold Oper.wp execOp
  simp only [ho, resolve, invoke, builtin, Sem.run_bind, Sem.run_pure, Result.andThen_ok, List.map_toArray, List.map_cons, List.map_nil, hs, hx, hr]
  exact hK _ _ h
theorem step_copy_runV {P : Program} {ops : Array Oper} {o : Oper} {a : Act} {w : World} {K : Act → World → Prop} {Q : Exit → Act → World → Prop} {E : Prop} (hgd : o.guard = none) (d s : Operand) (t u : TypeId)
    (ho : o.op = .call { callee := .builtin .copy, args := #[d, s], argTypes := #[t, u] }) (v x : Value) (hs : a.eval d = v) (hx : a.eval s = x) {r : Value} {w' : World}
    (hr : ∀ ty, (Builtin.copy_ #[t, u] ty #[v, x]).run P w = .ok r w') (h : K (a.put o.dst r) w') :
    if Region.wanted o (yielded ops a.tmps) = true then Oper.wp P o a w K Q else E := by
  have hw : Region.wanted o (yielded ops a.tmps) = true := by simp [Region.wanted, hgd]
  rw [if_pos hw]
  unfold Oper.wp execOp
  simp only [ho, resolve, invoke, builtin, Sem.run_bind, Sem.run_pure, Result.andThen_ok, List.map_toArray, List.map_cons, List.map_nil, hs, hx, hr]
  exact h
theorem stoSz : (Try.prog.info? 35).map (·.size) = some 3 := by kernel_rfl
theorem own_room3 {w : World} {base g n c : Nat} {e : TypeId} {xs : List Value} (h : w.ownsRow base e 3 (.slice (some ⟨g, 0, none⟩) n c) n xs) :
    ∃ cur : Array Value, base ≤ g ∧ w.heap[g]? = some (.cells cur e (0, 0)) ∧ n ≤ c ∧ c ≤ maxLen ∧ cur.size = c * 3 ∧ cur.toList.take (n * 3) = xs := by
  rcases h.2 with ⟨e, _⟩ | ⟨g', cap, cur, e, h1, h2, h3, h4, h5, h6⟩
  · injection e with e; cases e
  · injection e with e e2 e3
    injection e with e
    injection e with e
    subst e e3
    exact ⟨cur, h1, h2, h3, h4, h5, h6⟩
theorem insAt_set {ps : List Sto} {k : Nat} {y x : Sto} (hk : k ≤ ps.length) : (insAt ps k y).set k x = insAt ps k x := by
  unfold insAt
  have hl : (ps.take k).length = k := by rw [List.length_take]; omega
  rw [List.append_assoc, List.append_assoc, List.set_append_right _ _ (by omega), hl, Nat.sub_self]; rfl
theorem flat_setV {ps : List Sto} {k : Nat} {x : Sto} (hk : k < ps.length) : ((((ps.flatMap Sto.cells).set (k * 3) (.string ⟨x.p.toArray⟩)).set (k * 3 + 1) (.int .i64 x.i)).set (k * 3 + 2) (.int .i64 x.o)) = (ps.set k x).flatMap Sto.cells := by
  induction ps generalizing k with
  | nil => simp at hk
  | cons p ps ih =>
    cases k with
    | zero => simp [Sto.cells]
    | succ k =>
      have e : ∀ j, (k + 1) * 3 + j = p.cells.length + (k * 3 + j) := fun j => by show _ = 3 + (k * 3 + j); omega
      have e0 := e 0
      simp only [Nat.add_zero] at e0
      have hle : ∀ n, ¬ (p.cells.length + n < p.cells.length) := fun n => by omega
      rw [List.set_cons_succ, List.flatMap_cons, List.flatMap_cons, ← ih (k := k) (by simpa using hk), e 1, e 2, e0, List.set_append, if_neg (hle _), Nat.add_sub_cancel_left, List.set_append, if_neg (hle _), Nat.add_sub_cancel_left, List.set_append, if_neg (hle _), Nat.add_sub_cancel_left]
/-- The copied row. -/
theorem copied {ps : List Sto} {x pk : Sto} {k : Nat} {cur : List Value} (hk : k < ps.length) (hp : ps[k]? = some pk) (hc : cur.take ((ps.length + 1) * 3) = (ps ++ [x]).flatMap Sto.cells) (hl : (ps.length + 1) * 3 ≤ cur.length) :
    (cur.take ((k + 1) * 3) ++ (ps.drop k).flatMap Sto.cells ++ cur.drop ((k + 1) * 3 + ((ps.drop k).flatMap Sto.cells).length)).take ((ps.length + 1) * 3) = (insAt ps k pk).flatMap Sto.cells := by
  have hd := flat_len Sto.cells 3 (fun _ => rfl) (ps.drop k)
  rw [List.length_drop] at hd
  have h1 : (cur.take ((k + 1) * 3)).length = (k + 1) * 3 := by rw [List.length_take]; omega
  have h2 : (cur.take ((k + 1) * 3) ++ (ps.drop k).flatMap Sto.cells).length = (ps.length + 1) * 3 := by rw [List.length_append, h1, hd]; omega
  rw [List.take_append_of_le_length (by omega), List.take_of_length_le (by omega)]
  have h3 : cur.take ((k + 1) * 3) = (ps.take (k + 1)).flatMap Sto.cells := by
    have h4 : cur.take ((k + 1) * 3) = (cur.take ((ps.length + 1) * 3)).take ((k + 1) * 3) := by rw [List.take_take]; congr 1; omega
    have h5 : (ps ++ [x]).flatMap Sto.cells = (ps.take (k + 1)).flatMap Sto.cells ++ ((ps.drop (k + 1)) ++ [x]).flatMap Sto.cells := by rw [← List.flatMap_append, ← List.append_assoc, List.take_append_drop]
    have h6 := flat_len Sto.cells 3 (fun _ => rfl) (ps.take (k + 1))
    rw [List.length_take, Nat.min_eq_left (by omega)] at h6
    rw [h4, hc, h5, List.take_append_of_le_length (by omega), List.take_of_length_le (by omega)]
  rw [h3, ← List.flatMap_append, snoc_of hp]
  rfl
def frWs (us : Nat → Value) : Act := { tmps := #[us 0, us 1, us 2, us 3, us 4, us 5, us 6, us 7, us 8, us 9, us 10, us 11, us 12, us 13, us 14, us 15, us 16, us 17, us 18, us 19, us 20, us 21, us 22, us 23, us 24, us 25, us 26, us 27, us 28, us 29], defers := [] }
theorem frWs_of {x0 x1 x2 x3 x4 x5 x6 x7 x8 x9 x10 x11 x12 x13 x14 x15 x16 x17 x18 x19 x20 x21 x22 x23 x24 x25 x26 x27 x28 x29 : Value} : ({ tmps := #[x0, x1, x2, x3, x4, x5, x6, x7, x8, x9, x10, x11, x12, x13, x14, x15, x16, x17, x18, x19, x20, x21, x22, x23, x24, x25, x26, x27, x28, x29], defers := [] } : Act) = frWs (fun k => #[x0, x1, x2, x3, x4, x5, x6, x7, x8, x9, x10, x11, x12, x13, x14, x15, x16, x17, x18, x19, x20, x21, x22, x23, x24, x25, x26, x27, x28, x29].getD k undef) := rfl
/-- The condition on which operations have come up. -/
structure InvWs (b off n c k b5 : Nat) (ps : List Sto) (x : Sto) (w : World) (d : Array Bool) (us : Nat → Value) (W : World) : Prop where
  u0 : us 0 = .slice (some ⟨b, off, none⟩) n c
  u1 : us 1 = .int .i64 (k : Int)
  u5 : us 5 = .pointer (some ⟨b5, 0, none⟩)
  bel : Below w.heap.size w W
  o0 : d.getD 0 false = true → us 8 = .slice (some ⟨b, off, none⟩) n c
  o1 : d.getD 1 false = true → us 9 = .slice (some ⟨b, off, none⟩) n c
  o2 : d.getD 2 false = true → us 10 = .int .i64 (n : Int)
  o3 : d.getD 3 false = true → us 11 = .slice (some ⟨b, off, none⟩) n c
  o4 : d.getD 4 false = true → us 12 = .int .i64 (n : Int)
  o5 : d.getD 5 false = true → us 13 = .slice (some ⟨b, off, none⟩) n n
  o6 : d.getD 6 false = true → us 14 = .agg #[.string ⟨x.p.toArray⟩, .int .i64 x.i, .int .i64 x.o]
  o7 : d.getD 7 false = true → ∃ B, us 15 = .slice (some ⟨B, 0, none⟩) 1 1 ∧ W.heap[B]? = some (.cells #[.string ⟨x.p.toArray⟩, .int .i64 x.i, .int .i64 x.o] 35 (0, 0))
  o8 : d.getD 8 false = true → RowAV w.heap.size (us 16) (ps ++ [x]) W
  o9 : d.getD 9 false = true → us 7 = us 16 ∧ d.getD 8 false = true

/-- What withStop leaves. -/
def WsRes (w : World) (ps : List Sto) (k : Nat) (x : Sto) (e : Ending) (w' : World) : Prop :=
  ∃ O q, e = .returned (.slice O (ps.length + 1) q) ∧ StoO w' w.heap.size O (ps.length + 1) q (insAt ps k x) ∧ Below w.heap.size w w'
set_option maxRecDepth 100000 in
set_option maxHeartbeats 8000000 in
theorem withStop_i (b off c k : Nat) (ps : List Sto) (x : Sto) (w : World) (hR : StoR w (some ⟨b, off, none⟩) ps) (hn : ps.length ≤ 1000) (hcap : ps.length ≤ c) (hk : k < ps.length) :
    Calls Try.prog 50 #[.slice (some ⟨b, off, none⟩) ps.length c, .int .i64 (k : Int), .agg #[.string ⟨x.p.toArray⟩, .int .i64 x.i, .int .i64 x.o]] w (WsRes w ps k x) := by
  have kb := KeepV.new w x
  obtain ⟨pk, hpk⟩ : ∃ pk, ps[k]? = some pk := ⟨_, List.getElem?_eq_getElem hk⟩
  have hRq := hR.below kb.bel
  have hbw : b < w.heap.size := by
    obtain ⟨b', off', r, e, h1, _⟩ := hR.at hk
    simp only [Option.some.injEq, Addr.mk.injEq, and_true] at e
    obtain ⟨rfl, rfl⟩ := e; exact h1
  obtain ⟨n, hlen⟩ : ∃ n, n = ps.length := ⟨_, rfl⟩
  rw [← hlen] at hn hcap hk ⊢
  have hdl := flat_len Sto.cells 3 (fun _ => rfl) (ps.drop k)
  rw [List.length_drop, ← hlen] at hdl
  have HL := Lib.hid hlen
  clear hlen
  have hlt9 : (n : Int) + 1 ≤ 9223372036854775807 := by omega
  go_enter Try.func50, Try.ntmps50
  go_wp2_with fail
  have hkq := kb
  have hwl : w.heap.size < (w.alloc (.cells #[.string ⟨x.p.toArray⟩, .int .i64 x.i, .int .i64 x.o] 35)).heap.size := by simp
  generalize hwq : (w.alloc (.cells #[.string ⟨x.p.toArray⟩, .int .i64 x.i, .int .i64 x.o] 35)) = wq at *
  clear hwq kb
  refine region_inv (by kernel_rfl) (by kernel_rfl) (fun d a W => ∃ us, a = frWs us ∧ InvWs b off n c k (w.heap.size) ps x wq d us W) ?_ ?_ ?_
  · refine ⟨_, frWs_of, ?_⟩
    have Z : ∀ k, (Array.replicate 10 false).getD k false = false := fun k => by
      rcases Nat.lt_or_ge k 10 with h | h
      · simp [h]
      · simp [Array.getElem?_eq_none, h]
    have Zn : ∀ {k : Nat} {p : Prop}, (Array.replicate 10 false).getD k false = true → p := fun {k p} h => by rw [Z k] at h; cases h
    exact { u0 := rfl, u1 := rfl, u5 := rfl, bel := (Below.refl _ _).drew, o0 := Zn, o1 := Zn, o2 := Zn, o3 := Zn, o4 := Zn, o5 := Zn, o6 := Zn, o7 := Zn, o8 := Zn, o9 := Zn }
  · intro i d a W hi hI
    obtain ⟨hun, oi, hoi, hall⟩ := mem_ready.1 hi
    have hlt : i < 10 := (Array.getElem?_eq_some_iff.1 hoi).1
    obtain ⟨us, rfl, I⟩ := hI
    have hsz : wq.heap.size ≤ W.heap.size := I.bel.size
    have e0 := I.u0
    have e1 := I.u1
    have e5 := I.u5
    rcases (by omega : i = 0 ∨ i = 1 ∨ i = 2 ∨ i = 3 ∨ i = 4 ∨ i = 5 ∨ i = 6 ∨ i = 7 ∨ i = 8 ∨ i = 9) with rfl | rfl | rfl | rfl | rfl | rfl | rfl | rfl | rfl | rfl
    all_goals
      obtain rfl := Option.some.inj hoi
      clear hoi hlt hi
    · skip
      have D0 : (d.setIfInBounds 0 true).getD 0 false = true := getD_set_sameV hun
      have D1 : (d.setIfInBounds 0 true).getD 1 false = d.getD 1 false := getD_set_ne false (by decide)
      have D2 : (d.setIfInBounds 0 true).getD 2 false = d.getD 2 false := getD_set_ne false (by decide)
      have D3 : (d.setIfInBounds 0 true).getD 3 false = d.getD 3 false := getD_set_ne false (by decide)
      have D4 : (d.setIfInBounds 0 true).getD 4 false = d.getD 4 false := getD_set_ne false (by decide)
      have D5 : (d.setIfInBounds 0 true).getD 5 false = d.getD 5 false := getD_set_ne false (by decide)
      have D6 : (d.setIfInBounds 0 true).getD 6 false = d.getD 6 false := getD_set_ne false (by decide)
      have D7 : (d.setIfInBounds 0 true).getD 7 false = d.getD 7 false := getD_set_ne false (by decide)
      have D8 : (d.setIfInBounds 0 true).getD 8 false = d.getD 8 false := getD_set_ne false (by decide)
      have D9 : (d.setIfInBounds 0 true).getD 9 false = d.getD 9 false := getD_set_ne false (by decide)
      have U0 : updAV us 8 (.slice (some ⟨b, off, none⟩) n c) 0 = us 0 := upd_otherV (by decide)
      have U1 : updAV us 8 (.slice (some ⟨b, off, none⟩) n c) 1 = us 1 := upd_otherV (by decide)
      have U5 : updAV us 8 (.slice (some ⟨b, off, none⟩) n c) 5 = us 5 := upd_otherV (by decide)
      have U7 : updAV us 8 (.slice (some ⟨b, off, none⟩) n c) 7 = us 7 := upd_otherV (by decide)
      have U8 : updAV us 8 (.slice (some ⟨b, off, none⟩) n c) 8 = (.slice (some ⟨b, off, none⟩) n c) := upd_sameV _ _ _
      have U9 : updAV us 8 (.slice (some ⟨b, off, none⟩) n c) 9 = us 9 := upd_otherV (by decide)
      have U10 : updAV us 8 (.slice (some ⟨b, off, none⟩) n c) 10 = us 10 := upd_otherV (by decide)
      have U11 : updAV us 8 (.slice (some ⟨b, off, none⟩) n c) 11 = us 11 := upd_otherV (by decide)
      have U12 : updAV us 8 (.slice (some ⟨b, off, none⟩) n c) 12 = us 12 := upd_otherV (by decide)
      have U13 : updAV us 8 (.slice (some ⟨b, off, none⟩) n c) 13 = us 13 := upd_otherV (by decide)
      have U14 : updAV us 8 (.slice (some ⟨b, off, none⟩) n c) 14 = us 14 := upd_otherV (by decide)
      have U15 : updAV us 8 (.slice (some ⟨b, off, none⟩) n c) 15 = us 15 := upd_otherV (by decide)
      have U16 : updAV us 8 (.slice (some ⟨b, off, none⟩) n c) 16 = us 16 := upd_otherV (by decide)
      refine wpOp_step rfl (fun K hK => ?_)
      simp only [frWs, e0, e1, e5]
      go_simp
      refine hK _ _ ⟨updAV us 8 (.slice (some ⟨b, off, none⟩) n c), by simp [frWs, updAV, e0, e1, e5], { u0 := (U0.trans I.u0), u1 := (U1.trans I.u1), u5 := (U5.trans I.u5), bel := (I.bel), o0 := (fun _ => U8), o1 := (fun h => U9.trans (I.o1 (D1.symm.trans h))), o2 := (fun h => U10.trans (I.o2 (D2.symm.trans h))), o3 := (fun h => U11.trans (I.o3 (D3.symm.trans h))), o4 := (fun h => U12.trans (I.o4 (D4.symm.trans h))), o5 := (fun h => U13.trans (I.o5 (D5.symm.trans h))), o6 := (fun h => U14.trans (I.o6 (D6.symm.trans h))), o7 := (fun h => by rw [U15]; exact I.o7 (D7.symm.trans h)), o8 := (fun h => by rw [U16]; exact I.o8 (D8.symm.trans h)), o9 := (fun h => ⟨by rw [U7, U16]; exact (I.o9 (D9.symm.trans h)).1, by rw [D8]; exact (I.o9 (D9.symm.trans h)).2⟩) }⟩
    · skip
      have D0 : (d.setIfInBounds 1 true).getD 0 false = d.getD 0 false := getD_set_ne false (by decide)
      have D1 : (d.setIfInBounds 1 true).getD 1 false = true := getD_set_sameV hun
      have D2 : (d.setIfInBounds 1 true).getD 2 false = d.getD 2 false := getD_set_ne false (by decide)
      have D3 : (d.setIfInBounds 1 true).getD 3 false = d.getD 3 false := getD_set_ne false (by decide)
      have D4 : (d.setIfInBounds 1 true).getD 4 false = d.getD 4 false := getD_set_ne false (by decide)
      have D5 : (d.setIfInBounds 1 true).getD 5 false = d.getD 5 false := getD_set_ne false (by decide)
      have D6 : (d.setIfInBounds 1 true).getD 6 false = d.getD 6 false := getD_set_ne false (by decide)
      have D7 : (d.setIfInBounds 1 true).getD 7 false = d.getD 7 false := getD_set_ne false (by decide)
      have D8 : (d.setIfInBounds 1 true).getD 8 false = d.getD 8 false := getD_set_ne false (by decide)
      have D9 : (d.setIfInBounds 1 true).getD 9 false = d.getD 9 false := getD_set_ne false (by decide)
      have U0 : updAV us 9 (.slice (some ⟨b, off, none⟩) n c) 0 = us 0 := upd_otherV (by decide)
      have U1 : updAV us 9 (.slice (some ⟨b, off, none⟩) n c) 1 = us 1 := upd_otherV (by decide)
      have U5 : updAV us 9 (.slice (some ⟨b, off, none⟩) n c) 5 = us 5 := upd_otherV (by decide)
      have U7 : updAV us 9 (.slice (some ⟨b, off, none⟩) n c) 7 = us 7 := upd_otherV (by decide)
      have U8 : updAV us 9 (.slice (some ⟨b, off, none⟩) n c) 8 = us 8 := upd_otherV (by decide)
      have U9 : updAV us 9 (.slice (some ⟨b, off, none⟩) n c) 9 = (.slice (some ⟨b, off, none⟩) n c) := upd_sameV _ _ _
      have U10 : updAV us 9 (.slice (some ⟨b, off, none⟩) n c) 10 = us 10 := upd_otherV (by decide)
      have U11 : updAV us 9 (.slice (some ⟨b, off, none⟩) n c) 11 = us 11 := upd_otherV (by decide)
      have U12 : updAV us 9 (.slice (some ⟨b, off, none⟩) n c) 12 = us 12 := upd_otherV (by decide)
      have U13 : updAV us 9 (.slice (some ⟨b, off, none⟩) n c) 13 = us 13 := upd_otherV (by decide)
      have U14 : updAV us 9 (.slice (some ⟨b, off, none⟩) n c) 14 = us 14 := upd_otherV (by decide)
      have U15 : updAV us 9 (.slice (some ⟨b, off, none⟩) n c) 15 = us 15 := upd_otherV (by decide)
      have U16 : updAV us 9 (.slice (some ⟨b, off, none⟩) n c) 16 = us 16 := upd_otherV (by decide)
      refine wpOp_step rfl (fun K hK => ?_)
      simp only [frWs, e0, e1, e5]
      go_simp
      refine hK _ _ ⟨updAV us 9 (.slice (some ⟨b, off, none⟩) n c), by simp [frWs, updAV, e0, e1, e5], { u0 := (U0.trans I.u0), u1 := (U1.trans I.u1), u5 := (U5.trans I.u5), bel := (I.bel), o0 := (fun h => U8.trans (I.o0 (D0.symm.trans h))), o1 := (fun _ => U9), o2 := (fun h => U10.trans (I.o2 (D2.symm.trans h))), o3 := (fun h => U11.trans (I.o3 (D3.symm.trans h))), o4 := (fun h => U12.trans (I.o4 (D4.symm.trans h))), o5 := (fun h => U13.trans (I.o5 (D5.symm.trans h))), o6 := (fun h => U14.trans (I.o6 (D6.symm.trans h))), o7 := (fun h => by rw [U15]; exact I.o7 (D7.symm.trans h)), o8 := (fun h => by rw [U16]; exact I.o8 (D8.symm.trans h)), o9 := (fun h => ⟨by rw [U7, U16]; exact (I.o9 (D9.symm.trans h)).1, by rw [D8]; exact (I.o9 (D9.symm.trans h)).2⟩) }⟩
    · skip
      have D0 : (d.setIfInBounds 2 true).getD 0 false = d.getD 0 false := getD_set_ne false (by decide)
      have D1 : (d.setIfInBounds 2 true).getD 1 false = d.getD 1 false := getD_set_ne false (by decide)
      have D2 : (d.setIfInBounds 2 true).getD 2 false = true := getD_set_sameV hun
      have D3 : (d.setIfInBounds 2 true).getD 3 false = d.getD 3 false := getD_set_ne false (by decide)
      have D4 : (d.setIfInBounds 2 true).getD 4 false = d.getD 4 false := getD_set_ne false (by decide)
      have D5 : (d.setIfInBounds 2 true).getD 5 false = d.getD 5 false := getD_set_ne false (by decide)
      have D6 : (d.setIfInBounds 2 true).getD 6 false = d.getD 6 false := getD_set_ne false (by decide)
      have D7 : (d.setIfInBounds 2 true).getD 7 false = d.getD 7 false := getD_set_ne false (by decide)
      have D8 : (d.setIfInBounds 2 true).getD 8 false = d.getD 8 false := getD_set_ne false (by decide)
      have D9 : (d.setIfInBounds 2 true).getD 9 false = d.getD 9 false := getD_set_ne false (by decide)
      have e9 := I.o1 (hall ⟨1, .data⟩ (by simp) rfl)
      have U0 : updAV us 10 (.int .i64 (n : Int)) 0 = us 0 := upd_otherV (by decide)
      have U1 : updAV us 10 (.int .i64 (n : Int)) 1 = us 1 := upd_otherV (by decide)
      have U5 : updAV us 10 (.int .i64 (n : Int)) 5 = us 5 := upd_otherV (by decide)
      have U7 : updAV us 10 (.int .i64 (n : Int)) 7 = us 7 := upd_otherV (by decide)
      have U8 : updAV us 10 (.int .i64 (n : Int)) 8 = us 8 := upd_otherV (by decide)
      have U9 : updAV us 10 (.int .i64 (n : Int)) 9 = us 9 := upd_otherV (by decide)
      have U10 : updAV us 10 (.int .i64 (n : Int)) 10 = (.int .i64 (n : Int)) := upd_sameV _ _ _
      have U11 : updAV us 10 (.int .i64 (n : Int)) 11 = us 11 := upd_otherV (by decide)
      have U12 : updAV us 10 (.int .i64 (n : Int)) 12 = us 12 := upd_otherV (by decide)
      have U13 : updAV us 10 (.int .i64 (n : Int)) 13 = us 13 := upd_otherV (by decide)
      have U14 : updAV us 10 (.int .i64 (n : Int)) 14 = us 14 := upd_otherV (by decide)
      have U15 : updAV us 10 (.int .i64 (n : Int)) 15 = us 15 := upd_otherV (by decide)
      have U16 : updAV us 10 (.int .i64 (n : Int)) 16 = us 16 := upd_otherV (by decide)
      refine wpOp_step rfl (fun K hK => ?_)
      simp only [frWs, e0, e1, e5, e9]
      go_simp
      refine hK _ _ ⟨updAV us 10 (.int .i64 (n : Int)), by simp [frWs, updAV, e0, e1, e5, e9], { u0 := (U0.trans I.u0), u1 := (U1.trans I.u1), u5 := (U5.trans I.u5), bel := (I.bel), o0 := (fun h => U8.trans (I.o0 (D0.symm.trans h))), o1 := (fun h => U9.trans (I.o1 (D1.symm.trans h))), o2 := (fun _ => U10), o3 := (fun h => U11.trans (I.o3 (D3.symm.trans h))), o4 := (fun h => U12.trans (I.o4 (D4.symm.trans h))), o5 := (fun h => U13.trans (I.o5 (D5.symm.trans h))), o6 := (fun h => U14.trans (I.o6 (D6.symm.trans h))), o7 := (fun h => by rw [U15]; exact I.o7 (D7.symm.trans h)), o8 := (fun h => by rw [U16]; exact I.o8 (D8.symm.trans h)), o9 := (fun h => ⟨by rw [U7, U16]; exact (I.o9 (D9.symm.trans h)).1, by rw [D8]; exact (I.o9 (D9.symm.trans h)).2⟩) }⟩
    · skip
      have D0 : (d.setIfInBounds 3 true).getD 0 false = d.getD 0 false := getD_set_ne false (by decide)
      have D1 : (d.setIfInBounds 3 true).getD 1 false = d.getD 1 false := getD_set_ne false (by decide)
      have D2 : (d.setIfInBounds 3 true).getD 2 false = d.getD 2 false := getD_set_ne false (by decide)
      have D3 : (d.setIfInBounds 3 true).getD 3 false = true := getD_set_sameV hun
      have D4 : (d.setIfInBounds 3 true).getD 4 false = d.getD 4 false := getD_set_ne false (by decide)
      have D5 : (d.setIfInBounds 3 true).getD 5 false = d.getD 5 false := getD_set_ne false (by decide)
      have D6 : (d.setIfInBounds 3 true).getD 6 false = d.getD 6 false := getD_set_ne false (by decide)
      have D7 : (d.setIfInBounds 3 true).getD 7 false = d.getD 7 false := getD_set_ne false (by decide)
      have D8 : (d.setIfInBounds 3 true).getD 8 false = d.getD 8 false := getD_set_ne false (by decide)
      have D9 : (d.setIfInBounds 3 true).getD 9 false = d.getD 9 false := getD_set_ne false (by decide)
      have U0 : updAV us 11 (.slice (some ⟨b, off, none⟩) n c) 0 = us 0 := upd_otherV (by decide)
      have U1 : updAV us 11 (.slice (some ⟨b, off, none⟩) n c) 1 = us 1 := upd_otherV (by decide)
      have U5 : updAV us 11 (.slice (some ⟨b, off, none⟩) n c) 5 = us 5 := upd_otherV (by decide)
      have U7 : updAV us 11 (.slice (some ⟨b, off, none⟩) n c) 7 = us 7 := upd_otherV (by decide)
      have U8 : updAV us 11 (.slice (some ⟨b, off, none⟩) n c) 8 = us 8 := upd_otherV (by decide)
      have U9 : updAV us 11 (.slice (some ⟨b, off, none⟩) n c) 9 = us 9 := upd_otherV (by decide)
      have U10 : updAV us 11 (.slice (some ⟨b, off, none⟩) n c) 10 = us 10 := upd_otherV (by decide)
      have U11 : updAV us 11 (.slice (some ⟨b, off, none⟩) n c) 11 = (.slice (some ⟨b, off, none⟩) n c) := upd_sameV _ _ _
      have U12 : updAV us 11 (.slice (some ⟨b, off, none⟩) n c) 12 = us 12 := upd_otherV (by decide)
      have U13 : updAV us 11 (.slice (some ⟨b, off, none⟩) n c) 13 = us 13 := upd_otherV (by decide)
      have U14 : updAV us 11 (.slice (some ⟨b, off, none⟩) n c) 14 = us 14 := upd_otherV (by decide)
      have U15 : updAV us 11 (.slice (some ⟨b, off, none⟩) n c) 15 = us 15 := upd_otherV (by decide)
      have U16 : updAV us 11 (.slice (some ⟨b, off, none⟩) n c) 16 = us 16 := upd_otherV (by decide)
      refine wpOp_step rfl (fun K hK => ?_)
      simp only [frWs, e0, e1, e5]
      go_simp
      refine hK _ _ ⟨updAV us 11 (.slice (some ⟨b, off, none⟩) n c), by simp [frWs, updAV, e0, e1, e5], { u0 := (U0.trans I.u0), u1 := (U1.trans I.u1), u5 := (U5.trans I.u5), bel := (I.bel), o0 := (fun h => U8.trans (I.o0 (D0.symm.trans h))), o1 := (fun h => U9.trans (I.o1 (D1.symm.trans h))), o2 := (fun h => U10.trans (I.o2 (D2.symm.trans h))), o3 := (fun _ => U11), o4 := (fun h => U12.trans (I.o4 (D4.symm.trans h))), o5 := (fun h => U13.trans (I.o5 (D5.symm.trans h))), o6 := (fun h => U14.trans (I.o6 (D6.symm.trans h))), o7 := (fun h => by rw [U15]; exact I.o7 (D7.symm.trans h)), o8 := (fun h => by rw [U16]; exact I.o8 (D8.symm.trans h)), o9 := (fun h => ⟨by rw [U7, U16]; exact (I.o9 (D9.symm.trans h)).1, by rw [D8]; exact (I.o9 (D9.symm.trans h)).2⟩) }⟩
    · skip
      have D0 : (d.setIfInBounds 4 true).getD 0 false = d.getD 0 false := getD_set_ne false (by decide)
      have D1 : (d.setIfInBounds 4 true).getD 1 false = d.getD 1 false := getD_set_ne false (by decide)
      have D2 : (d.setIfInBounds 4 true).getD 2 false = d.getD 2 false := getD_set_ne false (by decide)
      have D3 : (d.setIfInBounds 4 true).getD 3 false = d.getD 3 false := getD_set_ne false (by decide)
      have D4 : (d.setIfInBounds 4 true).getD 4 false = true := getD_set_sameV hun
      have D5 : (d.setIfInBounds 4 true).getD 5 false = d.getD 5 false := getD_set_ne false (by decide)
      have D6 : (d.setIfInBounds 4 true).getD 6 false = d.getD 6 false := getD_set_ne false (by decide)
      have D7 : (d.setIfInBounds 4 true).getD 7 false = d.getD 7 false := getD_set_ne false (by decide)
      have D8 : (d.setIfInBounds 4 true).getD 8 false = d.getD 8 false := getD_set_ne false (by decide)
      have D9 : (d.setIfInBounds 4 true).getD 9 false = d.getD 9 false := getD_set_ne false (by decide)
      have e11 := I.o3 (hall ⟨3, .data⟩ (by simp) rfl)
      have U0 : updAV us 12 (.int .i64 (n : Int)) 0 = us 0 := upd_otherV (by decide)
      have U1 : updAV us 12 (.int .i64 (n : Int)) 1 = us 1 := upd_otherV (by decide)
      have U5 : updAV us 12 (.int .i64 (n : Int)) 5 = us 5 := upd_otherV (by decide)
      have U7 : updAV us 12 (.int .i64 (n : Int)) 7 = us 7 := upd_otherV (by decide)
      have U8 : updAV us 12 (.int .i64 (n : Int)) 8 = us 8 := upd_otherV (by decide)
      have U9 : updAV us 12 (.int .i64 (n : Int)) 9 = us 9 := upd_otherV (by decide)
      have U10 : updAV us 12 (.int .i64 (n : Int)) 10 = us 10 := upd_otherV (by decide)
      have U11 : updAV us 12 (.int .i64 (n : Int)) 11 = us 11 := upd_otherV (by decide)
      have U12 : updAV us 12 (.int .i64 (n : Int)) 12 = (.int .i64 (n : Int)) := upd_sameV _ _ _
      have U13 : updAV us 12 (.int .i64 (n : Int)) 13 = us 13 := upd_otherV (by decide)
      have U14 : updAV us 12 (.int .i64 (n : Int)) 14 = us 14 := upd_otherV (by decide)
      have U15 : updAV us 12 (.int .i64 (n : Int)) 15 = us 15 := upd_otherV (by decide)
      have U16 : updAV us 12 (.int .i64 (n : Int)) 16 = us 16 := upd_otherV (by decide)
      refine wpOp_step rfl (fun K hK => ?_)
      simp only [frWs, e0, e1, e5, e11]
      go_simp
      refine hK _ _ ⟨updAV us 12 (.int .i64 (n : Int)), by simp [frWs, updAV, e0, e1, e5, e11], { u0 := (U0.trans I.u0), u1 := (U1.trans I.u1), u5 := (U5.trans I.u5), bel := (I.bel), o0 := (fun h => U8.trans (I.o0 (D0.symm.trans h))), o1 := (fun h => U9.trans (I.o1 (D1.symm.trans h))), o2 := (fun h => U10.trans (I.o2 (D2.symm.trans h))), o3 := (fun h => U11.trans (I.o3 (D3.symm.trans h))), o4 := (fun _ => U12), o5 := (fun h => U13.trans (I.o5 (D5.symm.trans h))), o6 := (fun h => U14.trans (I.o6 (D6.symm.trans h))), o7 := (fun h => by rw [U15]; exact I.o7 (D7.symm.trans h)), o8 := (fun h => by rw [U16]; exact I.o8 (D8.symm.trans h)), o9 := (fun h => ⟨by rw [U7, U16]; exact (I.o9 (D9.symm.trans h)).1, by rw [D8]; exact (I.o9 (D9.symm.trans h)).2⟩) }⟩
    · skip
      have D0 : (d.setIfInBounds 5 true).getD 0 false = d.getD 0 false := getD_set_ne false (by decide)
      have D1 : (d.setIfInBounds 5 true).getD 1 false = d.getD 1 false := getD_set_ne false (by decide)
      have D2 : (d.setIfInBounds 5 true).getD 2 false = d.getD 2 false := getD_set_ne false (by decide)
      have D3 : (d.setIfInBounds 5 true).getD 3 false = d.getD 3 false := getD_set_ne false (by decide)
      have D4 : (d.setIfInBounds 5 true).getD 4 false = d.getD 4 false := getD_set_ne false (by decide)
      have D5 : (d.setIfInBounds 5 true).getD 5 false = true := getD_set_sameV hun
      have D6 : (d.setIfInBounds 5 true).getD 6 false = d.getD 6 false := getD_set_ne false (by decide)
      have D7 : (d.setIfInBounds 5 true).getD 7 false = d.getD 7 false := getD_set_ne false (by decide)
      have D8 : (d.setIfInBounds 5 true).getD 8 false = d.getD 8 false := getD_set_ne false (by decide)
      have D9 : (d.setIfInBounds 5 true).getD 9 false = d.getD 9 false := getD_set_ne false (by decide)
      have e8 := I.o0 (hall ⟨0, .data⟩ (by simp) rfl)
      have e10 := I.o2 (hall ⟨2, .data⟩ (by simp) rfl)
      have e12 := I.o4 (hall ⟨4, .data⟩ (by simp) rfl)
      have U0 : updAV us 13 (.slice (some ⟨b, off, none⟩) n n) 0 = us 0 := upd_otherV (by decide)
      have U1 : updAV us 13 (.slice (some ⟨b, off, none⟩) n n) 1 = us 1 := upd_otherV (by decide)
      have U5 : updAV us 13 (.slice (some ⟨b, off, none⟩) n n) 5 = us 5 := upd_otherV (by decide)
      have U7 : updAV us 13 (.slice (some ⟨b, off, none⟩) n n) 7 = us 7 := upd_otherV (by decide)
      have U8 : updAV us 13 (.slice (some ⟨b, off, none⟩) n n) 8 = us 8 := upd_otherV (by decide)
      have U9 : updAV us 13 (.slice (some ⟨b, off, none⟩) n n) 9 = us 9 := upd_otherV (by decide)
      have U10 : updAV us 13 (.slice (some ⟨b, off, none⟩) n n) 10 = us 10 := upd_otherV (by decide)
      have U11 : updAV us 13 (.slice (some ⟨b, off, none⟩) n n) 11 = us 11 := upd_otherV (by decide)
      have U12 : updAV us 13 (.slice (some ⟨b, off, none⟩) n n) 12 = us 12 := upd_otherV (by decide)
      have U13 : updAV us 13 (.slice (some ⟨b, off, none⟩) n n) 13 = (.slice (some ⟨b, off, none⟩) n n) := upd_sameV _ _ _
      have U14 : updAV us 13 (.slice (some ⟨b, off, none⟩) n n) 14 = us 14 := upd_otherV (by decide)
      have U15 : updAV us 13 (.slice (some ⟨b, off, none⟩) n n) 15 = us 15 := upd_otherV (by decide)
      have U16 : updAV us 13 (.slice (some ⟨b, off, none⟩) n n) 16 = us 16 := upd_otherV (by decide)
      refine wpOp_step rfl (fun K hK => ?_)
      simp only [frWs, e0, e1, e5, e8, e10, e12]
      go_simp
      refine hK _ _ ⟨updAV us 13 (.slice (some ⟨b, off, none⟩) n n), by simp [frWs, updAV, e0, e1, e5, e8, e10, e12], { u0 := (U0.trans I.u0), u1 := (U1.trans I.u1), u5 := (U5.trans I.u5), bel := (I.bel), o0 := (fun h => U8.trans (I.o0 (D0.symm.trans h))), o1 := (fun h => U9.trans (I.o1 (D1.symm.trans h))), o2 := (fun h => U10.trans (I.o2 (D2.symm.trans h))), o3 := (fun h => U11.trans (I.o3 (D3.symm.trans h))), o4 := (fun h => U12.trans (I.o4 (D4.symm.trans h))), o5 := (fun _ => U13), o6 := (fun h => U14.trans (I.o6 (D6.symm.trans h))), o7 := (fun h => by rw [U15]; exact I.o7 (D7.symm.trans h)), o8 := (fun h => by rw [U16]; exact I.o8 (D8.symm.trans h)), o9 := (fun h => ⟨by rw [U7, U16]; exact (I.o9 (D9.symm.trans h)).1, by rw [D8]; exact (I.o9 (D9.symm.trans h)).2⟩) }⟩
    · skip
      have D0 : (d.setIfInBounds 6 true).getD 0 false = d.getD 0 false := getD_set_ne false (by decide)
      have D1 : (d.setIfInBounds 6 true).getD 1 false = d.getD 1 false := getD_set_ne false (by decide)
      have D2 : (d.setIfInBounds 6 true).getD 2 false = d.getD 2 false := getD_set_ne false (by decide)
      have D3 : (d.setIfInBounds 6 true).getD 3 false = d.getD 3 false := getD_set_ne false (by decide)
      have D4 : (d.setIfInBounds 6 true).getD 4 false = d.getD 4 false := getD_set_ne false (by decide)
      have D5 : (d.setIfInBounds 6 true).getD 5 false = d.getD 5 false := getD_set_ne false (by decide)
      have D6 : (d.setIfInBounds 6 true).getD 6 false = true := getD_set_sameV hun
      have D7 : (d.setIfInBounds 6 true).getD 7 false = d.getD 7 false := getD_set_ne false (by decide)
      have D8 : (d.setIfInBounds 6 true).getD 8 false = d.getD 8 false := getD_set_ne false (by decide)
      have D9 : (d.setIfInBounds 6 true).getD 9 false = d.getD 9 false := getD_set_ne false (by decide)
      have c0 := (hkq.step (I.bel.mono (Nat.le_refl _))).cells.c0; have c1 := (hkq.step (I.bel.mono (Nat.le_refl _))).cells.c1; have c2 := (hkq.step (I.bel.mono (Nat.le_refl _))).cells.c2
      have U0 : updAV us 14 (.agg #[.string ⟨x.p.toArray⟩, .int .i64 x.i, .int .i64 x.o]) 0 = us 0 := upd_otherV (by decide)
      have U1 : updAV us 14 (.agg #[.string ⟨x.p.toArray⟩, .int .i64 x.i, .int .i64 x.o]) 1 = us 1 := upd_otherV (by decide)
      have U5 : updAV us 14 (.agg #[.string ⟨x.p.toArray⟩, .int .i64 x.i, .int .i64 x.o]) 5 = us 5 := upd_otherV (by decide)
      have U7 : updAV us 14 (.agg #[.string ⟨x.p.toArray⟩, .int .i64 x.i, .int .i64 x.o]) 7 = us 7 := upd_otherV (by decide)
      have U8 : updAV us 14 (.agg #[.string ⟨x.p.toArray⟩, .int .i64 x.i, .int .i64 x.o]) 8 = us 8 := upd_otherV (by decide)
      have U9 : updAV us 14 (.agg #[.string ⟨x.p.toArray⟩, .int .i64 x.i, .int .i64 x.o]) 9 = us 9 := upd_otherV (by decide)
      have U10 : updAV us 14 (.agg #[.string ⟨x.p.toArray⟩, .int .i64 x.i, .int .i64 x.o]) 10 = us 10 := upd_otherV (by decide)
      have U11 : updAV us 14 (.agg #[.string ⟨x.p.toArray⟩, .int .i64 x.i, .int .i64 x.o]) 11 = us 11 := upd_otherV (by decide)
      have U12 : updAV us 14 (.agg #[.string ⟨x.p.toArray⟩, .int .i64 x.i, .int .i64 x.o]) 12 = us 12 := upd_otherV (by decide)
      have U13 : updAV us 14 (.agg #[.string ⟨x.p.toArray⟩, .int .i64 x.i, .int .i64 x.o]) 13 = us 13 := upd_otherV (by decide)
      have U14 : updAV us 14 (.agg #[.string ⟨x.p.toArray⟩, .int .i64 x.i, .int .i64 x.o]) 14 = (.agg #[.string ⟨x.p.toArray⟩, .int .i64 x.i, .int .i64 x.o]) := upd_sameV _ _ _
      have U15 : updAV us 14 (.agg #[.string ⟨x.p.toArray⟩, .int .i64 x.i, .int .i64 x.o]) 15 = us 15 := upd_otherV (by decide)
      have U16 : updAV us 14 (.agg #[.string ⟨x.p.toArray⟩, .int .i64 x.i, .int .i64 x.o]) 16 = us 16 := upd_otherV (by decide)
      refine wpOp_step rfl (fun K hK => ?_)
      simp only [frWs, e0, e1, e5]
      go_simp
      refine hK _ _ ⟨updAV us 14 (.agg #[.string ⟨x.p.toArray⟩, .int .i64 x.i, .int .i64 x.o]), by simp [frWs, updAV, e0, e1, e5], { u0 := (U0.trans I.u0), u1 := (U1.trans I.u1), u5 := (U5.trans I.u5), bel := (I.bel), o0 := (fun h => U8.trans (I.o0 (D0.symm.trans h))), o1 := (fun h => U9.trans (I.o1 (D1.symm.trans h))), o2 := (fun h => U10.trans (I.o2 (D2.symm.trans h))), o3 := (fun h => U11.trans (I.o3 (D3.symm.trans h))), o4 := (fun h => U12.trans (I.o4 (D4.symm.trans h))), o5 := (fun h => U13.trans (I.o5 (D5.symm.trans h))), o6 := (fun _ => U14), o7 := (fun h => by rw [U15]; exact I.o7 (D7.symm.trans h)), o8 := (fun h => by rw [U16]; exact I.o8 (D8.symm.trans h)), o9 := (fun h => ⟨by rw [U7, U16]; exact (I.o9 (D9.symm.trans h)).1, by rw [D8]; exact (I.o9 (D9.symm.trans h)).2⟩) }⟩
    · skip
      have D0 : (d.setIfInBounds 7 true).getD 0 false = d.getD 0 false := getD_set_ne false (by decide)
      have D1 : (d.setIfInBounds 7 true).getD 1 false = d.getD 1 false := getD_set_ne false (by decide)
      have D2 : (d.setIfInBounds 7 true).getD 2 false = d.getD 2 false := getD_set_ne false (by decide)
      have D3 : (d.setIfInBounds 7 true).getD 3 false = d.getD 3 false := getD_set_ne false (by decide)
      have D4 : (d.setIfInBounds 7 true).getD 4 false = d.getD 4 false := getD_set_ne false (by decide)
      have D5 : (d.setIfInBounds 7 true).getD 5 false = d.getD 5 false := getD_set_ne false (by decide)
      have D6 : (d.setIfInBounds 7 true).getD 6 false = d.getD 6 false := getD_set_ne false (by decide)
      have D7 : (d.setIfInBounds 7 true).getD 7 false = true := getD_set_sameV hun
      have D8 : (d.setIfInBounds 7 true).getD 8 false = d.getD 8 false := getD_set_ne false (by decide)
      have D9 : (d.setIfInBounds 7 true).getD 9 false = d.getD 9 false := getD_set_ne false (by decide)
      have e14 := I.o6 (hall ⟨6, .data⟩ (by simp) rfl)
      have U0 : updAV us 15 (.slice (some ⟨W.heap.size, 0, none⟩) 1 1) 0 = us 0 := upd_otherV (by decide)
      have U1 : updAV us 15 (.slice (some ⟨W.heap.size, 0, none⟩) 1 1) 1 = us 1 := upd_otherV (by decide)
      have U5 : updAV us 15 (.slice (some ⟨W.heap.size, 0, none⟩) 1 1) 5 = us 5 := upd_otherV (by decide)
      have U7 : updAV us 15 (.slice (some ⟨W.heap.size, 0, none⟩) 1 1) 7 = us 7 := upd_otherV (by decide)
      have U8 : updAV us 15 (.slice (some ⟨W.heap.size, 0, none⟩) 1 1) 8 = us 8 := upd_otherV (by decide)
      have U9 : updAV us 15 (.slice (some ⟨W.heap.size, 0, none⟩) 1 1) 9 = us 9 := upd_otherV (by decide)
      have U10 : updAV us 15 (.slice (some ⟨W.heap.size, 0, none⟩) 1 1) 10 = us 10 := upd_otherV (by decide)
      have U11 : updAV us 15 (.slice (some ⟨W.heap.size, 0, none⟩) 1 1) 11 = us 11 := upd_otherV (by decide)
      have U12 : updAV us 15 (.slice (some ⟨W.heap.size, 0, none⟩) 1 1) 12 = us 12 := upd_otherV (by decide)
      have U13 : updAV us 15 (.slice (some ⟨W.heap.size, 0, none⟩) 1 1) 13 = us 13 := upd_otherV (by decide)
      have U14 : updAV us 15 (.slice (some ⟨W.heap.size, 0, none⟩) 1 1) 14 = us 14 := upd_otherV (by decide)
      have U15 : updAV us 15 (.slice (some ⟨W.heap.size, 0, none⟩) 1 1) 15 = (.slice (some ⟨W.heap.size, 0, none⟩) 1 1) := upd_sameV _ _ _
      have U16 : updAV us 15 (.slice (some ⟨W.heap.size, 0, none⟩) 1 1) 16 = us 16 := upd_otherV (by decide)
      refine wpOp_step rfl (fun K hK => ?_)
      simp only [frWs, e0, e1, e5, e14]
      go_simp
      refine hK _ _ ⟨updAV us 15 (.slice (some ⟨W.heap.size, 0, none⟩) 1 1), by simp [frWs, updAV, e0, e1, e5, e14], { u0 := (U0.trans I.u0), u1 := (U1.trans I.u1), u5 := (U5.trans I.u5), bel := (I.bel.alloc hsz _), o0 := (fun h => U8.trans (I.o0 (D0.symm.trans h))), o1 := (fun h => U9.trans (I.o1 (D1.symm.trans h))), o2 := (fun h => U10.trans (I.o2 (D2.symm.trans h))), o3 := (fun h => U11.trans (I.o3 (D3.symm.trans h))), o4 := (fun h => U12.trans (I.o4 (D4.symm.trans h))), o5 := (fun h => U13.trans (I.o5 (D5.symm.trans h))), o6 := (fun h => U14.trans (I.o6 (D6.symm.trans h))), o7 := (fun _ => ⟨W.heap.size, U15, heap_alloc_new W _⟩), o8 := (fun h => by rw [U16]; exact (I.o8 (D8.symm.trans h)).below (below_alloc W _)), o9 := (fun h => ⟨by rw [U7, U16]; exact (I.o9 (D9.symm.trans h)).1, by rw [D8]; exact (I.o9 (D9.symm.trans h)).2⟩) }⟩
    · skip
      have D0 : (d.setIfInBounds 8 true).getD 0 false = d.getD 0 false := getD_set_ne false (by decide)
      have D1 : (d.setIfInBounds 8 true).getD 1 false = d.getD 1 false := getD_set_ne false (by decide)
      have D2 : (d.setIfInBounds 8 true).getD 2 false = d.getD 2 false := getD_set_ne false (by decide)
      have D3 : (d.setIfInBounds 8 true).getD 3 false = d.getD 3 false := getD_set_ne false (by decide)
      have D4 : (d.setIfInBounds 8 true).getD 4 false = d.getD 4 false := getD_set_ne false (by decide)
      have D5 : (d.setIfInBounds 8 true).getD 5 false = d.getD 5 false := getD_set_ne false (by decide)
      have D6 : (d.setIfInBounds 8 true).getD 6 false = d.getD 6 false := getD_set_ne false (by decide)
      have D7 : (d.setIfInBounds 8 true).getD 7 false = d.getD 7 false := getD_set_ne false (by decide)
      have D8 : (d.setIfInBounds 8 true).getD 8 false = true := getD_set_sameV hun
      have D9 : (d.setIfInBounds 8 true).getD 9 false = d.getD 9 false := getD_set_ne false (by decide)
      have e13 := I.o5 (hall ⟨5, .data⟩ (by simp) rfl)
      obtain ⟨B, e15, hB⟩ := I.o7 (hall ⟨7, .data⟩ (by simp) rfl)
      refine wpOp_append_full rfl rfl (.tmp 13) (.tmp 15) rfl b off ps x B (by show us 13 = _; rw [e13, HL.out]) (by show us 15 = _; rw [e15]) (hRq.below I.bel) hB (by rw [← HL.out]; exact hn) ?_
      intro v2 W2 hRow hg
      have hb2 : Below W.heap.size W W2 := (Below.refl _ _).grown hg (Nat.le_refl _) (fun k hk => by cases hk)
      have hR2 : RowAV wq.heap.size v2 (ps ++ [x]) W2 := hRow.low hsz
      have U0 : updAV us 16 (v2) 0 = us 0 := upd_otherV (by decide)
      have U1 : updAV us 16 (v2) 1 = us 1 := upd_otherV (by decide)
      have U5 : updAV us 16 (v2) 5 = us 5 := upd_otherV (by decide)
      have U7 : updAV us 16 (v2) 7 = us 7 := upd_otherV (by decide)
      have U8 : updAV us 16 (v2) 8 = us 8 := upd_otherV (by decide)
      have U9 : updAV us 16 (v2) 9 = us 9 := upd_otherV (by decide)
      have U10 : updAV us 16 (v2) 10 = us 10 := upd_otherV (by decide)
      have U11 : updAV us 16 (v2) 11 = us 11 := upd_otherV (by decide)
      have U12 : updAV us 16 (v2) 12 = us 12 := upd_otherV (by decide)
      have U13 : updAV us 16 (v2) 13 = us 13 := upd_otherV (by decide)
      have U14 : updAV us 16 (v2) 14 = us 14 := upd_otherV (by decide)
      have U15 : updAV us 16 (v2) 15 = us 15 := upd_otherV (by decide)
      have U16 : updAV us 16 (v2) 16 = (v2) := upd_sameV _ _ _
      exact ⟨updAV us 16 (v2), by simp [frWs, updAV, e0, e1, e5, e13, e15, Act.put], { u0 := (U0.trans I.u0), u1 := (U1.trans I.u1), u5 := (U5.trans I.u5), bel := (I.bel.trans (hb2.mono hsz)), o0 := (fun h => U8.trans (I.o0 (D0.symm.trans h))), o1 := (fun h => U9.trans (I.o1 (D1.symm.trans h))), o2 := (fun h => U10.trans (I.o2 (D2.symm.trans h))), o3 := (fun h => U11.trans (I.o3 (D3.symm.trans h))), o4 := (fun h => U12.trans (I.o4 (D4.symm.trans h))), o5 := (fun h => U13.trans (I.o5 (D5.symm.trans h))), o6 := (fun h => U14.trans (I.o6 (D6.symm.trans h))), o7 := (fun h => by rw [U15]; obtain ⟨B2, g1, g2⟩ := I.o7 (D7.symm.trans h); exact ⟨B2, g1, (hb2.block B2 (lt_some g2)).trans g2⟩), o8 := (fun _ => by rw [U16]; exact hR2), o9 := (fun h => absurd (I.o9 (D9.symm.trans h)).2 (by rw [getD_tfV hun]; exact Bool.false_ne_true)) }⟩
    · skip
      have D0 : (d.setIfInBounds 9 true).getD 0 false = d.getD 0 false := getD_set_ne false (by decide)
      have D1 : (d.setIfInBounds 9 true).getD 1 false = d.getD 1 false := getD_set_ne false (by decide)
      have D2 : (d.setIfInBounds 9 true).getD 2 false = d.getD 2 false := getD_set_ne false (by decide)
      have D3 : (d.setIfInBounds 9 true).getD 3 false = d.getD 3 false := getD_set_ne false (by decide)
      have D4 : (d.setIfInBounds 9 true).getD 4 false = d.getD 4 false := getD_set_ne false (by decide)
      have D5 : (d.setIfInBounds 9 true).getD 5 false = d.getD 5 false := getD_set_ne false (by decide)
      have D6 : (d.setIfInBounds 9 true).getD 6 false = d.getD 6 false := getD_set_ne false (by decide)
      have D7 : (d.setIfInBounds 9 true).getD 7 false = d.getD 7 false := getD_set_ne false (by decide)
      have D8 : (d.setIfInBounds 9 true).getD 8 false = d.getD 8 false := getD_set_ne false (by decide)
      have D9 : (d.setIfInBounds 9 true).getD 9 false = true := getD_set_sameV hun
      have h8 := hall ⟨8, .data⟩ (by simp) rfl
      have U0 : updAV us 7 (us 16) 0 = us 0 := upd_otherV (by decide)
      have U1 : updAV us 7 (us 16) 1 = us 1 := upd_otherV (by decide)
      have U5 : updAV us 7 (us 16) 5 = us 5 := upd_otherV (by decide)
      have U7 : updAV us 7 (us 16) 7 = (us 16) := upd_sameV _ _ _
      have U8 : updAV us 7 (us 16) 8 = us 8 := upd_otherV (by decide)
      have U9 : updAV us 7 (us 16) 9 = us 9 := upd_otherV (by decide)
      have U10 : updAV us 7 (us 16) 10 = us 10 := upd_otherV (by decide)
      have U11 : updAV us 7 (us 16) 11 = us 11 := upd_otherV (by decide)
      have U12 : updAV us 7 (us 16) 12 = us 12 := upd_otherV (by decide)
      have U13 : updAV us 7 (us 16) 13 = us 13 := upd_otherV (by decide)
      have U14 : updAV us 7 (us 16) 14 = us 14 := upd_otherV (by decide)
      have U15 : updAV us 7 (us 16) 15 = us 15 := upd_otherV (by decide)
      have U16 : updAV us 7 (us 16) 16 = us 16 := upd_otherV (by decide)
      refine wpOp_step rfl (fun K hK => ?_)
      simp only [frWs, e0, e1, e5]
      go_simp
      refine hK _ _ ⟨updAV us 7 (us 16), by simp [frWs, updAV, e0, e1, e5], { u0 := (U0.trans I.u0), u1 := (U1.trans I.u1), u5 := (U5.trans I.u5), bel := (I.bel), o0 := (fun h => U8.trans (I.o0 (D0.symm.trans h))), o1 := (fun h => U9.trans (I.o1 (D1.symm.trans h))), o2 := (fun h => U10.trans (I.o2 (D2.symm.trans h))), o3 := (fun h => U11.trans (I.o3 (D3.symm.trans h))), o4 := (fun h => U12.trans (I.o4 (D4.symm.trans h))), o5 := (fun h => U13.trans (I.o5 (D5.symm.trans h))), o6 := (fun h => U14.trans (I.o6 (D6.symm.trans h))), o7 := (fun h => by rw [U15]; exact I.o7 (D7.symm.trans h)), o8 := (fun h => by rw [U16]; exact I.o8 (D8.symm.trans h)), o9 := (fun _ => ⟨by rw [U7, U16], by rw [D8]; exact h8⟩) }⟩
  · intro d a W hd hall hI
    obtain ⟨us, rfl, I⟩ := hI
    have D : ∀ k, k < 10 → d.getD k false = true := fun k hk => by
      have := hall k hk
      have hk2 : k < d.size := by rw [hd]; exact hk
      simp [hk2] at this ⊢; exact this
    obtain ⟨e7, _⟩ := I.o9 (D 9 (by decide))
    obtain ⟨O, q, e16, hO⟩ := I.o8 (D 8 (by decide))
    have e0 := I.u0; have e1 := I.u1; have e5 := I.u5
    have hbel := I.bel
    rw [e16] at e7
    clear I hall D e16 hd
    have hlen := HL.out
    have hN : (ps ++ [x]).length = n + 1 := by rw [hlen]; simp
    rw [hN] at hO e7
    obtain ⟨g, rfl⟩ : ∃ g, O = some ⟨g, 0, none⟩ := by
      rcases hO.2 with ⟨_, h2⟩ | ⟨g, cap, cur, h1, _⟩
      · omega
      · injection h1 with h1 _ _; exact ⟨g, h1⟩
    obtain ⟨cur, hgw, hg, hqn, hqm, hcs, htk⟩ := own_room3 hO
    obtain ⟨DD, hDD⟩ : ∃ DD, DD = (ps.drop k).flatMap Sto.cells := ⟨_, rfl⟩
    rw [← hDD] at hdl
    obtain ⟨R, hRR⟩ : ∃ R : List Value, R = cur.toList.take ((k + 1) * 3) ++ DD ++ cur.toList.drop ((k + 1) * 3 + DD.length) := ⟨_, rfl⟩
    have hRl : R.length = q * 3 := by
      rw [hRR]; simp only [List.length_append, List.length_take, List.length_drop, Array.length_toList, hcs, hdl]; omega
    have hRW := hRq.below hbel
    have HC := Lib.hid (fun (dc sc : Nat) (ty : TypeId) => (by
      rw [hRR]
      exact run_copy_rowV W.drew _ _ ty 35 3 g ((k + 1) * 3) (n - k) dc ⟨b, off + k * 3, none⟩ (n - k) sc cur 35 DD Try.underlying24 stoSz hg (by rw [hdl]; show (n - k) * 3 = min (n - k) (n - k) * 3; omega)
        (by rw [hDD]; exact stoR_cells (hRW.drop k)) (by rw [hdl, hcs]; omega) (by rw [hDD]; exact cells_oneV _) :
      (Builtin.copy_ #[24, 24] ty #[.slice (some ⟨g, (k + 1) * 3, none⟩) (n - k) dc, .slice (some ⟨b, off + k * 3, none⟩) (n - k) sc]).run Try.prog W.drew = .ok (goInt (Nat.min (n - k) (n - k))) (W.drew.setRow g R.toArray)))
    have hcp := copied (x := x) (by omega) hpk (by rw [← hlen]; exact htk) (by rw [← hlen, Array.length_toList, hcs]; omega)
    rw [← hDD, ← hRR, ← hlen] at hcp
    have hfin : StoO (W.drew.setRow g R.toArray) wq.heap.size (some ⟨g, 0, none⟩) (n + 1) q (insAt ps k pk) := by
      refine ⟨?_, .inr ⟨g, q, R.toArray, rfl, hgw, setRow_heap W.drew g _ _ _ _ hg, hqn, hqm, hRl, hcp⟩⟩
      rw [flat_len Sto.cells 3 (fun _ => rfl), insAt_len pk (by omega), hlen]
    have HFIN := Lib.hid hfin
    have HBEL := Lib.hid (below_setRow (hbel.drew) hgw R.toArray)
    have HSET := Lib.hid (insAt_set (ps := ps) (y := pk) (x := x) (show k ≤ ps.length by omega))
    have HLEN := Lib.hid (insAt_len pk (show k ≤ ps.length by omega))
    rw [← hlen] at HLEN
    have HKQ := Lib.hid hkq
    have hkq1 : k < q := by omega
    have hgw2 : w.heap.size ≤ g := by omega
    have hkc : k < c := by omega
    have hkn1 : k + 1 ≤ q := by omega
    have mixed : Try.prog.follows .mixedOrders = true := by kernel_rfl
    have hw1 : IntKind.i64.wrap ((k : Int) + 1) = (k : Int) + 1 := by rw [IntKind.wrap_i64]; omega
    have hb1 : (0 : Int) ≤ (k : Int) + 1 := by omega
    have hb3 : (k : Int) ≤ (n : Int) := by omega
    have hci : ¬ (c = k) := by omega
    have hci1 : ¬ (q = k + 1) := by omega
    simp only [frWs, e0, e1, e5, e7]
    clear hlen hRR hRl hcp hfin hcs htk hg hRW hRq hR hO hdl hDD hpk hN hbel hkq hgw
    go_wp2_with fail
    go_region_law_o (refine step_copy_runV rfl _ _ 24 24 rfl (.slice (some ⟨g, (k + 1) * 3, none⟩) (n - k) (q - (k + 1))) (.slice (some ⟨b, off + k * 3, none⟩) (n - k) (c - k)) (by simp [Act.eval, Act.put]) (by simp [Act.eval, Act.put]) (HC.out _ _) ?_)
    obtain ⟨W3, hW3⟩ : ∃ W3, W3 = W.drew.setRow g R.toArray := ⟨_, rfl⟩
    rw [← hW3] at HFIN HBEL ⊢
    clear hW3 HC
    have kx := HKQ.out.step HBEL.out
    have c0 := kx.cells.c0; have c1 := kx.cells.c1; have c2 := kx.cells.c2
    have kbel := kx.bel
    have hfl := flat_len Sto.cells 3 (fun _ => rfl) (insAt ps k pk)
    rw [HLEN.out] at hfl
    obtain ⟨y0, o0⟩ := own_at HFIN.out (k * 3) (by omega)
    obtain ⟨y1, o1⟩ := own_at HFIN.out (k * 3 + 1) (by omega)
    obtain ⟨y2, o2⟩ := own_at HFIN.out (k * 3 + 2) (by omega)
    have f0 := HFIN.out.frozenAt (k * 3)
    have f1 := HFIN.out.frozenAt (k * 3 + 1)
    have f2 := HFIN.out.frozenAt (k * 3 + 2)
    have HST := Lib.hid (stored_sto HFIN.out (k * 3) (.string ⟨x.p.toArray⟩) (.int .i64 x.i) (.int .i64 x.o))
    rw [flat_setV (by rw [HLEN.out]; omega), HSET.out] at HST
    have HB4 := Lib.hid ((((kbel.setCell (p := ⟨g, k * 3, none⟩) hgw2 (.string ⟨x.p.toArray⟩)).setCell (p := ⟨g, k * 3 + 1, none⟩) hgw2 (.int .i64 x.i)).setCell (p := ⟨g, k * 3 + 2, none⟩) hgw2 (.int .i64 x.o)))
    have hkn2 : (k : Int) < (n : Int) + 1 := by omega
    clear kx HFIN HBEL HKQ hfl HSET HLEN kbel hw1 hb1 hb3 hci hci1 mixed
    go_wp2_with fail
    go_ret
    unfold WsRes
    rw [← HL.out]
    exact ⟨some ⟨g, 0, none⟩, q, rfl, StoO.mono HST.out.1 (by omega), HB4.out⟩
end Go.Proofs.Ytklhcofonkmiiaa
