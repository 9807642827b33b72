/- slices.Clone and slices.Insert over interests. -/
import Derived.Test.YthainomgmgaikaaPlm
import Derived.Laws.CopyOwn
import Derived.Laws.Append
import Derived.Laws.Externs
import Derived.Lib.Overlaps
import Derived.Lib.AppendZerosOnto
import Derived.Shelf.RegionOpenPlain
namespace Go.Proofs.Ythainomgmgaikaa
open Go.ChangeShapes Go.WideShapes Go.ChangeAt Go.RowKit
set_option linter.unusedVariables false

/-- copy over elements of several cells. -/
theorem run_copy_rowN {P : Program} (w : World) (dT sT ty elem : TypeId) (size g o dLen dCap : Nat) (a : Addr) (sLen sCap : Nat) (cur : Array Value) (t : TypeId) (cs : List Value)
    (hu : P.underlying dT = some (.slice elem)) (hs : (P.info? elem).map (·.size) = some size)
    (hg : w.heap[g]? = some (.cells cur t (0, 0))) (hn : cs.length = Nat.min sLen dLen * size)
    (hsrc : ∀ j v, cs[j]? = some v → w.cell? (a.add j) = some v) (hfit : o + cs.length ≤ cur.size) (h1 : ∀ v ∈ cs, v.oneCell' = true) :
    (Builtin.copy_ #[dT, sT] ty #[.slice (some ⟨g, o, none⟩) dLen dCap, .slice (some a) sLen sCap]).run P w =
      .ok (goInt (Nat.min sLen dLen)) (w.setRow g (cur.toList.take o ++ cs ++ cur.toList.drop (o + cs.length)).toArray) := by
  have hl := run_loadCells_list (P := P) w a cs hsrc
  have hst := run_storeCells_at P g o t cs 0 cur w hg (by simpa using hfit) h1
  cases hq : P.info? elem with
  | none => simp [hq] at hs
  | some i =>
    have hi : i.size = size := by simpa [hq] using hs
    simp [Builtin.copy_, run_underlying hu, Builtin.lenOf, Builtin.firstCells, sizeOf, typeInfo, hq, hi, ← hn, hl, hst]
theorem wpList_copy_runN {P : Program} (w : World) {ops : Array Oper} {rest : List Oper} {o : Oper} {a : Act} {Q : Exit → Act → World → Prop} (hgd : o.guard = none) (d s : Operand) (t u : TypeId)
    (ho : o.op = .call { callee := .builtin .copy, args := #[d, s], argTypes := #[t, u] }) (v x : Value) (hs : a.eval d = v) (hx : a.eval s = x) (r : Value) (w' : World)
    (hr : ∀ ty, (Builtin.copy_ #[t, u] ty #[v, x]).run P w = .ok r w') (h : wpList P ops Q rest (a.put o.dst r) w') : wpList P ops Q (o :: rest) a w := by
  refine wpList_plain hgd fun K hK => ?_
  unfold Oper.wp execOp
  simp only [ho, resolve, invoke, builtin, Sem.run_bind, Sem.run_pure, Result.andThen_ok, List.map_toArray, List.map_cons, List.map_nil, hs, hx, hr]
  exact hK _ _ h
theorem step_copy_runN {P : Program} {ops : Array Oper} {o : Oper} {a : Act} {w : World} {K : Act → World → Prop} {Q : Exit → Act → World → Prop} {E : Prop} (hgd : o.guard = none) (d s : Operand) (t u : TypeId)
    (ho : o.op = .call { callee := .builtin .copy, args := #[d, s], argTypes := #[t, u] }) (v x : Value) (hs : a.eval d = v) (hx : a.eval s = x) {r : Value} {w' : World}
    (hr : ∀ ty, (Builtin.copy_ #[t, u] ty #[v, x]).run P w = .ok r w') (h : K (a.put o.dst r) w') :
    if Region.wanted o (yielded ops a.tmps) = true then Oper.wp P o a w K Q else E := by
  have hw : Region.wanted o (yielded ops a.tmps) = true := by simp [Region.wanted, hgd]
  rw [if_pos hw]
  unfold Oper.wp execOp
  simp only [ho, resolve, invoke, builtin, Sem.run_bind, Sem.run_pure, Result.andThen_ok, List.map_toArray, List.map_cons, List.map_nil, hs, hx, hr]
  exact h
theorem wpList_append_zeros {P : Program} (w : World) {ops : Array Oper} {rest : List Oper} {o : Oper} {a : Act} {Q : Exit → Act → World → Prop} (hgd : o.guard = none) (s x : Operand) (t u : TypeId)
    (ho : o.op = .call { callee := .builtin .append, args := #[s, x], argTypes := #[t, u] }) (v y : Value) (hs : a.eval s = v) (hx : a.eval x = y) (r : Value) (w' : World)
    (hr : ∀ ty, (Builtin.append_ #[t, u] ty #[v, y]).run P w = .ok r w') (h : wpList P ops Q rest (a.put o.dst r) w') : wpList P ops Q (o :: rest) a w := by
  refine wpList_plain hgd fun K hK => ?_
  unfold Oper.wp execOp
  simp only [ho, resolve, invoke, builtin, Sem.run_bind, Sem.run_pure, Result.andThen_ok, List.map_toArray, List.map_cons, List.map_nil, hs, hx, hr]
  exact hK _ _ h
theorem istSz : (Try.prog.info? 46).map (·.size) = some 5 := by kernel_rfl
theorem add_plain0 (b off j : Nat) : (⟨b, off, none⟩ : Addr).add j = ⟨b, off + j, none⟩ := by unfold Addr.add; split <;> simp_all
theorem cells_one (qs : List Ist) : ∀ u ∈ qs.flatMap Ist.cells, u.oneCell' = true := fun u hu => by
  obtain ⟨y, _, hy⟩ := List.mem_flatMap.1 hu
  unfold Ist.cells at hy
  simp only [List.mem_cons, List.not_mem_nil, or_false] at hy
  rcases hy with rfl | rfl | rfl | rfl | rfl <;> simp [Value.oneCell']
theorem flat_take (qs : List Ist) (i : Nat) : (qs.take i).flatMap Ist.cells = (qs.flatMap Ist.cells).take (i * 5) := by
  induction qs generalizing i with
  | nil => simp
  | cons q qs ih =>
    cases i with
    | zero => simp
    | succ i =>
      have e : (i + 1) * 5 = q.cells.length + i * 5 := by show _ = 5 + i * 5; omega
      rw [List.take_succ_cons, List.flatMap_cons, List.flatMap_cons, ih, e, List.take_length_add_append]
theorem flat_drop (qs : List Ist) (i : Nat) : (qs.drop i).flatMap Ist.cells = (qs.flatMap Ist.cells).drop (i * 5) := by
  induction qs generalizing i with
  | nil => simp
  | cons q qs ih =>
    cases i with
    | zero => simp
    | succ i =>
      have e : (i + 1) * 5 = q.cells.length + i * 5 := by show _ = 5 + i * 5; omega
      rw [List.drop_succ_cons, List.flatMap_cons, ih, e, List.drop_length_add_append]
theorem box_cells {w : World} {vb : Nat} {y : Ist} (hv : w.heap[vb]? = some (.cells #[.string ⟨y.c.toArray⟩, .int .i64 y.k, .string ⟨y.o.toArray⟩, .int .i64 y.v, .int .i64 y.a] 46 (0, 0))) :
    ∀ j u, y.cells[j]? = some u → w.cell? ((⟨vb, 0, none⟩ : Addr).add j) = some u := fun j u hu => by
  rw [add_plain0, Nat.zero_add, cell_of_row _ _ _ _ _ _ hv, ← hu]
  simp [Ist.cells]
set_option maxRecDepth 100000 in
set_option maxHeartbeats 2000000 in
theorem clone_i (b off c : Nat) (ps : List Ist) (w : World) (hR : IstR w (some ⟨b, off, none⟩) ps) (hn : ps.length ≤ 1000) (h0 : 0 < ps.length) :
    Calls Try.prog 50 #[.slice (some ⟨b, off, none⟩) ps.length c] w fun e w' =>
      ∃ g q, e = .returned (.slice (some ⟨g, 0, none⟩) ps.length q) ∧ IstO w' w.heap.size (some ⟨g, 0, none⟩) ps.length q ps ∧ Below w.heap.size w w' := by
  obtain ⟨i0, hi, hz0, hz1, hz2⟩ := info_parts istInfo
  have hown := made0i w w.heap.size 46 5 (Nat.le_refl _)
  have hsz : w.heap.size ≤ (w.alloc (Obj.cells #[] 46)).heap.size := by simp
  have hb := below_alloc w (Obj.cells #[] 46)
  have hR2 := hR.below hb
  have HC : Hid (∀ j u, (ps.flatMap Ist.cells)[j]? = some u → (w.alloc (Obj.cells #[] 46)).cell? ((⟨b, off, none⟩ : Addr).add j) = some u) := Lib.hid fun j u hu => by
    have hp : 0 < (ps.flatMap Ist.cells).length := by have := (List.getElem?_eq_some_iff.1 hu).1; omega
    obtain ⟨b', off', e, _, hc⟩ := hR2 hp
    simp only [Option.some.injEq, Addr.mk.injEq, and_true] at e
    obtain ⟨rfl, rfl⟩ := e
    rw [add_plain0]
    exact hc j u hu
  have HO := Lib.hid hown
  have HSZ := Lib.hid hsz
  have HB := Lib.hid hb
  clear hR hR2 hown hsz hb
  have q22 : ∀ (w : World) (a : Option Addr) (n c n' c' : Nat), (binOp .eql 24 (.slice a n c) (.slice none n' c')).run Try.prog w = .ok (.bool a.isNone) w := fun w a n c n' c' => Lib.run_eql_slice_nil w _ _ a n c n' c' Try.underlying24
  go_enter Try.func50, Try.ntmps50
  go_wp2_with (at_builtin; refine wpList_append_own _ rfl (.tmp 5) (.tmp 6) 24 rfl w.heap.size 46 i0 _ 5 56 Try.underlying24 hi hz0 hz1 hz2 rfl (by decide) _ 0 _ rfl HO.out ⟨b, off, none⟩ ps.length c (ps.flatMap Ist.cells) rfl (flat_len Ist.cells 5 (fun _ => rfl) ps) HC.out (cells_one ps) (by unfold maxLen; omega) (by omega) HSZ.out ?_; intro v' w' h2 h3 h4)
  go_ret
  rw [Nat.zero_add] at h2
  obtain ⟨O, q, rfl⟩ := own_form h2
  have h5 := h2
  rcases h2.2 with ⟨e, e2⟩ | ⟨g, cap, cur, e, _⟩
  · omega
  · injection e with e1 e2 e3
    subst e1
    exact ⟨g, q, rfl, by simpa [IstO] using h5, HB.out.trans ((Below.refl _ _).grown h3 HSZ.out (fun k hk => (HO.out.lt k hk).1))⟩
/-! ### Insert -/
theorem own_room5 {w : World} {base g n c : Nat} {e : TypeId} {xs : List Value} (h : w.ownsRow base e 5 (.slice (some ⟨g, 0, none⟩) n c) n xs) :
    ∃ cur : Array Value, base ≤ g ∧ w.heap[g]? = some (.cells cur e (0, 0)) ∧ n ≤ c ∧ c ≤ maxLen ∧ cur.size = c * 5 ∧ cur.toList.take (n * 5) = xs := by
  rcases h.2 with ⟨e, _⟩ | ⟨g', cap, cur, e, h1, h2, h3, h4, h5, h6⟩
  · injection e with e; cases e
  · injection e with e e2 e3
    injection e with e
    injection e with e
    subst e e3
    exact ⟨cur, h1, h2, h3, h4, h5, h6⟩
/-- What Insert leaves. -/
def InsRes (w : World) (base : Nat) (qs : List Ist) (i : Nat) (y : Ist) (e : Ending) (w' : World) : Prop :=
  ∃ O q, e = .returned (.slice O (qs.length + 1) q) ∧ IstO w' base O (qs.length + 1) q (qs.take i ++ [y] ++ qs.drop i) ∧ Below base w w'
set_option maxRecDepth 100000 in
set_option maxHeartbeats 2000000 in
theorem insert_end (base g c vb : Nat) (qs : List Ist) (y : Ist) (w : World) (hown : IstO w base (some ⟨g, 0, none⟩) qs.length c qs) (hn : qs.length ≤ 1000)
    (hv : w.heap[vb]? = some (.cells #[.string ⟨y.c.toArray⟩, .int .i64 y.k, .string ⟨y.o.toArray⟩, .int .i64 y.v, .int .i64 y.a] 46 (0, 0))) (hb0 : base ≤ w.heap.size) :
    Calls Try.prog 52 #[.slice (some ⟨g, 0, none⟩) qs.length c, .int .i64 qs.length, .slice (some ⟨vb, 0, none⟩) 1 1] w (InsRes w base qs qs.length y) := by
  obtain ⟨i0, hi, hz0, hz1, hz2⟩ := info_parts istInfo
  obtain ⟨cur, hbg, hg, hnc, hcm, hsz, htk⟩ := own_room5 hown
  have HB := Lib.hid (box_cells hv)
  have HO := Lib.hid hown
  have h1 : ¬ ((1 : Int) = 0) := by decide
  have hcl : (y.cells).length = 1 * 5 := rfl
  have H1 : Hid (∀ u ∈ y.cells, u.oneCell' = true) := Lib.hid fun u hu => by
    unfold Ist.cells at hu
    simp only [List.mem_cons, List.not_mem_nil, or_false] at hu
    rcases hu with rfl | rfl | rfl | rfl | rfl <;> simp [Value.oneCell']
  have hcc : qs.length ≤ c := hnc
  have hc63 : (c : Int) ≤ 9223372036854775807 := by unfold maxLen at hcm; omega
  clear hv hown hg htk hcm hnc
  go_enter Try.func52, Try.ntmps52
  go_wp2_with (at_builtin; refine wpList_append_own _ rfl (.tmp 23) (.tmp 24) 24 rfl base 46 i0 _ 5 56 Try.underlying24 hi hz0 hz1 hz2 rfl (by decide) _ qs.length _ rfl HO.out ⟨vb, 0, none⟩ 1 1 y.cells rfl rfl HB.out H1.out (by unfold maxLen; omega) (by omega) hb0 ?_; intro v' w' h2 h3 h4)
  all_goals
    go_ret
    obtain ⟨O, q, rfl⟩ := own_form h2
    refine ⟨O, q, rfl, ?_, (Below.refl _ _).grown h3 hb0 (fun k hk => (HO.out.lt k hk).1)⟩
    unfold IstO
    rw [List.take_length, List.drop_length, List.append_nil, List.flatMap_append]
    simpa using h2
/-- Two rows laid over: what stands behind both copies. -/
theorem lay_two (C Y D R : List Value) (i k : Nat) (hC : C.length = i) (hY : Y.length = k) (hR : i + k + D.length ≤ R.length) (hRi : R.take i = C) :
    ((R.take i ++ Y ++ R.drop (i + Y.length)).take (i + k) ++ D ++ (R.take i ++ Y ++ R.drop (i + Y.length)).drop (i + k + D.length)).take (i + k + D.length) = C ++ Y ++ D := by
  subst hY hC
  have e1 : (R.take C.length ++ Y ++ R.drop (C.length + Y.length)).take (C.length + Y.length) = C ++ Y := by
    rw [hRi, List.take_append_of_le_length (by simp), List.take_of_length_le (by simp)]
  rw [e1, List.take_append_of_le_length (by simp only [List.length_append]; omega), List.take_of_length_le (by simp only [List.length_append]; omega)]
theorem zeros_size (z : Array Value) (n : Nat) : (Builtin.zeroCells z n).size = n * z.size := by rw [size_zeroCells]
set_option maxRecDepth 100000 in
set_option maxHeartbeats 4000000 in
theorem insert_grow (base g c i vb : Nat) (qs : List Ist) (y : Ist) (w : World) (hown : IstO w base (some ⟨g, 0, none⟩) qs.length c qs) (hn : qs.length ≤ 1000) (hin : i < qs.length) (hcn : c < qs.length + 1)
    (hv : w.heap[vb]? = some (.cells #[.string ⟨y.c.toArray⟩, .int .i64 y.k, .string ⟨y.o.toArray⟩, .int .i64 y.v, .int .i64 y.a] 46 (0, 0))) (hb0 : base ≤ w.heap.size) :
    Calls Try.prog 52 #[.slice (some ⟨g, 0, none⟩) qs.length c, .int .i64 i, .slice (some ⟨vb, 0, none⟩) 1 1] w (InsRes w base qs i y) := by
  obtain ⟨i0, hi, hz0, hz1, hz2⟩ := info_parts istInfo
  obtain ⟨cur, hbg, hg, hnc, hcm, hsz, htk⟩ := own_room5 hown
  obtain ⟨n, hnn⟩ : ∃ n, n = qs.length := ⟨_, rfl⟩
  have hlen := flat_len Ist.cells 5 (fun _ => rfl) qs
  obtain ⟨F, hF⟩ : ∃ F, F = qs.flatMap Ist.cells := ⟨_, rfl⟩
  have hFt := flat_take qs i
  have hFd := flat_drop qs i
  have h1F := cells_one qs
  rw [← hF] at htk hlen hFt hFd h1F
  rw [← hnn] at hn hin hcn hnc htk hlen ⊢
  have hgw : g < w.heap.size := lt_some hg
  have hvw : vb < w.heap.size := lt_some hv
  have hFc : ∀ (W : World), W.heap[g]? = w.heap[g]? → ∀ j u, F[j]? = some u → W.cell? ⟨g, j, none⟩ = some u := fun W hW j u hu => by
    rw [cell_of_row _ _ _ _ _ _ (hW.trans hg), ← Array.getElem?_toList]
    have hj := (List.getElem?_eq_some_iff.1 hu).1
    rw [← htk, List.getElem?_take] at hu
    split at hu
    · exact hu
    · cases hu
  have hold : (Builtin.firstCells i0.size i (.slice (some ⟨g, 0, none⟩) i c)).run Try.prog w.drew = .ok (F.take (i * 5)).toArray w.drew := by
    rw [hz1]
    exact run_firstCells_some w.drew 5 i ⟨g, 0, none⟩ i c (F.take (i * 5)) (by rw [List.length_take]; omega) (fun j u hj => by
      rw [add_plain0, Nat.zero_add]
      rw [List.getElem?_take] at hj
      split at hj
      · exact hFc w.drew rfl j u hj
      · cases hj)
  have hik : i + (n + 1 - i) = n + 1 := by omega
  have hkk : (n : Int) + 1 - (i : Int) = ((n + 1 - i : Nat) : Int) := by omega
  have hrz : ∀ ty, (Builtin.append_ #[24, 3] ty #[.slice (some ⟨g, 0, none⟩) i c, .int .i64 ((n : Int) + 1 - (i : Int))]).run Try.prog w =
      .ok (.slice (some ⟨w.heap.size, 0, none⟩) (n + 1) (grownCap w (n + 1) c 46)) (w.drew.alloc (.cells ((F.take (i * 5)).toArray ++ Builtin.zeroCells (Value.agg #[.string ⟨#[]⟩, .int .i64 0, .string ⟨#[]⟩, .int .i64 0, .int .i64 0]).cells (n + 1 - i) ++ Builtin.zeroCells (Value.agg #[.string ⟨#[]⟩, .int .i64 0, .string ⟨#[]⟩, .int .i64 0, .int .i64 0]).cells (grownCap w (n + 1) c 46 - (n + 1))) 46)) := fun ty => by
    have h := Lib.run_append_grow_zeros w 24 3 ty 46 i0 _ .i64 .i64 Try.underlying24 Try.underlying3 hi hz0 (some ⟨g, 0, none⟩) i c (F.take (i * 5)) hold (n + 1 - i) (by omega) (by omega) (by omega) (by omega) (by rw [hz2]; omega) (by rw [hz2, hik]; exact growslice_fits hcn (by omega))
    rw [hik] at h
    rw [hkk]
    exact h
  obtain ⟨G, hG⟩ : ∃ G, G = grownCap w (n + 1) c 46 := ⟨_, rfl⟩
  have hGn : n + 1 ≤ G := by rw [hG]; exact grownCap_ge w _ _ _
  have hGm : G ≤ maxLen := by rw [hG]; exact grownCap_le_maxLen w (n + 1) c _ (by unfold maxLen; omega)
  obtain ⟨R, hR⟩ : ∃ R : Array Value, R = (F.take (i * 5)).toArray ++ Builtin.zeroCells (Value.agg #[.string ⟨#[]⟩, .int .i64 0, .string ⟨#[]⟩, .int .i64 0, .int .i64 0]).cells (n + 1 - i) ++ Builtin.zeroCells (Value.agg #[.string ⟨#[]⟩, .int .i64 0, .string ⟨#[]⟩, .int .i64 0, .int .i64 0]).cells (G - (n + 1)) := ⟨_, rfl⟩
  rw [← hG] at hrz
  rw [← hR] at hrz
  have hRs : R.size = G * 5 := by
    rw [hR, Array.size_append, Array.size_append, zeros_size, zeros_size]
    show (F.take (i * 5)).length + (n + 1 - i) * 5 + (G - (n + 1)) * 5 = _
    rw [List.length_take]; omega
  have hRt : R.toList.take (i * 5) = F.take (i * 5) := by
    have hl : (F.take (i * 5)).length = i * 5 := by rw [List.length_take]; omega
    rw [hR, Array.toList_append, Array.toList_append, List.append_assoc, List.take_append_of_le_length (by show i * 5 ≤ (F.take (i * 5)).length; omega)]
    show (F.take (i * 5)).take (i * 5) = _
    rw [List.take_of_length_le (by omega)]
  obtain ⟨W1, hW1⟩ : ∃ W1, W1 = w.drew.alloc (.cells R 46) := ⟨_, rfl⟩
  rw [← hW1] at hrz
  have hW1g : W1.heap[g]? = w.heap[g]? := by rw [hW1]; exact heap_alloc_old w.drew _ hgw
  have hW1v : W1.heap[vb]? = w.heap[vb]? := by rw [hW1]; exact heap_alloc_old w.drew _ hvw
  have hW1N : W1.heap[w.heap.size]? = some (.cells R 46 (0, 0)) := by rw [hW1]; exact heap_alloc_new w.drew _
  have hW1b : Below w.heap.size w W1 := by rw [hW1]; exact (Below.refl _ _).drew.alloc (Nat.le_refl _) _
  have hyl : y.cells.length = 5 := rfl
  have H1y : ∀ u ∈ y.cells, u.oneCell' = true := fun u hu => by
    unfold Ist.cells at hu
    simp only [List.mem_cons, List.not_mem_nil, or_false] at hu
    rcases hu with rfl | rfl | rfl | rfl | rfl <;> simp [Value.oneCell']
  obtain ⟨R1, hR1⟩ : ∃ R1 : List Value, R1 = R.toList.take (i * 5) ++ y.cells ++ R.toList.drop (i * 5 + y.cells.length) := ⟨_, rfl⟩
  have hR1l : R1.length = G * 5 := by
    rw [hR1]; simp only [List.length_append, List.length_take, List.length_drop, Array.length_toList, hRs, hyl]; omega
  have hcA : ∀ (W : World), W.heap = W1.heap → ∀ dc ty, (Builtin.copy_ #[24, 24] ty #[.slice (some ⟨w.heap.size, i * 5, none⟩) (n + 1 - i) dc, .slice (some ⟨vb, 0, none⟩) 1 1]).run Try.prog W = .ok (goInt (Nat.min 1 (n + 1 - i))) (W.setRow w.heap.size R1.toArray) := fun W hW dc ty => by
    rw [hR1]
    exact run_copy_rowN W _ _ ty 46 5 w.heap.size (i * 5) (n + 1 - i) dc ⟨vb, 0, none⟩ 1 1 R 46 y.cells Try.underlying24 istSz (by rw [hW]; exact hW1N)
      (by rw [hyl]; show 5 = min 1 (n + 1 - i) * 5; omega) (box_cells (by rw [hW]; exact hW1v.trans hv)) (by rw [hyl, hRs]; omega) H1y
  obtain ⟨D, hD⟩ : ∃ D, D = F.drop (i * 5) := ⟨_, rfl⟩
  have hDl : D.length = (n - i) * 5 := by rw [hD, List.length_drop]; omega
  obtain ⟨R2, hR2⟩ : ∃ R2 : List Value, R2 = R1.take (i * 5 + 5) ++ D ++ R1.drop (i * 5 + 5 + D.length) := ⟨_, rfl⟩
  have hR2l : R2.length = G * 5 := by
    rw [hR2]; simp only [List.length_append, List.length_take, List.length_drop, hR1l, hDl]; omega
  have hgN : g ≠ w.heap.size := by omega
  have hcB : ∀ (W : World), W.heap = (W1.setRow w.heap.size R1.toArray).heap → ∀ dc sc ty, (Builtin.copy_ #[24, 24] ty #[.slice (some ⟨w.heap.size, (i + 1) * 5, none⟩) (n - i) dc, .slice (some ⟨g, i * 5, none⟩) (n - i) sc]).run Try.prog W = .ok (goInt (Nat.min (n - i) (n - i))) (W.setRow w.heap.size R2.toArray) := fun W hW dc sc ty => by
    have hWN : W.heap[w.heap.size]? = some (.cells R1.toArray 46 (0, 0)) := by rw [hW]; exact setRow_heap W1 w.heap.size _ _ _ _ hW1N
    have hWg : W.heap[g]? = w.heap[g]? := by rw [hW, setRow_other W1 w.heap.size g _ hgN]; exact hW1g
    rw [hR2, show i * 5 + 5 = (i + 1) * 5 by omega]
    exact run_copy_rowN W _ _ ty 46 5 w.heap.size ((i + 1) * 5) (n - i) dc ⟨g, i * 5, none⟩ (n - i) sc R1.toArray 46 D Try.underlying24 istSz hWN
      (by rw [hDl]; show (n - i) * 5 = min (n - i) (n - i) * 5; omega)
      (fun j u hj => by rw [add_plain0]; rw [hD, List.getElem?_drop] at hj; exact hFc W hWg _ u hj)
      (by rw [hDl]; show _ ≤ R1.length; omega) (fun u hu => h1F u (by rw [hD] at hu; exact List.mem_of_mem_drop hu))
  have hfin : ∀ (W : World), W.heap = (W1.setRow w.heap.size R1.toArray).heap → IstO (W.setRow w.heap.size R2.toArray) base (some ⟨w.heap.size, 0, none⟩) (n + 1) G (qs.take i ++ [y] ++ qs.drop i) := fun W hW => by
    have hWN : W.heap[w.heap.size]? = some (.cells R1.toArray 46 (0, 0)) := by rw [hW]; exact setRow_heap W1 w.heap.size _ _ _ _ hW1N
    have hall : (qs.take i ++ [y] ++ qs.drop i).flatMap Ist.cells = F.take (i * 5) ++ y.cells ++ D := by
      rw [List.flatMap_append, List.flatMap_append, hFt, hFd, hD]; simp
    unfold IstO
    rw [hall]
    have hfl : (F.take (i * 5) ++ y.cells ++ D).length = (n + 1) * 5 := by simp only [List.length_append, List.length_take, hyl, hDl]; omega
    refine ⟨hfl, .inr ⟨w.heap.size, G, R2.toArray, rfl, hb0, setRow_heap W w.heap.size _ _ _ _ hWN, hGn, hGm, hR2l, ?_⟩⟩
    have := lay_two (F.take (i * 5)) y.cells D R.toList (i * 5) 5 (by rw [List.length_take]; omega) hyl (by rw [hDl, Array.length_toList, hRs]; omega) hRt
    rw [← hR1] at this
    rw [show (n + 1) * 5 = i * 5 + 5 + D.length by rw [hDl]; omega, hR2]
    exact this
  have hbel : ∀ (W : World), Below w.heap.size w W → Below base w (W.setRow w.heap.size R2.toArray) := fun W hW => below_setRow (hW.mono hb0) hb0 _
  have HN := Lib.hid hnn
  have HF := Lib.hid hfin
  have HBL := Lib.hid hbel
  have HW1 := Lib.hid hW1b
  have hz1' : ¬ ((1 : Int) = 0) := by decide
  have hz2' : ¬ ((i : Int) = (n : Int)) := by omega
  have hz3' : (c : Int) < (n : Int) + 1 := by omega
  have mixed : Try.prog.follows .mixedOrders = true := by kernel_rfl
  have hb1 : (0 : Int) ≤ (i : Int) + 1 := by omega
  have hic : i ≤ c := by omega
  have hicI : (i : Int) ≤ (c : Int) := by omega
  have hci : ¬ (c = i) := by omega
  have hGi : ¬ (G = i) := by omega
  have hGi1 : ¬ (G = i + 1) := by omega
  have hG63 : (G : Int) ≤ 9223372036854775807 := by unfold maxLen at hGm; omega
  have hle : i ≤ n := by omega
  have htn : ((i : Int) + 1).toNat = i + 1 := by omega
  have hw1 : IntKind.i64.wrap ((i : Int) + 1) = (i : Int) + 1 := by rw [IntKind.wrap_i64]; omega
  clear hik hkk hold hG hR hRt hRs hF hFt hFd h1F hFc hfin hbel hv hown hg htk hcm hsz hlen hW1g hW1v hW1N hD hR1 hR2 hW1b hnn hR1l hR2l hDl hbg hnc
  subst hW1
  have hE1 : ((w.alloc (.cells R 46)).drew).heap = (w.drew.alloc (.cells R 46)).heap := rfl
  have hE2 : (((w.alloc (.cells R 46)).drew.setRow w.heap.size R1.toArray).drew).heap = ((w.drew.alloc (.cells R 46)).setRow w.heap.size R1.toArray).heap := rfl
  go_enter Try.func52, Try.ntmps52
  go_wp2_with (first
    | (at_builtin; refine wpList_append_zeros _ rfl _ _ _ _ rfl _ _ rfl rfl _ _ hrz ?_)
    | (at_builtin; refine wpList_copy_runN _ rfl _ _ 24 24 rfl _ _ rfl rfl _ _ (hcA _ hE1 _) ?_))
  go_region_law_o (refine step_copy_runN rfl _ _ 24 24 rfl (.slice (some ⟨w.heap.size, (i + 1) * 5, none⟩) (n - i) (G - (i + 1))) (.slice (some ⟨g, i * 5, none⟩) (n - i) (c - i)) (by simp [Act.eval, Act.put]) (by simp [Act.eval, Act.put]) (hcB _ hE2 _ _) ?_)
  go_wp2_with fail
  go_ret
  unfold InsRes
  rw [← HN.out]
  exact ⟨_, _, rfl, HF.out _ hE2, HBL.out _ (below_setRow HW1.out (Nat.le_refl _) _).drew⟩
/-- Two rows laid over in place: what lay behind moves first. -/
theorem lay_shift (F Y D R : List Value) (i k : Nat) (hF : i ≤ F.length) (hY : Y.length = k) (hD : D = F.drop i) (hR : F.length + k ≤ R.length) (hRt : R.take F.length = F) :
    ((R.take (i + k) ++ D ++ R.drop (i + k + D.length)).take i ++ Y ++ (R.take (i + k) ++ D ++ R.drop (i + k + D.length)).drop (i + Y.length)).take (F.length + k) = F.take i ++ Y ++ D := by
  subst hY
  have hDl : D.length = F.length - i := by rw [hD, List.length_drop]
  have e0 : R.take i = F.take i := by
    rw [← hRt, List.take_take, Nat.min_eq_left hF]
  have e1 : (R.take (i + Y.length) ++ D ++ R.drop (i + Y.length + D.length)).take i = F.take i := by
    rw [List.append_assoc, List.take_append_of_le_length (by rw [List.length_take]; omega), List.take_take, Nat.min_eq_left (by omega), e0]
  have e2 : (R.take (i + Y.length) ++ D ++ R.drop (i + Y.length + D.length)).drop (i + Y.length) = D ++ R.drop (i + Y.length + D.length) := by
    have hl : (R.take (i + Y.length)).length = i + Y.length := by rw [List.length_take]; omega
    rw [List.append_assoc, List.drop_append_of_le_length (by omega), List.drop_eq_nil_of_le (by omega), List.nil_append]
  rw [e1, e2, ← List.append_assoc]
  have e3 : (F.take i ++ Y ++ D).length = F.length + Y.length := by simp only [List.length_append, List.length_take, hDl]; omega
  rw [List.take_append_of_le_length (by omega), List.take_of_length_le (by omega)]
set_option maxRecDepth 100000 in
set_option maxHeartbeats 4000000 in
theorem insert_shift (base g c i vb : Nat) (qs : List Ist) (y : Ist) (w : World) (hown : IstO w base (some ⟨g, 0, none⟩) qs.length c qs) (hn : qs.length ≤ 1000) (hin : i < qs.length) (hcn : qs.length + 1 ≤ c) (hvg : vb ≠ g)
    (hv : w.heap[vb]? = some (.cells #[.string ⟨y.c.toArray⟩, .int .i64 y.k, .string ⟨y.o.toArray⟩, .int .i64 y.v, .int .i64 y.a] 46 (0, 0))) (hb0 : base ≤ w.heap.size) :
    Calls Try.prog 52 #[.slice (some ⟨g, 0, none⟩) qs.length c, .int .i64 i, .slice (some ⟨vb, 0, none⟩) 1 1] w (InsRes w base qs i y) := by
  obtain ⟨i0, hi, hz0, hz1, hz2⟩ := info_parts istInfo
  obtain ⟨R, hbg, hg, hnc, hcm, hRs, htk⟩ := own_room5 hown
  obtain ⟨n, hnn⟩ : ∃ n, n = qs.length := ⟨_, rfl⟩
  have hlen := flat_len Ist.cells 5 (fun _ => rfl) qs
  obtain ⟨F, hF⟩ : ∃ F, F = qs.flatMap Ist.cells := ⟨_, rfl⟩
  have hFt := flat_take qs i
  have hFd := flat_drop qs i
  have h1F := cells_one qs
  rw [← hF] at htk hlen hFt hFd h1F
  rw [← hnn] at hn hin hcn hnc htk hlen ⊢
  have hgw : g < w.heap.size := lt_some hg
  have hyl : y.cells.length = 5 := rfl
  have H1y : ∀ u ∈ y.cells, u.oneCell' = true := fun u hu => by
    unfold Ist.cells at hu
    simp only [List.mem_cons, List.not_mem_nil, or_false] at hu
    rcases hu with rfl | rfl | rfl | rfl | rfl <;> simp [Value.oneCell']
  have hFc : ∀ (W : World), W.heap = w.heap → ∀ j u, F[j]? = some u → W.cell? ⟨g, j, none⟩ = some u := fun W hW j u hu => by
    rw [cell_of_row _ _ _ _ _ _ (by rw [hW]; exact hg), ← Array.getElem?_toList]
    rw [← htk, List.getElem?_take] at hu
    split at hu
    · exact hu
    · cases hu
  have hsa : w.shape? vb = some (46, 5) := by simp [World.shape?, hv]
  have hsb : w.shape? g = some (46, R.size) := by simp [World.shape?, hg]
  have hsz5 : ∀ w, (Go.sizeOf 46).run Try.prog w = .ok 5 w := fun w => by simp [sizeOf, typeInfo, hi, hz1]
  have hov : ∀ lb cb, (callFunc 71 #[.slice (some ⟨vb, 0, none⟩) 1 1, .slice (some ⟨g, (i + 1) * 5, none⟩) lb cb]).run Try.prog w = .ok (.value (.bool false)) w := fun lb cb => by
    rw [run_callFunc_extern Try.func71 (by kernel_rfl) (by kernel_rfl) (by kernel_rfl) (e := Extern.SlicesOverlaps.overlaps #[24, 24] #[4]) (by kernel_rfl),
      Lib.run_overlaps_apart w 24 4 46 Try.underlying24 5 hsz5 ⟨vb, 0, none⟩ ⟨g, (i + 1) * 5, none⟩ 1 1 lb cb hvg _ _ _ _ hsa hsb (by omega) (frozen_of_row w vb 0 _ _ hv) (frozen_of_row w vb 5 _ _ hv)]
    rfl
  obtain ⟨D, hD⟩ : ∃ D, D = F.drop (i * 5) := ⟨_, rfl⟩
  have hDl : D.length = (n - i) * 5 := by rw [hD, List.length_drop]; omega
  obtain ⟨R1, hR1⟩ : ∃ R1 : List Value, R1 = R.toList.take (i * 5 + 5) ++ D ++ R.toList.drop (i * 5 + 5 + D.length) := ⟨_, rfl⟩
  have hR1l : R1.length = c * 5 := by
    rw [hR1]; simp only [List.length_append, List.length_take, List.length_drop, Array.length_toList, hRs, hDl]; omega
  obtain ⟨R2, hR2⟩ : ∃ R2 : List Value, R2 = R1.take (i * 5) ++ y.cells ++ R1.drop (i * 5 + y.cells.length) := ⟨_, rfl⟩
  have hR2l : R2.length = c * 5 := by
    rw [hR2]; simp only [List.length_append, List.length_take, List.length_drop, hR1l, hyl]; omega
  have hcB : ∀ (W : World), W.heap = w.heap → ∀ dc sc ty, (Builtin.copy_ #[24, 24] ty #[.slice (some ⟨g, (i + 1) * 5, none⟩) (n - i) dc, .slice (some ⟨g, i * 5, none⟩) (n + 1 - i) sc]).run Try.prog W = .ok (goInt (Nat.min (n + 1 - i) (n - i))) (W.setRow g R1.toArray) := fun W hW dc sc ty => by
    rw [hR1, show i * 5 + 5 = (i + 1) * 5 by omega]
    exact run_copy_rowN W _ _ ty 46 5 g ((i + 1) * 5) (n - i) dc ⟨g, i * 5, none⟩ (n + 1 - i) sc R 46 D Try.underlying24 istSz (by rw [hW]; exact hg)
      (by rw [hDl]; show (n - i) * 5 = min (n + 1 - i) (n - i) * 5; omega)
      (fun j u hj => by rw [add_plain0]; rw [hD, List.getElem?_drop] at hj; exact hFc W hW _ u hj)
      (by rw [hDl, hRs]; omega) (fun u hu => h1F u (by rw [hD] at hu; exact List.mem_of_mem_drop hu))
  have hcA : ∀ (W : World), W.heap = (w.setRow g R1.toArray).heap → ∀ dc ty, (Builtin.copy_ #[24, 24] ty #[.slice (some ⟨g, i * 5, none⟩) (n + 1 - i) dc, .slice (some ⟨vb, 0, none⟩) 1 1]).run Try.prog W = .ok (goInt (Nat.min 1 (n + 1 - i))) (W.setRow g R2.toArray) := fun W hW dc ty => by
    have hWN : W.heap[g]? = some (.cells R1.toArray 46 (0, 0)) := by rw [hW]; exact setRow_heap w g _ _ _ _ hg
    have hWv : W.heap[vb]? = w.heap[vb]? := by rw [hW]; exact setRow_other w g vb _ hvg
    rw [hR2]
    exact run_copy_rowN W _ _ ty 46 5 g (i * 5) (n + 1 - i) dc ⟨vb, 0, none⟩ 1 1 R1.toArray 46 y.cells Try.underlying24 istSz hWN
      (by rw [hyl]; show 5 = min 1 (n + 1 - i) * 5; omega) (box_cells (hWv.trans hv)) (by rw [hyl]; show _ ≤ R1.length; omega) H1y
  have hfin : ∀ (W : World), W.heap = (w.setRow g R1.toArray).heap → IstO (W.setRow g R2.toArray) base (some ⟨g, 0, none⟩) (n + 1) c (qs.take i ++ [y] ++ qs.drop i) := fun W hW => by
    have hWN : W.heap[g]? = some (.cells R1.toArray 46 (0, 0)) := by rw [hW]; exact setRow_heap w g _ _ _ _ hg
    have hall : (qs.take i ++ [y] ++ qs.drop i).flatMap Ist.cells = F.take (i * 5) ++ y.cells ++ D := by
      rw [List.flatMap_append, List.flatMap_append, hFt, hFd, hD]; simp
    unfold IstO
    rw [hall]
    have hfl : (F.take (i * 5) ++ y.cells ++ D).length = (n + 1) * 5 := by simp only [List.length_append, List.length_take, hyl, hDl]; omega
    refine ⟨hfl, .inr ⟨g, c, R2.toArray, rfl, hbg, setRow_heap W g _ _ _ _ hWN, hcn, hcm, hR2l, ?_⟩⟩
    have h9 : R.toList.length = c * 5 := by rw [Array.length_toList]; exact hRs
    have := lay_shift F y.cells D R.toList (i * 5) 5 (by omega) hyl hD (by omega) (by rw [hlen]; exact htk)
    rw [← hR1, ← hR2] at this
    rw [show (n + 1) * 5 = F.length + 5 by omega]
    exact this
  have hbel : ∀ (W : World), Below base w W → Below base w (W.setRow g R2.toArray) := fun W hW => below_setRow hW hbg _
  have HN := Lib.hid hnn
  have HF := Lib.hid hfin
  have HBL := Lib.hid hbel
  have HBG := Lib.hid hbg
  have hz1' : ¬ ((1 : Int) = 0) := by decide
  have hz2' : ¬ ((i : Int) = (n : Int)) := by omega
  have hz3' : ¬ ((c : Int) < (n : Int) + 1) := by omega
  have hic : i ≤ c := by omega
  have hci : ¬ (c = i) := by omega
  have hci1 : ¬ (c = i + 1) := by omega
  have mixed : Try.prog.follows .mixedOrders = true := by kernel_rfl
  have hb1 : (0 : Int) ≤ (i : Int) + 1 := by omega
  have hb3 : (i : Int) ≤ (n : Int) + 1 := by omega
  have hc63 : (c : Int) ≤ 9223372036854775807 := by unfold maxLen at hcm; omega
  have hle : i ≤ n := by omega
  have hw1 : IntKind.i64.wrap ((i : Int) + 1) = (i : Int) + 1 := by rw [IntKind.wrap_i64]; omega
  clear hF hFt hFd h1F hFc hfin hbel hv hown hg htk hcm hlen hD hR1 hR2 hnn hR1l hR2l hDl hbg hnc hsa hsb
  have hE1 : w.drew.heap = w.heap := rfl
  have hE2 : (w.drew.setRow g R1.toArray).heap = (w.setRow g R1.toArray).heap := rfl
  go_enter Try.func52, Try.ntmps52
  go_wp2_with (simp only [hov])
  go_region_law_o (refine step_copy_runN rfl _ _ 24 24 rfl (.slice (some ⟨g, (i + 1) * 5, none⟩) (n - i) (c - (i + 1))) (.slice (some ⟨g, i * 5, none⟩) (n + 1 - i) (c - i)) (by simp [Act.eval, Act.put]) (by simp [Act.eval, Act.put]) (hcB _ hE1 _ _) ?_)
  go_wp2_with (at_builtin; refine wpList_copy_runN _ rfl _ _ 24 24 rfl _ _ rfl rfl _ _ (hcA _ hE2 _) ?_)
  go_ret
  unfold InsRes
  rw [← HN.out]
  exact ⟨_, _, rfl, HF.out _ hE2, HBL.out _ (below_setRow (Below.refl _ _).drew HBG.out _)⟩
theorem insert_i (base g c i vb : Nat) (qs : List Ist) (y : Ist) (w : World) (hown : IstO w base (some ⟨g, 0, none⟩) qs.length c qs) (hn : qs.length ≤ 1000) (hin : i ≤ qs.length) (hvg : vb ≠ g)
    (hv : w.heap[vb]? = some (.cells #[.string ⟨y.c.toArray⟩, .int .i64 y.k, .string ⟨y.o.toArray⟩, .int .i64 y.v, .int .i64 y.a] 46 (0, 0))) (hb0 : base ≤ w.heap.size) :
    Calls Try.prog 52 #[.slice (some ⟨g, 0, none⟩) qs.length c, .int .i64 i, .slice (some ⟨vb, 0, none⟩) 1 1] w (InsRes w base qs i y) := by
  rcases Nat.lt_or_ge i qs.length with h | h
  · rcases Nat.lt_or_ge c (qs.length + 1) with h2 | h2
    · exact insert_grow base g c i vb qs y w hown hn h h2 hv hb0
    · exact insert_shift base g c i vb qs y w hown hn h h2 hvg hv hb0
  · obtain rfl : i = qs.length := by omega
    exact insert_end base g c vb qs y w hown hn hv hb0
end Go.Proofs.Ythainomgmgaikaa
