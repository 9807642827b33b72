/- What the draws of chapter 9 need: an append of clauses, a drawn code. (by gen_drc.py) -/
import Derived.Test.YtmhlkbocejnpoaaDoorDrawt
import Derived.Test.YtmhlkbocejnpoaaDoorCrb
import Derived.Test.YtmhlkbocejnpoaaDoorRi2
import Derived.Test.YtmhlkbocejnpoaaDoorClsf
import Derived.Laws.ResultCell
namespace Go.Proofs.YtmhlkbocejnpoaaDoor
open Go.ChangeShapes Go.WideShapes Go.ChangeAt Go.RowKit
set_option linter.unusedVariables false

/-- The row at hand: what has been put together so far. -/
def RowAC (lo : Nat) (v : Value) (L : List Cls) (W : World) : Prop := ∃ O q, v = .slice O L.length q ∧ ClsO W lo O L.length q L
theorem run_append_nilC9 {P : Program} (w : World) (t ty e : TypeId) (i : TypeInfo) (ht : P.underlying t = some (.slice e)) (hi : P.info? e = some i) (O : Option Addr) (n q c : Nat) (h : n ≤ q) :
    (Builtin.append_ #[t, t] ty #[.slice O n q, .slice none 0 c]).run P w = .ok (.slice O n q) w := by
  cases O <;> simp [Builtin.append_, run_underlying ht, sizeOf, typeInfo, hi, Builtin.lenOf, h, run_firstCells_none, storeCells]
theorem own_roomC {w : World} {base : Nat} {e : TypeId} {size n q : Nat} {O : Option Addr} {xs : List Value} (h : w.ownsRow base e size (.slice O n q) n xs) : n ≤ q := by
  rcases h.2 with ⟨h1, h2⟩ | ⟨g, cap, cur, h1, _, _, h4, _⟩
  · omega
  · injection h1 with _ _ h3; omega
set_option maxRecDepth 100000 in
theorem run_append_cls (W : World) (ty : TypeId) (lo : Nat) (v : Value) (L : List Cls) (hrow : RowAC lo v L W) (A : Option Addr) (c : Nat) (l : List Cls) (hR : ClsR W A l) (hA : A = none ∨ ∃ b off, A = some ⟨b, off, none⟩) (h63 : L.length + l.length ≤ 1000) (hbase : lo ≤ W.heap.size) :
    ∃ v' W', (Builtin.append_ #[48, 48] ty #[v, .slice A l.length c]).run Tryd.prog W = .ok v' W' ∧ RowAC lo v' (L ++ l) W' ∧ Below lo W W' ∧ W.grownBy W' v.ownBlock ∧ (v'.ownBlock = v.ownBlock ∨ v'.ownBlock = some W.heap.size) := by
  obtain ⟨i0, hi, hz0, hz1, hz2⟩ := info_parts clsInfo
  obtain ⟨O, q, rfl, hown⟩ := hrow
  rcases hA with rfl | ⟨b, off, rfl⟩
  · have hl : l = [] := by
      cases l with
      | nil => rfl
      | cons y l => obtain ⟨_, _, _, e, _⟩ := hR.at (k := 0) (by simp); cases e
    subst hl
    have hr := run_append_nilC9 (P := Tryd.prog) W 48 ty 25 i0 Tryd.underlying48 hi O L.length q c (own_roomC hown)
    exact ⟨_, _, hr, ⟨O, q, by simp, by simpa using hown⟩, Below.refl _ _, World.grownBy.refl _ _, .inl rfl⟩
  · obtain ⟨v', w', hr, h2, h3, h4, h5⟩ := run_append_own_at (P := Tryd.prog) W lo 48 ty 25 i0 _ 7 72 Tryd.underlying48 hi hz0 hz1 hz2 rfl (by decide) _ L.length _ hown ⟨b, off, none⟩ l.length c (l.flatMap Cls.cells) (flat_len Cls.cells 7 (fun _ => rfl) l)
      (fun j u hu => by
        have hp : 0 < (l.flatMap Cls.cells).length := by have := (List.getElem?_eq_some_iff.1 hu).1; omega
        obtain ⟨b', off', e, _, hc⟩ := hR hp
        simp only [Option.some.injEq, Addr.mk.injEq, and_true] at e
        obtain ⟨rfl, rfl⟩ := e
        rw [show ((⟨b, off, none⟩ : Addr).add j) = ⟨b, off + j, none⟩ from by unfold Addr.add; split <;> simp_all]
        exact hc j u hu)
      (fun u hu => by
        obtain ⟨y, _, hy⟩ := List.mem_flatMap.1 hu
        unfold Cls.cells at hy
        simp only [List.mem_cons, List.not_mem_nil, or_false] at hy
        rcases hy with rfl | rfl | rfl | rfl | rfl | rfl | rfl <;> simp [Value.oneCell'])
      (by unfold maxLen; omega) (by omega) hbase
    obtain ⟨O', q', rfl⟩ := own_form h2
    refine ⟨_, _, hr, ⟨O', q', by rw [List.length_append], ?_⟩, (Below.refl lo W).grown h3 hbase (fun k hk => (World.ownsRow.lt hown k hk).1), h3, h5⟩
    unfold ClsO
    rw [List.length_append, List.flatMap_append]
    exact h2
theorem wpOp_append_cls {ops : Array Oper} {Q : Exit → Act → World → Prop} {i : Nat} {o : Oper} {K : Act → World → Prop} {a : Act} {W : World} (hoi : ops[i]? = some o) (hgd : o.guard = none) (s y : Operand)
    (ho : o.op = .call { callee := .builtin .append, args := #[s, y], argTypes := #[48, 48] }) (lo : Nat) (v : Value) (L : List Cls) (hs : a.eval s = v) (hrow : RowAC lo v L W)
    (A : Option Addr) (c : Nat) (l : List Cls) (hy : a.eval y = .slice A l.length c) (hR : ClsR W A l) (hA : A = none ∨ ∃ b off, A = some ⟨b, off, none⟩) (h63 : L.length + l.length ≤ 1000) (hbase : lo ≤ W.heap.size)
    (h : ∀ v' W', RowAC lo v' (L ++ l) W' → Below lo W W' → W.grownBy W' v.ownBlock → (v'.ownBlock = v.ownBlock ∨ v'.ownBlock = some W.heap.size) → K (a.put o.dst v') W') : wpOp Tryd.prog ops Q i K a W := by
  refine wpOp_step hoi fun K' hK => ?_
  rw [if_pos (by simp only [Region.wanted, hgd])]
  obtain ⟨v', W', hr, h1, h2, h3, h4⟩ := run_append_cls W o.type lo v L hrow A c l hR hA h63 hbase
  unfold Oper.wp execOp
  simp only [ho, resolve, invoke, builtin, Sem.run_bind, Sem.run_pure, Result.andThen_ok, List.map_toArray, List.map_cons, List.map_nil, hs, hy, hr]
  exact hK _ _ (h v' W' h1 h2 h3 h4)
theorem own_srcC {w w' : World} {W : Nat} {e : TypeId} {g n size : Nat} {v : Value} {xs : List Value} (h : w.ownsRow W e size v n xs) (hg : w.grownBy w' (some g)) (hW : g < W) : w'.ownsRow W e size v n xs := by
  refine World.ownsRow.kept h hg ?_
  cases hv : v.ownBlock with
  | none => exact .inl rfl
  | some k => right; intro e; have := (h.lt k hv).1; injection e with e; omega
theorem clsR_row {W : World} {B : Nat} {q : Cls} (h : W.heap[B]? = some (.cells #[.string ⟨q.c.toArray⟩, .int .i64 q.k, .int .i64 q.p, .int .i64 q.v, .int .i64 q.r, .int .i64 q.e, .string ⟨q.t.toArray⟩] 25 (0, 0))) : ClsR W (some ⟨B, 0, none⟩) [q] := fun _ =>
  ⟨B, 0, rfl, lt_some h, fun j v hj => by
    rw [cell_of_row _ _ _ _ _ _ h, Nat.zero_add]
    simpa [Cls.cells] using hj⟩
theorem rw_row {W : World} {B : Nat} {vs : List Value} {t : TypeId} (h : W.heap[B]? = some (.cells vs.toArray t (0, 0))) : Rw W (some ⟨B, 0, none⟩) vs := fun _ =>
  ⟨B, 0, rfl, lt_some h, fun j v hj => by
    rw [cell_of_row _ _ _ _ _ _ h, Nat.zero_add]
    simpa using hj⟩
def codesC12 : List (List UInt8) := [[97, 108, 98, 97], [98, 111, 114, 111], [99, 97, 112, 101], [100, 111, 114, 97], [101, 108, 105, 110], [97, 108, 98, 97], [98, 111, 114, 111], [99, 97, 112, 101], [100, 111, 114, 97], [], [65, 108, 98, 97], [116, 111, 111, 108, 111, 110, 103]]
def codesC6 : List (List UInt8) := [[97, 97], [98, 98], [99, 99], [100, 100], [101, 101], [102, 102]]
def strC (s : List UInt8) : Value := .string ⟨s.toArray⟩
theorem text_atC {ts : List (List UInt8)} {n : Nat} (h : ∀ s ∈ ts, s.length ≤ n) {k : Nat} (hk : k < ts.length) : ∃ s : List UInt8, s.length ≤ n ∧ (ts.map strC)[k]? = some (.string ⟨s.toArray⟩) :=
  ⟨ts[k], h _ (List.getElem_mem hk), by simp [hk, strC]⟩
theorem cell_code {W : World} {B k : Nat} {t : TypeId} {v : Value} {ts : List (List UInt8)} (h : W.heap[B]? = some (.cells (ts.map strC).toArray t (0, 0))) (hv : (ts.map strC)[k]? = some v) : W.cell? ⟨B, k, none⟩ = some v := by
  rw [cell_of_row _ _ _ _ _ _ h]; simpa using hv
theorem code_anyC (g : Nat) (base : Nat) (A : Option Addr) (c : Nat) (bs : List Int) (w : World) (h : Src w base g A c bs) :
    Calls Tryd.prog 39 #[.pointer (some ⟨g, 0, none⟩)] w (fun e w' => ∃ s : List UInt8, e = .returned (.string ⟨s.toArray⟩) ∧ s.length ≤ 7 ∧ Src w' base g A c bs ∧ w.grownBy w' (some g)) := by
  have hgl := h.lt
  have hrow : (w.alloc (.cells (codesC12.map strC).toArray 9)).heap[w.heap.size]? = some (.cells (codesC12.map strC).toArray 9 (0, 0)) := heap_alloc_new w _
  go_enter Tryd.func39, Tryd.ntmps39
  go_wp2_with fail
  refine (next_any g _ base A c bs _ (h.alloc _) (by omega)).mono ?_
  rintro e w1 ⟨r, rfl, r0, r1, h1, g1⟩
  obtain ⟨k, rfl⟩ := Int.eq_ofNat_of_zero_le r0
  have hk : k < 12 := by omega
  obtain ⟨s, hs, hv⟩ := text_atC (ts := codesC12) (n := 7) (by decide) (k := k) hk
  have hcell := cell_code (keepG g1 hrow (by omega)) hv
  clear hrow hv
  go_wp2_with fail
  go_ret
  exact ⟨s, rfl, hs, h1, (World.grownBy_alloc _ _ _).trans g1⟩
/-- What a clause of a drawn rulebook keeps to. -/
def Dcv (q : Cls) : Prop := q.c.length ≤ 7 ∧ q.t.length ≤ 7 ∧ (-1 ≤ q.k ∧ q.k ≤ 6) ∧ (0 ≤ q.p ∧ q.p ≤ 2) ∧ (0 ≤ q.v ∧ q.v ≤ 2) ∧ (0 ≤ q.r ∧ q.r ≤ 2) ∧ (0 ≤ q.e ∧ q.e ≤ 3)
theorem snoc_dcv {ps : List Cls} {x : Cls} (h : ∀ p ∈ ps, Dcv p) (hx : Dcv x) : ∀ p ∈ ps ++ [x], Dcv p := by
  intro p hp
  rcases List.mem_append.1 hp with h2 | h2
  · exact h p h2
  · rw [List.mem_singleton.1 h2]; exact hx
theorem put_src {W wq : World} {base g C : Nat} {A : Option Addr} {c : Nat} {bs : List Int} (hs : Src W base g A c bs) (hG : wq.grownBy W (some g)) (hgC : g < C) (hwC : wq.heap.size ≤ C) (j : Nat) (u : Value) :
    Src (W.setCell ⟨C, j, none⟩ u) base g A c bs ∧ wq.grownBy (W.setCell ⟨C, j, none⟩ u) (some g) :=
  ⟨hs.keep ((Below.refl _ _).setCell (p := ⟨C, j, none⟩) hgC _), grown_below hG ((Below.refl _ _).setCell (p := ⟨C, j, none⟩) hwC _)⟩
end Go.Proofs.YtmhlkbocejnpoaaDoor
