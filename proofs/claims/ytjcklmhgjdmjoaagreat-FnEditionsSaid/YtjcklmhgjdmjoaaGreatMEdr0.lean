import Derived.Test.YtjcklmhgjdmjoaaGreatEdo
import Derived.Test.YtjcklmhgjdmjoaaGreatMRate
import Derived.Test.YtjcklmhgjdmjoaaGreatRin
import Derived.Maps.AppendAt
import Derived.Test.YtjcklmhgjdmjoaaGreatMLib
namespace Go.Proofs.YtjcklmhgjdmjoaaGreat
open Go.ChangeShapes Go.WideShapes Go.ChangeAt Go.RowKit
set_option linter.unusedVariables false
def frAH (us : Nat -> Value) : Act := { tmps := #[us 0, us 1, us 2, us 3, us 4, us 5, us 6, us 7, us 8, us 9, us 10, us 11, us 12, us 13, us 14, us 15, us 16, us 17, us 18, us 19, us 20, us 21, us 22, us 23, us 24, us 25, us 26, us 27, us 28, us 29, us 30, us 31, us 32, us 33, us 34, us 35, us 36, us 37, us 38, us 39, us 40, us 41, us 42, us 43, us 44, us 45, us 46, us 47, us 48, us 49], defers := [] }
def updAH (us : Nat -> Value) (j : Nat) (v : Value) : Nat -> Value := fun n => if n = j then v else us n
theorem frA_ofH {x0 x1 x2 x3 x4 x5 x6 x7 x8 x9 x10 x11 x12 x13 x14 x15 x16 x17 x18 x19 x20 x21 x22 x23 x24 x25 x26 x27 x28 x29 x30 x31 x32 x33 x34 x35 x36 x37 x38 x39 x40 x41 x42 x43 x44 x45 x46 x47 x48 x49 : Value} : ({ tmps := #[x0, x1, x2, x3, x4, x5, x6, x7, x8, x9, x10, x11, x12, x13, x14, x15, x16, x17, x18, x19, x20, x21, x22, x23, x24, x25, x26, x27, x28, x29, x30, x31, x32, x33, x34, x35, x36, x37, x38, x39, x40, x41, x42, x43, x44, x45, x46, x47, x48, x49], defers := [] } : Act) = frAH (fun k => #[x0, x1, x2, x3, x4, x5, x6, x7, x8, x9, x10, x11, x12, x13, x14, x15, x16, x17, x18, x19, x20, x21, x22, x23, x24, x25, x26, x27, x28, x29, x30, x31, x32, x33, x34, x35, x36, x37, x38, x39, x40, x41, x42, x43, x44, x45, x46, x47, x48, x49].getD k undef) := rfl
theorem upd_sameH (us : Nat -> Value) (j : Nat) (v : Value) : updAH us j v j = v := by unfold updAH; rw [if_pos rfl]
theorem upd_otherH {us : Nat -> Value} {j n : Nat} {v : Value} (h : n ≠ j) : updAH us j v n = us n := by unfold updAH; rw [if_neg h]
theorem getD_set_sameH {d : Array Bool} {i : Nat} (h : d.getD i true = false) : (d.setIfInBounds i true).getD i false = true := by
 have hi : i < d.size := by
  rcases Nat.lt_or_ge i d.size with h1 | h1
  ·
   exact h1
  ·
   simp [Array.getElem?_eq_none h1] at h
 simp [hi]
theorem getD_tfH {d : Array Bool} {i : Nat} (h : d.getD i true = false) : d.getD i false = false := by
 have hi : i < d.size := by
  rcases Nat.lt_or_ge i d.size with h1 | h1
  ·
   exact h1
  ·
   simp [Array.getElem?_eq_none h1] at h
 simp [hi] at h ⊢; exact h
def RowAH (lo : Nat) (v : Value) (L : List Edh) (W : World) : Prop := ∃ O q, v = .slice O L.length q /\ EdhO W lo O L.length q L
theorem RowAH.below {lo : Nat} {v : Value} {L : List Edh} {W W' : World} (h : RowAH lo v L W) (hb : Below W.heap.size W W') : RowAH lo v L W' := by
 obtain ⟨O, q, e, ho⟩ := h; exact ⟨O, q, e, ho.below hb⟩
theorem RowAH.lt {lo : Nat} {v : Value} {L : List Edh} {W : World} (h : RowAH lo v L W) {k : Nat} (hk : v.ownBlock = some k) : k < W.heap.size := by
 obtain ⟨O, q, rfl, ho⟩ := h; exact (World.ownsRow.lt ho k hk).2
def NewAH (lo : Nat) (v : Value) (x : Edh) (W : World) : Prop := ∃ B, v = .slice (some ⟨B, 0, none⟩) 1 1 /\ W.heap[B]? = some (.cells #[.int .i64 x.y, .slice x.A x.n x.c] 42 (0, 0)) /\ lo <= B
theorem NewAH.below {lo : Nat} {v : Value} {x : Edh} {W W' : World} (h : NewAH lo v x W) (hb : Below W.heap.size W W') : NewAH lo v x W' := by
 obtain ⟨B, e, hB, hl⟩ := h; exact ⟨B, e, (hb.block B (lt_some hB)).trans hB, hl⟩
theorem NewAH.lt {lo : Nat} {v : Value} {x : Edh} {W : World} (h : NewAH lo v x W) {k : Nat} (hk : v.ownBlock = some k) : k < W.heap.size := by
 obtain ⟨B, rfl, hB, _⟩ := h; cases hk; exact lt_some hB
theorem NewAH.sep {lo : Nat} {u v : Value} {x : Edh} {W W' : World} (h : NewAH lo v x W) (hs : Sep u v) (hg : W.grownBy W' u.ownBlock) : NewAH lo v x W' := by
 obtain ⟨B, rfl, hB, hl⟩ := h
 refine ⟨B, rfl, ?_, hl⟩
 have := hg.block B (lt_some hB) (fun e => hs B e.symm rfl)
 rw [this]; exact hB
theorem NewAH.row {lo : Nat} {v : Value} {x : Edh} {W : World} (h : NewAH lo v x W) : ∃ B, v = .slice (some ⟨B, 0, none⟩) 1 1 /\ EdhR W (some ⟨B, 0, none⟩) [x] := by
 obtain ⟨B, rfl, hB, _⟩ := h
 refine ⟨B, rfl, fun _ => ⟨B, 0, rfl, lt_some hB, fun j v hj => ?_⟩⟩
 rw [Nat.zero_add, cell_of_row _ _ _ _ _ _ hB]
 simpa [Edh.cells] using hj
theorem sep_appH {lo : Nat} {u u' v : Value} {x : Edh} {W : World} (h : NewAH lo v x W) (hs : Sep u v) (hu : u'.ownBlock = u.ownBlock ∨ u'.ownBlock = some W.heap.size) : Sep u' v := by
 intro k hk hv
 rcases hu with hu | hu
 ·
  exact hs k (hu ▸ hk) hv
 ·
  have := h.lt hv
  rw [hu] at hk; cases hk; omega
theorem sep_ltH {u : Value} {n B : Nat} (h : ∀ k, u.ownBlock = some k -> k < B) : Sep u (.slice (some ⟨B, 0, none⟩) n n) := by
 intro k hk hv
 have := h k hk
 simp [Value.ownBlock] at hv; omega
theorem sep_gtH {v : Value} {n B : Nat} (h : ∀ k, v.ownBlock = some k -> k < B) : Sep (.slice (some ⟨B, 0, none⟩) n n) v := by
 intro k hk hv
 have := h k hv
 simp [Value.ownBlock] at hk; omega
set_option maxRecDepth 100000 in
theorem run_append_rowH (W : World) (ty : TypeId) (lo : Nat) (v : Value) (L : List Edh) (hrow : RowAH lo v L W) (A : Option Addr) (c : Nat) (l : List Edh) (hR : EdhR W A l) (hA : A = none ∨ ∃ b off, A = some ⟨b, off, none⟩) (h63 : L.length + l.length <= 1000) (hbase : lo <= W.heap.size) :
  ∃ v' W', (Builtin.append_ #[36, 36] ty #[v, .slice A l.length c]).run Tryz.prog W = .ok v' W' /\ RowAH lo v' (L ++ l) W' /\ Below lo W W' /\ W.grownBy W' v.ownBlock /\ (v'.ownBlock = v.ownBlock ∨ v'.ownBlock = some W.heap.size) := by
 obtain ⟨i0, hi, hz0, hz1, hz2⟩ := info_parts ednInfo
 obtain ⟨O, q, rfl, hown⟩ := hrow
 rcases hA with rfl | ⟨b, off, rfl⟩
 ·
  have hl : l = [] := by
   cases l with
   | nil => rfl
   | cons y l => obtain ⟨_, _, _, e, _⟩ := hR.at (k := 0) (by simp); cases e
  subst hl
  have hr := run_append_nilH (P := Tryz.prog) W 36 ty 42 i0 Tryz.underlying36 hi O L.length q c (own_roomH hown)
  exact ⟨_, _, hr, ⟨O, q, by simp, by simpa using hown⟩, Below.refl _ _, World.grownBy.refl _ _, .inl rfl⟩
 ·
  obtain ⟨v', w', hr, h2, h3, h4, h5⟩ := run_append_own_at (P := Tryz.prog) W lo 36 ty 42 i0 _ 2 32 Tryz.underlying36 hi hz0 hz1 hz2 rfl (by decide) _ L.length _ hown ⟨b, off, none⟩ l.length c (l.flatMap Edh.cells) (flat_len Edh.cells 2 (fun _ => rfl) l)
   (fun j u hu => by
    have hp : 0 < (l.flatMap Edh.cells).length := by have := (List.getElem?_eq_some_iff.1 hu).1; omega
    obtain ⟨b', off', e, _, hc⟩ := hR hp
    simp only [Option.some.injEq, Addr.mk.injEq, and_true] at e
    obtain ⟨rfl, rfl⟩ := e
    rw [show ((⟨b, off, none⟩ : Addr).add j) = ⟨b, off + j, none⟩ from by unfold Addr.add; split <;> simp_all]
    exact hc j u hu)
   (fun u hu => by
    obtain ⟨y, _, hy⟩ := List.mem_flatMap.1 hu
    unfold Edh.cells at hy
    simp only [List.mem_cons, List.not_mem_nil, or_false] at hy
    rcases hy with rfl | rfl <;> simp [Value.oneCell'])
   (by unfold maxLen; omega) (by omega) hbase
  obtain ⟨O', q', rfl⟩ := own_form h2
  refine ⟨_, _, hr, ⟨O', q', by rw [List.length_append], ?_⟩, (Below.refl lo W).grown h3 hbase (fun k hk => (World.ownsRow.lt hown k hk).1), h3, h5⟩
  unfold EdhO
  rw [List.length_append, List.flatMap_append]
  exact h2
theorem wpOp_append_rowH {ops : Array Oper} {Q : Exit -> Act -> World -> Prop} {i : Nat} {o : Oper} {K : Act -> World -> Prop} {a : Act} {W : World} (hoi : ops[i]? = some o) (hgd : o.guard = none) (s y : Operand)
  (ho : o.op = .call { callee := .builtin .append, args := #[s, y], argTypes := #[36, 36] }) (lo : Nat) (v : Value) (L : List Edh) (hs : a.eval s = v) (hrow : RowAH lo v L W)
  (A : Option Addr) (c : Nat) (l : List Edh) (hy : a.eval y = .slice A l.length c) (hR : EdhR W A l) (hA : A = none ∨ ∃ b off, A = some ⟨b, off, none⟩) (h63 : L.length + l.length <= 1000) (hbase : lo <= W.heap.size)
  (h : ∀ v' W', RowAH lo v' (L ++ l) W' -> Below lo W W' -> W.grownBy W' v.ownBlock -> (v'.ownBlock = v.ownBlock ∨ v'.ownBlock = some W.heap.size) -> K (a.put o.dst v') W') : wpOp Tryz.prog ops Q i K a W := by
 refine wpOp_step hoi fun K' hK => ?_
 rw [if_pos (by simp only [Region.wanted, hgd])]
 obtain ⟨v', W', hr, h1, h2, h3, h4⟩ := run_append_rowH W o.type lo v L hrow A c l hR hA h63 hbase
 unfold Oper.wp execOp
 simp only [ho, resolve, invoke, builtin, Sem.run_bind, Sem.run_pure, Result.andThen_ok, List.map_toArray, List.map_cons, List.map_nil, hs, hy, hr]
 exact hK _ _ (h v' W' h1 h2 h3 h4)
structure InvAH (lo b0 n c at_ : Nat) (A : Option Addr) (S1 S3 : Value) (l1 l3 : List Edh) (x : Edh) (w : World) (d : Array Bool) (us : Nat -> Value) (W : World) : Prop where
 u0 : us 0 = .slice A n c
 u3 : us 3 = .pointer (some ⟨b0, 0, none⟩)
 u6 : us 6 = .int .i64 at_
 bel : Below lo w W
 o1 : d.getD 1 false = true -> us 34 = .slice A n c
 o2 : d.getD 2 false = true -> us 35 = .int .i64 at_
 o3 : d.getD 3 false = true -> us 36 = S1
 o5 : d.getD 5 false = true -> us 38 = .agg #[.int .i64 x.y, .slice x.A x.n x.c]
 o8 : d.getD 8 false = true -> us 41 = .slice A n c
 o9 : d.getD 9 false = true -> us 42 = .int .i64 at_
 o10 : d.getD 10 false = true -> us 43 = S3
 o6 : d.getD 6 false = true -> d.getD 7 false = false -> NewAH lo (us 39) x W
 r0 : d.getD 0 false = true -> d.getD 4 false = false -> RowAH lo (us 33) [] W
 r4 : d.getD 4 false = true -> d.getD 7 false = false -> RowAH lo (us 37) l1 W
 r7 : d.getD 7 false = true -> d.getD 11 false = false -> RowAH lo (us 40) (l1 ++ [x]) W
 r11 : d.getD 11 false = true -> RowAH lo (us 44) (l1 ++ [x] ++ l3) W
 s0 : d.getD 0 false = true -> d.getD 4 false = false -> d.getD 6 false = true -> d.getD 7 false = false -> Sep (us 33) (us 39)
 s4 : d.getD 4 false = true -> d.getD 7 false = false -> d.getD 6 false = true -> Sep (us 37) (us 39)
 o12 : d.getD 12 false = true -> us 7 = us 44 /\ d.getD 11 false = true
 i7 : d.getD 7 false = true -> d.getD 4 false = true
 i11 : d.getD 11 false = true -> d.getD 7 false = true
end Go.Proofs.YtjcklmhgjdmjoaaGreat

namespace Go.Proofs.YtjcklmhgjdmjoaaGreat
open Go.ChangeShapes Go.WideShapes Go.ChangeAt Go.RowKit
set_option linter.unusedVariables false
theorem EdnO.nil (w : World) (lo hi : Nat) : EdnO w lo hi none 0 0 [] :=
 ⟨[], World.ownsRow_nil _ _ _ _, rfl, fun k h e h1 => by simp at h1, fun g hg => by simp [Value.ownBlock] at hg, (fun h hh => by cases hh), List.Pairwise.nil⟩
def Own2 (w : World) (lo hi : Nat) (e : TypeId) (size : Nat) (A : Option Addr) (n c : Nat) (xs : List Value) : Prop :=
 w.ownsRow lo e size (.slice A n c) n xs /\ ∀ g, (Value.slice A n c).ownBlock = some g -> g < hi
section
variable {w w' : World} {lo hi n c size : Nat} {e : TypeId} {A : Option Addr} {xs : List Value}
theorem Own2.below (h : Own2 w lo hi e size A n c xs) (hb : Below w.heap.size w w') : Own2 w' lo hi e size A n c xs := ⟨own_below h.1 hb, h.2⟩
theorem Own2.tou {lo' hi' : Nat} (h : Own2 w lo hi e size A n c xs) (ht : Tou lo' hi' w w') (hd : hi' <= lo ∨ hi <= lo') : Own2 w' lo hi e size A n c xs :=
 ⟨own_tou h.1 ht fun g hg => by have a := (h.1.lt g hg).1; have b := h.2 g hg; omega, h.2⟩
end
theorem Own2.ir {w : World} {lo hi n c : Nat} {A : Option Addr} {xs : List Int} (h : Own2 w lo hi 2 1 A n c (xs.map (Value.int .i64))) : Ir w A xs := Rw.ownS h.1
theorem Own2.sr {w : World} {lo hi n c : Nat} {A : Option Addr} {ws : List (List UInt8)} (h : Own2 w lo hi 9 1 A n c (ws.map encStr)) : Sr w A ws := Rw.ownS h.1
end Go.Proofs.YtjcklmhgjdmjoaaGreat

