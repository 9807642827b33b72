import Derived.Test.YtjcklmhgjdmjoaaGreatMEdn
import Derived.Test.YtjcklmhgjdmjoaaGreatMHeld
import Derived.Test.YtjcklmhgjdmjoaaGreatMDif
import Derived.Test.YtjcklmhgjdmjoaaGreatMRate
import Derived.Maps.AppendAt
import Derived.Deep.RegionLaw
namespace Go.Proofs.YtjcklmhgjdmjoaaGreat
open Go.ChangeShapes Go.WideShapes Go.ChangeAt Go.RowKit
set_option linter.unusedVariables false
structure Dcn where
 y : Int
 cs : List (List UInt8)
 deriving DecidableEq
structure Dch where
 y : Int
 A : Option Addr
 n : Nat
 c : Nat
def Dch.cells (h : Dch) : List Value := [.int .i64 h.y, .slice h.A h.n h.c]
def Dch.ob (h : Dch) : Option Nat := (Value.slice h.A h.n h.c).ownBlock
def DcOne (w : World) (h : Dch) (e : Dcn) : Prop := h.y = e.y /\ h.n = e.cs.length /\ Sr w h.A e.cs
def DcnR (w : World) (A : Option Addr) (es : List Dcn) : Prop :=
 ∃ hs : List Dch, hs.length = es.length /\ Rw w A (hs.flatMap Dch.cells) /\ ∀ (k : Nat) h e, hs[k]? = some h -> es[k]? = some e -> DcOne w h e
theorem DcnR.at {w : World} {A : Option Addr} {es : List Dcn} (h : DcnR w A es) {k : Nat} (hk : k < es.length) :
  ∃ b off e a c, A = some ⟨b, off, none⟩ /\ b < w.heap.size /\ Hid (es[k]? = some e) /\ w.cell? ⟨b, off + k * 2, none⟩ = some (.int .i64 e.y) /\
   w.cell? ⟨b, off + k * 2 + 1, none⟩ = some (.slice a e.cs.length c) /\ Sr w a e.cs := by
 obtain ⟨hs, hl, hr, ho⟩ := h
 have hf := flat_len Dch.cells 2 (fun _ => rfl) hs
 obtain ⟨b, off, e0, hb, hc⟩ := hr (by rw [hf]; omega)
 have h1 : hs[k]? = some (hs[k]'(by omega)) := List.getElem?_eq_getElem (by omega)
 have h2 : es[k]? = some es[k] := List.getElem?_eq_getElem hk
 obtain ⟨q1, q2, q3⟩ := ho k _ _ h1 h2
 have g := fun j hj => hc (k * 2 + j) _ ((flat_at Dch.cells 2 (fun _ => rfl) hs k j _ h1 hj).trans (List.getElem?_eq_getElem (by exact hj)))
 refine ⟨b, off, es[k], (hs[k]'(by omega)).A, (hs[k]'(by omega)).c, e0, hb, Lib.hid h2, ?_, ?_, q3⟩
 ·
  have := g 0 (by omega); rw [<- q1]; simpa [Dch.cells] using this
 ·
  have := g 1 (by omega); rw [<- q2]; simpa [Dch.cells, Nat.add_assoc] using this
theorem DcnR.below {w w' : World} {A : Option Addr} {es : List Dcn} (h : DcnR w A es) (hb : Below w.heap.size w w') : DcnR w' A es := by
 obtain ⟨hs, hl, hr, ho⟩ := h
 exact ⟨hs, hl, Rw.below hr hb, fun k h e h1 h2 => ⟨(ho k h e h1 h2).1, (ho k h e h1 h2).2.1, (ho k h e h1 h2).2.2.below hb⟩⟩
theorem Ost.tou {w w' : World} {base lo hi : Nat} {A : Option Addr} {n c : Nat} {rs : List (List UInt8)} (h : Ost w base A n c rs) (ht : Tou lo hi w w') (hd : ∀ g, (Value.slice A n c).ownBlock = some g -> ¬ (lo <= g /\ g < hi)) : Ost w' base A n c rs := own_tou h ht hd
theorem Ost.row {w : World} {base : Nat} {A : Option Addr} {n c : Nat} {ws : List (List UInt8)} (h : Ost w base A n c ws) : Sr w A ws := h.sr
theorem Ost.mono {w : World} {base base' : Nat} {A : Option Addr} {n c : Nat} {ws : List (List UInt8)} (h : Ost w base A n c ws) (hb : base' <= base) : Ost w base' A n c ws := by
 refine ⟨h.1, h.2.imp id ?_⟩
 rintro ⟨g, cap, cur, h1, h2, h3⟩
 exact ⟨g, cap, cur, h1, by omega, h3⟩
def Dch.sep (a b : Dch) : Prop := ∀ g, a.ob = some g -> b.ob ≠ some g
structure DcnOw (w : World) (lo hi : Nat) (A : Option Addr) (n c : Nat) (hs : List Dch) (es : List Dcn) : Prop where
 row : w.ownsRow lo 67 2 (.slice A n c) n (hs.flatMap Dch.cells)
 len : hs.length = es.length
 one : ∀ (k : Nat) h e, hs[k]? = some h -> es[k]? = some e -> h.y = e.y /\ Ost w lo h.A h.n h.c e.cs
 hiA : ∀ g, (Value.slice A n c).ownBlock = some g -> g < hi
 his : ∀ h ∈ hs, ∀ g, h.ob = some g -> g < hi /\ (Value.slice A n c).ownBlock ≠ some g
 sep : hs.Pairwise Dch.sep
def DcnO (w : World) (lo hi : Nat) (A : Option Addr) (n c : Nat) (es : List Dcn) : Prop := ∃ hs, DcnOw w lo hi A n c hs es
section
variable {w w' : World} {lo hi : Nat} {A : Option Addr} {n c : Nat} {hs : List Dch} {es : List Dcn}
theorem DcnOw.lenN (h : DcnOw w lo hi A n c hs es) : hs.length = n := by
 have := h.row.1; rw [flat_len Dch.cells 2 (fun _ => rfl)] at this; omega
theorem DcnO.len (h : DcnO w lo hi A n c es) : es.length = n := by obtain ⟨hs, h⟩ := h; rw [<- h.len]; exact h.lenN
theorem DcnOw.lo_mem (h : DcnOw w lo hi A n c hs es) {x : Dch} (hx : x ∈ hs) {g : Nat} (hg : x.ob = some g) : lo <= g /\ g < hi /\ g < w.heap.size := by
 obtain ⟨i, hi'⟩ := List.getElem?_of_mem hx
 have hl : i < es.length := by rw [<- h.len]; exact (List.getElem?_eq_some_iff.1 hi').1
 have := (h.one i x _ hi' (List.getElem?_eq_getElem hl)).2.lt g hg
 exact ⟨this.1, (h.his x hx g hg).1, this.2⟩
theorem DcnO.reads (h : DcnO w lo hi A n c es) : DcnR w A es := by
 obtain ⟨hs, h⟩ := h
 exact ⟨hs, h.len, Rw.ownS h.row, fun k x e h1 h2 => ⟨(h.one k x e h1 h2).1, (h.one k x e h1 h2).2.len.symm, (h.one k x e h1 h2).2.row⟩⟩
theorem DcnO.below (h : DcnO w lo hi A n c es) (hb : Below w.heap.size w w') : DcnO w' lo hi A n c es := by
 obtain ⟨hs, h⟩ := h
 exact ⟨hs, own_below h.row hb, h.len, fun k x e h1 h2 => ⟨(h.one k x e h1 h2).1, (h.one k x e h1 h2).2.below hb⟩, h.hiA, h.his, h.sep⟩
theorem DcnO.tou {lo' hi' : Nat} (h : DcnO w lo hi A n c es) (ht : Tou lo' hi' w w') (hd : hi' <= lo ∨ hi <= lo') : DcnO w' lo hi A n c es := by
 obtain ⟨hs, h⟩ := h
 refine ⟨hs, own_tou h.row ht (fun g hg => ?_), h.len, fun k x e h1 h2 => ⟨(h.one k x e h1 h2).1, (h.one k x e h1 h2).2.tou ht (fun g hg => ?_)⟩, h.hiA, h.his, h.sep⟩
 ·
  have a := (h.row.lt g hg).1
  have b := h.hiA g hg
  omega
 ·
  have a := h.lo_mem (List.mem_of_getElem? h1) hg
  omega
theorem DcnO.mono {lo' hi' : Nat} (h : DcnO w lo hi A n c es) (h1 : lo' <= lo) (h2 : hi <= hi') : DcnO w lo' hi' A n c es := by
 obtain ⟨hs, h⟩ := h
 refine ⟨hs, ?_, h.len, fun k x e e1 e2 => ⟨(h.one k x e e1 e2).1, (h.one k x e e1 e2).2.mono h1⟩, fun g hg => Nat.lt_of_lt_of_le (h.hiA g hg) h2, fun x hx g hg => ⟨Nat.lt_of_lt_of_le (h.his x hx g hg).1 h2, (h.his x hx g hg).2⟩, h.sep⟩
 refine ⟨h.row.1, h.row.2.imp id ?_⟩
 rintro ⟨g, cap, cur, q1, q2, q3⟩
 exact ⟨g, cap, cur, q1, by omega, q3⟩
theorem DcnO.bdA (h : DcnO w lo hi A n c es) : Bd A hi := by
 obtain ⟨hs, h⟩ := h
 exact fun a e => h.hiA a.block (by rw [e]; rfl)
end
end Go.Proofs.YtjcklmhgjdmjoaaGreat

namespace Go.Proofs.YtjcklmhgjdmjoaaGreat
open Go.ChangeShapes Go.WideShapes Go.ChangeAt Go.RowKit
set_option linter.unusedVariables false
def cdOf (ps : List Cls) (x : Int) : List UInt8 := match ps[x.toNat]? with | some p => p.c | none => []
theorem cdOf_at {ps : List Cls} {j : Nat} {p : Cls} (h : ps[j]? = some p) : cdOf ps (j : Int) = p.c := by unfold cdOf; simp [h]
def decL (ps : List Cls) (q : Evt) : List (List UInt8) := (chainL ps q).map (cdOf ps)
def decE (ps : List Cls) (q : Evt) : Dcn := ⟨resC ps q, decL ps q⟩
theorem decL_len (ps : List Cls) (q : Evt) : (decL ps q).length = (chainL ps q).length := by simp [decL]
end Go.Proofs.YtjcklmhgjdmjoaaGreat

namespace Go.Proofs.YtjcklmhgjdmjoaaGreat
open Go.ChangeShapes Go.WideShapes Go.ChangeAt Go.RowKit
set_option linter.unusedVariables false
theorem step_push_str {ops : Array Oper} {o : Oper} {a : Act} {W : World} {K : Act -> World -> Prop} {Q : Exit -> Act -> World -> Prop} {E : Prop} (hgd : o.guard = none) (s y : Operand)
  (ho : o.op = .call { callee := .builtin .append, args := #[s, y], argTypes := #[33, 33] }) (lo : Nat) (O : Option Addr) (n q : Nat) (L : List (List UInt8)) (hs : a.eval s = .slice O n q) (hown : Ost W lo O n q L)
  (x : List UInt8) (B : Nat) (hy : a.eval y = .slice (some ⟨B, 0, none⟩) 1 1) (hB : W.heap[B]? = some (.cells #[.string ⟨x.toArray⟩] 9 (0, 0))) (h63 : n <= 1000) (hbase : lo <= W.heap.size)
  (h : ∀ O' q' W', Ost W' lo O' (n + 1) q' (L ++ [x]) -> W.grownBy W' (Value.slice O n q).ownBlock -> K (a.put o.dst (.slice O' (n + 1) q')) W') :
  if Region.wanted o (yielded ops a.tmps) = true then Oper.wp Tryz.prog o a W K Q else E := by
 obtain ⟨i0, hi, hz0, hz1, hz2⟩ := info_parts strInfo
 rw [if_pos (by simp [Region.wanted, hgd])]
 obtain ⟨v', W', hr, h2, h3, h4, h5⟩ := run_append_own_at (P := Tryz.prog) W lo 33 o.type 9 i0 _ 1 16 Tryz.underlying33 hi hz0 hz1 hz2 rfl (by decide) _ n _ hown ⟨B, 0, none⟩ 1 1 [.string ⟨x.toArray⟩] rfl
  (fun j u hu => by
   rw [show ((⟨B, 0, none⟩ : Addr).add j) = ⟨B, j, none⟩ from by unfold Addr.add; split <;> simp_all, cell_of_row _ _ _ _ _ _ hB, <- hu]; simp)
  (fun u hu => by simp only [List.mem_singleton] at hu; subst hu; simp [Value.oneCell']) (by unfold maxLen; omega) (by omega) hbase
 obtain ⟨O', q', rfl⟩ := own_form h2
 unfold Oper.wp execOp
 simp only [ho, resolve, invoke, builtin, Sem.run_bind, Sem.run_pure, Result.andThen_ok, List.map_toArray, List.map_cons, List.map_nil, hs, hy, hr]
 exact h O' q' W' (by unfold Ost; rw [List.map_append]; simpa [encStr] using h2) h3
structure Took (g lo : Nat) (p : Cls) (B : Option Addr) (n d : Nat) (ws : List (List UInt8)) (w W : World) : Prop where
 new : ∃ B' d', W.heap[g]? = some (.cells #[.int .i64 p.e, .slice B' (n + 1) d'] 67 (0, 0)) /\ Ost W lo B' (n + 1) d' (ws ++ [p.c])
 os : W.os = w.os
 tape : W.tape = w.tape
 output : W.output = w.output
 size : w.heap.size <= W.heap.size
 block : ∀ k, k < w.heap.size -> k ≠ g -> (Value.slice B n d).ownBlock ≠ some k -> W.heap[k]? = w.heap[k]?
theorem put_two' {W : World} {g : Nat} {a b v : Value} {t : TypeId} (h : W.heap[g]? = some (.cells #[a, b] t (0, 0))) : (W.setCell ⟨g, 1, none⟩ v).heap[g]? = some (.cells #[a, v] t (0, 0)) := by
 simp [World.setCell, Array.getElem?_modify, h]
theorem put_two {W : World} {g : Nat} {a b v : Value} {t : TypeId} (h : W.heap[g]? = some (.cells #[a, b] t (0, 0))) : (W.setCell ⟨g, 0, none⟩ v).heap[g]? = some (.cells #[v, b] t (0, 0)) := by
 simp [World.setCell, Array.getElem?_modify, h]
theorem took_cells {g lo : Nat} {p : Cls} {r : Int} {B : Option Addr} {n d : Nat} {w w1 W1 : World} (hbox : w.heap[g]? = some (.cells #[.int .i64 r, .slice B n d] 67 (0, 0)))
  (k : KeepC w p w1) (hg : w1.grownBy W1 (Value.slice B n d).ownBlock) (hgl : g < lo) (hB : ∀ k, (Value.slice B n d).ownBlock = some k -> lo <= k /\ k < w.heap.size) (v : Value) :
  W1.cell? ⟨g, 1, none⟩ = some (.slice B n d) /\ W1.frozen? ⟨g, 1, none⟩ = false /\ (W1.setCell ⟨g, 1, none⟩ v).cell? ⟨w.heap.size, 5, none⟩ = some (.int .i64 p.e) /\ (W1.setCell ⟨g, 1, none⟩ v).cell? ⟨g, 0, none⟩ = some (.int .i64 r) /\ (W1.setCell ⟨g, 1, none⟩ v).frozen? ⟨g, 0, none⟩ = false := by
 have hl := lt_some hbox
 have e1 : W1.heap[g]? = some (.cells #[.int .i64 r, .slice B n d] 67 (0, 0)) := by
  rw [hg.block g (Nat.lt_of_lt_of_le hl k.bel.size) (fun e => by have := hB g e.symm; omega), k.bel.block g hl]; exact hbox
 have e2 : W1.heap[w.heap.size]? = _ := (hg.block w.heap.size (lt_some k.a) (fun e => by have := hB _ e.symm; omega)).trans k.a
 have e3 := put_two' (v := v) e1
 refine ⟨by rw [cell_of_row _ _ _ _ _ _ e1]; rfl, frozen_of_row _ _ 1 _ _ e1, ?_, by rw [cell_of_row _ _ _ _ _ _ e3]; rfl, frozen_of_row _ _ 0 _ _ e3⟩
 rw [World.cell?_setCell_other _ _ _ _ (fun e => by injection e with e _; omega), cell_of_row _ _ _ _ _ _ e2]; rfl
theorem took_of {g lo : Nat} {p : Cls} {r : Int} {B : Option Addr} {n d : Nat} {ws : List (List UInt8)} {w w1 W1 : World} {B' : Option Addr} {d' : Nat} (hbox : w.heap[g]? = some (.cells #[.int .i64 r, .slice B n d] 67 (0, 0)))
  (b1 : Below w.heap.size w w1) (hg : w1.grownBy W1 (Value.slice B n d).ownBlock) (ho : Ost W1 lo B' (n + 1) d' (ws ++ [p.c])) (hgl : g < lo) (hB : ∀ k, (Value.slice B n d).ownBlock = some k -> lo <= k) :
  ∃ W', ((W1.setCell ⟨g, 1, none⟩ (.slice B' (n + 1) d')).setCell ⟨g, 0, none⟩ (.int .i64 p.e)) = W' /\ Took g lo p B n d ws w W' := by
 have hl := lt_some hbox
 have e1 : W1.heap[g]? = some (.cells #[.int .i64 r, .slice B n d] 67 (0, 0)) := by
  rw [hg.block g (Nat.lt_of_lt_of_le hl b1.size) (fun e => by have := hB g e.symm; omega), b1.block g hl]; exact hbox
 have hw : W1.heap.size = ((W1.setCell ⟨g, 1, none⟩ (.slice B' (n + 1) d')).setCell ⟨g, 0, none⟩ (.int .i64 p.e)).heap.size := by simp
 refine ⟨_, rfl, ⟨B', d', ?_, ?_⟩, hg.os.trans b1.os, hg.tape.trans b1.tape, hg.output.trans b1.output, ?_, fun k hk hne hB2 => ?_⟩
 ·
  exact put_two (put_two' e1)
 ·
  exact ownsRow_setCell_below (ownsRow_setCell_below ho (a := ⟨g, 1, none⟩) hgl _) (a := ⟨g, 0, none⟩) hgl _
 ·
  rw [<- hw]; exact Nat.le_trans b1.size hg.size
 ·
  rw [Below.heap_setCell _ _ _ _ (by simpa using hne), Below.heap_setCell _ _ _ _ (by simpa using hne), hg.block k (Nat.lt_of_lt_of_le hk b1.size) (fun e => hB2 e.symm), b1.block k hk]
set_option maxRecDepth 100000 in
set_option maxHeartbeats 4000000 in
theorem take_i (g lo : Nat) (p : Cls) (r : Int) (B : Option Addr) (n d : Nat) (ws : List (List UInt8)) (w : World) (hbox : w.heap[g]? = some (.cells #[.int .i64 r, .slice B n d] 67 (0, 0))) (ho : Ost w lo B n d ws) (hg : g < lo) (hlo : lo <= w.heap.size) (hn : n <= 100) :
  Calls Tryz.prog 61 #[.pointer (some ⟨g, 0, none⟩), .agg #[.string ⟨p.c.toArray⟩, .int .i64 p.k, .int .i64 p.p, .int .i64 p.v, .int .i64 p.r, .int .i64 p.e, .string ⟨p.t.toArray⟩]] w (fun e W => e = .returned (.tuple #[]) /\ Took g lo p B n d ws w W) := by
 have kb := KeepC.new w p
 have HOB := Lib.hid ho.lo
 have HBX := Lib.hid hbox
 have c0 := kb.cells.c0; have c5 := kb.cells.c5
 have O1 := Lib.hid (fun W (b : Below w.heap.size w W) => ho.below b)
 have C1 := Lib.hid (fun W (b : Below w.heap.size w W) => show W.heap[g]? = _ from (b.block g (lt_some hbox)).trans hbox)
 obtain ⟨w1, hw1⟩ : ∃ x, x = w.alloc (.cells #[.string ⟨p.c.toArray⟩, .int .i64 p.k, .int .i64 p.p, .int .i64 p.v, .int .i64 p.r, .int .i64 p.e, .string ⟨p.t.toArray⟩] 47) := ⟨_, rfl⟩
 rw [<- hw1] at kb c0 c5
 have hs1 : Hid (w1.heap.size = w.heap.size + 1) := Lib.hid (by rw [hw1]; simp)
 have g1 : w1.cell? ⟨g, 1, none⟩ = some (.slice B n d) := by rw [cell_of_row _ _ _ _ _ _ (C1.out _ kb.bel)]; rfl
 have g1a : ∀ o, (w1.drew.alloc o).cell? ⟨g, 1, none⟩ = some (.slice B n d) := fun o => by rw [cell_of_row _ _ _ _ _ _ (C1.out _ (belowGo kb.bel.drew (below_alloc _ _)))]; rfl
 have g1b : ∀ o, (w1.alloc o).cell? ⟨g, 1, none⟩ = some (.slice B n d) := fun o => by rw [cell_of_row _ _ _ _ _ _ (C1.out _ (belowGo kb.bel (below_alloc _ _)))]; rfl
 have HK := Lib.hid kb
 have hw0 := hw1.symm
 have HC := Lib.hid (fun (O' : Option Addr) (q' : Nat) (W1 : World) (hgr : (w1.drew.alloc (.cells #[.string ⟨p.c.toArray⟩] 9)).grownBy W1 (Value.slice B n d).ownBlock) => took_cells hbox ((kb.drew).step (below_alloc _ _)) hgr hg (fun k e => ho.lt k e) (.slice O' (n + 1) q'))
 have HTO := Lib.hid (fun (O' : Option Addr) (q' : Nat) (W1 : World) (ho1 : Ost W1 lo O' (n + 1) q' (ws ++ [p.c])) (hgr : (w1.drew.alloc (.cells #[.string ⟨p.c.toArray⟩] 9)).grownBy W1 (Value.slice B n d).ownBlock) => took_of hbox (belowGo kb.bel.drew (below_alloc _ _)) hgr ho1 hg (fun k e => (ho.lt k e).1))
 clear hbox ho hw1 kb
 go_enter Tryz.func61, Tryz.ntmps61
 go_wp2_with fail
 try rw [hw0]
 go_region_law (refine step_push_str rfl (.tmp 8) (.tmp 11) rfl lo B n d ws (by simp [Act.eval, Act.put]) (O1.out _ (belowGo HK.out.bel.drew (below_alloc _ _))) p.c w1.drew.heap.size (by simp [Act.eval, Act.put]) (heap_alloc_new _ _) (by omega) (by simp [hs1.out]; omega) ?_; intro O' q' W1 ho1 hg1; obtain ⟨x1, f1, y5, x0, f0⟩ := HC.out O' q' W1 hg1; have HW := Lib.hid (HTO.out O' q' W1 ho1 hg1); clear ho1 hg1)
 all_goals
  go_wp2_with fail
  obtain ⟨W', hW, T⟩ := HW.out
  rw [hW]
  exact bodyPost_end (v := .tuple #[]) (by simp [results, Tryz.results61]) rfl ⟨rfl, T⟩
end Go.Proofs.YtjcklmhgjdmjoaaGreat

