import Derived.Test.YtjcklmhgjdmjoaaGreatMEdi
import Derived.Test.YtjcklmhgjdmjoaaGreatRin
import Derived.Test.YtjcklmhgjdmjoaaGreatRgk
import Derived.Maps.AppendAt
namespace Go.Proofs.YtjcklmhgjdmjoaaGreat
open Go.ChangeShapes Go.WideShapes Go.ChangeAt Go.RowKit
set_option linter.unusedVariables false
theorem wpOp_append_gen {ops : Array Oper} {Q : Exit -> Act -> World -> Prop} {i : Nat} {o : Oper} {K : Act -> World -> Prop} {a : Act} {W : World} (hoi : ops[i]? = some o) (hgd : o.guard = none) (s y : Operand) (t : TypeId)
  (ho : o.op = .call { callee := .builtin .append, args := #[s, y], argTypes := #[t, t] }) (x z : Value) (hs : a.eval s = x) (hy : a.eval y = z) (v' : Value) (W' : World)
  (hr : (Builtin.append_ #[t, t] o.type #[x, z]).run Tryz.prog W = .ok v' W') (h : K (a.put o.dst v') W') : wpOp Tryz.prog ops Q i K a W := by
 refine wpOp_step hoi fun K' hK => ?_
 rw [if_pos (by simp only [Region.wanted, hgd])]
 unfold Oper.wp execOp
 simp only [ho, resolve, invoke, builtin, Sem.run_bind, Sem.run_pure, Result.andThen_ok, List.map_toArray, List.map_cons, List.map_nil, hs, hy, hr]
 exact hK _ _ h
def OwnCls (w : World) (lo : Nat) (v : Value) (cs : List Cls) : Prop := ∃ A1 c1, v = .slice A1 cs.length c1 /\ ClsO w lo A1 cs.length c1 cs
theorem OwnCls.below {w w' : World} {lo : Nat} {v : Value} {cs : List Cls} (h : OwnCls w lo v cs) (b : Below w.heap.size w w') : OwnCls w' lo v cs := by
 obtain ⟨A1, c1, e, o⟩ := h; exact ⟨A1, c1, e, o.below b⟩
set_option maxRecDepth 100000 in
theorem wpOp_append_cls {ops : Array Oper} {Q : Exit -> Act -> World -> Prop} {i : Nat} {o : Oper} {K : Act -> World -> Prop} {a : Act} {W : World} (hoi : ops[i]? = some o) (hgd : o.guard = none) (s y : Operand)
  (ho : o.op = .call { callee := .builtin .append, args := #[s, y], argTypes := #[24, 24] }) (base : Nat) (v : Value) (hs : a.eval s = v) (hown : W.ownsRow base 47 7 v 0 [])
  (A : Option Addr) (c : Nat) (cs : List Cls) (hy : a.eval y = .slice A cs.length c) (hR : ClsR W A cs) (h0 : 0 < cs.length) (hn : cs.length <= 1000) (hb : base <= W.heap.size)
  (h : ∀ v' W', OwnCls W' base v' cs -> Below base W W' -> K (a.put o.dst v') W') : wpOp Tryz.prog ops Q i K a W := by
 obtain ⟨i0, hi, hz0, hz1, hz2⟩ := info_parts clsInfo
 obtain ⟨b, off, rfl⟩ := clsR_some hR h0
 obtain ⟨v', w', hr, h2, h3, h4, h5⟩ := run_append_own_at (P := Tryz.prog) W base 24 o.type 47 i0 _ 7 72 Tryz.underlying24 hi hz0 hz1 hz2 rfl (by decide) v 0 [] hown ⟨b, off, none⟩ cs.length c (cs.flatMap Cls.cells) (flat_len Cls.cells 7 (fun _ => rfl) cs)
  (clsrR_cells hR) (cells_oneCl cs) (by unfold maxLen; omega) (by omega) hb
 rw [Nat.zero_add] at h2
 obtain ⟨O', q', rfl⟩ := own_form h2
 exact wpOp_append_gen hoi hgd s y _ ho _ _ hs hy _ _ hr (h _ _ ⟨O', q', rfl, by simpa [ClsO] using h2⟩ ((Below.refl base W).grown h3 hb (fun k hk => (hown.lt k hk).1)))
set_option maxRecDepth 100000 in
theorem run_append_edh (W : World) (ty : TypeId) (lo : Nat) (O : Option Addr) (n q : Nat) (gs : List Edh) (hrow : EdhO W lo O n q gs) (A : Option Addr) (c : Nat) (l : List Edh) (hR : EdhR W A l) (hA : A = none ∨ ∃ b off, A = some ⟨b, off, none⟩) (h63 : n + l.length <= 1000) (hbase : lo <= W.heap.size) :
  ∃ O' q' W', (Builtin.append_ #[36, 36] ty #[.slice O n q, .slice A l.length c]).run Tryz.prog W = .ok (.slice O' (n + l.length) q') W' /\ EdhO W' lo O' (n + l.length) q' (gs ++ l) /\ W.grownBy W' (Value.slice O n q).ownBlock /\ ((Value.slice O' (n + l.length) q').ownBlock = (Value.slice O n q).ownBlock ∨ (Value.slice O' (n + l.length) q').ownBlock = some W.heap.size) := by
 obtain ⟨i0, hi, hz0, hz1, hz2⟩ := info_parts ednInfo
 rcases hA with rfl | ⟨b, off, rfl⟩
 ·
  have hl : l = [] := by
   cases l with
   | nil => rfl
   | cons y l => obtain ⟨_, _, _, e, _⟩ := hR.at (k := 0) (by simp); cases e
  subst hl
  have hr := run_append_nilH (P := Tryz.prog) W 36 ty 42 i0 Tryz.underlying36 hi O n q c (own_roomH hrow)
  exact ⟨O, q, W, hr, by simpa using hrow, World.grownBy.refl _ _, .inl rfl⟩
 ·
  obtain ⟨v', w', hr, h2, h3, h4, h5⟩ := run_append_own_at (P := Tryz.prog) W lo 36 ty 42 i0 _ 2 32 Tryz.underlying36 hi hz0 hz1 hz2 rfl (by decide) _ n _ hrow ⟨b, off, none⟩ l.length c (l.flatMap Edh.cells) (flat_len Edh.cells 2 (fun _ => rfl) l)
   (edhR_cells hR) (cells_oneH l) (by unfold maxLen; omega) (by omega) hbase
  obtain ⟨O', q', rfl⟩ := own_form h2
  exact ⟨O', q', w', hr, by unfold EdhO; rw [List.flatMap_append]; exact h2, h3, h5⟩
theorem wpOp_append_edh {ops : Array Oper} {Q : Exit -> Act -> World -> Prop} {i : Nat} {o : Oper} {K : Act -> World -> Prop} {a : Act} {W : World} (hoi : ops[i]? = some o) (hgd : o.guard = none) (s y : Operand)
  (ho : o.op = .call { callee := .builtin .append, args := #[s, y], argTypes := #[36, 36] }) (lo : Nat) (O : Option Addr) (n q : Nat) (gs : List Edh) (hs : a.eval s = .slice O n q) (hrow : EdhO W lo O n q gs)
  (A : Option Addr) (c : Nat) (l : List Edh) (hy : a.eval y = .slice A l.length c) (hR : EdhR W A l) (hA : A = none ∨ ∃ b off, A = some ⟨b, off, none⟩) (h63 : n + l.length <= 1000) (hbase : lo <= W.heap.size)
  (h : ∀ O' q' W', EdhO W' lo O' (n + l.length) q' (gs ++ l) -> W.grownBy W' (Value.slice O n q).ownBlock -> ((Value.slice O' (n + l.length) q').ownBlock = (Value.slice O n q).ownBlock ∨ (Value.slice O' (n + l.length) q').ownBlock = some W.heap.size) -> K (a.put o.dst (.slice O' (n + l.length) q')) W') : wpOp Tryz.prog ops Q i K a W := by
 obtain ⟨O', q', W', hr, h1, h2, h3⟩ := run_append_edh W o.type lo O n q gs hrow A c l hR hA h63 hbase
 exact wpOp_append_gen hoi hgd s y _ ho _ _ hs hy _ _ hr (h O' q' W' h1 h2 h3)
theorem all_setO {d : Array Bool} {i n : Nat} (h : ∀ j, j < n -> d.getD j false = true) (hi : (d.setIfInBounds i true).getD i false = true) : ∀ j, j < n -> (d.setIfInBounds i true).getD j false = true := fun j hj => by
 by_cases e : i = j
 ·
  subst e; exact hi
 ·
  exact (getD_set_ne false e).trans (h j hj)
def frOd (us : Nat -> Value) : Act := { tmps := #[us 0, us 1, us 2, us 3, us 4, us 5, us 6, us 7, us 8, us 9, us 10, us 11, us 12, us 13, us 14, us 15, us 16, us 17, us 18, us 19, us 20, us 21, us 22, us 23, us 24, us 25, us 26, us 27, us 28], defers := [] }
theorem frOd_of {x0 x1 x2 x3 x4 x5 x6 x7 x8 x9 x10 x11 x12 x13 x14 x15 x16 x17 x18 x19 x20 x21 x22 x23 x24 x25 x26 x27 x28 : Value} : ({ tmps := #[x0, x1, x2, x3, x4, x5, x6, x7, x8, x9, x10, x11, x12, x13, x14, x15, x16, x17, x18, x19, x20, x21, x22, x23, x24, x25, x26, x27, x28], defers := [] } : Act) = frOd (fun k => #[x0, x1, x2, x3, x4, x5, x6, x7, x8, x9, x10, x11, x12, x13, x14, x15, x16, x17, x18, x19, x20, x21, x22, x23, x24, x25, x26, x27, x28].getD k undef) := rfl
structure InvOd (b off k c cp q m : Nat) (O a : Option Addr) (es : List Edn) (gs : List Edh) (e : Edn) (f1 f2 f5 f28 : Value) (lo : Nat) (w : World) (d : Array Bool) (us : Nat -> Value) (W : World) : Prop where
 u0 : us 0 = .slice (some ⟨b, off, none⟩) es.length c
 u4 : us 4 = .int .i64 (k : Int)
 u1 : us 1 = f1
 u2 : us 2 = f2
 u5 : us 5 = f5
 u28 : us 28 = f28
 u3 : d.getD 16 false = false -> us 3 = .slice O gs.length q
 o0 : d.getD 0 false = true -> us 12 = .slice O gs.length q
 o1 : d.getD 1 false = true -> us 13 = .slice (some ⟨b, off, none⟩) es.length c
 o2 : d.getD 2 false = true -> us 14 = .int .i64 (k : Int)
 o3 : d.getD 3 false = true -> us 15 = .pointer (some ⟨b, off + k * 2, none⟩)
 o4 : d.getD 4 false = true -> us 16 = .pointer (some ⟨b, off + k * 2, none⟩)
 o5 : d.getD 5 false = true -> us 17 = .int .i64 e.y
 o7 : d.getD 7 false = true -> us 19 = .slice (some ⟨b, off, none⟩) es.length c
 o8 : d.getD 8 false = true -> us 20 = .int .i64 (k : Int)
 o9 : d.getD 9 false = true -> us 21 = .pointer (some ⟨b, off + k * 2, none⟩)
 o10 : d.getD 10 false = true -> us 22 = .pointer (some ⟨b, off + k * 2 + 1, none⟩)
 o11 : d.getD 11 false = true -> us 23 = .slice a e.cs.length cp
 bel : d.getD 15 false = false -> Below w.heap.size w W
 s6 : d.getD 6 false = true -> d.getD 12 false = false -> ∃ B, us 18 = .slice (some ⟨B, 0, none⟩) 0 0 /\ W.ownsRow w.heap.size 47 7 (us 18) 0 []
 s12 : d.getD 12 false = true -> d.getD 15 false = false -> OwnCls W w.heap.size (us 24) e.cs
 o13 : d.getD 13 false = true -> us 25 = .agg #[.int .i64 e.y, us 24] /\ d.getD 12 false = true
 s14 : d.getD 14 false = true -> d.getD 15 false = false -> ∃ B, us 26 = .slice (some ⟨B, 0, none⟩) 1 1 /\ W.heap[B]? = some (.cells #[.int .i64 e.y, us 24] 42 (0, 0)) /\ w.heap.size <= B
 s15 : d.getD 15 false = true -> ∃ Wp A1 c1 O' q', Below w.heap.size w Wp /\ ClsO Wp w.heap.size A1 e.cs.length c1 e.cs /\ Wp.grownBy W (Value.slice O gs.length q).ownBlock /\ us 27 = .slice O' (gs.length + 1) q' /\ EdhO W lo O' (gs.length + 1) q' (gs ++ [⟨e.y, A1, e.cs.length, c1⟩]) /\ ((Value.slice O' (gs.length + 1) q').ownBlock = (Value.slice O gs.length q).ownBlock ∨ (Value.slice O' (gs.length + 1) q').ownBlock = some Wp.heap.size)
 o16 : d.getD 16 false = true -> us 3 = us 27 /\ d.getD 15 false = true
 i12 : d.getD 12 false = true -> d.getD 6 false = true
 i14 : d.getD 14 false = true -> d.getD 12 false = true
 i15 : d.getD 15 false = true -> d.getD 14 false = true
 all15 : d.getD 15 false = true -> ∀ j, j < 15 -> d.getD j false = true
 p3 : d.getD 3 false = true -> d.getD 1 false = true /\ d.getD 2 false = true
 p4 : d.getD 4 false = true -> d.getD 1 false = true /\ d.getD 2 false = true /\ d.getD 3 false = true
 p5 : d.getD 5 false = true -> d.getD 1 false = true /\ d.getD 2 false = true /\ d.getD 3 false = true /\ d.getD 4 false = true
 p9 : d.getD 9 false = true -> d.getD 7 false = true /\ d.getD 8 false = true
 p10 : d.getD 10 false = true -> d.getD 7 false = true /\ d.getD 8 false = true /\ d.getD 9 false = true
 p11 : d.getD 11 false = true -> d.getD 7 false = true /\ d.getD 8 false = true /\ d.getD 9 false = true /\ d.getD 10 false = true
 p12 : d.getD 12 false = true -> d.getD 11 false = true
 p13 : d.getD 13 false = true -> d.getD 5 false = true
 p14 : d.getD 14 false = true -> d.getD 13 false = true
set_option maxRecDepth 100000 in
set_option maxHeartbeats 16000000 in
theorem own_s (b off c : Nat) (es : List Edn) (w0 : World) (h : EdnR w0 (some ⟨b, off, none⟩) es) (hn : es.length <= 900) (hcs : ∀ e ∈ es, 0 < e.cs.length /\ e.cs.length <= 900) :
  Calls Tryz.prog 50 #[.slice (some ⟨b, off, none⟩) es.length c] w0 (NewEdns w0 es) := by
 have HR := Lib.hid (fun W (b : Below w0.heap.size w0 W) => h.below b)
 have HCS := Lib.hid hcs
 have B0 := below_alloc w0 (.cells #[] 42)
 have O0 : EdhO (w0.alloc (.cells #[] 42)) w0.heap.size (some ⟨w0.heap.size, 0, none⟩) ([] : List Edh).length 0 [] := made0H _ _ _ _ (Nat.le_refl _)
 have hsz0 : w0.heap.size + 1 <= (w0.alloc (.cells #[] 42)).heap.size := by simp
 have P0 := Lib.hid (EdnPt.nil (w0.alloc (.cells #[] 42)) w0.heap.size es)
 clear h hcs
 go_enter Tryz.func50, Tryz.ntmps50
 go_wp2_with fail
 go_loopw [3, 4] (fun v i wr => ∃ (k : Nat) (gs : List Edh) (O : Option Addr) (q : Nat), k <= es.length /\ i = .int .i64 k /\ v = .slice O gs.length q /\ Hid (EdnPt wr w0.heap.size gs es k) /\ Hid (EdhO wr w0.heap.size O gs.length q gs) /\
  Hid (∀ x ∈ gs, ∀ g, x.ob = some g -> (Value.slice O gs.length q).ownBlock ≠ some g) /\ Below w0.heap.size w0 wr) (fun _ i _ => es.length - (intOf i).toNat)
 case atStart => exact ⟨0, [], _, 0, Nat.zero_le _, rfl, rfl, P0, Lib.hid O0, Lib.hid (fun x hx => by cases hx), B0⟩
 case round =>
  clear O0 P0 B0 hsz0
  obtain ⟨k, gs, O, q, hk, rfl, rfl, hp, HOW, hne, hb⟩ := hrel
  obtain ⟨w, hw⟩ : ∃ x, x = wr := ⟨_, rfl⟩
  subst hw
  by_cases hlt : k < es.length
  ·
   obtain ⟨b', off', e, a, cp, e2, hl, he, c0, c1, hcl⟩ := (HR.out w hb).at hlt
   obtain ⟨rfl, rfl⟩ : b = b' /\ off = off' := by injection e2 with e2; injection e2 with e3 e4; exact ⟨e3, e4⟩
   obtain ⟨hc0, hc9⟩ := HCS.out e (List.mem_of_getElem? he.out)
   have hc9 : e.cs.length <= 1000 := by omega
   have Q0 := Lib.hid (fun W (hb : Below w.heap.size w W) => (Below.cell hb (p := ⟨b, off + k * 2, none⟩) hl).trans c0)
   have Q1 := Lib.hid (fun W (hb : Below w.heap.size w W) => (Below.cell hb (p := ⟨b, off + k * 2 + 1, none⟩) hl).trans c1)
   have HCL := Lib.hid (fun W (hb : Below w.heap.size w W) => hcl.below hb)
   have hgl : gs.length <= 900 := by rw [hp.out.len]; omega
   obtain ⟨lo, hlo'⟩ : ∃ x, x = w0.heap.size := ⟨_, rfl⟩
   have hlo : lo <= w.heap.size := by rw [hlo']; exact hb.size
   rw [<- hlo'] at HOW
   have hm : True := trivial
   obtain ⟨m, _⟩ : ∃ m : Nat, m = 0 := ⟨0, rfl⟩
   clear c0 c1 hcl e2
   go_wp2_with fail
   refine region_inv (by kernel_rfl) (by kernel_rfl) (fun d a' W => ∃ us, a' = frOd us /\ InvOd b off k c cp q m O a es gs e undef (.slice none 0 0) (.slice (some ⟨w0.heap.size, 0, none⟩) 0 0) undef lo w d us W) ?_ ?_ ?_
   ·
    refine ⟨_, frOd_of, ?_⟩
    have Z : ∀ k, (Array.replicate 17 false).getD k false = false := fun k => by
     rcases Nat.lt_or_ge k 17 with h | h
     ·
      simp [h]
     ·
      simp [Array.getElem?_eq_none, h]
    have Zn : ∀ {k : Nat} {p : Prop}, (Array.replicate 17 false).getD k false = true -> p := fun {k p} h => by rw [Z k] at h; cases h
    exact { u0 := rfl, u4 := rfl, u1 := rfl, u2 := rfl, u5 := rfl, u28 := rfl, u3 := fun _ => rfl, bel := fun _ => (Below.refl _ _).drew, o0 := Zn, o1 := Zn, o2 := Zn, o3 := Zn, o4 := Zn, o5 := Zn, o7 := Zn, o8 := Zn, o9 := Zn, o10 := Zn, o11 := Zn, s6 := Zn, s12 := Zn, o13 := Zn, s14 := Zn, s15 := Zn, o16 := Zn, i12 := Zn, i14 := Zn, i15 := Zn, all15 := Zn, p3 := Zn, p4 := Zn, p5 := Zn, p9 := Zn, p10 := Zn, p11 := Zn, p12 := Zn, p13 := Zn, p14 := Zn }
   ·
    intro i d a' W hi hI
    obtain ⟨hun, oi, hoi, hall⟩ := mem_ready.1 hi
    have hlt : i < 17 := (Array.getElem?_eq_some_iff.1 hoi).1
    obtain ⟨us, rfl, I⟩ := hI
    have e0 := I.u0
    have e4 := I.u4
    have e1 := I.u1
    have e2 := I.u2
    have e5 := I.u5
    have e28 := I.u28
    have P0 : d.getD 15 false = false -> W.cell? ⟨b, off + k * 2, none⟩ = some (.int .i64 e.y) := fun h => Q0.out W (I.bel h)
    have P1 : d.getD 15 false = false -> W.cell? ⟨b, off + k * 2 + 1, none⟩ = some (.slice a e.cs.length cp) := fun h => Q1.out W (I.bel h)
    rcases (by omega : i = 0 ∨ i = 1 ∨ i = 2 ∨ i = 3 ∨ i = 4 ∨ i = 5 ∨ i = 6 ∨ i = 7 ∨ i = 8 ∨ i = 9 ∨ i = 10 ∨ i = 11 ∨ i = 12 ∨ i = 13 ∨ i = 14 ∨ i = 15 ∨ i = 16) with rfl | rfl | rfl | rfl | rfl | rfl | rfl | rfl | rfl | rfl | rfl | rfl | rfl | rfl | rfl | rfl | rfl
    all_goals
     obtain rfl := Option.some.inj hoi
     clear hoi hlt hi
    ·
     skip
     have D0 : (d.setIfInBounds 0 true).getD 0 false = true := getD_setG hun
     have F0 := getD_tfG hun
     have D1 : (d.setIfInBounds 0 true).getD 1 false = d.getD 1 false := getD_set_ne false (by decide)
     have D2 : (d.setIfInBounds 0 true).getD 2 false = d.getD 2 false := getD_set_ne false (by decide)
     have D3 : (d.setIfInBounds 0 true).getD 3 false = d.getD 3 false := getD_set_ne false (by decide)
     have D4 : (d.setIfInBounds 0 true).getD 4 false = d.getD 4 false := getD_set_ne false (by decide)
     have D5 : (d.setIfInBounds 0 true).getD 5 false = d.getD 5 false := getD_set_ne false (by decide)
     have D6 : (d.setIfInBounds 0 true).getD 6 false = d.getD 6 false := getD_set_ne false (by decide)
     have D7 : (d.setIfInBounds 0 true).getD 7 false = d.getD 7 false := getD_set_ne false (by decide)
     have D8 : (d.setIfInBounds 0 true).getD 8 false = d.getD 8 false := getD_set_ne false (by decide)
     have D9 : (d.setIfInBounds 0 true).getD 9 false = d.getD 9 false := getD_set_ne false (by decide)
     have D10 : (d.setIfInBounds 0 true).getD 10 false = d.getD 10 false := getD_set_ne false (by decide)
     have D11 : (d.setIfInBounds 0 true).getD 11 false = d.getD 11 false := getD_set_ne false (by decide)
     have D12 : (d.setIfInBounds 0 true).getD 12 false = d.getD 12 false := getD_set_ne false (by decide)
     have D13 : (d.setIfInBounds 0 true).getD 13 false = d.getD 13 false := getD_set_ne false (by decide)
     have D14 : (d.setIfInBounds 0 true).getD 14 false = d.getD 14 false := getD_set_ne false (by decide)
     have D15 : (d.setIfInBounds 0 true).getD 15 false = d.getD 15 false := getD_set_ne false (by decide)
     have D16 : (d.setIfInBounds 0 true).getD 16 false = d.getD 16 false := getD_set_ne false (by decide)
     have F16 : d.getD 16 false = false := by
      cases hh : d.getD 16 false with
      | false => rfl
      | true => have h1 := (I.o16 hh).2; have := I.all15 h1 0 (by decide); rw [F0] at this; cases this
     have e3 := I.u3 F16
     have U0 : updG us 12 (.slice O gs.length q) 0 = us 0 := upd_otherG (by decide)
     have U1 : updG us 12 (.slice O gs.length q) 1 = us 1 := upd_otherG (by decide)
     have U2 : updG us 12 (.slice O gs.length q) 2 = us 2 := upd_otherG (by decide)
     have U3 : updG us 12 (.slice O gs.length q) 3 = us 3 := upd_otherG (by decide)
     have U4 : updG us 12 (.slice O gs.length q) 4 = us 4 := upd_otherG (by decide)
     have U5 : updG us 12 (.slice O gs.length q) 5 = us 5 := upd_otherG (by decide)
     have U12 : updG us 12 (.slice O gs.length q) 12 = (.slice O gs.length q) := upd_sameG _ _ _
     have U13 : updG us 12 (.slice O gs.length q) 13 = us 13 := upd_otherG (by decide)
     have U14 : updG us 12 (.slice O gs.length q) 14 = us 14 := upd_otherG (by decide)
     have U15 : updG us 12 (.slice O gs.length q) 15 = us 15 := upd_otherG (by decide)
     have U16 : updG us 12 (.slice O gs.length q) 16 = us 16 := upd_otherG (by decide)
     have U17 : updG us 12 (.slice O gs.length q) 17 = us 17 := upd_otherG (by decide)
     have U18 : updG us 12 (.slice O gs.length q) 18 = us 18 := upd_otherG (by decide)
     have U19 : updG us 12 (.slice O gs.length q) 19 = us 19 := upd_otherG (by decide)
     have U20 : updG us 12 (.slice O gs.length q) 20 = us 20 := upd_otherG (by decide)
     have U21 : updG us 12 (.slice O gs.length q) 21 = us 21 := upd_otherG (by decide)
     have U22 : updG us 12 (.slice O gs.length q) 22 = us 22 := upd_otherG (by decide)
     have U23 : updG us 12 (.slice O gs.length q) 23 = us 23 := upd_otherG (by decide)
     have U24 : updG us 12 (.slice O gs.length q) 24 = us 24 := upd_otherG (by decide)
     have U25 : updG us 12 (.slice O gs.length q) 25 = us 25 := upd_otherG (by decide)
     have U26 : updG us 12 (.slice O gs.length q) 26 = us 26 := upd_otherG (by decide)
     have U27 : updG us 12 (.slice O gs.length q) 27 = us 27 := upd_otherG (by decide)
     have U28 : updG us 12 (.slice O gs.length q) 28 = us 28 := upd_otherG (by decide)
     refine wpOp_step rfl (fun K hK => ?_)
     simp only [frOd, e0, e4, e1, e2, e5, e28, e3]
     go_simp
     refine hK _ _ ⟨updG us 12 (.slice O gs.length q), by simp [frOd, updG, Act.put, e0, e4, e1, e2, e5, e28, e3], { u0 := (U0.trans I.u0), u4 := (U4.trans I.u4), u1 := (U1.trans I.u1), u2 := (U2.trans I.u2), u5 := (U5.trans I.u5), u28 := (U28.trans I.u28), u3 := (cO U3 I.u3 D16), o0 := (fun _ => U12), o1 := (cO U13 I.o1 D1), o2 := (cO U14 I.o2 D2), o3 := (cO U15 I.o3 D3), o4 := (cO U16 I.o4 D4), o5 := (cO U17 I.o5 D5), o7 := (cO U19 I.o7 D7), o8 := (cO U20 I.o8 D8), o9 := (cO U21 I.o9 D9), o10 := (cO U22 I.o10 D10), o11 := (cO U23 I.o11 D11), bel := (fun h => I.bel (D15.symm.trans h)), s6 := (fun h h2 => by rw [U18]; exact I.s6 (D6.symm.trans h) (D12.symm.trans h2)), s12 := (fun h h2 => by rw [U24]; exact I.s12 (D12.symm.trans h) (D15.symm.trans h2)), o13 := (fun h => ⟨by rw [U25, U24]; exact (I.o13 (D13.symm.trans h)).1, D12.trans (I.o13 (D13.symm.trans h)).2⟩), s14 := (fun h h2 => by rw [U26, U24]; exact I.s14 (D14.symm.trans h) (D15.symm.trans h2)), s15 := (fun h => by rw [U27]; exact I.s15 (D15.symm.trans h)), o16 := (fun h => ⟨by rw [U3, U27]; exact (I.o16 (D16.symm.trans h)).1, D15.trans (I.o16 (D16.symm.trans h)).2⟩), i12 := (fun h => D6.trans (I.i12 (D12.symm.trans h))), i14 := (fun h => D12.trans (I.i14 (D14.symm.trans h))), i15 := (fun h => D14.trans (I.i15 (D15.symm.trans h))), all15 := (fun h => all_setO (I.all15 (D15.symm.trans h)) D0), p3 := (fun h => by have hh := I.p3 (D3.symm.trans h); exact ⟨D1.trans hh.1, D2.trans hh.2⟩), p4 := (fun h => by have hh := I.p4 (D4.symm.trans h); exact ⟨D1.trans hh.1, D2.trans hh.2.1, D3.trans hh.2.2⟩), p5 := (fun h => by have hh := I.p5 (D5.symm.trans h); exact ⟨D1.trans hh.1, D2.trans hh.2.1, D3.trans hh.2.2.1, D4.trans hh.2.2.2⟩), p9 := (fun h => by have hh := I.p9 (D9.symm.trans h); exact ⟨D7.trans hh.1, D8.trans hh.2⟩), p10 := (fun h => by have hh := I.p10 (D10.symm.trans h); exact ⟨D7.trans hh.1, D8.trans hh.2.1, D9.trans hh.2.2⟩), p11 := (fun h => by have hh := I.p11 (D11.symm.trans h); exact ⟨D7.trans hh.1, D8.trans hh.2.1, D9.trans hh.2.2.1, D10.trans hh.2.2.2⟩), p12 := (fun h => D11.trans (I.p12 (D12.symm.trans h))), p13 := (fun h => D5.trans (I.p13 (D13.symm.trans h))), p14 := (fun h => D13.trans (I.p14 (D14.symm.trans h))) }⟩
    ·
     skip
     have D1 : (d.setIfInBounds 1 true).getD 1 false = true := getD_setG hun
     have F1 := getD_tfG hun
     have D0 : (d.setIfInBounds 1 true).getD 0 false = d.getD 0 false := getD_set_ne false (by decide)
     have D2 : (d.setIfInBounds 1 true).getD 2 false = d.getD 2 false := getD_set_ne false (by decide)
     have D3 : (d.setIfInBounds 1 true).getD 3 false = d.getD 3 false := getD_set_ne false (by decide)
     have D4 : (d.setIfInBounds 1 true).getD 4 false = d.getD 4 false := getD_set_ne false (by decide)
     have D5 : (d.setIfInBounds 1 true).getD 5 false = d.getD 5 false := getD_set_ne false (by decide)
     have D6 : (d.setIfInBounds 1 true).getD 6 false = d.getD 6 false := getD_set_ne false (by decide)
     have D7 : (d.setIfInBounds 1 true).getD 7 false = d.getD 7 false := getD_set_ne false (by decide)
     have D8 : (d.setIfInBounds 1 true).getD 8 false = d.getD 8 false := getD_set_ne false (by decide)
     have D9 : (d.setIfInBounds 1 true).getD 9 false = d.getD 9 false := getD_set_ne false (by decide)
     have D10 : (d.setIfInBounds 1 true).getD 10 false = d.getD 10 false := getD_set_ne false (by decide)
     have D11 : (d.setIfInBounds 1 true).getD 11 false = d.getD 11 false := getD_set_ne false (by decide)
     have D12 : (d.setIfInBounds 1 true).getD 12 false = d.getD 12 false := getD_set_ne false (by decide)
     have D13 : (d.setIfInBounds 1 true).getD 13 false = d.getD 13 false := getD_set_ne false (by decide)
     have D14 : (d.setIfInBounds 1 true).getD 14 false = d.getD 14 false := getD_set_ne false (by decide)
     have D15 : (d.setIfInBounds 1 true).getD 15 false = d.getD 15 false := getD_set_ne false (by decide)
     have D16 : (d.setIfInBounds 1 true).getD 16 false = d.getD 16 false := getD_set_ne false (by decide)
     have U0 : updG us 13 (.slice (some ⟨b, off, none⟩) es.length c) 0 = us 0 := upd_otherG (by decide)
     have U1 : updG us 13 (.slice (some ⟨b, off, none⟩) es.length c) 1 = us 1 := upd_otherG (by decide)
     have U2 : updG us 13 (.slice (some ⟨b, off, none⟩) es.length c) 2 = us 2 := upd_otherG (by decide)
     have U3 : updG us 13 (.slice (some ⟨b, off, none⟩) es.length c) 3 = us 3 := upd_otherG (by decide)
     have U4 : updG us 13 (.slice (some ⟨b, off, none⟩) es.length c) 4 = us 4 := upd_otherG (by decide)
     have U5 : updG us 13 (.slice (some ⟨b, off, none⟩) es.length c) 5 = us 5 := upd_otherG (by decide)
     have U12 : updG us 13 (.slice (some ⟨b, off, none⟩) es.length c) 12 = us 12 := upd_otherG (by decide)
     have U13 : updG us 13 (.slice (some ⟨b, off, none⟩) es.length c) 13 = (.slice (some ⟨b, off, none⟩) es.length c) := upd_sameG _ _ _
     have U14 : updG us 13 (.slice (some ⟨b, off, none⟩) es.length c) 14 = us 14 := upd_otherG (by decide)
     have U15 : updG us 13 (.slice (some ⟨b, off, none⟩) es.length c) 15 = us 15 := upd_otherG (by decide)
     have U16 : updG us 13 (.slice (some ⟨b, off, none⟩) es.length c) 16 = us 16 := upd_otherG (by decide)
     have U17 : updG us 13 (.slice (some ⟨b, off, none⟩) es.length c) 17 = us 17 := upd_otherG (by decide)
     have U18 : updG us 13 (.slice (some ⟨b, off, none⟩) es.length c) 18 = us 18 := upd_otherG (by decide)
     have U19 : updG us 13 (.slice (some ⟨b, off, none⟩) es.length c) 19 = us 19 := upd_otherG (by decide)
     have U20 : updG us 13 (.slice (some ⟨b, off, none⟩) es.length c) 20 = us 20 := upd_otherG (by decide)
     have U21 : updG us 13 (.slice (some ⟨b, off, none⟩) es.length c) 21 = us 21 := upd_otherG (by decide)
     have U22 : updG us 13 (.slice (some ⟨b, off, none⟩) es.length c) 22 = us 22 := upd_otherG (by decide)
     have U23 : updG us 13 (.slice (some ⟨b, off, none⟩) es.length c) 23 = us 23 := upd_otherG (by decide)
     have U24 : updG us 13 (.slice (some ⟨b, off, none⟩) es.length c) 24 = us 24 := upd_otherG (by decide)
     have U25 : updG us 13 (.slice (some ⟨b, off, none⟩) es.length c) 25 = us 25 := upd_otherG (by decide)
     have U26 : updG us 13 (.slice (some ⟨b, off, none⟩) es.length c) 26 = us 26 := upd_otherG (by decide)
     have U27 : updG us 13 (.slice (some ⟨b, off, none⟩) es.length c) 27 = us 27 := upd_otherG (by decide)
     have U28 : updG us 13 (.slice (some ⟨b, off, none⟩) es.length c) 28 = us 28 := upd_otherG (by decide)
     refine wpOp_step rfl (fun K hK => ?_)
     simp only [frOd, e0, e4, e1, e2, e5, e28]
     go_simp
     refine hK _ _ ⟨updG us 13 (.slice (some ⟨b, off, none⟩) es.length c), by simp [frOd, updG, Act.put, e0, e4, e1, e2, e5, e28], { u0 := (U0.trans I.u0), u4 := (U4.trans I.u4), u1 := (U1.trans I.u1), u2 := (U2.trans I.u2), u5 := (U5.trans I.u5), u28 := (U28.trans I.u28), u3 := (cO U3 I.u3 D16), o0 := (cO U12 I.o0 D0), o1 := (fun _ => U13), o2 := (cO U14 I.o2 D2), o3 := (cO U15 I.o3 D3), o4 := (cO U16 I.o4 D4), o5 := (cO U17 I.o5 D5), o7 := (cO U19 I.o7 D7), o8 := (cO U20 I.o8 D8), o9 := (cO U21 I.o9 D9), o10 := (cO U22 I.o10 D10), o11 := (cO U23 I.o11 D11), bel := (fun h => I.bel (D15.symm.trans h)), s6 := (fun h h2 => by rw [U18]; exact I.s6 (D6.symm.trans h) (D12.symm.trans h2)), s12 := (fun h h2 => by rw [U24]; exact I.s12 (D12.symm.trans h) (D15.symm.trans h2)), o13 := (fun h => ⟨by rw [U25, U24]; exact (I.o13 (D13.symm.trans h)).1, D12.trans (I.o13 (D13.symm.trans h)).2⟩), s14 := (fun h h2 => by rw [U26, U24]; exact I.s14 (D14.symm.trans h) (D15.symm.trans h2)), s15 := (fun h => by rw [U27]; exact I.s15 (D15.symm.trans h)), o16 := (fun h => ⟨by rw [U3, U27]; exact (I.o16 (D16.symm.trans h)).1, D15.trans (I.o16 (D16.symm.trans h)).2⟩), i12 := (fun h => D6.trans (I.i12 (D12.symm.trans h))), i14 := (fun h => D12.trans (I.i14 (D14.symm.trans h))), i15 := (fun h => D14.trans (I.i15 (D15.symm.trans h))), all15 := (fun h => all_setO (I.all15 (D15.symm.trans h)) D1), p3 := (fun h => by have hh := I.p3 (D3.symm.trans h); exact ⟨D1, D2.trans hh.2⟩), p4 := (fun h => by have hh := I.p4 (D4.symm.trans h); exact ⟨D1, D2.trans hh.2.1, D3.trans hh.2.2⟩), p5 := (fun h => by have hh := I.p5 (D5.symm.trans h); exact ⟨D1, D2.trans hh.2.1, D3.trans hh.2.2.1, D4.trans hh.2.2.2⟩), p9 := (fun h => by have hh := I.p9 (D9.symm.trans h); exact ⟨D7.trans hh.1, D8.trans hh.2⟩), p10 := (fun h => by have hh := I.p10 (D10.symm.trans h); exact ⟨D7.trans hh.1, D8.trans hh.2.1, D9.trans hh.2.2⟩), p11 := (fun h => by have hh := I.p11 (D11.symm.trans h); exact ⟨D7.trans hh.1, D8.trans hh.2.1, D9.trans hh.2.2.1, D10.trans hh.2.2.2⟩), p12 := (fun h => D11.trans (I.p12 (D12.symm.trans h))), p13 := (fun h => D5.trans (I.p13 (D13.symm.trans h))), p14 := (fun h => D13.trans (I.p14 (D14.symm.trans h))) }⟩
    ·
     skip
     have D2 : (d.setIfInBounds 2 true).getD 2 false = true := getD_setG hun
     have F2 := getD_tfG hun
     have D0 : (d.setIfInBounds 2 true).getD 0 false = d.getD 0 false := getD_set_ne false (by decide)
     have D1 : (d.setIfInBounds 2 true).getD 1 false = d.getD 1 false := getD_set_ne false (by decide)
     have D3 : (d.setIfInBounds 2 true).getD 3 false = d.getD 3 false := getD_set_ne false (by decide)
     have D4 : (d.setIfInBounds 2 true).getD 4 false = d.getD 4 false := getD_set_ne false (by decide)
     have D5 : (d.setIfInBounds 2 true).getD 5 false = d.getD 5 false := getD_set_ne false (by decide)
     have D6 : (d.setIfInBounds 2 true).getD 6 false = d.getD 6 false := getD_set_ne false (by decide)
     have D7 : (d.setIfInBounds 2 true).getD 7 false = d.getD 7 false := getD_set_ne false (by decide)
     have D8 : (d.setIfInBounds 2 true).getD 8 false = d.getD 8 false := getD_set_ne false (by decide)
     have D9 : (d.setIfInBounds 2 true).getD 9 false = d.getD 9 false := getD_set_ne false (by decide)
     have D10 : (d.setIfInBounds 2 true).getD 10 false = d.getD 10 false := getD_set_ne false (by decide)
     have D11 : (d.setIfInBounds 2 true).getD 11 false = d.getD 11 false := getD_set_ne false (by decide)
     have D12 : (d.setIfInBounds 2 true).getD 12 false = d.getD 12 false := getD_set_ne false (by decide)
     have D13 : (d.setIfInBounds 2 true).getD 13 false = d.getD 13 false := getD_set_ne false (by decide)
     have D14 : (d.setIfInBounds 2 true).getD 14 false = d.getD 14 false := getD_set_ne false (by decide)
     have D15 : (d.setIfInBounds 2 true).getD 15 false = d.getD 15 false := getD_set_ne false (by decide)
     have D16 : (d.setIfInBounds 2 true).getD 16 false = d.getD 16 false := getD_set_ne false (by decide)
     have U0 : updG us 14 (.int .i64 (k : Int)) 0 = us 0 := upd_otherG (by decide)
     have U1 : updG us 14 (.int .i64 (k : Int)) 1 = us 1 := upd_otherG (by decide)
     have U2 : updG us 14 (.int .i64 (k : Int)) 2 = us 2 := upd_otherG (by decide)
     have U3 : updG us 14 (.int .i64 (k : Int)) 3 = us 3 := upd_otherG (by decide)
     have U4 : updG us 14 (.int .i64 (k : Int)) 4 = us 4 := upd_otherG (by decide)
     have U5 : updG us 14 (.int .i64 (k : Int)) 5 = us 5 := upd_otherG (by decide)
     have U12 : updG us 14 (.int .i64 (k : Int)) 12 = us 12 := upd_otherG (by decide)
     have U13 : updG us 14 (.int .i64 (k : Int)) 13 = us 13 := upd_otherG (by decide)
     have U14 : updG us 14 (.int .i64 (k : Int)) 14 = (.int .i64 (k : Int)) := upd_sameG _ _ _
     have U15 : updG us 14 (.int .i64 (k : Int)) 15 = us 15 := upd_otherG (by decide)
     have U16 : updG us 14 (.int .i64 (k : Int)) 16 = us 16 := upd_otherG (by decide)
     have U17 : updG us 14 (.int .i64 (k : Int)) 17 = us 17 := upd_otherG (by decide)
     have U18 : updG us 14 (.int .i64 (k : Int)) 18 = us 18 := upd_otherG (by decide)
     have U19 : updG us 14 (.int .i64 (k : Int)) 19 = us 19 := upd_otherG (by decide)
     have U20 : updG us 14 (.int .i64 (k : Int)) 20 = us 20 := upd_otherG (by decide)
     have U21 : updG us 14 (.int .i64 (k : Int)) 21 = us 21 := upd_otherG (by decide)
     have U22 : updG us 14 (.int .i64 (k : Int)) 22 = us 22 := upd_otherG (by decide)
     have U23 : updG us 14 (.int .i64 (k : Int)) 23 = us 23 := upd_otherG (by decide)
     have U24 : updG us 14 (.int .i64 (k : Int)) 24 = us 24 := upd_otherG (by decide)
     have U25 : updG us 14 (.int .i64 (k : Int)) 25 = us 25 := upd_otherG (by decide)
     have U26 : updG us 14 (.int .i64 (k : Int)) 26 = us 26 := upd_otherG (by decide)
     have U27 : updG us 14 (.int .i64 (k : Int)) 27 = us 27 := upd_otherG (by decide)
     have U28 : updG us 14 (.int .i64 (k : Int)) 28 = us 28 := upd_otherG (by decide)
     refine wpOp_step rfl (fun K hK => ?_)
     simp only [frOd, e0, e4, e1, e2, e5, e28]
     go_simp
     refine hK _ _ ⟨updG us 14 (.int .i64 (k : Int)), by simp [frOd, updG, Act.put, e0, e4, e1, e2, e5, e28], { u0 := (U0.trans I.u0), u4 := (U4.trans I.u4), u1 := (U1.trans I.u1), u2 := (U2.trans I.u2), u5 := (U5.trans I.u5), u28 := (U28.trans I.u28), u3 := (cO U3 I.u3 D16), o0 := (cO U12 I.o0 D0), o1 := (cO U13 I.o1 D1), o2 := (fun _ => U14), o3 := (cO U15 I.o3 D3), o4 := (cO U16 I.o4 D4), o5 := (cO U17 I.o5 D5), o7 := (cO U19 I.o7 D7), o8 := (cO U20 I.o8 D8), o9 := (cO U21 I.o9 D9), o10 := (cO U22 I.o10 D10), o11 := (cO U23 I.o11 D11), bel := (fun h => I.bel (D15.symm.trans h)), s6 := (fun h h2 => by rw [U18]; exact I.s6 (D6.symm.trans h) (D12.symm.trans h2)), s12 := (fun h h2 => by rw [U24]; exact I.s12 (D12.symm.trans h) (D15.symm.trans h2)), o13 := (fun h => ⟨by rw [U25, U24]; exact (I.o13 (D13.symm.trans h)).1, D12.trans (I.o13 (D13.symm.trans h)).2⟩), s14 := (fun h h2 => by rw [U26, U24]; exact I.s14 (D14.symm.trans h) (D15.symm.trans h2)), s15 := (fun h => by rw [U27]; exact I.s15 (D15.symm.trans h)), o16 := (fun h => ⟨by rw [U3, U27]; exact (I.o16 (D16.symm.trans h)).1, D15.trans (I.o16 (D16.symm.trans h)).2⟩), i12 := (fun h => D6.trans (I.i12 (D12.symm.trans h))), i14 := (fun h => D12.trans (I.i14 (D14.symm.trans h))), i15 := (fun h => D14.trans (I.i15 (D15.symm.trans h))), all15 := (fun h => all_setO (I.all15 (D15.symm.trans h)) D2), p3 := (fun h => by have hh := I.p3 (D3.symm.trans h); exact ⟨D1.trans hh.1, D2⟩), p4 := (fun h => by have hh := I.p4 (D4.symm.trans h); exact ⟨D1.trans hh.1, D2, D3.trans hh.2.2⟩), p5 := (fun h => by have hh := I.p5 (D5.symm.trans h); exact ⟨D1.trans hh.1, D2, D3.trans hh.2.2.1, D4.trans hh.2.2.2⟩), p9 := (fun h => by have hh := I.p9 (D9.symm.trans h); exact ⟨D7.trans hh.1, D8.trans hh.2⟩), p10 := (fun h => by have hh := I.p10 (D10.symm.trans h); exact ⟨D7.trans hh.1, D8.trans hh.2.1, D9.trans hh.2.2⟩), p11 := (fun h => by have hh := I.p11 (D11.symm.trans h); exact ⟨D7.trans hh.1, D8.trans hh.2.1, D9.trans hh.2.2.1, D10.trans hh.2.2.2⟩), p12 := (fun h => D11.trans (I.p12 (D12.symm.trans h))), p13 := (fun h => D5.trans (I.p13 (D13.symm.trans h))), p14 := (fun h => D13.trans (I.p14 (D14.symm.trans h))) }⟩
    ·
     skip
     have D3 : (d.setIfInBounds 3 true).getD 3 false = true := getD_setG hun
     have F3 := getD_tfG hun
     have D0 : (d.setIfInBounds 3 true).getD 0 false = d.getD 0 false := getD_set_ne false (by decide)
     have D1 : (d.setIfInBounds 3 true).getD 1 false = d.getD 1 false := getD_set_ne false (by decide)
     have D2 : (d.setIfInBounds 3 true).getD 2 false = d.getD 2 false := getD_set_ne false (by decide)
     have D4 : (d.setIfInBounds 3 true).getD 4 false = d.getD 4 false := getD_set_ne false (by decide)
     have D5 : (d.setIfInBounds 3 true).getD 5 false = d.getD 5 false := getD_set_ne false (by decide)
     have D6 : (d.setIfInBounds 3 true).getD 6 false = d.getD 6 false := getD_set_ne false (by decide)
     have D7 : (d.setIfInBounds 3 true).getD 7 false = d.getD 7 false := getD_set_ne false (by decide)
     have D8 : (d.setIfInBounds 3 true).getD 8 false = d.getD 8 false := getD_set_ne false (by decide)
     have D9 : (d.setIfInBounds 3 true).getD 9 false = d.getD 9 false := getD_set_ne false (by decide)
     have D10 : (d.setIfInBounds 3 true).getD 10 false = d.getD 10 false := getD_set_ne false (by decide)
     have D11 : (d.setIfInBounds 3 true).getD 11 false = d.getD 11 false := getD_set_ne false (by decide)
     have D12 : (d.setIfInBounds 3 true).getD 12 false = d.getD 12 false := getD_set_ne false (by decide)
     have D13 : (d.setIfInBounds 3 true).getD 13 false = d.getD 13 false := getD_set_ne false (by decide)
     have D14 : (d.setIfInBounds 3 true).getD 14 false = d.getD 14 false := getD_set_ne false (by decide)
     have D15 : (d.setIfInBounds 3 true).getD 15 false = d.getD 15 false := getD_set_ne false (by decide)
     have D16 : (d.setIfInBounds 3 true).getD 16 false = d.getD 16 false := getD_set_ne false (by decide)
     have h1 := hall ⟨1, .data⟩ (by simp) rfl
     have e13 := I.o1 h1
     have h2 := hall ⟨2, .data⟩ (by simp) rfl
     have e14 := I.o2 h2
     have U0 : updG us 15 (.pointer (some ⟨b, off + k * 2, none⟩)) 0 = us 0 := upd_otherG (by decide)
     have U1 : updG us 15 (.pointer (some ⟨b, off + k * 2, none⟩)) 1 = us 1 := upd_otherG (by decide)
     have U2 : updG us 15 (.pointer (some ⟨b, off + k * 2, none⟩)) 2 = us 2 := upd_otherG (by decide)
     have U3 : updG us 15 (.pointer (some ⟨b, off + k * 2, none⟩)) 3 = us 3 := upd_otherG (by decide)
     have U4 : updG us 15 (.pointer (some ⟨b, off + k * 2, none⟩)) 4 = us 4 := upd_otherG (by decide)
     have U5 : updG us 15 (.pointer (some ⟨b, off + k * 2, none⟩)) 5 = us 5 := upd_otherG (by decide)
     have U12 : updG us 15 (.pointer (some ⟨b, off + k * 2, none⟩)) 12 = us 12 := upd_otherG (by decide)
     have U13 : updG us 15 (.pointer (some ⟨b, off + k * 2, none⟩)) 13 = us 13 := upd_otherG (by decide)
     have U14 : updG us 15 (.pointer (some ⟨b, off + k * 2, none⟩)) 14 = us 14 := upd_otherG (by decide)
     have U15 : updG us 15 (.pointer (some ⟨b, off + k * 2, none⟩)) 15 = (.pointer (some ⟨b, off + k * 2, none⟩)) := upd_sameG _ _ _
     have U16 : updG us 15 (.pointer (some ⟨b, off + k * 2, none⟩)) 16 = us 16 := upd_otherG (by decide)
     have U17 : updG us 15 (.pointer (some ⟨b, off + k * 2, none⟩)) 17 = us 17 := upd_otherG (by decide)
     have U18 : updG us 15 (.pointer (some ⟨b, off + k * 2, none⟩)) 18 = us 18 := upd_otherG (by decide)
     have U19 : updG us 15 (.pointer (some ⟨b, off + k * 2, none⟩)) 19 = us 19 := upd_otherG (by decide)
     have U20 : updG us 15 (.pointer (some ⟨b, off + k * 2, none⟩)) 20 = us 20 := upd_otherG (by decide)
     have U21 : updG us 15 (.pointer (some ⟨b, off + k * 2, none⟩)) 21 = us 21 := upd_otherG (by decide)
     have U22 : updG us 15 (.pointer (some ⟨b, off + k * 2, none⟩)) 22 = us 22 := upd_otherG (by decide)
     have U23 : updG us 15 (.pointer (some ⟨b, off + k * 2, none⟩)) 23 = us 23 := upd_otherG (by decide)
     have U24 : updG us 15 (.pointer (some ⟨b, off + k * 2, none⟩)) 24 = us 24 := upd_otherG (by decide)
     have U25 : updG us 15 (.pointer (some ⟨b, off + k * 2, none⟩)) 25 = us 25 := upd_otherG (by decide)
     have U26 : updG us 15 (.pointer (some ⟨b, off + k * 2, none⟩)) 26 = us 26 := upd_otherG (by decide)
     have U27 : updG us 15 (.pointer (some ⟨b, off + k * 2, none⟩)) 27 = us 27 := upd_otherG (by decide)
     have U28 : updG us 15 (.pointer (some ⟨b, off + k * 2, none⟩)) 28 = us 28 := upd_otherG (by decide)
     refine wpOp_step rfl (fun K hK => ?_)
     simp only [frOd, e0, e4, e1, e2, e5, e28, e13, e14]
     go_simp
     refine hK _ _ ⟨updG us 15 (.pointer (some ⟨b, off + k * 2, none⟩)), by simp [frOd, updG, Act.put, e0, e4, e1, e2, e5, e28, e13, e14], { u0 := (U0.trans I.u0), u4 := (U4.trans I.u4), u1 := (U1.trans I.u1), u2 := (U2.trans I.u2), u5 := (U5.trans I.u5), u28 := (U28.trans I.u28), u3 := (cO U3 I.u3 D16), o0 := (cO U12 I.o0 D0), o1 := (cO U13 I.o1 D1), o2 := (cO U14 I.o2 D2), o3 := (fun _ => U15), o4 := (cO U16 I.o4 D4), o5 := (cO U17 I.o5 D5), o7 := (cO U19 I.o7 D7), o8 := (cO U20 I.o8 D8), o9 := (cO U21 I.o9 D9), o10 := (cO U22 I.o10 D10), o11 := (cO U23 I.o11 D11), bel := (fun h => I.bel (D15.symm.trans h)), s6 := (fun h h2 => by rw [U18]; exact I.s6 (D6.symm.trans h) (D12.symm.trans h2)), s12 := (fun h h2 => by rw [U24]; exact I.s12 (D12.symm.trans h) (D15.symm.trans h2)), o13 := (fun h => ⟨by rw [U25, U24]; exact (I.o13 (D13.symm.trans h)).1, D12.trans (I.o13 (D13.symm.trans h)).2⟩), s14 := (fun h h2 => by rw [U26, U24]; exact I.s14 (D14.symm.trans h) (D15.symm.trans h2)), s15 := (fun h => by rw [U27]; exact I.s15 (D15.symm.trans h)), o16 := (fun h => ⟨by rw [U3, U27]; exact (I.o16 (D16.symm.trans h)).1, D15.trans (I.o16 (D16.symm.trans h)).2⟩), i12 := (fun h => D6.trans (I.i12 (D12.symm.trans h))), i14 := (fun h => D12.trans (I.i14 (D14.symm.trans h))), i15 := (fun h => D14.trans (I.i15 (D15.symm.trans h))), all15 := (fun h => all_setO (I.all15 (D15.symm.trans h)) D3), p3 := (fun _ => ⟨D1.trans h1, D2.trans h2⟩), p4 := (fun h => by have hh := I.p4 (D4.symm.trans h); exact ⟨D1.trans hh.1, D2.trans hh.2.1, D3⟩), p5 := (fun h => by have hh := I.p5 (D5.symm.trans h); exact ⟨D1.trans hh.1, D2.trans hh.2.1, D3, D4.trans hh.2.2.2⟩), p9 := (fun h => by have hh := I.p9 (D9.symm.trans h); exact ⟨D7.trans hh.1, D8.trans hh.2⟩), p10 := (fun h => by have hh := I.p10 (D10.symm.trans h); exact ⟨D7.trans hh.1, D8.trans hh.2.1, D9.trans hh.2.2⟩), p11 := (fun h => by have hh := I.p11 (D11.symm.trans h); exact ⟨D7.trans hh.1, D8.trans hh.2.1, D9.trans hh.2.2.1, D10.trans hh.2.2.2⟩), p12 := (fun h => D11.trans (I.p12 (D12.symm.trans h))), p13 := (fun h => D5.trans (I.p13 (D13.symm.trans h))), p14 := (fun h => D13.trans (I.p14 (D14.symm.trans h))) }⟩
    ·
     skip
     have D4 : (d.setIfInBounds 4 true).getD 4 false = true := getD_setG hun
     have F4 := getD_tfG hun
     have D0 : (d.setIfInBounds 4 true).getD 0 false = d.getD 0 false := getD_set_ne false (by decide)
     have D1 : (d.setIfInBounds 4 true).getD 1 false = d.getD 1 false := getD_set_ne false (by decide)
     have D2 : (d.setIfInBounds 4 true).getD 2 false = d.getD 2 false := getD_set_ne false (by decide)
     have D3 : (d.setIfInBounds 4 true).getD 3 false = d.getD 3 false := getD_set_ne false (by decide)
     have D5 : (d.setIfInBounds 4 true).getD 5 false = d.getD 5 false := getD_set_ne false (by decide)
     have D6 : (d.setIfInBounds 4 true).getD 6 false = d.getD 6 false := getD_set_ne false (by decide)
     have D7 : (d.setIfInBounds 4 true).getD 7 false = d.getD 7 false := getD_set_ne false (by decide)
     have D8 : (d.setIfInBounds 4 true).getD 8 false = d.getD 8 false := getD_set_ne false (by decide)
     have D9 : (d.setIfInBounds 4 true).getD 9 false = d.getD 9 false := getD_set_ne false (by decide)
     have D10 : (d.setIfInBounds 4 true).getD 10 false = d.getD 10 false := getD_set_ne false (by decide)
     have D11 : (d.setIfInBounds 4 true).getD 11 false = d.getD 11 false := getD_set_ne false (by decide)
     have D12 : (d.setIfInBounds 4 true).getD 12 false = d.getD 12 false := getD_set_ne false (by decide)
     have D13 : (d.setIfInBounds 4 true).getD 13 false = d.getD 13 false := getD_set_ne false (by decide)
     have D14 : (d.setIfInBounds 4 true).getD 14 false = d.getD 14 false := getD_set_ne false (by decide)
     have D15 : (d.setIfInBounds 4 true).getD 15 false = d.getD 15 false := getD_set_ne false (by decide)
     have D16 : (d.setIfInBounds 4 true).getD 16 false = d.getD 16 false := getD_set_ne false (by decide)
     have h3 := hall ⟨3, .data⟩ (by simp) rfl
     have e15 := I.o3 h3
     have U0 : updG us 16 (.pointer (some ⟨b, off + k * 2, none⟩)) 0 = us 0 := upd_otherG (by decide)
     have U1 : updG us 16 (.pointer (some ⟨b, off + k * 2, none⟩)) 1 = us 1 := upd_otherG (by decide)
     have U2 : updG us 16 (.pointer (some ⟨b, off + k * 2, none⟩)) 2 = us 2 := upd_otherG (by decide)
     have U3 : updG us 16 (.pointer (some ⟨b, off + k * 2, none⟩)) 3 = us 3 := upd_otherG (by decide)
     have U4 : updG us 16 (.pointer (some ⟨b, off + k * 2, none⟩)) 4 = us 4 := upd_otherG (by decide)
     have U5 : updG us 16 (.pointer (some ⟨b, off + k * 2, none⟩)) 5 = us 5 := upd_otherG (by decide)
     have U12 : updG us 16 (.pointer (some ⟨b, off + k * 2, none⟩)) 12 = us 12 := upd_otherG (by decide)
     have U13 : updG us 16 (.pointer (some ⟨b, off + k * 2, none⟩)) 13 = us 13 := upd_otherG (by decide)
     have U14 : updG us 16 (.pointer (some ⟨b, off + k * 2, none⟩)) 14 = us 14 := upd_otherG (by decide)
     have U15 : updG us 16 (.pointer (some ⟨b, off + k * 2, none⟩)) 15 = us 15 := upd_otherG (by decide)
     have U16 : updG us 16 (.pointer (some ⟨b, off + k * 2, none⟩)) 16 = (.pointer (some ⟨b, off + k * 2, none⟩)) := upd_sameG _ _ _
     have U17 : updG us 16 (.pointer (some ⟨b, off + k * 2, none⟩)) 17 = us 17 := upd_otherG (by decide)
     have U18 : updG us 16 (.pointer (some ⟨b, off + k * 2, none⟩)) 18 = us 18 := upd_otherG (by decide)
     have U19 : updG us 16 (.pointer (some ⟨b, off + k * 2, none⟩)) 19 = us 19 := upd_otherG (by decide)
     have U20 : updG us 16 (.pointer (some ⟨b, off + k * 2, none⟩)) 20 = us 20 := upd_otherG (by decide)
     have U21 : updG us 16 (.pointer (some ⟨b, off + k * 2, none⟩)) 21 = us 21 := upd_otherG (by decide)
     have U22 : updG us 16 (.pointer (some ⟨b, off + k * 2, none⟩)) 22 = us 22 := upd_otherG (by decide)
     have U23 : updG us 16 (.pointer (some ⟨b, off + k * 2, none⟩)) 23 = us 23 := upd_otherG (by decide)
     have U24 : updG us 16 (.pointer (some ⟨b, off + k * 2, none⟩)) 24 = us 24 := upd_otherG (by decide)
     have U25 : updG us 16 (.pointer (some ⟨b, off + k * 2, none⟩)) 25 = us 25 := upd_otherG (by decide)
     have U26 : updG us 16 (.pointer (some ⟨b, off + k * 2, none⟩)) 26 = us 26 := upd_otherG (by decide)
     have U27 : updG us 16 (.pointer (some ⟨b, off + k * 2, none⟩)) 27 = us 27 := upd_otherG (by decide)
     have U28 : updG us 16 (.pointer (some ⟨b, off + k * 2, none⟩)) 28 = us 28 := upd_otherG (by decide)
     refine wpOp_step rfl (fun K hK => ?_)
     simp only [frOd, e0, e4, e1, e2, e5, e28, e15]
     go_simp
     refine hK _ _ ⟨updG us 16 (.pointer (some ⟨b, off + k * 2, none⟩)), by simp [frOd, updG, Act.put, e0, e4, e1, e2, e5, e28, e15], { u0 := (U0.trans I.u0), u4 := (U4.trans I.u4), u1 := (U1.trans I.u1), u2 := (U2.trans I.u2), u5 := (U5.trans I.u5), u28 := (U28.trans I.u28), u3 := (cO U3 I.u3 D16), o0 := (cO U12 I.o0 D0), o1 := (cO U13 I.o1 D1), o2 := (cO U14 I.o2 D2), o3 := (cO U15 I.o3 D3), o4 := (fun _ => U16), o5 := (cO U17 I.o5 D5), o7 := (cO U19 I.o7 D7), o8 := (cO U20 I.o8 D8), o9 := (cO U21 I.o9 D9), o10 := (cO U22 I.o10 D10), o11 := (cO U23 I.o11 D11), bel := (fun h => I.bel (D15.symm.trans h)), s6 := (fun h h2 => by rw [U18]; exact I.s6 (D6.symm.trans h) (D12.symm.trans h2)), s12 := (fun h h2 => by rw [U24]; exact I.s12 (D12.symm.trans h) (D15.symm.trans h2)), o13 := (fun h => ⟨by rw [U25, U24]; exact (I.o13 (D13.symm.trans h)).1, D12.trans (I.o13 (D13.symm.trans h)).2⟩), s14 := (fun h h2 => by rw [U26, U24]; exact I.s14 (D14.symm.trans h) (D15.symm.trans h2)), s15 := (fun h => by rw [U27]; exact I.s15 (D15.symm.trans h)), o16 := (fun h => ⟨by rw [U3, U27]; exact (I.o16 (D16.symm.trans h)).1, D15.trans (I.o16 (D16.symm.trans h)).2⟩), i12 := (fun h => D6.trans (I.i12 (D12.symm.trans h))), i14 := (fun h => D12.trans (I.i14 (D14.symm.trans h))), i15 := (fun h => D14.trans (I.i15 (D15.symm.trans h))), all15 := (fun h => all_setO (I.all15 (D15.symm.trans h)) D4), p3 := (fun h => by have hh := I.p3 (D3.symm.trans h); exact ⟨D1.trans hh.1, D2.trans hh.2⟩), p4 := (fun _ => ⟨D1.trans (I.p3 h3).1, D2.trans (I.p3 h3).2, D3.trans h3⟩), p5 := (fun h => by have hh := I.p5 (D5.symm.trans h); exact ⟨D1.trans hh.1, D2.trans hh.2.1, D3.trans hh.2.2.1, D4⟩), p9 := (fun h => by have hh := I.p9 (D9.symm.trans h); exact ⟨D7.trans hh.1, D8.trans hh.2⟩), p10 := (fun h => by have hh := I.p10 (D10.symm.trans h); exact ⟨D7.trans hh.1, D8.trans hh.2.1, D9.trans hh.2.2⟩), p11 := (fun h => by have hh := I.p11 (D11.symm.trans h); exact ⟨D7.trans hh.1, D8.trans hh.2.1, D9.trans hh.2.2.1, D10.trans hh.2.2.2⟩), p12 := (fun h => D11.trans (I.p12 (D12.symm.trans h))), p13 := (fun h => D5.trans (I.p13 (D13.symm.trans h))), p14 := (fun h => D13.trans (I.p14 (D14.symm.trans h))) }⟩
    ·
     skip
     have D5 : (d.setIfInBounds 5 true).getD 5 false = true := getD_setG hun
     have F5 := getD_tfG hun
     have D0 : (d.setIfInBounds 5 true).getD 0 false = d.getD 0 false := getD_set_ne false (by decide)
     have D1 : (d.setIfInBounds 5 true).getD 1 false = d.getD 1 false := getD_set_ne false (by decide)
     have D2 : (d.setIfInBounds 5 true).getD 2 false = d.getD 2 false := getD_set_ne false (by decide)
     have D3 : (d.setIfInBounds 5 true).getD 3 false = d.getD 3 false := getD_set_ne false (by decide)
     have D4 : (d.setIfInBounds 5 true).getD 4 false = d.getD 4 false := getD_set_ne false (by decide)
     have D6 : (d.setIfInBounds 5 true).getD 6 false = d.getD 6 false := getD_set_ne false (by decide)
     have D7 : (d.setIfInBounds 5 true).getD 7 false = d.getD 7 false := getD_set_ne false (by decide)
     have D8 : (d.setIfInBounds 5 true).getD 8 false = d.getD 8 false := getD_set_ne false (by decide)
     have D9 : (d.setIfInBounds 5 true).getD 9 false = d.getD 9 false := getD_set_ne false (by decide)
     have D10 : (d.setIfInBounds 5 true).getD 10 false = d.getD 10 false := getD_set_ne false (by decide)
     have D11 : (d.setIfInBounds 5 true).getD 11 false = d.getD 11 false := getD_set_ne false (by decide)
     have D12 : (d.setIfInBounds 5 true).getD 12 false = d.getD 12 false := getD_set_ne false (by decide)
     have D13 : (d.setIfInBounds 5 true).getD 13 false = d.getD 13 false := getD_set_ne false (by decide)
     have D14 : (d.setIfInBounds 5 true).getD 14 false = d.getD 14 false := getD_set_ne false (by decide)
     have D15 : (d.setIfInBounds 5 true).getD 15 false = d.getD 15 false := getD_set_ne false (by decide)
     have D16 : (d.setIfInBounds 5 true).getD 16 false = d.getD 16 false := getD_set_ne false (by decide)
     have h4 := hall ⟨4, .data⟩ (by simp) rfl
     have e16 := I.o4 h4
     have U0 : updG us 17 (.int .i64 e.y) 0 = us 0 := upd_otherG (by decide)
     have U1 : updG us 17 (.int .i64 e.y) 1 = us 1 := upd_otherG (by decide)
     have U2 : updG us 17 (.int .i64 e.y) 2 = us 2 := upd_otherG (by decide)
     have U3 : updG us 17 (.int .i64 e.y) 3 = us 3 := upd_otherG (by decide)
     have U4 : updG us 17 (.int .i64 e.y) 4 = us 4 := upd_otherG (by decide)
     have U5 : updG us 17 (.int .i64 e.y) 5 = us 5 := upd_otherG (by decide)
     have U12 : updG us 17 (.int .i64 e.y) 12 = us 12 := upd_otherG (by decide)
     have U13 : updG us 17 (.int .i64 e.y) 13 = us 13 := upd_otherG (by decide)
     have U14 : updG us 17 (.int .i64 e.y) 14 = us 14 := upd_otherG (by decide)
     have U15 : updG us 17 (.int .i64 e.y) 15 = us 15 := upd_otherG (by decide)
     have U16 : updG us 17 (.int .i64 e.y) 16 = us 16 := upd_otherG (by decide)
     have U17 : updG us 17 (.int .i64 e.y) 17 = (.int .i64 e.y) := upd_sameG _ _ _
     have U18 : updG us 17 (.int .i64 e.y) 18 = us 18 := upd_otherG (by decide)
     have U19 : updG us 17 (.int .i64 e.y) 19 = us 19 := upd_otherG (by decide)
     have U20 : updG us 17 (.int .i64 e.y) 20 = us 20 := upd_otherG (by decide)
     have U21 : updG us 17 (.int .i64 e.y) 21 = us 21 := upd_otherG (by decide)
     have U22 : updG us 17 (.int .i64 e.y) 22 = us 22 := upd_otherG (by decide)
     have U23 : updG us 17 (.int .i64 e.y) 23 = us 23 := upd_otherG (by decide)
     have U24 : updG us 17 (.int .i64 e.y) 24 = us 24 := upd_otherG (by decide)
     have U25 : updG us 17 (.int .i64 e.y) 25 = us 25 := upd_otherG (by decide)
     have U26 : updG us 17 (.int .i64 e.y) 26 = us 26 := upd_otherG (by decide)
     have U27 : updG us 17 (.int .i64 e.y) 27 = us 27 := upd_otherG (by decide)
     have U28 : updG us 17 (.int .i64 e.y) 28 = us 28 := upd_otherG (by decide)
     have F15 : d.getD 15 false = false := by
      cases hh : d.getD 15 false with
      | false => rfl
      | true => have := I.all15 hh 5 (by decide); rw [F5] at this; cases this
     have q0 := P0 F15
     have q1 := P1 F15
     refine wpOp_step rfl (fun K hK => ?_)
     simp only [frOd, e0, e4, e1, e2, e5, e28, e16]
     go_simp
     refine hK _ _ ⟨updG us 17 (.int .i64 e.y), by simp [frOd, updG, Act.put, e0, e4, e1, e2, e5, e28, e16], { u0 := (U0.trans I.u0), u4 := (U4.trans I.u4), u1 := (U1.trans I.u1), u2 := (U2.trans I.u2), u5 := (U5.trans I.u5), u28 := (U28.trans I.u28), u3 := (cO U3 I.u3 D16), o0 := (cO U12 I.o0 D0), o1 := (cO U13 I.o1 D1), o2 := (cO U14 I.o2 D2), o3 := (cO U15 I.o3 D3), o4 := (cO U16 I.o4 D4), o5 := (fun _ => U17), o7 := (cO U19 I.o7 D7), o8 := (cO U20 I.o8 D8), o9 := (cO U21 I.o9 D9), o10 := (cO U22 I.o10 D10), o11 := (cO U23 I.o11 D11), bel := (fun h => I.bel (D15.symm.trans h)), s6 := (fun h h2 => by rw [U18]; exact I.s6 (D6.symm.trans h) (D12.symm.trans h2)), s12 := (fun h h2 => by rw [U24]; exact I.s12 (D12.symm.trans h) (D15.symm.trans h2)), o13 := (fun h => ⟨by rw [U25, U24]; exact (I.o13 (D13.symm.trans h)).1, D12.trans (I.o13 (D13.symm.trans h)).2⟩), s14 := (fun h h2 => by rw [U26, U24]; exact I.s14 (D14.symm.trans h) (D15.symm.trans h2)), s15 := (fun h => by rw [U27]; exact I.s15 (D15.symm.trans h)), o16 := (fun h => ⟨by rw [U3, U27]; exact (I.o16 (D16.symm.trans h)).1, D15.trans (I.o16 (D16.symm.trans h)).2⟩), i12 := (fun h => D6.trans (I.i12 (D12.symm.trans h))), i14 := (fun h => D12.trans (I.i14 (D14.symm.trans h))), i15 := (fun h => D14.trans (I.i15 (D15.symm.trans h))), all15 := (fun h => all_setO (I.all15 (D15.symm.trans h)) D5), p3 := (fun h => by have hh := I.p3 (D3.symm.trans h); exact ⟨D1.trans hh.1, D2.trans hh.2⟩), p4 := (fun h => by have hh := I.p4 (D4.symm.trans h); exact ⟨D1.trans hh.1, D2.trans hh.2.1, D3.trans hh.2.2⟩), p5 := (fun _ => ⟨D1.trans (I.p4 h4).1, D2.trans (I.p4 h4).2.1, D3.trans (I.p4 h4).2.2, D4.trans h4⟩), p9 := (fun h => by have hh := I.p9 (D9.symm.trans h); exact ⟨D7.trans hh.1, D8.trans hh.2⟩), p10 := (fun h => by have hh := I.p10 (D10.symm.trans h); exact ⟨D7.trans hh.1, D8.trans hh.2.1, D9.trans hh.2.2⟩), p11 := (fun h => by have hh := I.p11 (D11.symm.trans h); exact ⟨D7.trans hh.1, D8.trans hh.2.1, D9.trans hh.2.2.1, D10.trans hh.2.2.2⟩), p12 := (fun h => D11.trans (I.p12 (D12.symm.trans h))), p13 := (fun h => D5), p14 := (fun h => D13.trans (I.p14 (D14.symm.trans h))) }⟩
    ·
     skip
     have D6 : (d.setIfInBounds 6 true).getD 6 false = true := getD_setG hun
     have F6 := getD_tfG hun
     have D0 : (d.setIfInBounds 6 true).getD 0 false = d.getD 0 false := getD_set_ne false (by decide)
     have D1 : (d.setIfInBounds 6 true).getD 1 false = d.getD 1 false := getD_set_ne false (by decide)
     have D2 : (d.setIfInBounds 6 true).getD 2 false = d.getD 2 false := getD_set_ne false (by decide)
     have D3 : (d.setIfInBounds 6 true).getD 3 false = d.getD 3 false := getD_set_ne false (by decide)
     have D4 : (d.setIfInBounds 6 true).getD 4 false = d.getD 4 false := getD_set_ne false (by decide)
     have D5 : (d.setIfInBounds 6 true).getD 5 false = d.getD 5 false := getD_set_ne false (by decide)
     have D7 : (d.setIfInBounds 6 true).getD 7 false = d.getD 7 false := getD_set_ne false (by decide)
     have D8 : (d.setIfInBounds 6 true).getD 8 false = d.getD 8 false := getD_set_ne false (by decide)
     have D9 : (d.setIfInBounds 6 true).getD 9 false = d.getD 9 false := getD_set_ne false (by decide)
     have D10 : (d.setIfInBounds 6 true).getD 10 false = d.getD 10 false := getD_set_ne false (by decide)
     have D11 : (d.setIfInBounds 6 true).getD 11 false = d.getD 11 false := getD_set_ne false (by decide)
     have D12 : (d.setIfInBounds 6 true).getD 12 false = d.getD 12 false := getD_set_ne false (by decide)
     have D13 : (d.setIfInBounds 6 true).getD 13 false = d.getD 13 false := getD_set_ne false (by decide)
     have D14 : (d.setIfInBounds 6 true).getD 14 false = d.getD 14 false := getD_set_ne false (by decide)
     have D15 : (d.setIfInBounds 6 true).getD 15 false = d.getD 15 false := getD_set_ne false (by decide)
     have D16 : (d.setIfInBounds 6 true).getD 16 false = d.getD 16 false := getD_set_ne false (by decide)
     have F15 : d.getD 15 false = false := by
      cases hh : d.getD 15 false with
      | false => rfl
      | true => have := I.i12 (I.i14 (I.i15 hh)); rw [F6] at this; cases this
     have hbel := I.bel F15
     have hsz := hbel.size
     have U0 : updG us 18 (.slice (some ⟨W.heap.size, 0, none⟩) 0 0) 0 = us 0 := upd_otherG (by decide)
     have U1 : updG us 18 (.slice (some ⟨W.heap.size, 0, none⟩) 0 0) 1 = us 1 := upd_otherG (by decide)
     have U2 : updG us 18 (.slice (some ⟨W.heap.size, 0, none⟩) 0 0) 2 = us 2 := upd_otherG (by decide)
     have U3 : updG us 18 (.slice (some ⟨W.heap.size, 0, none⟩) 0 0) 3 = us 3 := upd_otherG (by decide)
     have U4 : updG us 18 (.slice (some ⟨W.heap.size, 0, none⟩) 0 0) 4 = us 4 := upd_otherG (by decide)
     have U5 : updG us 18 (.slice (some ⟨W.heap.size, 0, none⟩) 0 0) 5 = us 5 := upd_otherG (by decide)
     have U12 : updG us 18 (.slice (some ⟨W.heap.size, 0, none⟩) 0 0) 12 = us 12 := upd_otherG (by decide)
     have U13 : updG us 18 (.slice (some ⟨W.heap.size, 0, none⟩) 0 0) 13 = us 13 := upd_otherG (by decide)
     have U14 : updG us 18 (.slice (some ⟨W.heap.size, 0, none⟩) 0 0) 14 = us 14 := upd_otherG (by decide)
     have U15 : updG us 18 (.slice (some ⟨W.heap.size, 0, none⟩) 0 0) 15 = us 15 := upd_otherG (by decide)
     have U16 : updG us 18 (.slice (some ⟨W.heap.size, 0, none⟩) 0 0) 16 = us 16 := upd_otherG (by decide)
     have U17 : updG us 18 (.slice (some ⟨W.heap.size, 0, none⟩) 0 0) 17 = us 17 := upd_otherG (by decide)
     have U18 : updG us 18 (.slice (some ⟨W.heap.size, 0, none⟩) 0 0) 18 = (.slice (some ⟨W.heap.size, 0, none⟩) 0 0) := upd_sameG _ _ _
     have U19 : updG us 18 (.slice (some ⟨W.heap.size, 0, none⟩) 0 0) 19 = us 19 := upd_otherG (by decide)
     have U20 : updG us 18 (.slice (some ⟨W.heap.size, 0, none⟩) 0 0) 20 = us 20 := upd_otherG (by decide)
     have U21 : updG us 18 (.slice (some ⟨W.heap.size, 0, none⟩) 0 0) 21 = us 21 := upd_otherG (by decide)
     have U22 : updG us 18 (.slice (some ⟨W.heap.size, 0, none⟩) 0 0) 22 = us 22 := upd_otherG (by decide)
     have U23 : updG us 18 (.slice (some ⟨W.heap.size, 0, none⟩) 0 0) 23 = us 23 := upd_otherG (by decide)
     have U24 : updG us 18 (.slice (some ⟨W.heap.size, 0, none⟩) 0 0) 24 = us 24 := upd_otherG (by decide)
     have U25 : updG us 18 (.slice (some ⟨W.heap.size, 0, none⟩) 0 0) 25 = us 25 := upd_otherG (by decide)
     have U26 : updG us 18 (.slice (some ⟨W.heap.size, 0, none⟩) 0 0) 26 = us 26 := upd_otherG (by decide)
     have U27 : updG us 18 (.slice (some ⟨W.heap.size, 0, none⟩) 0 0) 27 = us 27 := upd_otherG (by decide)
     have U28 : updG us 18 (.slice (some ⟨W.heap.size, 0, none⟩) 0 0) 28 = us 28 := upd_otherG (by decide)
     refine wpOp_step rfl (fun K hK => ?_)
     simp only [frOd, e0, e4, e1, e2, e5, e28]
     go_simp
     refine hK _ _ ⟨updG us 18 (.slice (some ⟨W.heap.size, 0, none⟩) 0 0), by simp [frOd, updG, Act.put, e0, e4, e1, e2, e5, e28], { u0 := (U0.trans I.u0), u4 := (U4.trans I.u4), u1 := (U1.trans I.u1), u2 := (U2.trans I.u2), u5 := (U5.trans I.u5), u28 := (U28.trans I.u28), u3 := (cO U3 I.u3 D16), o0 := (cO U12 I.o0 D0), o1 := (cO U13 I.o1 D1), o2 := (cO U14 I.o2 D2), o3 := (cO U15 I.o3 D3), o4 := (cO U16 I.o4 D4), o5 := (cO U17 I.o5 D5), o7 := (cO U19 I.o7 D7), o8 := (cO U20 I.o8 D8), o9 := (cO U21 I.o9 D9), o10 := (cO U22 I.o10 D10), o11 := (cO U23 I.o11 D11), bel := (fun _ => hbel.alloc hsz _), s6 := (fun _ _ => ⟨W.heap.size, U18, by rw [U18]; exact made0H _ _ _ _ hsz⟩), s12 := (fun h _ => by have := I.i12 (D12.symm.trans h); rw [F6] at this; cases this), o13 := (fun h => ⟨by rw [U25, U24]; exact (I.o13 (D13.symm.trans h)).1, D12.trans (I.o13 (D13.symm.trans h)).2⟩), s14 := (fun h _ => by have := I.i12 (I.i14 (D14.symm.trans h)); rw [F6] at this; cases this), s15 := (fun h => by have := I.i12 (I.i14 (I.i15 (D15.symm.trans h))); rw [F6] at this; cases this), o16 := (fun h => ⟨by rw [U3, U27]; exact (I.o16 (D16.symm.trans h)).1, D15.trans (I.o16 (D16.symm.trans h)).2⟩), i12 := (fun _ => D6), i14 := (fun h => D12.trans (I.i14 (D14.symm.trans h))), i15 := (fun h => D14.trans (I.i15 (D15.symm.trans h))), all15 := (fun h => all_setO (I.all15 (D15.symm.trans h)) D6), p3 := (fun h => by have hh := I.p3 (D3.symm.trans h); exact ⟨D1.trans hh.1, D2.trans hh.2⟩), p4 := (fun h => by have hh := I.p4 (D4.symm.trans h); exact ⟨D1.trans hh.1, D2.trans hh.2.1, D3.trans hh.2.2⟩), p5 := (fun h => by have hh := I.p5 (D5.symm.trans h); exact ⟨D1.trans hh.1, D2.trans hh.2.1, D3.trans hh.2.2.1, D4.trans hh.2.2.2⟩), p9 := (fun h => by have hh := I.p9 (D9.symm.trans h); exact ⟨D7.trans hh.1, D8.trans hh.2⟩), p10 := (fun h => by have hh := I.p10 (D10.symm.trans h); exact ⟨D7.trans hh.1, D8.trans hh.2.1, D9.trans hh.2.2⟩), p11 := (fun h => by have hh := I.p11 (D11.symm.trans h); exact ⟨D7.trans hh.1, D8.trans hh.2.1, D9.trans hh.2.2.1, D10.trans hh.2.2.2⟩), p12 := (fun h => D11.trans (I.p12 (D12.symm.trans h))), p13 := (fun h => D5.trans (I.p13 (D13.symm.trans h))), p14 := (fun h => D13.trans (I.p14 (D14.symm.trans h))) }⟩
    ·
     skip
     have D7 : (d.setIfInBounds 7 true).getD 7 false = true := getD_setG hun
     have F7 := getD_tfG hun
     have D0 : (d.setIfInBounds 7 true).getD 0 false = d.getD 0 false := getD_set_ne false (by decide)
     have D1 : (d.setIfInBounds 7 true).getD 1 false = d.getD 1 false := getD_set_ne false (by decide)
     have D2 : (d.setIfInBounds 7 true).getD 2 false = d.getD 2 false := getD_set_ne false (by decide)
     have D3 : (d.setIfInBounds 7 true).getD 3 false = d.getD 3 false := getD_set_ne false (by decide)
     have D4 : (d.setIfInBounds 7 true).getD 4 false = d.getD 4 false := getD_set_ne false (by decide)
     have D5 : (d.setIfInBounds 7 true).getD 5 false = d.getD 5 false := getD_set_ne false (by decide)
     have D6 : (d.setIfInBounds 7 true).getD 6 false = d.getD 6 false := getD_set_ne false (by decide)
     have D8 : (d.setIfInBounds 7 true).getD 8 false = d.getD 8 false := getD_set_ne false (by decide)
     have D9 : (d.setIfInBounds 7 true).getD 9 false = d.getD 9 false := getD_set_ne false (by decide)
     have D10 : (d.setIfInBounds 7 true).getD 10 false = d.getD 10 false := getD_set_ne false (by decide)
     have D11 : (d.setIfInBounds 7 true).getD 11 false = d.getD 11 false := getD_set_ne false (by decide)
     have D12 : (d.setIfInBounds 7 true).getD 12 false = d.getD 12 false := getD_set_ne false (by decide)
     have D13 : (d.setIfInBounds 7 true).getD 13 false = d.getD 13 false := getD_set_ne false (by decide)
     have D14 : (d.setIfInBounds 7 true).getD 14 false = d.getD 14 false := getD_set_ne false (by decide)
     have D15 : (d.setIfInBounds 7 true).getD 15 false = d.getD 15 false := getD_set_ne false (by decide)
     have D16 : (d.setIfInBounds 7 true).getD 16 false = d.getD 16 false := getD_set_ne false (by decide)
     have U0 : updG us 19 (.slice (some ⟨b, off, none⟩) es.length c) 0 = us 0 := upd_otherG (by decide)
     have U1 : updG us 19 (.slice (some ⟨b, off, none⟩) es.length c) 1 = us 1 := upd_otherG (by decide)
     have U2 : updG us 19 (.slice (some ⟨b, off, none⟩) es.length c) 2 = us 2 := upd_otherG (by decide)
     have U3 : updG us 19 (.slice (some ⟨b, off, none⟩) es.length c) 3 = us 3 := upd_otherG (by decide)
     have U4 : updG us 19 (.slice (some ⟨b, off, none⟩) es.length c) 4 = us 4 := upd_otherG (by decide)
     have U5 : updG us 19 (.slice (some ⟨b, off, none⟩) es.length c) 5 = us 5 := upd_otherG (by decide)
     have U12 : updG us 19 (.slice (some ⟨b, off, none⟩) es.length c) 12 = us 12 := upd_otherG (by decide)
     have U13 : updG us 19 (.slice (some ⟨b, off, none⟩) es.length c) 13 = us 13 := upd_otherG (by decide)
     have U14 : updG us 19 (.slice (some ⟨b, off, none⟩) es.length c) 14 = us 14 := upd_otherG (by decide)
     have U15 : updG us 19 (.slice (some ⟨b, off, none⟩) es.length c) 15 = us 15 := upd_otherG (by decide)
     have U16 : updG us 19 (.slice (some ⟨b, off, none⟩) es.length c) 16 = us 16 := upd_otherG (by decide)
     have U17 : updG us 19 (.slice (some ⟨b, off, none⟩) es.length c) 17 = us 17 := upd_otherG (by decide)
     have U18 : updG us 19 (.slice (some ⟨b, off, none⟩) es.length c) 18 = us 18 := upd_otherG (by decide)
     have U19 : updG us 19 (.slice (some ⟨b, off, none⟩) es.length c) 19 = (.slice (some ⟨b, off, none⟩) es.length c) := upd_sameG _ _ _
     have U20 : updG us 19 (.slice (some ⟨b, off, none⟩) es.length c) 20 = us 20 := upd_otherG (by decide)
     have U21 : updG us 19 (.slice (some ⟨b, off, none⟩) es.length c) 21 = us 21 := upd_otherG (by decide)
     have U22 : updG us 19 (.slice (some ⟨b, off, none⟩) es.length c) 22 = us 22 := upd_otherG (by decide)
     have U23 : updG us 19 (.slice (some ⟨b, off, none⟩) es.length c) 23 = us 23 := upd_otherG (by decide)
     have U24 : updG us 19 (.slice (some ⟨b, off, none⟩) es.length c) 24 = us 24 := upd_otherG (by decide)
     have U25 : updG us 19 (.slice (some ⟨b, off, none⟩) es.length c) 25 = us 25 := upd_otherG (by decide)
     have U26 : updG us 19 (.slice (some ⟨b, off, none⟩) es.length c) 26 = us 26 := upd_otherG (by decide)
     have U27 : updG us 19 (.slice (some ⟨b, off, none⟩) es.length c) 27 = us 27 := upd_otherG (by decide)
     have U28 : updG us 19 (.slice (some ⟨b, off, none⟩) es.length c) 28 = us 28 := upd_otherG (by decide)
     refine wpOp_step rfl (fun K hK => ?_)
     simp only [frOd, e0, e4, e1, e2, e5, e28]
     go_simp
     refine hK _ _ ⟨updG us 19 (.slice (some ⟨b, off, none⟩) es.length c), by simp [frOd, updG, Act.put, e0, e4, e1, e2, e5, e28], { u0 := (U0.trans I.u0), u4 := (U4.trans I.u4), u1 := (U1.trans I.u1), u2 := (U2.trans I.u2), u5 := (U5.trans I.u5), u28 := (U28.trans I.u28), u3 := (cO U3 I.u3 D16), o0 := (cO U12 I.o0 D0), o1 := (cO U13 I.o1 D1), o2 := (cO U14 I.o2 D2), o3 := (cO U15 I.o3 D3), o4 := (cO U16 I.o4 D4), o5 := (cO U17 I.o5 D5), o7 := (fun _ => U19), o8 := (cO U20 I.o8 D8), o9 := (cO U21 I.o9 D9), o10 := (cO U22 I.o10 D10), o11 := (cO U23 I.o11 D11), bel := (fun h => I.bel (D15.symm.trans h)), s6 := (fun h h2 => by rw [U18]; exact I.s6 (D6.symm.trans h) (D12.symm.trans h2)), s12 := (fun h h2 => by rw [U24]; exact I.s12 (D12.symm.trans h) (D15.symm.trans h2)), o13 := (fun h => ⟨by rw [U25, U24]; exact (I.o13 (D13.symm.trans h)).1, D12.trans (I.o13 (D13.symm.trans h)).2⟩), s14 := (fun h h2 => by rw [U26, U24]; exact I.s14 (D14.symm.trans h) (D15.symm.trans h2)), s15 := (fun h => by rw [U27]; exact I.s15 (D15.symm.trans h)), o16 := (fun h => ⟨by rw [U3, U27]; exact (I.o16 (D16.symm.trans h)).1, D15.trans (I.o16 (D16.symm.trans h)).2⟩), i12 := (fun h => D6.trans (I.i12 (D12.symm.trans h))), i14 := (fun h => D12.trans (I.i14 (D14.symm.trans h))), i15 := (fun h => D14.trans (I.i15 (D15.symm.trans h))), all15 := (fun h => all_setO (I.all15 (D15.symm.trans h)) D7), p3 := (fun h => by have hh := I.p3 (D3.symm.trans h); exact ⟨D1.trans hh.1, D2.trans hh.2⟩), p4 := (fun h => by have hh := I.p4 (D4.symm.trans h); exact ⟨D1.trans hh.1, D2.trans hh.2.1, D3.trans hh.2.2⟩), p5 := (fun h => by have hh := I.p5 (D5.symm.trans h); exact ⟨D1.trans hh.1, D2.trans hh.2.1, D3.trans hh.2.2.1, D4.trans hh.2.2.2⟩), p9 := (fun h => by have hh := I.p9 (D9.symm.trans h); exact ⟨D7, D8.trans hh.2⟩), p10 := (fun h => by have hh := I.p10 (D10.symm.trans h); exact ⟨D7, D8.trans hh.2.1, D9.trans hh.2.2⟩), p11 := (fun h => by have hh := I.p11 (D11.symm.trans h); exact ⟨D7, D8.trans hh.2.1, D9.trans hh.2.2.1, D10.trans hh.2.2.2⟩), p12 := (fun h => D11.trans (I.p12 (D12.symm.trans h))), p13 := (fun h => D5.trans (I.p13 (D13.symm.trans h))), p14 := (fun h => D13.trans (I.p14 (D14.symm.trans h))) }⟩
    ·
     skip
     have D8 : (d.setIfInBounds 8 true).getD 8 false = true := getD_setG hun
     have F8 := getD_tfG hun
     have D0 : (d.setIfInBounds 8 true).getD 0 false = d.getD 0 false := getD_set_ne false (by decide)
     have D1 : (d.setIfInBounds 8 true).getD 1 false = d.getD 1 false := getD_set_ne false (by decide)
     have D2 : (d.setIfInBounds 8 true).getD 2 false = d.getD 2 false := getD_set_ne false (by decide)
     have D3 : (d.setIfInBounds 8 true).getD 3 false = d.getD 3 false := getD_set_ne false (by decide)
     have D4 : (d.setIfInBounds 8 true).getD 4 false = d.getD 4 false := getD_set_ne false (by decide)
     have D5 : (d.setIfInBounds 8 true).getD 5 false = d.getD 5 false := getD_set_ne false (by decide)
     have D6 : (d.setIfInBounds 8 true).getD 6 false = d.getD 6 false := getD_set_ne false (by decide)
     have D7 : (d.setIfInBounds 8 true).getD 7 false = d.getD 7 false := getD_set_ne false (by decide)
     have D9 : (d.setIfInBounds 8 true).getD 9 false = d.getD 9 false := getD_set_ne false (by decide)
     have D10 : (d.setIfInBounds 8 true).getD 10 false = d.getD 10 false := getD_set_ne false (by decide)
     have D11 : (d.setIfInBounds 8 true).getD 11 false = d.getD 11 false := getD_set_ne false (by decide)
     have D12 : (d.setIfInBounds 8 true).getD 12 false = d.getD 12 false := getD_set_ne false (by decide)
     have D13 : (d.setIfInBounds 8 true).getD 13 false = d.getD 13 false := getD_set_ne false (by decide)
     have D14 : (d.setIfInBounds 8 true).getD 14 false = d.getD 14 false := getD_set_ne false (by decide)
     have D15 : (d.setIfInBounds 8 true).getD 15 false = d.getD 15 false := getD_set_ne false (by decide)
     have D16 : (d.setIfInBounds 8 true).getD 16 false = d.getD 16 false := getD_set_ne false (by decide)
     have U0 : updG us 20 (.int .i64 (k : Int)) 0 = us 0 := upd_otherG (by decide)
     have U1 : updG us 20 (.int .i64 (k : Int)) 1 = us 1 := upd_otherG (by decide)
     have U2 : updG us 20 (.int .i64 (k : Int)) 2 = us 2 := upd_otherG (by decide)
     have U3 : updG us 20 (.int .i64 (k : Int)) 3 = us 3 := upd_otherG (by decide)
     have U4 : updG us 20 (.int .i64 (k : Int)) 4 = us 4 := upd_otherG (by decide)
     have U5 : updG us 20 (.int .i64 (k : Int)) 5 = us 5 := upd_otherG (by decide)
     have U12 : updG us 20 (.int .i64 (k : Int)) 12 = us 12 := upd_otherG (by decide)
     have U13 : updG us 20 (.int .i64 (k : Int)) 13 = us 13 := upd_otherG (by decide)
     have U14 : updG us 20 (.int .i64 (k : Int)) 14 = us 14 := upd_otherG (by decide)
     have U15 : updG us 20 (.int .i64 (k : Int)) 15 = us 15 := upd_otherG (by decide)
     have U16 : updG us 20 (.int .i64 (k : Int)) 16 = us 16 := upd_otherG (by decide)
     have U17 : updG us 20 (.int .i64 (k : Int)) 17 = us 17 := upd_otherG (by decide)
     have U18 : updG us 20 (.int .i64 (k : Int)) 18 = us 18 := upd_otherG (by decide)
     have U19 : updG us 20 (.int .i64 (k : Int)) 19 = us 19 := upd_otherG (by decide)
     have U20 : updG us 20 (.int .i64 (k : Int)) 20 = (.int .i64 (k : Int)) := upd_sameG _ _ _
     have U21 : updG us 20 (.int .i64 (k : Int)) 21 = us 21 := upd_otherG (by decide)
     have U22 : updG us 20 (.int .i64 (k : Int)) 22 = us 22 := upd_otherG (by decide)
     have U23 : updG us 20 (.int .i64 (k : Int)) 23 = us 23 := upd_otherG (by decide)
     have U24 : updG us 20 (.int .i64 (k : Int)) 24 = us 24 := upd_otherG (by decide)
     have U25 : updG us 20 (.int .i64 (k : Int)) 25 = us 25 := upd_otherG (by decide)
     have U26 : updG us 20 (.int .i64 (k : Int)) 26 = us 26 := upd_otherG (by decide)
     have U27 : updG us 20 (.int .i64 (k : Int)) 27 = us 27 := upd_otherG (by decide)
     have U28 : updG us 20 (.int .i64 (k : Int)) 28 = us 28 := upd_otherG (by decide)
     refine wpOp_step rfl (fun K hK => ?_)
     simp only [frOd, e0, e4, e1, e2, e5, e28]
     go_simp
     refine hK _ _ ⟨updG us 20 (.int .i64 (k : Int)), by simp [frOd, updG, Act.put, e0, e4, e1, e2, e5, e28], { u0 := (U0.trans I.u0), u4 := (U4.trans I.u4), u1 := (U1.trans I.u1), u2 := (U2.trans I.u2), u5 := (U5.trans I.u5), u28 := (U28.trans I.u28), u3 := (cO U3 I.u3 D16), o0 := (cO U12 I.o0 D0), o1 := (cO U13 I.o1 D1), o2 := (cO U14 I.o2 D2), o3 := (cO U15 I.o3 D3), o4 := (cO U16 I.o4 D4), o5 := (cO U17 I.o5 D5), o7 := (cO U19 I.o7 D7), o8 := (fun _ => U20), o9 := (cO U21 I.o9 D9), o10 := (cO U22 I.o10 D10), o11 := (cO U23 I.o11 D11), bel := (fun h => I.bel (D15.symm.trans h)), s6 := (fun h h2 => by rw [U18]; exact I.s6 (D6.symm.trans h) (D12.symm.trans h2)), s12 := (fun h h2 => by rw [U24]; exact I.s12 (D12.symm.trans h) (D15.symm.trans h2)), o13 := (fun h => ⟨by rw [U25, U24]; exact (I.o13 (D13.symm.trans h)).1, D12.trans (I.o13 (D13.symm.trans h)).2⟩), s14 := (fun h h2 => by rw [U26, U24]; exact I.s14 (D14.symm.trans h) (D15.symm.trans h2)), s15 := (fun h => by rw [U27]; exact I.s15 (D15.symm.trans h)), o16 := (fun h => ⟨by rw [U3, U27]; exact (I.o16 (D16.symm.trans h)).1, D15.trans (I.o16 (D16.symm.trans h)).2⟩), i12 := (fun h => D6.trans (I.i12 (D12.symm.trans h))), i14 := (fun h => D12.trans (I.i14 (D14.symm.trans h))), i15 := (fun h => D14.trans (I.i15 (D15.symm.trans h))), all15 := (fun h => all_setO (I.all15 (D15.symm.trans h)) D8), p3 := (fun h => by have hh := I.p3 (D3.symm.trans h); exact ⟨D1.trans hh.1, D2.trans hh.2⟩), p4 := (fun h => by have hh := I.p4 (D4.symm.trans h); exact ⟨D1.trans hh.1, D2.trans hh.2.1, D3.trans hh.2.2⟩), p5 := (fun h => by have hh := I.p5 (D5.symm.trans h); exact ⟨D1.trans hh.1, D2.trans hh.2.1, D3.trans hh.2.2.1, D4.trans hh.2.2.2⟩), p9 := (fun h => by have hh := I.p9 (D9.symm.trans h); exact ⟨D7.trans hh.1, D8⟩), p10 := (fun h => by have hh := I.p10 (D10.symm.trans h); exact ⟨D7.trans hh.1, D8, D9.trans hh.2.2⟩), p11 := (fun h => by have hh := I.p11 (D11.symm.trans h); exact ⟨D7.trans hh.1, D8, D9.trans hh.2.2.1, D10.trans hh.2.2.2⟩), p12 := (fun h => D11.trans (I.p12 (D12.symm.trans h))), p13 := (fun h => D5.trans (I.p13 (D13.symm.trans h))), p14 := (fun h => D13.trans (I.p14 (D14.symm.trans h))) }⟩
    ·
     skip
     have D9 : (d.setIfInBounds 9 true).getD 9 false = true := getD_setG hun
     have F9 := getD_tfG hun
     have D0 : (d.setIfInBounds 9 true).getD 0 false = d.getD 0 false := getD_set_ne false (by decide)
     have D1 : (d.setIfInBounds 9 true).getD 1 false = d.getD 1 false := getD_set_ne false (by decide)
     have D2 : (d.setIfInBounds 9 true).getD 2 false = d.getD 2 false := getD_set_ne false (by decide)
     have D3 : (d.setIfInBounds 9 true).getD 3 false = d.getD 3 false := getD_set_ne false (by decide)
     have D4 : (d.setIfInBounds 9 true).getD 4 false = d.getD 4 false := getD_set_ne false (by decide)
     have D5 : (d.setIfInBounds 9 true).getD 5 false = d.getD 5 false := getD_set_ne false (by decide)
     have D6 : (d.setIfInBounds 9 true).getD 6 false = d.getD 6 false := getD_set_ne false (by decide)
     have D7 : (d.setIfInBounds 9 true).getD 7 false = d.getD 7 false := getD_set_ne false (by decide)
     have D8 : (d.setIfInBounds 9 true).getD 8 false = d.getD 8 false := getD_set_ne false (by decide)
     have D10 : (d.setIfInBounds 9 true).getD 10 false = d.getD 10 false := getD_set_ne false (by decide)
     have D11 : (d.setIfInBounds 9 true).getD 11 false = d.getD 11 false := getD_set_ne false (by decide)
     have D12 : (d.setIfInBounds 9 true).getD 12 false = d.getD 12 false := getD_set_ne false (by decide)
     have D13 : (d.setIfInBounds 9 true).getD 13 false = d.getD 13 false := getD_set_ne false (by decide)
     have D14 : (d.setIfInBounds 9 true).getD 14 false = d.getD 14 false := getD_set_ne false (by decide)
     have D15 : (d.setIfInBounds 9 true).getD 15 false = d.getD 15 false := getD_set_ne false (by decide)
     have D16 : (d.setIfInBounds 9 true).getD 16 false = d.getD 16 false := getD_set_ne false (by decide)
     have h7 := hall ⟨7, .data⟩ (by simp) rfl
     have e19 := I.o7 h7
     have h8 := hall ⟨8, .data⟩ (by simp) rfl
     have e20 := I.o8 h8
     have U0 : updG us 21 (.pointer (some ⟨b, off + k * 2, none⟩)) 0 = us 0 := upd_otherG (by decide)
     have U1 : updG us 21 (.pointer (some ⟨b, off + k * 2, none⟩)) 1 = us 1 := upd_otherG (by decide)
     have U2 : updG us 21 (.pointer (some ⟨b, off + k * 2, none⟩)) 2 = us 2 := upd_otherG (by decide)
     have U3 : updG us 21 (.pointer (some ⟨b, off + k * 2, none⟩)) 3 = us 3 := upd_otherG (by decide)
     have U4 : updG us 21 (.pointer (some ⟨b, off + k * 2, none⟩)) 4 = us 4 := upd_otherG (by decide)
     have U5 : updG us 21 (.pointer (some ⟨b, off + k * 2, none⟩)) 5 = us 5 := upd_otherG (by decide)
     have U12 : updG us 21 (.pointer (some ⟨b, off + k * 2, none⟩)) 12 = us 12 := upd_otherG (by decide)
     have U13 : updG us 21 (.pointer (some ⟨b, off + k * 2, none⟩)) 13 = us 13 := upd_otherG (by decide)
     have U14 : updG us 21 (.pointer (some ⟨b, off + k * 2, none⟩)) 14 = us 14 := upd_otherG (by decide)
     have U15 : updG us 21 (.pointer (some ⟨b, off + k * 2, none⟩)) 15 = us 15 := upd_otherG (by decide)
     have U16 : updG us 21 (.pointer (some ⟨b, off + k * 2, none⟩)) 16 = us 16 := upd_otherG (by decide)
     have U17 : updG us 21 (.pointer (some ⟨b, off + k * 2, none⟩)) 17 = us 17 := upd_otherG (by decide)
     have U18 : updG us 21 (.pointer (some ⟨b, off + k * 2, none⟩)) 18 = us 18 := upd_otherG (by decide)
     have U19 : updG us 21 (.pointer (some ⟨b, off + k * 2, none⟩)) 19 = us 19 := upd_otherG (by decide)
     have U20 : updG us 21 (.pointer (some ⟨b, off + k * 2, none⟩)) 20 = us 20 := upd_otherG (by decide)
     have U21 : updG us 21 (.pointer (some ⟨b, off + k * 2, none⟩)) 21 = (.pointer (some ⟨b, off + k * 2, none⟩)) := upd_sameG _ _ _
     have U22 : updG us 21 (.pointer (some ⟨b, off + k * 2, none⟩)) 22 = us 22 := upd_otherG (by decide)
     have U23 : updG us 21 (.pointer (some ⟨b, off + k * 2, none⟩)) 23 = us 23 := upd_otherG (by decide)
     have U24 : updG us 21 (.pointer (some ⟨b, off + k * 2, none⟩)) 24 = us 24 := upd_otherG (by decide)
     have U25 : updG us 21 (.pointer (some ⟨b, off + k * 2, none⟩)) 25 = us 25 := upd_otherG (by decide)
     have U26 : updG us 21 (.pointer (some ⟨b, off + k * 2, none⟩)) 26 = us 26 := upd_otherG (by decide)
     have U27 : updG us 21 (.pointer (some ⟨b, off + k * 2, none⟩)) 27 = us 27 := upd_otherG (by decide)
     have U28 : updG us 21 (.pointer (some ⟨b, off + k * 2, none⟩)) 28 = us 28 := upd_otherG (by decide)
     refine wpOp_step rfl (fun K hK => ?_)
     simp only [frOd, e0, e4, e1, e2, e5, e28, e19, e20]
     go_simp
     refine hK _ _ ⟨updG us 21 (.pointer (some ⟨b, off + k * 2, none⟩)), by simp [frOd, updG, Act.put, e0, e4, e1, e2, e5, e28, e19, e20], { u0 := (U0.trans I.u0), u4 := (U4.trans I.u4), u1 := (U1.trans I.u1), u2 := (U2.trans I.u2), u5 := (U5.trans I.u5), u28 := (U28.trans I.u28), u3 := (cO U3 I.u3 D16), o0 := (cO U12 I.o0 D0), o1 := (cO U13 I.o1 D1), o2 := (cO U14 I.o2 D2), o3 := (cO U15 I.o3 D3), o4 := (cO U16 I.o4 D4), o5 := (cO U17 I.o5 D5), o7 := (cO U19 I.o7 D7), o8 := (cO U20 I.o8 D8), o9 := (fun _ => U21), o10 := (cO U22 I.o10 D10), o11 := (cO U23 I.o11 D11), bel := (fun h => I.bel (D15.symm.trans h)), s6 := (fun h h2 => by rw [U18]; exact I.s6 (D6.symm.trans h) (D12.symm.trans h2)), s12 := (fun h h2 => by rw [U24]; exact I.s12 (D12.symm.trans h) (D15.symm.trans h2)), o13 := (fun h => ⟨by rw [U25, U24]; exact (I.o13 (D13.symm.trans h)).1, D12.trans (I.o13 (D13.symm.trans h)).2⟩), s14 := (fun h h2 => by rw [U26, U24]; exact I.s14 (D14.symm.trans h) (D15.symm.trans h2)), s15 := (fun h => by rw [U27]; exact I.s15 (D15.symm.trans h)), o16 := (fun h => ⟨by rw [U3, U27]; exact (I.o16 (D16.symm.trans h)).1, D15.trans (I.o16 (D16.symm.trans h)).2⟩), i12 := (fun h => D6.trans (I.i12 (D12.symm.trans h))), i14 := (fun h => D12.trans (I.i14 (D14.symm.trans h))), i15 := (fun h => D14.trans (I.i15 (D15.symm.trans h))), all15 := (fun h => all_setO (I.all15 (D15.symm.trans h)) D9), p3 := (fun h => by have hh := I.p3 (D3.symm.trans h); exact ⟨D1.trans hh.1, D2.trans hh.2⟩), p4 := (fun h => by have hh := I.p4 (D4.symm.trans h); exact ⟨D1.trans hh.1, D2.trans hh.2.1, D3.trans hh.2.2⟩), p5 := (fun h => by have hh := I.p5 (D5.symm.trans h); exact ⟨D1.trans hh.1, D2.trans hh.2.1, D3.trans hh.2.2.1, D4.trans hh.2.2.2⟩), p9 := (fun _ => ⟨D7.trans h7, D8.trans h8⟩), p10 := (fun h => by have hh := I.p10 (D10.symm.trans h); exact ⟨D7.trans hh.1, D8.trans hh.2.1, D9⟩), p11 := (fun h => by have hh := I.p11 (D11.symm.trans h); exact ⟨D7.trans hh.1, D8.trans hh.2.1, D9, D10.trans hh.2.2.2⟩), p12 := (fun h => D11.trans (I.p12 (D12.symm.trans h))), p13 := (fun h => D5.trans (I.p13 (D13.symm.trans h))), p14 := (fun h => D13.trans (I.p14 (D14.symm.trans h))) }⟩
    ·
     skip
     have D10 : (d.setIfInBounds 10 true).getD 10 false = true := getD_setG hun
     have F10 := getD_tfG hun
     have D0 : (d.setIfInBounds 10 true).getD 0 false = d.getD 0 false := getD_set_ne false (by decide)
     have D1 : (d.setIfInBounds 10 true).getD 1 false = d.getD 1 false := getD_set_ne false (by decide)
     have D2 : (d.setIfInBounds 10 true).getD 2 false = d.getD 2 false := getD_set_ne false (by decide)
     have D3 : (d.setIfInBounds 10 true).getD 3 false = d.getD 3 false := getD_set_ne false (by decide)
     have D4 : (d.setIfInBounds 10 true).getD 4 false = d.getD 4 false := getD_set_ne false (by decide)
     have D5 : (d.setIfInBounds 10 true).getD 5 false = d.getD 5 false := getD_set_ne false (by decide)
     have D6 : (d.setIfInBounds 10 true).getD 6 false = d.getD 6 false := getD_set_ne false (by decide)
     have D7 : (d.setIfInBounds 10 true).getD 7 false = d.getD 7 false := getD_set_ne false (by decide)
     have D8 : (d.setIfInBounds 10 true).getD 8 false = d.getD 8 false := getD_set_ne false (by decide)
     have D9 : (d.setIfInBounds 10 true).getD 9 false = d.getD 9 false := getD_set_ne false (by decide)
     have D11 : (d.setIfInBounds 10 true).getD 11 false = d.getD 11 false := getD_set_ne false (by decide)
     have D12 : (d.setIfInBounds 10 true).getD 12 false = d.getD 12 false := getD_set_ne false (by decide)
     have D13 : (d.setIfInBounds 10 true).getD 13 false = d.getD 13 false := getD_set_ne false (by decide)
     have D14 : (d.setIfInBounds 10 true).getD 14 false = d.getD 14 false := getD_set_ne false (by decide)
     have D15 : (d.setIfInBounds 10 true).getD 15 false = d.getD 15 false := getD_set_ne false (by decide)
     have D16 : (d.setIfInBounds 10 true).getD 16 false = d.getD 16 false := getD_set_ne false (by decide)
     have h9 := hall ⟨9, .data⟩ (by simp) rfl
     have e21 := I.o9 h9
     have U0 : updG us 22 (.pointer (some ⟨b, off + k * 2 + 1, none⟩)) 0 = us 0 := upd_otherG (by decide)
     have U1 : updG us 22 (.pointer (some ⟨b, off + k * 2 + 1, none⟩)) 1 = us 1 := upd_otherG (by decide)
     have U2 : updG us 22 (.pointer (some ⟨b, off + k * 2 + 1, none⟩)) 2 = us 2 := upd_otherG (by decide)
     have U3 : updG us 22 (.pointer (some ⟨b, off + k * 2 + 1, none⟩)) 3 = us 3 := upd_otherG (by decide)
     have U4 : updG us 22 (.pointer (some ⟨b, off + k * 2 + 1, none⟩)) 4 = us 4 := upd_otherG (by decide)
     have U5 : updG us 22 (.pointer (some ⟨b, off + k * 2 + 1, none⟩)) 5 = us 5 := upd_otherG (by decide)
     have U12 : updG us 22 (.pointer (some ⟨b, off + k * 2 + 1, none⟩)) 12 = us 12 := upd_otherG (by decide)
     have U13 : updG us 22 (.pointer (some ⟨b, off + k * 2 + 1, none⟩)) 13 = us 13 := upd_otherG (by decide)
     have U14 : updG us 22 (.pointer (some ⟨b, off + k * 2 + 1, none⟩)) 14 = us 14 := upd_otherG (by decide)
     have U15 : updG us 22 (.pointer (some ⟨b, off + k * 2 + 1, none⟩)) 15 = us 15 := upd_otherG (by decide)
     have U16 : updG us 22 (.pointer (some ⟨b, off + k * 2 + 1, none⟩)) 16 = us 16 := upd_otherG (by decide)
     have U17 : updG us 22 (.pointer (some ⟨b, off + k * 2 + 1, none⟩)) 17 = us 17 := upd_otherG (by decide)
     have U18 : updG us 22 (.pointer (some ⟨b, off + k * 2 + 1, none⟩)) 18 = us 18 := upd_otherG (by decide)
     have U19 : updG us 22 (.pointer (some ⟨b, off + k * 2 + 1, none⟩)) 19 = us 19 := upd_otherG (by decide)
     have U20 : updG us 22 (.pointer (some ⟨b, off + k * 2 + 1, none⟩)) 20 = us 20 := upd_otherG (by decide)
     have U21 : updG us 22 (.pointer (some ⟨b, off + k * 2 + 1, none⟩)) 21 = us 21 := upd_otherG (by decide)
     have U22 : updG us 22 (.pointer (some ⟨b, off + k * 2 + 1, none⟩)) 22 = (.pointer (some ⟨b, off + k * 2 + 1, none⟩)) := upd_sameG _ _ _
     have U23 : updG us 22 (.pointer (some ⟨b, off + k * 2 + 1, none⟩)) 23 = us 23 := upd_otherG (by decide)
     have U24 : updG us 22 (.pointer (some ⟨b, off + k * 2 + 1, none⟩)) 24 = us 24 := upd_otherG (by decide)
     have U25 : updG us 22 (.pointer (some ⟨b, off + k * 2 + 1, none⟩)) 25 = us 25 := upd_otherG (by decide)
     have U26 : updG us 22 (.pointer (some ⟨b, off + k * 2 + 1, none⟩)) 26 = us 26 := upd_otherG (by decide)
     have U27 : updG us 22 (.pointer (some ⟨b, off + k * 2 + 1, none⟩)) 27 = us 27 := upd_otherG (by decide)
     have U28 : updG us 22 (.pointer (some ⟨b, off + k * 2 + 1, none⟩)) 28 = us 28 := upd_otherG (by decide)
     refine wpOp_step rfl (fun K hK => ?_)
     simp only [frOd, e0, e4, e1, e2, e5, e28, e21]
     go_simp
     refine hK _ _ ⟨updG us 22 (.pointer (some ⟨b, off + k * 2 + 1, none⟩)), by simp [frOd, updG, Act.put, e0, e4, e1, e2, e5, e28, e21], { u0 := (U0.trans I.u0), u4 := (U4.trans I.u4), u1 := (U1.trans I.u1), u2 := (U2.trans I.u2), u5 := (U5.trans I.u5), u28 := (U28.trans I.u28), u3 := (cO U3 I.u3 D16), o0 := (cO U12 I.o0 D0), o1 := (cO U13 I.o1 D1), o2 := (cO U14 I.o2 D2), o3 := (cO U15 I.o3 D3), o4 := (cO U16 I.o4 D4), o5 := (cO U17 I.o5 D5), o7 := (cO U19 I.o7 D7), o8 := (cO U20 I.o8 D8), o9 := (cO U21 I.o9 D9), o10 := (fun _ => U22), o11 := (cO U23 I.o11 D11), bel := (fun h => I.bel (D15.symm.trans h)), s6 := (fun h h2 => by rw [U18]; exact I.s6 (D6.symm.trans h) (D12.symm.trans h2)), s12 := (fun h h2 => by rw [U24]; exact I.s12 (D12.symm.trans h) (D15.symm.trans h2)), o13 := (fun h => ⟨by rw [U25, U24]; exact (I.o13 (D13.symm.trans h)).1, D12.trans (I.o13 (D13.symm.trans h)).2⟩), s14 := (fun h h2 => by rw [U26, U24]; exact I.s14 (D14.symm.trans h) (D15.symm.trans h2)), s15 := (fun h => by rw [U27]; exact I.s15 (D15.symm.trans h)), o16 := (fun h => ⟨by rw [U3, U27]; exact (I.o16 (D16.symm.trans h)).1, D15.trans (I.o16 (D16.symm.trans h)).2⟩), i12 := (fun h => D6.trans (I.i12 (D12.symm.trans h))), i14 := (fun h => D12.trans (I.i14 (D14.symm.trans h))), i15 := (fun h => D14.trans (I.i15 (D15.symm.trans h))), all15 := (fun h => all_setO (I.all15 (D15.symm.trans h)) D10), p3 := (fun h => by have hh := I.p3 (D3.symm.trans h); exact ⟨D1.trans hh.1, D2.trans hh.2⟩), p4 := (fun h => by have hh := I.p4 (D4.symm.trans h); exact ⟨D1.trans hh.1, D2.trans hh.2.1, D3.trans hh.2.2⟩), p5 := (fun h => by have hh := I.p5 (D5.symm.trans h); exact ⟨D1.trans hh.1, D2.trans hh.2.1, D3.trans hh.2.2.1, D4.trans hh.2.2.2⟩), p9 := (fun h => by have hh := I.p9 (D9.symm.trans h); exact ⟨D7.trans hh.1, D8.trans hh.2⟩), p10 := (fun _ => ⟨D7.trans (I.p9 h9).1, D8.trans (I.p9 h9).2, D9.trans h9⟩), p11 := (fun h => by have hh := I.p11 (D11.symm.trans h); exact ⟨D7.trans hh.1, D8.trans hh.2.1, D9.trans hh.2.2.1, D10⟩), p12 := (fun h => D11.trans (I.p12 (D12.symm.trans h))), p13 := (fun h => D5.trans (I.p13 (D13.symm.trans h))), p14 := (fun h => D13.trans (I.p14 (D14.symm.trans h))) }⟩
    ·
     skip
     have D11 : (d.setIfInBounds 11 true).getD 11 false = true := getD_setG hun
     have F11 := getD_tfG hun
     have D0 : (d.setIfInBounds 11 true).getD 0 false = d.getD 0 false := getD_set_ne false (by decide)
     have D1 : (d.setIfInBounds 11 true).getD 1 false = d.getD 1 false := getD_set_ne false (by decide)
     have D2 : (d.setIfInBounds 11 true).getD 2 false = d.getD 2 false := getD_set_ne false (by decide)
     have D3 : (d.setIfInBounds 11 true).getD 3 false = d.getD 3 false := getD_set_ne false (by decide)
     have D4 : (d.setIfInBounds 11 true).getD 4 false = d.getD 4 false := getD_set_ne false (by decide)
     have D5 : (d.setIfInBounds 11 true).getD 5 false = d.getD 5 false := getD_set_ne false (by decide)
     have D6 : (d.setIfInBounds 11 true).getD 6 false = d.getD 6 false := getD_set_ne false (by decide)
     have D7 : (d.setIfInBounds 11 true).getD 7 false = d.getD 7 false := getD_set_ne false (by decide)
     have D8 : (d.setIfInBounds 11 true).getD 8 false = d.getD 8 false := getD_set_ne false (by decide)
     have D9 : (d.setIfInBounds 11 true).getD 9 false = d.getD 9 false := getD_set_ne false (by decide)
     have D10 : (d.setIfInBounds 11 true).getD 10 false = d.getD 10 false := getD_set_ne false (by decide)
     have D12 : (d.setIfInBounds 11 true).getD 12 false = d.getD 12 false := getD_set_ne false (by decide)
     have D13 : (d.setIfInBounds 11 true).getD 13 false = d.getD 13 false := getD_set_ne false (by decide)
     have D14 : (d.setIfInBounds 11 true).getD 14 false = d.getD 14 false := getD_set_ne false (by decide)
     have D15 : (d.setIfInBounds 11 true).getD 15 false = d.getD 15 false := getD_set_ne false (by decide)
     have D16 : (d.setIfInBounds 11 true).getD 16 false = d.getD 16 false := getD_set_ne false (by decide)
     have h10 := hall ⟨10, .data⟩ (by simp) rfl
     have e22 := I.o10 h10
     have U0 : updG us 23 (.slice a e.cs.length cp) 0 = us 0 := upd_otherG (by decide)
     have U1 : updG us 23 (.slice a e.cs.length cp) 1 = us 1 := upd_otherG (by decide)
     have U2 : updG us 23 (.slice a e.cs.length cp) 2 = us 2 := upd_otherG (by decide)
     have U3 : updG us 23 (.slice a e.cs.length cp) 3 = us 3 := upd_otherG (by decide)
     have U4 : updG us 23 (.slice a e.cs.length cp) 4 = us 4 := upd_otherG (by decide)
     have U5 : updG us 23 (.slice a e.cs.length cp) 5 = us 5 := upd_otherG (by decide)
     have U12 : updG us 23 (.slice a e.cs.length cp) 12 = us 12 := upd_otherG (by decide)
     have U13 : updG us 23 (.slice a e.cs.length cp) 13 = us 13 := upd_otherG (by decide)
     have U14 : updG us 23 (.slice a e.cs.length cp) 14 = us 14 := upd_otherG (by decide)
     have U15 : updG us 23 (.slice a e.cs.length cp) 15 = us 15 := upd_otherG (by decide)
     have U16 : updG us 23 (.slice a e.cs.length cp) 16 = us 16 := upd_otherG (by decide)
     have U17 : updG us 23 (.slice a e.cs.length cp) 17 = us 17 := upd_otherG (by decide)
     have U18 : updG us 23 (.slice a e.cs.length cp) 18 = us 18 := upd_otherG (by decide)
     have U19 : updG us 23 (.slice a e.cs.length cp) 19 = us 19 := upd_otherG (by decide)
     have U20 : updG us 23 (.slice a e.cs.length cp) 20 = us 20 := upd_otherG (by decide)
     have U21 : updG us 23 (.slice a e.cs.length cp) 21 = us 21 := upd_otherG (by decide)
     have U22 : updG us 23 (.slice a e.cs.length cp) 22 = us 22 := upd_otherG (by decide)
     have U23 : updG us 23 (.slice a e.cs.length cp) 23 = (.slice a e.cs.length cp) := upd_sameG _ _ _
     have U24 : updG us 23 (.slice a e.cs.length cp) 24 = us 24 := upd_otherG (by decide)
     have U25 : updG us 23 (.slice a e.cs.length cp) 25 = us 25 := upd_otherG (by decide)
     have U26 : updG us 23 (.slice a e.cs.length cp) 26 = us 26 := upd_otherG (by decide)
     have U27 : updG us 23 (.slice a e.cs.length cp) 27 = us 27 := upd_otherG (by decide)
     have U28 : updG us 23 (.slice a e.cs.length cp) 28 = us 28 := upd_otherG (by decide)
     have F15 : d.getD 15 false = false := by
      cases hh : d.getD 15 false with
      | false => rfl
      | true => have := I.all15 hh 11 (by decide); rw [F11] at this; cases this
     have q0 := P0 F15
     have q1 := P1 F15
     refine wpOp_step rfl (fun K hK => ?_)
     simp only [frOd, e0, e4, e1, e2, e5, e28, e22]
     go_simp
     refine hK _ _ ⟨updG us 23 (.slice a e.cs.length cp), by simp [frOd, updG, Act.put, e0, e4, e1, e2, e5, e28, e22], { u0 := (U0.trans I.u0), u4 := (U4.trans I.u4), u1 := (U1.trans I.u1), u2 := (U2.trans I.u2), u5 := (U5.trans I.u5), u28 := (U28.trans I.u28), u3 := (cO U3 I.u3 D16), o0 := (cO U12 I.o0 D0), o1 := (cO U13 I.o1 D1), o2 := (cO U14 I.o2 D2), o3 := (cO U15 I.o3 D3), o4 := (cO U16 I.o4 D4), o5 := (cO U17 I.o5 D5), o7 := (cO U19 I.o7 D7), o8 := (cO U20 I.o8 D8), o9 := (cO U21 I.o9 D9), o10 := (cO U22 I.o10 D10), o11 := (fun _ => U23), bel := (fun h => I.bel (D15.symm.trans h)), s6 := (fun h h2 => by rw [U18]; exact I.s6 (D6.symm.trans h) (D12.symm.trans h2)), s12 := (fun h h2 => by rw [U24]; exact I.s12 (D12.symm.trans h) (D15.symm.trans h2)), o13 := (fun h => ⟨by rw [U25, U24]; exact (I.o13 (D13.symm.trans h)).1, D12.trans (I.o13 (D13.symm.trans h)).2⟩), s14 := (fun h h2 => by rw [U26, U24]; exact I.s14 (D14.symm.trans h) (D15.symm.trans h2)), s15 := (fun h => by rw [U27]; exact I.s15 (D15.symm.trans h)), o16 := (fun h => ⟨by rw [U3, U27]; exact (I.o16 (D16.symm.trans h)).1, D15.trans (I.o16 (D16.symm.trans h)).2⟩), i12 := (fun h => D6.trans (I.i12 (D12.symm.trans h))), i14 := (fun h => D12.trans (I.i14 (D14.symm.trans h))), i15 := (fun h => D14.trans (I.i15 (D15.symm.trans h))), all15 := (fun h => all_setO (I.all15 (D15.symm.trans h)) D11), p3 := (fun h => by have hh := I.p3 (D3.symm.trans h); exact ⟨D1.trans hh.1, D2.trans hh.2⟩), p4 := (fun h => by have hh := I.p4 (D4.symm.trans h); exact ⟨D1.trans hh.1, D2.trans hh.2.1, D3.trans hh.2.2⟩), p5 := (fun h => by have hh := I.p5 (D5.symm.trans h); exact ⟨D1.trans hh.1, D2.trans hh.2.1, D3.trans hh.2.2.1, D4.trans hh.2.2.2⟩), p9 := (fun h => by have hh := I.p9 (D9.symm.trans h); exact ⟨D7.trans hh.1, D8.trans hh.2⟩), p10 := (fun h => by have hh := I.p10 (D10.symm.trans h); exact ⟨D7.trans hh.1, D8.trans hh.2.1, D9.trans hh.2.2⟩), p11 := (fun _ => ⟨D7.trans (I.p10 h10).1, D8.trans (I.p10 h10).2.1, D9.trans (I.p10 h10).2.2, D10.trans h10⟩), p12 := (fun h => D11), p13 := (fun h => D5.trans (I.p13 (D13.symm.trans h))), p14 := (fun h => D13.trans (I.p14 (D14.symm.trans h))) }⟩
    ·
     skip
     have D12 : (d.setIfInBounds 12 true).getD 12 false = true := getD_setG hun
     have F12 := getD_tfG hun
     have D0 : (d.setIfInBounds 12 true).getD 0 false = d.getD 0 false := getD_set_ne false (by decide)
     have D1 : (d.setIfInBounds 12 true).getD 1 false = d.getD 1 false := getD_set_ne false (by decide)
     have D2 : (d.setIfInBounds 12 true).getD 2 false = d.getD 2 false := getD_set_ne false (by decide)
     have D3 : (d.setIfInBounds 12 true).getD 3 false = d.getD 3 false := getD_set_ne false (by decide)
     have D4 : (d.setIfInBounds 12 true).getD 4 false = d.getD 4 false := getD_set_ne false (by decide)
     have D5 : (d.setIfInBounds 12 true).getD 5 false = d.getD 5 false := getD_set_ne false (by decide)
     have D6 : (d.setIfInBounds 12 true).getD 6 false = d.getD 6 false := getD_set_ne false (by decide)
     have D7 : (d.setIfInBounds 12 true).getD 7 false = d.getD 7 false := getD_set_ne false (by decide)
     have D8 : (d.setIfInBounds 12 true).getD 8 false = d.getD 8 false := getD_set_ne false (by decide)
     have D9 : (d.setIfInBounds 12 true).getD 9 false = d.getD 9 false := getD_set_ne false (by decide)
     have D10 : (d.setIfInBounds 12 true).getD 10 false = d.getD 10 false := getD_set_ne false (by decide)
     have D11 : (d.setIfInBounds 12 true).getD 11 false = d.getD 11 false := getD_set_ne false (by decide)
     have D13 : (d.setIfInBounds 12 true).getD 13 false = d.getD 13 false := getD_set_ne false (by decide)
     have D14 : (d.setIfInBounds 12 true).getD 14 false = d.getD 14 false := getD_set_ne false (by decide)
     have D15 : (d.setIfInBounds 12 true).getD 15 false = d.getD 15 false := getD_set_ne false (by decide)
     have D16 : (d.setIfInBounds 12 true).getD 16 false = d.getD 16 false := getD_set_ne false (by decide)
     have h6 := hall ⟨6, .data⟩ (by simp) rfl
     have h11 := hall ⟨11, .data⟩ (by simp) rfl
     have e23 := I.o11 h11
     obtain ⟨B, e18, hown⟩ := I.s6 h6 F12
     have F15 : d.getD 15 false = false := by
      cases hh : d.getD 15 false with
      | false => rfl
      | true => have := I.i14 (I.i15 hh); rw [F12] at this; cases this
     have hbel := I.bel F15
     have hsz := hbel.size
     refine wpOp_append_cls rfl rfl (.tmp 18) (.tmp 23) rfl w.heap.size (us 18) rfl hown a cp e.cs (by show us 23 = _; exact e23) (HCL.out W hbel) hc0 hc9 hsz ?_
     intro v2 W2 hR2 hB
     have U0 : updG us 24 (v2) 0 = us 0 := upd_otherG (by decide)
     have U1 : updG us 24 (v2) 1 = us 1 := upd_otherG (by decide)
     have U2 : updG us 24 (v2) 2 = us 2 := upd_otherG (by decide)
     have U3 : updG us 24 (v2) 3 = us 3 := upd_otherG (by decide)
     have U4 : updG us 24 (v2) 4 = us 4 := upd_otherG (by decide)
     have U5 : updG us 24 (v2) 5 = us 5 := upd_otherG (by decide)
     have U12 : updG us 24 (v2) 12 = us 12 := upd_otherG (by decide)
     have U13 : updG us 24 (v2) 13 = us 13 := upd_otherG (by decide)
     have U14 : updG us 24 (v2) 14 = us 14 := upd_otherG (by decide)
     have U15 : updG us 24 (v2) 15 = us 15 := upd_otherG (by decide)
     have U16 : updG us 24 (v2) 16 = us 16 := upd_otherG (by decide)
     have U17 : updG us 24 (v2) 17 = us 17 := upd_otherG (by decide)
     have U18 : updG us 24 (v2) 18 = us 18 := upd_otherG (by decide)
     have U19 : updG us 24 (v2) 19 = us 19 := upd_otherG (by decide)
     have U20 : updG us 24 (v2) 20 = us 20 := upd_otherG (by decide)
     have U21 : updG us 24 (v2) 21 = us 21 := upd_otherG (by decide)
     have U22 : updG us 24 (v2) 22 = us 22 := upd_otherG (by decide)
     have U23 : updG us 24 (v2) 23 = us 23 := upd_otherG (by decide)
     have U24 : updG us 24 (v2) 24 = (v2) := upd_sameG _ _ _
     have U25 : updG us 24 (v2) 25 = us 25 := upd_otherG (by decide)
     have U26 : updG us 24 (v2) 26 = us 26 := upd_otherG (by decide)
     have U27 : updG us 24 (v2) 27 = us 27 := upd_otherG (by decide)
     have U28 : updG us 24 (v2) 28 = us 28 := upd_otherG (by decide)
     exact ⟨updG us 24 (v2), by simp [frOd, updG, Act.put, e0, e4, e1, e2, e5, e28, e23], { u0 := (U0.trans I.u0), u4 := (U4.trans I.u4), u1 := (U1.trans I.u1), u2 := (U2.trans I.u2), u5 := (U5.trans I.u5), u28 := (U28.trans I.u28), u3 := (cO U3 I.u3 D16), o0 := (cO U12 I.o0 D0), o1 := (cO U13 I.o1 D1), o2 := (cO U14 I.o2 D2), o3 := (cO U15 I.o3 D3), o4 := (cO U16 I.o4 D4), o5 := (cO U17 I.o5 D5), o7 := (cO U19 I.o7 D7), o8 := (cO U20 I.o8 D8), o9 := (cO U21 I.o9 D9), o10 := (cO U22 I.o10 D10), o11 := (cO U23 I.o11 D11), bel := (fun _ => hbel.trans hB), s6 := (fun _ h => by rw [D12] at h; cases h), s12 := (fun _ _ => by rw [U24]; exact hR2), o13 := (fun h => by have := (I.o13 (D13.symm.trans h)).2; rw [F12] at this; cases this), s14 := (fun h _ => by have := I.i14 (D14.symm.trans h); rw [F12] at this; cases this), s15 := (fun h => by have := I.i14 (I.i15 (D15.symm.trans h)); rw [F12] at this; cases this), o16 := (fun h => ⟨by rw [U3, U27]; exact (I.o16 (D16.symm.trans h)).1, D15.trans (I.o16 (D16.symm.trans h)).2⟩), i12 := (fun _ => D6.trans h6), i14 := (fun _ => D12), i15 := (fun h => D14.trans (I.i15 (D15.symm.trans h))), all15 := (fun h => all_setO (I.all15 (D15.symm.trans h)) D12), p3 := (fun h => by have hh := I.p3 (D3.symm.trans h); exact ⟨D1.trans hh.1, D2.trans hh.2⟩), p4 := (fun h => by have hh := I.p4 (D4.symm.trans h); exact ⟨D1.trans hh.1, D2.trans hh.2.1, D3.trans hh.2.2⟩), p5 := (fun h => by have hh := I.p5 (D5.symm.trans h); exact ⟨D1.trans hh.1, D2.trans hh.2.1, D3.trans hh.2.2.1, D4.trans hh.2.2.2⟩), p9 := (fun h => by have hh := I.p9 (D9.symm.trans h); exact ⟨D7.trans hh.1, D8.trans hh.2⟩), p10 := (fun h => by have hh := I.p10 (D10.symm.trans h); exact ⟨D7.trans hh.1, D8.trans hh.2.1, D9.trans hh.2.2⟩), p11 := (fun h => by have hh := I.p11 (D11.symm.trans h); exact ⟨D7.trans hh.1, D8.trans hh.2.1, D9.trans hh.2.2.1, D10.trans hh.2.2.2⟩), p12 := (fun _ => D11.trans h11), p13 := (fun h => D5.trans (I.p13 (D13.symm.trans h))), p14 := (fun h => D13.trans (I.p14 (D14.symm.trans h))) }⟩
    ·
     skip
     have D13 : (d.setIfInBounds 13 true).getD 13 false = true := getD_setG hun
     have F13 := getD_tfG hun
     have D0 : (d.setIfInBounds 13 true).getD 0 false = d.getD 0 false := getD_set_ne false (by decide)
     have D1 : (d.setIfInBounds 13 true).getD 1 false = d.getD 1 false := getD_set_ne false (by decide)
     have D2 : (d.setIfInBounds 13 true).getD 2 false = d.getD 2 false := getD_set_ne false (by decide)
     have D3 : (d.setIfInBounds 13 true).getD 3 false = d.getD 3 false := getD_set_ne false (by decide)
     have D4 : (d.setIfInBounds 13 true).getD 4 false = d.getD 4 false := getD_set_ne false (by decide)
     have D5 : (d.setIfInBounds 13 true).getD 5 false = d.getD 5 false := getD_set_ne false (by decide)
     have D6 : (d.setIfInBounds 13 true).getD 6 false = d.getD 6 false := getD_set_ne false (by decide)
     have D7 : (d.setIfInBounds 13 true).getD 7 false = d.getD 7 false := getD_set_ne false (by decide)
     have D8 : (d.setIfInBounds 13 true).getD 8 false = d.getD 8 false := getD_set_ne false (by decide)
     have D9 : (d.setIfInBounds 13 true).getD 9 false = d.getD 9 false := getD_set_ne false (by decide)
     have D10 : (d.setIfInBounds 13 true).getD 10 false = d.getD 10 false := getD_set_ne false (by decide)
     have D11 : (d.setIfInBounds 13 true).getD 11 false = d.getD 11 false := getD_set_ne false (by decide)
     have D12 : (d.setIfInBounds 13 true).getD 12 false = d.getD 12 false := getD_set_ne false (by decide)
     have D14 : (d.setIfInBounds 13 true).getD 14 false = d.getD 14 false := getD_set_ne false (by decide)
     have D15 : (d.setIfInBounds 13 true).getD 15 false = d.getD 15 false := getD_set_ne false (by decide)
     have D16 : (d.setIfInBounds 13 true).getD 16 false = d.getD 16 false := getD_set_ne false (by decide)
     have h5 := hall ⟨5, .data⟩ (by simp) rfl
     have e17 := I.o5 h5
     have h12 := hall ⟨12, .data⟩ (by simp) rfl
     have F15 : d.getD 15 false = false := by
      cases hh : d.getD 15 false with
      | false => rfl
      | true => have := I.all15 hh 13 (by decide); rw [F13] at this; cases this
     obtain ⟨A1, c1, e24, _⟩ := I.s12 h12 F15
     have U0 : updG us 25 (.agg #[.int .i64 e.y, us 24]) 0 = us 0 := upd_otherG (by decide)
     have U1 : updG us 25 (.agg #[.int .i64 e.y, us 24]) 1 = us 1 := upd_otherG (by decide)
     have U2 : updG us 25 (.agg #[.int .i64 e.y, us 24]) 2 = us 2 := upd_otherG (by decide)
     have U3 : updG us 25 (.agg #[.int .i64 e.y, us 24]) 3 = us 3 := upd_otherG (by decide)
     have U4 : updG us 25 (.agg #[.int .i64 e.y, us 24]) 4 = us 4 := upd_otherG (by decide)
     have U5 : updG us 25 (.agg #[.int .i64 e.y, us 24]) 5 = us 5 := upd_otherG (by decide)
     have U12 : updG us 25 (.agg #[.int .i64 e.y, us 24]) 12 = us 12 := upd_otherG (by decide)
     have U13 : updG us 25 (.agg #[.int .i64 e.y, us 24]) 13 = us 13 := upd_otherG (by decide)
     have U14 : updG us 25 (.agg #[.int .i64 e.y, us 24]) 14 = us 14 := upd_otherG (by decide)
     have U15 : updG us 25 (.agg #[.int .i64 e.y, us 24]) 15 = us 15 := upd_otherG (by decide)
     have U16 : updG us 25 (.agg #[.int .i64 e.y, us 24]) 16 = us 16 := upd_otherG (by decide)
     have U17 : updG us 25 (.agg #[.int .i64 e.y, us 24]) 17 = us 17 := upd_otherG (by decide)
     have U18 : updG us 25 (.agg #[.int .i64 e.y, us 24]) 18 = us 18 := upd_otherG (by decide)
     have U19 : updG us 25 (.agg #[.int .i64 e.y, us 24]) 19 = us 19 := upd_otherG (by decide)
     have U20 : updG us 25 (.agg #[.int .i64 e.y, us 24]) 20 = us 20 := upd_otherG (by decide)
     have U21 : updG us 25 (.agg #[.int .i64 e.y, us 24]) 21 = us 21 := upd_otherG (by decide)
     have U22 : updG us 25 (.agg #[.int .i64 e.y, us 24]) 22 = us 22 := upd_otherG (by decide)
     have U23 : updG us 25 (.agg #[.int .i64 e.y, us 24]) 23 = us 23 := upd_otherG (by decide)
     have U24 : updG us 25 (.agg #[.int .i64 e.y, us 24]) 24 = us 24 := upd_otherG (by decide)
     have U25 : updG us 25 (.agg #[.int .i64 e.y, us 24]) 25 = (.agg #[.int .i64 e.y, us 24]) := upd_sameG _ _ _
     have U26 : updG us 25 (.agg #[.int .i64 e.y, us 24]) 26 = us 26 := upd_otherG (by decide)
     have U27 : updG us 25 (.agg #[.int .i64 e.y, us 24]) 27 = us 27 := upd_otherG (by decide)
     have U28 : updG us 25 (.agg #[.int .i64 e.y, us 24]) 28 = us 28 := upd_otherG (by decide)
     refine wpOp_step rfl (fun K hK => ?_)
     simp only [frOd, e0, e4, e1, e2, e5, e28, e17, e24]
     go_simp
     refine hK _ _ ⟨updG us 25 (.agg #[.int .i64 e.y, us 24]), by simp [frOd, updG, Act.put, e0, e4, e1, e2, e5, e28, e17, e24], { u0 := (U0.trans I.u0), u4 := (U4.trans I.u4), u1 := (U1.trans I.u1), u2 := (U2.trans I.u2), u5 := (U5.trans I.u5), u28 := (U28.trans I.u28), u3 := (cO U3 I.u3 D16), o0 := (cO U12 I.o0 D0), o1 := (cO U13 I.o1 D1), o2 := (cO U14 I.o2 D2), o3 := (cO U15 I.o3 D3), o4 := (cO U16 I.o4 D4), o5 := (cO U17 I.o5 D5), o7 := (cO U19 I.o7 D7), o8 := (cO U20 I.o8 D8), o9 := (cO U21 I.o9 D9), o10 := (cO U22 I.o10 D10), o11 := (cO U23 I.o11 D11), bel := (fun h => I.bel (D15.symm.trans h)), s6 := (fun h h2 => by rw [U18]; exact I.s6 (D6.symm.trans h) (D12.symm.trans h2)), s12 := (fun h h2 => by rw [U24]; exact I.s12 (D12.symm.trans h) (D15.symm.trans h2)), o13 := (fun _ => ⟨by rw [U25, U24], D12.trans h12⟩), s14 := (fun h h2 => by rw [U26, U24]; exact I.s14 (D14.symm.trans h) (D15.symm.trans h2)), s15 := (fun h => by rw [U27]; exact I.s15 (D15.symm.trans h)), o16 := (fun h => ⟨by rw [U3, U27]; exact (I.o16 (D16.symm.trans h)).1, D15.trans (I.o16 (D16.symm.trans h)).2⟩), i12 := (fun h => D6.trans (I.i12 (D12.symm.trans h))), i14 := (fun h => D12.trans (I.i14 (D14.symm.trans h))), i15 := (fun h => D14.trans (I.i15 (D15.symm.trans h))), all15 := (fun h => all_setO (I.all15 (D15.symm.trans h)) D13), p3 := (fun h => by have hh := I.p3 (D3.symm.trans h); exact ⟨D1.trans hh.1, D2.trans hh.2⟩), p4 := (fun h => by have hh := I.p4 (D4.symm.trans h); exact ⟨D1.trans hh.1, D2.trans hh.2.1, D3.trans hh.2.2⟩), p5 := (fun h => by have hh := I.p5 (D5.symm.trans h); exact ⟨D1.trans hh.1, D2.trans hh.2.1, D3.trans hh.2.2.1, D4.trans hh.2.2.2⟩), p9 := (fun h => by have hh := I.p9 (D9.symm.trans h); exact ⟨D7.trans hh.1, D8.trans hh.2⟩), p10 := (fun h => by have hh := I.p10 (D10.symm.trans h); exact ⟨D7.trans hh.1, D8.trans hh.2.1, D9.trans hh.2.2⟩), p11 := (fun h => by have hh := I.p11 (D11.symm.trans h); exact ⟨D7.trans hh.1, D8.trans hh.2.1, D9.trans hh.2.2.1, D10.trans hh.2.2.2⟩), p12 := (fun h => D11.trans (I.p12 (D12.symm.trans h))), p13 := (fun _ => D5.trans h5), p14 := (fun h => D13) }⟩
    ·
     skip
     have D14 : (d.setIfInBounds 14 true).getD 14 false = true := getD_setG hun
     have F14 := getD_tfG hun
     have D0 : (d.setIfInBounds 14 true).getD 0 false = d.getD 0 false := getD_set_ne false (by decide)
     have D1 : (d.setIfInBounds 14 true).getD 1 false = d.getD 1 false := getD_set_ne false (by decide)
     have D2 : (d.setIfInBounds 14 true).getD 2 false = d.getD 2 false := getD_set_ne false (by decide)
     have D3 : (d.setIfInBounds 14 true).getD 3 false = d.getD 3 false := getD_set_ne false (by decide)
     have D4 : (d.setIfInBounds 14 true).getD 4 false = d.getD 4 false := getD_set_ne false (by decide)
     have D5 : (d.setIfInBounds 14 true).getD 5 false = d.getD 5 false := getD_set_ne false (by decide)
     have D6 : (d.setIfInBounds 14 true).getD 6 false = d.getD 6 false := getD_set_ne false (by decide)
     have D7 : (d.setIfInBounds 14 true).getD 7 false = d.getD 7 false := getD_set_ne false (by decide)
     have D8 : (d.setIfInBounds 14 true).getD 8 false = d.getD 8 false := getD_set_ne false (by decide)
     have D9 : (d.setIfInBounds 14 true).getD 9 false = d.getD 9 false := getD_set_ne false (by decide)
     have D10 : (d.setIfInBounds 14 true).getD 10 false = d.getD 10 false := getD_set_ne false (by decide)
     have D11 : (d.setIfInBounds 14 true).getD 11 false = d.getD 11 false := getD_set_ne false (by decide)
     have D12 : (d.setIfInBounds 14 true).getD 12 false = d.getD 12 false := getD_set_ne false (by decide)
     have D13 : (d.setIfInBounds 14 true).getD 13 false = d.getD 13 false := getD_set_ne false (by decide)
     have D15 : (d.setIfInBounds 14 true).getD 15 false = d.getD 15 false := getD_set_ne false (by decide)
     have D16 : (d.setIfInBounds 14 true).getD 16 false = d.getD 16 false := getD_set_ne false (by decide)
     have h13 := hall ⟨13, .data⟩ (by simp) rfl
     have F15 : d.getD 15 false = false := by
      cases hh : d.getD 15 false with
      | false => rfl
      | true => have := I.i15 hh; rw [F14] at this; cases this
     have hbel := I.bel F15
     have hsz := hbel.size
     obtain ⟨e25, h12⟩ := I.o13 h13
     have G12 := I.s12 h12 F15
     have U0 : updG us 26 (.slice (some ⟨W.heap.size, 0, none⟩) 1 1) 0 = us 0 := upd_otherG (by decide)
     have U1 : updG us 26 (.slice (some ⟨W.heap.size, 0, none⟩) 1 1) 1 = us 1 := upd_otherG (by decide)
     have U2 : updG us 26 (.slice (some ⟨W.heap.size, 0, none⟩) 1 1) 2 = us 2 := upd_otherG (by decide)
     have U3 : updG us 26 (.slice (some ⟨W.heap.size, 0, none⟩) 1 1) 3 = us 3 := upd_otherG (by decide)
     have U4 : updG us 26 (.slice (some ⟨W.heap.size, 0, none⟩) 1 1) 4 = us 4 := upd_otherG (by decide)
     have U5 : updG us 26 (.slice (some ⟨W.heap.size, 0, none⟩) 1 1) 5 = us 5 := upd_otherG (by decide)
     have U12 : updG us 26 (.slice (some ⟨W.heap.size, 0, none⟩) 1 1) 12 = us 12 := upd_otherG (by decide)
     have U13 : updG us 26 (.slice (some ⟨W.heap.size, 0, none⟩) 1 1) 13 = us 13 := upd_otherG (by decide)
     have U14 : updG us 26 (.slice (some ⟨W.heap.size, 0, none⟩) 1 1) 14 = us 14 := upd_otherG (by decide)
     have U15 : updG us 26 (.slice (some ⟨W.heap.size, 0, none⟩) 1 1) 15 = us 15 := upd_otherG (by decide)
     have U16 : updG us 26 (.slice (some ⟨W.heap.size, 0, none⟩) 1 1) 16 = us 16 := upd_otherG (by decide)
     have U17 : updG us 26 (.slice (some ⟨W.heap.size, 0, none⟩) 1 1) 17 = us 17 := upd_otherG (by decide)
     have U18 : updG us 26 (.slice (some ⟨W.heap.size, 0, none⟩) 1 1) 18 = us 18 := upd_otherG (by decide)
     have U19 : updG us 26 (.slice (some ⟨W.heap.size, 0, none⟩) 1 1) 19 = us 19 := upd_otherG (by decide)
     have U20 : updG us 26 (.slice (some ⟨W.heap.size, 0, none⟩) 1 1) 20 = us 20 := upd_otherG (by decide)
     have U21 : updG us 26 (.slice (some ⟨W.heap.size, 0, none⟩) 1 1) 21 = us 21 := upd_otherG (by decide)
     have U22 : updG us 26 (.slice (some ⟨W.heap.size, 0, none⟩) 1 1) 22 = us 22 := upd_otherG (by decide)
     have U23 : updG us 26 (.slice (some ⟨W.heap.size, 0, none⟩) 1 1) 23 = us 23 := upd_otherG (by decide)
     have U24 : updG us 26 (.slice (some ⟨W.heap.size, 0, none⟩) 1 1) 24 = us 24 := upd_otherG (by decide)
     have U25 : updG us 26 (.slice (some ⟨W.heap.size, 0, none⟩) 1 1) 25 = us 25 := upd_otherG (by decide)
     have U26 : updG us 26 (.slice (some ⟨W.heap.size, 0, none⟩) 1 1) 26 = (.slice (some ⟨W.heap.size, 0, none⟩) 1 1) := upd_sameG _ _ _
     have U27 : updG us 26 (.slice (some ⟨W.heap.size, 0, none⟩) 1 1) 27 = us 27 := upd_otherG (by decide)
     have U28 : updG us 26 (.slice (some ⟨W.heap.size, 0, none⟩) 1 1) 28 = us 28 := upd_otherG (by decide)
     refine wpOp_step rfl (fun K hK => ?_)
     simp only [frOd, e0, e4, e1, e2, e5, e28, e25]
     go_simp
     refine hK _ _ ⟨updG us 26 (.slice (some ⟨W.heap.size, 0, none⟩) 1 1), by simp [frOd, updG, Act.put, e0, e4, e1, e2, e5, e28, e25], { u0 := (U0.trans I.u0), u4 := (U4.trans I.u4), u1 := (U1.trans I.u1), u2 := (U2.trans I.u2), u5 := (U5.trans I.u5), u28 := (U28.trans I.u28), u3 := (cO U3 I.u3 D16), o0 := (cO U12 I.o0 D0), o1 := (cO U13 I.o1 D1), o2 := (cO U14 I.o2 D2), o3 := (cO U15 I.o3 D3), o4 := (cO U16 I.o4 D4), o5 := (cO U17 I.o5 D5), o7 := (cO U19 I.o7 D7), o8 := (cO U20 I.o8 D8), o9 := (cO U21 I.o9 D9), o10 := (cO U22 I.o10 D10), o11 := (cO U23 I.o11 D11), bel := (fun _ => hbel.alloc hsz _), s6 := (fun _ h => absurd h12 (by rw [D12.symm.trans h]; exact Bool.false_ne_true)), s12 := (fun _ _ => by rw [U24]; exact G12.below (below_alloc _ _)), o13 := (fun h => ⟨by rw [U25, U24]; exact (I.o13 (D13.symm.trans h)).1, D12.trans (I.o13 (D13.symm.trans h)).2⟩), s14 := (fun _ _ => ⟨W.heap.size, U26, by rw [U24]; exact heap_alloc_new W _, hsz⟩), s15 := (fun h => by have := I.i15 (D15.symm.trans h); rw [F14] at this; cases this), o16 := (fun h => ⟨by rw [U3, U27]; exact (I.o16 (D16.symm.trans h)).1, D15.trans (I.o16 (D16.symm.trans h)).2⟩), i12 := (fun h => D6.trans (I.i12 (D12.symm.trans h))), i14 := (fun _ => D12.trans (I.o13 h13).2), i15 := (fun _ => D14), all15 := (fun h => all_setO (I.all15 (D15.symm.trans h)) D14), p3 := (fun h => by have hh := I.p3 (D3.symm.trans h); exact ⟨D1.trans hh.1, D2.trans hh.2⟩), p4 := (fun h => by have hh := I.p4 (D4.symm.trans h); exact ⟨D1.trans hh.1, D2.trans hh.2.1, D3.trans hh.2.2⟩), p5 := (fun h => by have hh := I.p5 (D5.symm.trans h); exact ⟨D1.trans hh.1, D2.trans hh.2.1, D3.trans hh.2.2.1, D4.trans hh.2.2.2⟩), p9 := (fun h => by have hh := I.p9 (D9.symm.trans h); exact ⟨D7.trans hh.1, D8.trans hh.2⟩), p10 := (fun h => by have hh := I.p10 (D10.symm.trans h); exact ⟨D7.trans hh.1, D8.trans hh.2.1, D9.trans hh.2.2⟩), p11 := (fun h => by have hh := I.p11 (D11.symm.trans h); exact ⟨D7.trans hh.1, D8.trans hh.2.1, D9.trans hh.2.2.1, D10.trans hh.2.2.2⟩), p12 := (fun h => D11.trans (I.p12 (D12.symm.trans h))), p13 := (fun h => D5.trans (I.p13 (D13.symm.trans h))), p14 := (fun _ => D13.trans h13) }⟩
    ·
     skip
     have D15 : (d.setIfInBounds 15 true).getD 15 false = true := getD_setG hun
     have F15 := getD_tfG hun
     have D0 : (d.setIfInBounds 15 true).getD 0 false = d.getD 0 false := getD_set_ne false (by decide)
     have D1 : (d.setIfInBounds 15 true).getD 1 false = d.getD 1 false := getD_set_ne false (by decide)
     have D2 : (d.setIfInBounds 15 true).getD 2 false = d.getD 2 false := getD_set_ne false (by decide)
     have D3 : (d.setIfInBounds 15 true).getD 3 false = d.getD 3 false := getD_set_ne false (by decide)
     have D4 : (d.setIfInBounds 15 true).getD 4 false = d.getD 4 false := getD_set_ne false (by decide)
     have D5 : (d.setIfInBounds 15 true).getD 5 false = d.getD 5 false := getD_set_ne false (by decide)
     have D6 : (d.setIfInBounds 15 true).getD 6 false = d.getD 6 false := getD_set_ne false (by decide)
     have D7 : (d.setIfInBounds 15 true).getD 7 false = d.getD 7 false := getD_set_ne false (by decide)
     have D8 : (d.setIfInBounds 15 true).getD 8 false = d.getD 8 false := getD_set_ne false (by decide)
     have D9 : (d.setIfInBounds 15 true).getD 9 false = d.getD 9 false := getD_set_ne false (by decide)
     have D10 : (d.setIfInBounds 15 true).getD 10 false = d.getD 10 false := getD_set_ne false (by decide)
     have D11 : (d.setIfInBounds 15 true).getD 11 false = d.getD 11 false := getD_set_ne false (by decide)
     have D12 : (d.setIfInBounds 15 true).getD 12 false = d.getD 12 false := getD_set_ne false (by decide)
     have D13 : (d.setIfInBounds 15 true).getD 13 false = d.getD 13 false := getD_set_ne false (by decide)
     have D14 : (d.setIfInBounds 15 true).getD 14 false = d.getD 14 false := getD_set_ne false (by decide)
     have D16 : (d.setIfInBounds 15 true).getD 16 false = d.getD 16 false := getD_set_ne false (by decide)
     have h0 := hall ⟨0, .data⟩ (by simp) rfl
     have e12 := I.o0 h0
     have h14 := hall ⟨14, .data⟩ (by simp) rfl
     have hbel := I.bel F15
     have hsz := hbel.size
     obtain ⟨B, e26, hB, hBl⟩ := I.s14 h14 F15
     have h12 := I.i14 h14
     obtain ⟨A1, c1, e24, ho⟩ := I.s12 h12 F15
     rw [e24] at hB
     have hrow : EdhO W lo O gs.length q gs := (HOW.out.below hbel)
     have hRB : EdhR W (some ⟨B, 0, none⟩) [⟨e.y, A1, e.cs.length, c1⟩] := fun _ => ⟨B, 0, rfl, lt_some hB, fun j v hj => by
      rw [Nat.zero_add, cell_of_row _ _ _ _ _ _ hB]
      simpa [Edh.cells] using hj⟩
     refine wpOp_append_edh rfl rfl (.tmp 12) (.tmp 26) rfl lo O gs.length q gs (by show us 12 = _; exact e12) hrow (some ⟨B, 0, none⟩) 1 [⟨e.y, A1, e.cs.length, c1⟩] (by show us 26 = _; exact e26) hRB (.inr ⟨_, _, rfl⟩) (by simp; omega) (Nat.le_trans hlo hsz) ?_
     intro O' q' W2 hR2 hg2 hk2
     have U0 : updG us 27 (.slice O' (gs.length + 1) q') 0 = us 0 := upd_otherG (by decide)
     have U1 : updG us 27 (.slice O' (gs.length + 1) q') 1 = us 1 := upd_otherG (by decide)
     have U2 : updG us 27 (.slice O' (gs.length + 1) q') 2 = us 2 := upd_otherG (by decide)
     have U3 : updG us 27 (.slice O' (gs.length + 1) q') 3 = us 3 := upd_otherG (by decide)
     have U4 : updG us 27 (.slice O' (gs.length + 1) q') 4 = us 4 := upd_otherG (by decide)
     have U5 : updG us 27 (.slice O' (gs.length + 1) q') 5 = us 5 := upd_otherG (by decide)
     have U12 : updG us 27 (.slice O' (gs.length + 1) q') 12 = us 12 := upd_otherG (by decide)
     have U13 : updG us 27 (.slice O' (gs.length + 1) q') 13 = us 13 := upd_otherG (by decide)
     have U14 : updG us 27 (.slice O' (gs.length + 1) q') 14 = us 14 := upd_otherG (by decide)
     have U15 : updG us 27 (.slice O' (gs.length + 1) q') 15 = us 15 := upd_otherG (by decide)
     have U16 : updG us 27 (.slice O' (gs.length + 1) q') 16 = us 16 := upd_otherG (by decide)
     have U17 : updG us 27 (.slice O' (gs.length + 1) q') 17 = us 17 := upd_otherG (by decide)
     have U18 : updG us 27 (.slice O' (gs.length + 1) q') 18 = us 18 := upd_otherG (by decide)
     have U19 : updG us 27 (.slice O' (gs.length + 1) q') 19 = us 19 := upd_otherG (by decide)
     have U20 : updG us 27 (.slice O' (gs.length + 1) q') 20 = us 20 := upd_otherG (by decide)
     have U21 : updG us 27 (.slice O' (gs.length + 1) q') 21 = us 21 := upd_otherG (by decide)
     have U22 : updG us 27 (.slice O' (gs.length + 1) q') 22 = us 22 := upd_otherG (by decide)
     have U23 : updG us 27 (.slice O' (gs.length + 1) q') 23 = us 23 := upd_otherG (by decide)
     have U24 : updG us 27 (.slice O' (gs.length + 1) q') 24 = us 24 := upd_otherG (by decide)
     have U25 : updG us 27 (.slice O' (gs.length + 1) q') 25 = us 25 := upd_otherG (by decide)
     have U26 : updG us 27 (.slice O' (gs.length + 1) q') 26 = us 26 := upd_otherG (by decide)
     have U27 : updG us 27 (.slice O' (gs.length + 1) q') 27 = (.slice O' (gs.length + 1) q') := upd_sameG _ _ _
     have U28 : updG us 27 (.slice O' (gs.length + 1) q') 28 = us 28 := upd_otherG (by decide)
     obtain ⟨_, h12'⟩ := I.o13 (I.p14 h14)
     have hc : ∀ j, j < 15 -> d.getD j false = true := by
      have p13 := I.p13 (I.p14 h14)
      have p12 := I.p12 h12
      have p5 := I.p5 p13
      have p11 := I.p11 p12
      intro j hj
      rcases (by omega : j = 0 ∨ j = 1 ∨ j = 2 ∨ j = 3 ∨ j = 4 ∨ j = 5 ∨ j = 6 ∨ j = 7 ∨ j = 8 ∨ j = 9 ∨ j = 10 ∨ j = 11 ∨ j = 12 ∨ j = 13 ∨ j = 14) with rfl | rfl | rfl | rfl | rfl | rfl | rfl | rfl | rfl | rfl | rfl | rfl | rfl | rfl | rfl
      ·
       exact h0
      ·
       exact p5.1
      ·
       exact p5.2.1
      ·
       exact p5.2.2.1
      ·
       exact p5.2.2.2
      ·
       exact p13
      ·
       exact I.i12 h12
      ·
       exact p11.1
      ·
       exact p11.2.1
      ·
       exact p11.2.2.1
      ·
       exact p11.2.2.2
      ·
       exact p12
      ·
       exact h12
      ·
       exact I.p14 h14
      ·
       exact h14
     exact ⟨updG us 27 (.slice O' (gs.length + 1) q'), by simp [frOd, updG, Act.put, e0, e4, e1, e2, e5, e28, e12], { u0 := (U0.trans I.u0), u4 := (U4.trans I.u4), u1 := (U1.trans I.u1), u2 := (U2.trans I.u2), u5 := (U5.trans I.u5), u28 := (U28.trans I.u28), u3 := (cO U3 I.u3 D16), o0 := (cO U12 I.o0 D0), o1 := (cO U13 I.o1 D1), o2 := (cO U14 I.o2 D2), o3 := (cO U15 I.o3 D3), o4 := (cO U16 I.o4 D4), o5 := (cO U17 I.o5 D5), o7 := (cO U19 I.o7 D7), o8 := (cO U20 I.o8 D8), o9 := (cO U21 I.o9 D9), o10 := (cO U22 I.o10 D10), o11 := (cO U23 I.o11 D11), bel := (fun h => by rw [D15] at h; cases h), s6 := (fun _ h => absurd h12 (by rw [D12.symm.trans h]; exact Bool.false_ne_true)), s12 := (fun _ h => by rw [D15] at h; cases h), o13 := (fun h => ⟨by rw [U25, U24]; exact (I.o13 (D13.symm.trans h)).1, D12.trans (I.o13 (D13.symm.trans h)).2⟩), s14 := (fun _ h => by rw [D15] at h; cases h), s15 := (fun _ => ⟨W, A1, c1, O', q', hbel, ho, hg2, U27, hR2, hk2⟩), o16 := (fun h => by have := (I.o16 (D16.symm.trans h)).2; rw [F15] at this; cases this), i12 := (fun h => D6.trans (I.i12 (D12.symm.trans h))), i14 := (fun h => D12.trans (I.i14 (D14.symm.trans h))), i15 := (fun _ => D14.trans h14), all15 := (fun _ => all_setO hc D15), p3 := (fun h => by have hh := I.p3 (D3.symm.trans h); exact ⟨D1.trans hh.1, D2.trans hh.2⟩), p4 := (fun h => by have hh := I.p4 (D4.symm.trans h); exact ⟨D1.trans hh.1, D2.trans hh.2.1, D3.trans hh.2.2⟩), p5 := (fun h => by have hh := I.p5 (D5.symm.trans h); exact ⟨D1.trans hh.1, D2.trans hh.2.1, D3.trans hh.2.2.1, D4.trans hh.2.2.2⟩), p9 := (fun h => by have hh := I.p9 (D9.symm.trans h); exact ⟨D7.trans hh.1, D8.trans hh.2⟩), p10 := (fun h => by have hh := I.p10 (D10.symm.trans h); exact ⟨D7.trans hh.1, D8.trans hh.2.1, D9.trans hh.2.2⟩), p11 := (fun h => by have hh := I.p11 (D11.symm.trans h); exact ⟨D7.trans hh.1, D8.trans hh.2.1, D9.trans hh.2.2.1, D10.trans hh.2.2.2⟩), p12 := (fun h => D11.trans (I.p12 (D12.symm.trans h))), p13 := (fun h => D5.trans (I.p13 (D13.symm.trans h))), p14 := (fun h => D13.trans (I.p14 (D14.symm.trans h))) }⟩
    ·
     skip
     have D16 : (d.setIfInBounds 16 true).getD 16 false = true := getD_setG hun
     have F16 := getD_tfG hun
     have D0 : (d.setIfInBounds 16 true).getD 0 false = d.getD 0 false := getD_set_ne false (by decide)
     have D1 : (d.setIfInBounds 16 true).getD 1 false = d.getD 1 false := getD_set_ne false (by decide)
     have D2 : (d.setIfInBounds 16 true).getD 2 false = d.getD 2 false := getD_set_ne false (by decide)
     have D3 : (d.setIfInBounds 16 true).getD 3 false = d.getD 3 false := getD_set_ne false (by decide)
     have D4 : (d.setIfInBounds 16 true).getD 4 false = d.getD 4 false := getD_set_ne false (by decide)
     have D5 : (d.setIfInBounds 16 true).getD 5 false = d.getD 5 false := getD_set_ne false (by decide)
     have D6 : (d.setIfInBounds 16 true).getD 6 false = d.getD 6 false := getD_set_ne false (by decide)
     have D7 : (d.setIfInBounds 16 true).getD 7 false = d.getD 7 false := getD_set_ne false (by decide)
     have D8 : (d.setIfInBounds 16 true).getD 8 false = d.getD 8 false := getD_set_ne false (by decide)
     have D9 : (d.setIfInBounds 16 true).getD 9 false = d.getD 9 false := getD_set_ne false (by decide)
     have D10 : (d.setIfInBounds 16 true).getD 10 false = d.getD 10 false := getD_set_ne false (by decide)
     have D11 : (d.setIfInBounds 16 true).getD 11 false = d.getD 11 false := getD_set_ne false (by decide)
     have D12 : (d.setIfInBounds 16 true).getD 12 false = d.getD 12 false := getD_set_ne false (by decide)
     have D13 : (d.setIfInBounds 16 true).getD 13 false = d.getD 13 false := getD_set_ne false (by decide)
     have D14 : (d.setIfInBounds 16 true).getD 14 false = d.getD 14 false := getD_set_ne false (by decide)
     have D15 : (d.setIfInBounds 16 true).getD 15 false = d.getD 15 false := getD_set_ne false (by decide)
     have h15 := hall ⟨15, .data⟩ (by simp) rfl
     have G15 := I.s15 h15
     have U0 : updG us 3 (us 27) 0 = us 0 := upd_otherG (by decide)
     have U1 : updG us 3 (us 27) 1 = us 1 := upd_otherG (by decide)
     have U2 : updG us 3 (us 27) 2 = us 2 := upd_otherG (by decide)
     have U3 : updG us 3 (us 27) 3 = (us 27) := upd_sameG _ _ _
     have U4 : updG us 3 (us 27) 4 = us 4 := upd_otherG (by decide)
     have U5 : updG us 3 (us 27) 5 = us 5 := upd_otherG (by decide)
     have U12 : updG us 3 (us 27) 12 = us 12 := upd_otherG (by decide)
     have U13 : updG us 3 (us 27) 13 = us 13 := upd_otherG (by decide)
     have U14 : updG us 3 (us 27) 14 = us 14 := upd_otherG (by decide)
     have U15 : updG us 3 (us 27) 15 = us 15 := upd_otherG (by decide)
     have U16 : updG us 3 (us 27) 16 = us 16 := upd_otherG (by decide)
     have U17 : updG us 3 (us 27) 17 = us 17 := upd_otherG (by decide)
     have U18 : updG us 3 (us 27) 18 = us 18 := upd_otherG (by decide)
     have U19 : updG us 3 (us 27) 19 = us 19 := upd_otherG (by decide)
     have U20 : updG us 3 (us 27) 20 = us 20 := upd_otherG (by decide)
     have U21 : updG us 3 (us 27) 21 = us 21 := upd_otherG (by decide)
     have U22 : updG us 3 (us 27) 22 = us 22 := upd_otherG (by decide)
     have U23 : updG us 3 (us 27) 23 = us 23 := upd_otherG (by decide)
     have U24 : updG us 3 (us 27) 24 = us 24 := upd_otherG (by decide)
     have U25 : updG us 3 (us 27) 25 = us 25 := upd_otherG (by decide)
     have U26 : updG us 3 (us 27) 26 = us 26 := upd_otherG (by decide)
     have U27 : updG us 3 (us 27) 27 = us 27 := upd_otherG (by decide)
     have U28 : updG us 3 (us 27) 28 = us 28 := upd_otherG (by decide)
     refine wpOp_step rfl (fun K hK => ?_)
     simp only [frOd, e0, e4, e1, e2, e5, e28]
     go_simp
     refine hK _ _ ⟨updG us 3 (us 27), by simp [frOd, updG, Act.put, e0, e4, e1, e2, e5, e28], { u0 := (U0.trans I.u0), u4 := (U4.trans I.u4), u1 := (U1.trans I.u1), u2 := (U2.trans I.u2), u5 := (U5.trans I.u5), u28 := (U28.trans I.u28), u3 := (fun h => by rw [D16] at h; cases h), o0 := (cO U12 I.o0 D0), o1 := (cO U13 I.o1 D1), o2 := (cO U14 I.o2 D2), o3 := (cO U15 I.o3 D3), o4 := (cO U16 I.o4 D4), o5 := (cO U17 I.o5 D5), o7 := (cO U19 I.o7 D7), o8 := (cO U20 I.o8 D8), o9 := (cO U21 I.o9 D9), o10 := (cO U22 I.o10 D10), o11 := (cO U23 I.o11 D11), bel := (fun h => I.bel (D15.symm.trans h)), s6 := (fun h h2 => by rw [U18]; exact I.s6 (D6.symm.trans h) (D12.symm.trans h2)), s12 := (fun h h2 => by rw [U24]; exact I.s12 (D12.symm.trans h) (D15.symm.trans h2)), o13 := (fun h => ⟨by rw [U25, U24]; exact (I.o13 (D13.symm.trans h)).1, D12.trans (I.o13 (D13.symm.trans h)).2⟩), s14 := (fun h h2 => by rw [U26, U24]; exact I.s14 (D14.symm.trans h) (D15.symm.trans h2)), s15 := (fun h => by rw [U27]; exact I.s15 (D15.symm.trans h)), o16 := (fun _ => ⟨by rw [U3, U27], D15.trans h15⟩), i12 := (fun h => D6.trans (I.i12 (D12.symm.trans h))), i14 := (fun h => D12.trans (I.i14 (D14.symm.trans h))), i15 := (fun h => D14.trans (I.i15 (D15.symm.trans h))), all15 := (fun h => all_setO (I.all15 (D15.symm.trans h)) D16), p3 := (fun h => by have hh := I.p3 (D3.symm.trans h); exact ⟨D1.trans hh.1, D2.trans hh.2⟩), p4 := (fun h => by have hh := I.p4 (D4.symm.trans h); exact ⟨D1.trans hh.1, D2.trans hh.2.1, D3.trans hh.2.2⟩), p5 := (fun h => by have hh := I.p5 (D5.symm.trans h); exact ⟨D1.trans hh.1, D2.trans hh.2.1, D3.trans hh.2.2.1, D4.trans hh.2.2.2⟩), p9 := (fun h => by have hh := I.p9 (D9.symm.trans h); exact ⟨D7.trans hh.1, D8.trans hh.2⟩), p10 := (fun h => by have hh := I.p10 (D10.symm.trans h); exact ⟨D7.trans hh.1, D8.trans hh.2.1, D9.trans hh.2.2⟩), p11 := (fun h => by have hh := I.p11 (D11.symm.trans h); exact ⟨D7.trans hh.1, D8.trans hh.2.1, D9.trans hh.2.2.1, D10.trans hh.2.2.2⟩), p12 := (fun h => D11.trans (I.p12 (D12.symm.trans h))), p13 := (fun h => D5.trans (I.p13 (D13.symm.trans h))), p14 := (fun h => D13.trans (I.p14 (D14.symm.trans h))) }⟩
   ·
    intro d a' W hd hall hI
    obtain ⟨us, rfl, I⟩ := hI
    have DD : ∀ k, k < 17 -> d.getD k false = true := fun k hk => by
     have := hall k hk
     have hk2 : k < d.size := by rw [hd]; exact hk
     simp [hk2] at this ⊢; exact this
    obtain ⟨g3, _⟩ := I.o16 (DD 16 (by decide))
    obtain ⟨Wp, A1, c1, O', q', hbp, hop, hgp, e27, hRow, hk3⟩ := I.s15 (DD 15 (by decide))
    rw [e27] at g3
    have e0 := I.u0
    have e4 := I.u4
    have e1 := I.u1
    have e2 := I.u2
    have e5 := I.u5
    have e28 := I.u28
    clear I hall DD
    simp only [frOd, g3, e0, e4, e1, e2, e5, e28]
    go_wp2_with fail
    go_roundw
    case rel =>
     have hpp := hp.out.below hbp
     refine ⟨k + 1, gs ++ [⟨e.y, A1, e.cs.length, c1⟩], O', q', by omega, by go_num, by simp, Lib.hid ?_, Lib.hid (by rw [List.length_append, <- hlo']; exact hRow), Lib.hid (fun x hx g hg eg => ?_), ?_⟩
     ·
      have hs := hp.out.snoc hbp he.out hop (by rw [<- hlo']; exact hlo)
      refine ⟨hs.len, fun j x d h1 h2 => ⟨(hs.one j x d h1 h2).1, World.ownsRow.kept (hs.one j x d h1 h2).2 hgp ?_⟩, hs.sep⟩
      cases hb2 : x.ob with
      | none => exact .inl hb2
      | some g =>
       refine .inr fun e1 => ?_
       rcases List.mem_append.1 (List.mem_of_getElem? h1) with hx | hx
       ·
        exact hne.out x hx g hb2 (e1.symm.trans hb2)
       ·
        obtain rfl := List.mem_singleton.1 hx
        have h3 := hop.lo g hb2
        have h4 := (HOW.out.lt g (e1.symm.trans hb2)).2
        omega
     ·
      rw [List.length_append] at eg
      rcases List.mem_append.1 hx with hx | hx
      ·
       have h1 := hne.out x hx g hg
       rcases hk3 with hk3 | hk3
       ·
        exact h1 (hk3.symm.trans eg)
       ·
        have h4 := (hp.out.ob_lt (by omega) hx hg).2
        have h5 := hk3.symm.trans eg
        injection h5 with h5
        have := hbp.size
        omega
      ·
       obtain rfl := List.mem_singleton.1 hx
       have h3 := hop.lt g hg
       rcases hk3 with hk3 | hk3
       ·
        have h4 := (HOW.out.lt g (hk3.symm.trans eg)).2
        omega
       ·
        have h5 := hk3.symm.trans eg
        injection h5 with h5
        omega
     ·
      exact (hb.trans (hbp.mono hb.size)).grown hgp (Nat.le_trans hb.size hbp.size) (fun j hj => by have := (HOW.out.lt j hj).1; omega)
    case measure => simp [intOf]; omega
  ·
   obtain rfl : k = es.length := by omega
   have hgl : gs.length = es.length := hp.out.len
   have HO := Lib.hid HOW.out
   rw [hgl] at HO hne ⊢
   have HF := Lib.hid (EdnPt.done hp.out HO.out (Nat.le_refl _) (Nat.le_refl _) (fun x hx g hg => hne.out x hx g hg))
   clear HO hp hne HOW
   go_wp2_with fail
   go_ret
   exact ⟨O, q, rfl, HF.out, hb⟩
end Go.Proofs.YtjcklmhgjdmjoaaGreat
