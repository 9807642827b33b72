import Derived.Test.YtjcklmhgjdmjoaaGreatDrwE
import Derived.Test.YtjcklmhgjdmjoaaGreatMRate
import Derived.StillTailTactics
namespace Go.Proofs.YtjcklmhgjdmjoaaGreat
open Go.ChangeShapes Go.WideShapes Go.ChangeAt Go.RowKit
set_option linter.unusedVariables false
theorem flat_one {j : Nat} (hj : j < 7) {v : Value} {x x' : Cls} (hx : x.cells.set j v = x'.cells) : ∀ (cs : List Cls) (k : Nat), cs[k]? = some x -> (cs.flatMap Cls.cells).set (k * 7 + j) v = (cs.set k x').flatMap Cls.cells
 | [], k, h => by simp at h
 | q :: cs, 0, h => by
  obtain rfl : q = x := by simpa using h
  simp only [List.flatMap_cons, List.set_cons_zero, <- hx]
  rw [Nat.zero_mul, Nat.zero_add, List.set_append_left _ _ (by exact hj)]
 | q :: cs, k + 1, h => by
  have ih := flat_one hj hx cs k (by simpa using h)
  simp only [List.set_cons_succ, List.flatMap_cons, <- ih]
  have hl : q.cells.length = 7 := rfl
  rw [List.set_append_right _ _ (by omega), hl, show (k + 1) * 7 + j - 7 = k * 7 + j by omega]
theorem ClsO.set1 {w : World} {base g n c k j : Nat} {cs : List Cls} {x x' : Cls} {v : Value} (h : ClsO w base (some ⟨g, 0, none⟩) n c cs) (hk : cs[k]? = some x) (hj : j < 7) (hx : x.cells.set j v = x'.cells) :
  ClsO (w.setCell ⟨g, k * 7 + j, none⟩ v) base (some ⟨g, 0, none⟩) n c (cs.set k x') /\ w.grownBy (w.setCell ⟨g, k * 7 + j, none⟩ v) (some g) := by
 have S := World.ownsRow.stored h (k * 7 + j) v
 refine ⟨?_, S.2⟩
 have h1 := S.1
 rw [flat_one hj hx cs k hk] at h1
 exact h1
theorem own_take7 {w : World} {base : Nat} {A : Option Addr} {n c m : Nat} {cs : List Cls} (h : ClsO w base A n c cs) (hm : m <= n) : ClsO w base A m c (cs.take m) := by
 have hl := h.len
 have hsp : cs.flatMap Cls.cells = (cs.take m).flatMap Cls.cells ++ (cs.drop m).flatMap Cls.cells := by rw [<- List.flatMap_append, List.take_append_drop]
 have hlt := flat_len Cls.cells 7 (fun _ => rfl) (cs.take m)
 rw [List.length_take, Nat.min_eq_left (by omega)] at hlt
 refine ⟨hlt, ?_⟩
 rcases h.2 with ⟨h1, h2⟩ | ⟨g, cap, cur, h1, h2, h3, h4, h5, h6, h7⟩
 ·
  injection h1 with h1 _ h8
  subst h1 h8
  exact .inl ⟨by rw [show m = 0 by omega], by omega⟩
 ·
  injection h1 with h1 _ h8
  subst h1 h8
  refine .inr ⟨g, c, cur, rfl, h2, h3, by omega, h5, h6, ?_⟩
  have e1 : (cs.flatMap Cls.cells).take (m * 7) = (cs.take m).flatMap Cls.cells := by rw [hsp, List.take_left' hlt]
  rw [<- e1, <- h7, List.take_take]
  congr 1; omega
theorem cls_own_someD {w : World} {base n q : Nat} {O : Option Addr} {L : List Cls} (h : ClsO w base O n q L) (h0 : 1 <= n) : ∃ g, O = some ⟨g, 0, none⟩ := by
 rcases h.2 with ⟨_, e2⟩ | ⟨g, _, _, e, _⟩
 ·
  omega
 ·
  injection e with e; exact ⟨g, e⟩
def frA (us : Nat -> Value) : Act := { tmps := #[us 0, us 1, us 2, us 3, us 4, us 5, us 6, us 7, us 8, us 9, us 10, us 11, us 12, us 13, us 14, us 15, us 16, us 17, us 18, us 19, us 20, us 21, us 22, us 23, us 24, us 25, us 26, us 27, us 28, us 29, us 30, us 31, us 32, us 33, us 34, us 35, us 36, us 37, us 38, us 39, us 40, us 41, us 42, us 43, us 44, us 45, us 46, us 47, us 48, us 49, us 50, us 51, us 52, us 53, us 54, us 55, us 56, us 57, us 58, us 59, us 60, us 61, us 62, us 63, us 64, us 65, us 66, us 67, us 68, us 69, us 70, us 71, us 72, us 73, us 74, us 75, us 76, us 77, us 78, us 79, us 80], defers := [] }
theorem frA_of {x0 x1 x2 x3 x4 x5 x6 x7 x8 x9 x10 x11 x12 x13 x14 x15 x16 x17 x18 x19 x20 x21 x22 x23 x24 x25 x26 x27 x28 x29 x30 x31 x32 x33 x34 x35 x36 x37 x38 x39 x40 x41 x42 x43 x44 x45 x46 x47 x48 x49 x50 x51 x52 x53 x54 x55 x56 x57 x58 x59 x60 x61 x62 x63 x64 x65 x66 x67 x68 x69 x70 x71 x72 x73 x74 x75 x76 x77 x78 x79 x80 : Value} : ({ tmps := #[x0, x1, x2, x3, x4, x5, x6, x7, x8, x9, x10, x11, x12, x13, x14, x15, x16, x17, x18, x19, x20, x21, x22, x23, x24, x25, x26, x27, x28, x29, x30, x31, x32, x33, x34, x35, x36, x37, x38, x39, x40, x41, x42, x43, x44, x45, x46, x47, x48, x49, x50, x51, x52, x53, x54, x55, x56, x57, x58, x59, x60, x61, x62, x63, x64, x65, x66, x67, x68, x69, x70, x71, x72, x73, x74, x75, x76, x77, x78, x79, x80], defers := [] } : Act) = frA (fun k => #[x0, x1, x2, x3, x4, x5, x6, x7, x8, x9, x10, x11, x12, x13, x14, x15, x16, x17, x18, x19, x20, x21, x22, x23, x24, x25, x26, x27, x28, x29, x30, x31, x32, x33, x34, x35, x36, x37, x38, x39, x40, x41, x42, x43, x44, x45, x46, x47, x48, x49, x50, x51, x52, x53, x54, x55, x56, x57, x58, x59, x60, x61, x62, x63, x64, x65, x66, x67, x68, x69, x70, x71, x72, x73, x74, x75, x76, x77, x78, x79, x80].getD k undef) := rfl
theorem region_us {P : Program} {ops : Array Oper} {Q : Exit -> Act -> World -> Prop} {id : Nat} {a : Act} {w : World} {us0 : Nat -> Value} (ha : a = frA us0) (hm : P.follows .mixedOrders = true) (hb : backB ops = true) (Inv : (Nat -> Value) -> Array Bool -> (Nat -> Value) -> World -> Prop)
  (h0 : Inv us0 (Array.replicate ops.size false) us0 w.drew)
  (hstep : ∀ i d us W, i ∈ Region.ready .any ops d -> ClosedD ops d -> Inv us0 d us W -> wpOp P ops Q i (fun a' w' => ∃ us', a' = frA us' /\ Inv us0 (d.setIfInBounds i true) us' w') (frA us) W)
  (hend : ∀ d us W, d.size = ops.size -> (∀ i, i < ops.size -> d.getD i true = true) -> Inv us0 d us W -> Q .normal (frA us) W) : (Code.region id ops true).wp P Q a w := by
 refine region_inv2 hm hb (fun d a W => ∃ us, a = frA us /\ Inv us0 d us W) ⟨us0, ha, h0⟩ ?_ ?_
 ·
  rintro i d a W hi hc ⟨us, rfl, hI⟩
  exact hstep i d us W hi hc hI
 ·
  rintro d a W hs hall ⟨us, rfl, hI⟩
  exact hend d us W hs hall hI
structure InvA (bb : UInt8) (bx j q lo g base c : Nat) (O A : Option Addr) (bs : List Int) (ys : List Cls) (x : Cls) (W0 : World) (F : Nat -> Value) (d : Array Bool) (us : Nat -> Value) (W : World) : Prop where
 fx : ∀ k, k < 57 -> k ≠ 3 -> us k = F k
 f80 : us 80 = F 80
 u3 : d.getD 11 false = false -> us 3 = .slice O ys.length q
 u5 : us 5 = .pointer (some ⟨bx, 0, none⟩)
 u6 : us 6 = .int .i64 (j : Int)
 o0 : d.getD 0 false = true -> us 69 = .slice O ys.length q
 o1 : d.getD 1 false = true -> us 70 = .int .i64 (j : Int)
 o2 : d.getD 2 false = true -> us 71 = .int .i64 (j : Int)
 o3 : d.getD 3 false = true -> us 72 = .int .i64 ((j : Int) + 1)
 o4 : d.getD 4 false = true -> us 73 = .string ⟨#[bb]⟩
 o5 : d.getD 5 false = true -> us 74 = .string ⟨#[122, bb]⟩
 o6 : d.getD 6 false = true -> us 75 = .pointer (some ⟨bx, 5, none⟩)
 o7 : d.getD 7 false = true -> us 76 = .int .i64 x.e
 o8 : d.getD 8 false = true -> us 77 = .agg #[.string ⟨#[122, bb]⟩, .int .i64 (-1), .int .i64 0, .int .i64 0, .int .i64 0, .int .i64 x.e, .string ⟨#[]⟩]
 bel : d.getD 10 false = false -> Below W0.heap.size W0 W
 s9 : d.getD 9 false = true -> d.getD 10 false = false -> ∃ B, us 78 = .slice (some ⟨B, 0, none⟩) 1 1 /\ W.heap[B]? = some (.cells #[.string ⟨#[122, bb]⟩, .int .i64 (-1), .int .i64 0, .int .i64 0, .int .i64 0, .int .i64 x.e, .string ⟨#[]⟩] 47 (0, 0)) /\ W0.heap.size <= B
 s10 : d.getD 10 false = true -> ∃ Wp O' q', Below W0.heap.size W0 Wp /\ Wp.grownBy W (Value.slice O ys.length q).ownBlock /\ us 79 = .slice O' (ys ++ [(⟨[122, bb], -1, 0, 0, 0, x.e, []⟩ : Cls)]).length q' /\ ClsO W lo O' (ys ++ [(⟨[122, bb], -1, 0, 0, 0, x.e, []⟩ : Cls)]).length q' (ys ++ [⟨[122, bb], -1, 0, 0, 0, x.e, []⟩]) /\ ((Value.slice O' (ys ++ [(⟨[122, bb], -1, 0, 0, 0, x.e, []⟩ : Cls)]).length q').ownBlock = (Value.slice O ys.length q).ownBlock ∨ (Value.slice O' (ys ++ [(⟨[122, bb], -1, 0, 0, 0, x.e, []⟩ : Cls)]).length q').ownBlock = some Wp.heap.size)
 o11 : d.getD 11 false = true -> us 3 = us 79
def codesC3 : List (List UInt8) := [[97, 97], [122, 122], []]
theorem sl_abc (k : Nat) (hk : k < 20) (w : World) : (Instr.slice 9 (.string ⟨#[97, 98, 99, 100, 101, 102, 103, 104, 105, 106, 107, 108, 109, 110, 111, 112, 113, 114, 115, 116]⟩) (some (.int .i64 (k : Int))) (some (.int .i64 ((k : Int) + 1))) none).run Tryz.prog w = .ok (.string ⟨#[UInt8.ofNat (97 + k)]⟩) w := by
 rcases (by omega : k = 0 ∨ k = 1 ∨ k = 2 ∨ k = 3 ∨ k = 4 ∨ k = 5 ∨ k = 6 ∨ k = 7 ∨ k = 8 ∨ k = 9 ∨ k = 10 ∨ k = 11 ∨ k = 12 ∨ k = 13 ∨ k = 14 ∨ k = 15 ∨ k = 16 ∨ k = 17 ∨ k = 18 ∨ k = 19) with rfl | rfl | rfl | rfl | rfl | rfl | rfl | rfl | rfl | rfl | rfl | rfl | rfl | rfl | rfl | rfl | rfl | rfl | rfl | rfl <;> kernel_rfl
def NewCD (w : World) (base g : Nat) (A : Option Addr) (c : Nat) (bs : List Int) (e : Ending) (w' : World) : Prop :=
 ∃ B d ps, e = .returned (.slice B (List.length ps) d) /\ ps.length <= 30 /\ ClsO w' w.heap.size B ps.length d ps /\ (∀ p ∈ ps, p.sz <= 100) /\ Src w' base g A c bs /\ w.grownBy w' (some g)
set_option maxRecDepth 100000 in
set_option maxHeartbeats 32000000 in
theorem draw_c (g : Nat) (base : Nat) (A : Option Addr) (c : Nat) (bs : List Int) (w : World) (h : Src w base g A c bs) :
  Calls Tryz.prog 47 #[.pointer (some ⟨g, 0, none⟩)] w (NewCD w base g A c bs) := by
 obtain ⟨i0, hi, hz0, hz1, hz2⟩ := info_parts clsInfo
 have hgl := h.lt
 go_enter Tryz.func47, Tryz.ntmps47
 go_wp2_with fail
 refine (valid_c g base A c bs _ h).mono ?_
 rintro e w1 ⟨B, d, ps, rfl, hp1, hp6, o1, hd1, h1, g1⟩
 obtain ⟨gB, rfl⟩ := cls_own_someD o1 hp1
 have hgB := (World.ownsRow.lt o1 gB rfl).1
 have hcap := own_roomC o1
 have htx : ∀ p ∈ ps, p.sz <= 14 := fun p hp => by have := hd1 p hp; unfold Dcv at this; unfold Cls.sz; omega
 clear h hd1
 go_wp2_with fail
 refine (next_any g _ base A c bs _ h1 (by omega)).mono ?_
 rintro e w2 ⟨r, rfl, r0, r1, h2, g2⟩
 obtain ⟨k, rfl⟩ := Int.eq_ofNat_of_zero_le r0
 have hk : k < ps.length := by omega
 have o2 : ClsO w2 w.heap.size (some ⟨gB, 0, none⟩) ps.length d ps := own_srcC o1 g2 hgl
 have G2 := drew_chain g1 g2
 clear o1 g1 g2 h1 r0 r1
 go_wp2_with fail
 refine (next_any g 24 base A c bs _ h2 (by omega)).mono ?_
 rintro e w3 ⟨r', rfl, q0, q1, h3, g3⟩
 have o3 : ClsO w3 w.heap.size (some ⟨gB, 0, none⟩) ps.length d ps := own_srcC o2 g3 hgl
 have G3 := drew_chain G2 g3
 have hg3 : g < w3.heap.size := Nat.lt_of_lt_of_le hgl G3.size
 clear o2 G2 g3 h2
 rcases (by omega : r' = 0 ∨ r' = 1 ∨ r' = 2 ∨ r' = 3 ∨ r' = 4 ∨ 5 <= r') with rfl | rfl | rfl | rfl | rfl | h5
 ·
  have hrow : (w3.alloc (.cells (codesC3.map strC).toArray 9)).heap[w3.heap.size]? = some (.cells (codesC3.map strC).toArray 9 (0, 0)) := heap_alloc_new w3 _
  go_wp2_with fail
  refine (next_any g 3 base A c bs _ (h3.alloc _) (by omega)).mono ?_
  rintro e w4 ⟨r, rfl, r0, r1, h4, g4⟩
  obtain ⟨m, rfl⟩ := Int.eq_ofNat_of_zero_le r0
  have hm : m < 3 := by omega
  obtain ⟨s, hs, hv⟩ := text_atC (ts := codesC3) (n := 7) (by decide) (k := m) hm
  have hcell := cell_code (keepG g4 hrow (by omega)) hv
  have o4 : ClsO w4 w.heap.size (some ⟨gB, 0, none⟩) ps.length d ps := own_srcC (o3.below (below_alloc _ _)) g4 hgl
  have G4 : w.grownBy w4 (some g) := (grown_alloc G3 _).trans g4
  clear hrow hv o3 h3 G3 g4 r0 r1
  ·
   skip
   obtain ⟨x, hx⟩ : ∃ x, ps[k]? = some x := ⟨_, List.getElem?_eq_getElem hk⟩
   have hyl := flat_len Cls.cells 7 (fun _ => rfl) ps
   obtain ⟨vz, z0⟩ := own_at o4 (k * 7 + 6) (by omega)
   have f0 := World.ownsRow.frozenAt o4 (k * 7 + 6)
   obtain ⟨P4, Q4⟩ := ClsO.set1 (j := 6) (v := .string ⟨s.toArray⟩) (x' := ⟨x.c, x.k, x.p, x.v, x.r, x.e, s⟩) o4 hx (by decide) rfl
   obtain ⟨S4, G5⟩ := put_src h4 G4 (C := gB) (by omega) hgB (k * 7 + 6) (.string ⟨s.toArray⟩)
   have P5 := Lib.hid P4
   have S5 := Lib.hid S4
   have G6 := Lib.hid G5
   have hxm := htx x (List.mem_of_getElem? hx)
   have T5 : Hid (∀ q ∈ ps.set k ⟨x.c, x.k, x.p, x.v, x.r, x.e, s⟩, q.sz <= 100) := Lib.hid (fun q hq => by
    rcases List.mem_or_eq_of_mem_set hq with h | rfl
    ·
     have := htx q h; omega
    ·
     unfold Cls.sz at hxm ⊢; simp only [] at *; omega)
   clear P4 Q4 S4 G5 o4 h4 G4 hx hxm htx
   go_wp2_with fail
   go_ret
   exact ⟨some ⟨gB, 0, none⟩, d, ps.set k ⟨x.c, x.k, x.p, x.v, x.r, x.e, s⟩, by rw [List.length_set]; rfl, by rw [List.length_set]; omega, by rw [List.length_set]; exact P5.out, T5.out, S5.out, G6.out⟩
 ·
  go_wp2_with fail
  refine (pick_new g 3 [-2, 7, 0] (-2) (7) base A c bs w3 h3 rfl (by decide) (by decide) (by decide)).mono ?_
  rintro e w4 ⟨r, rfl, r0, r1, h4, g4⟩
  have o4 : ClsO w4 w.heap.size (some ⟨gB, 0, none⟩) ps.length d ps := own_srcC o3 g4 hgl
  have G4 : w.grownBy w4 (some g) := drew_chain G3 g4
  clear o3 h3 G3 g4
  ·
   skip
   obtain ⟨x, hx⟩ : ∃ x, ps[k]? = some x := ⟨_, List.getElem?_eq_getElem hk⟩
   have hyl := flat_len Cls.cells 7 (fun _ => rfl) ps
   obtain ⟨vz, z0⟩ := own_at o4 (k * 7 + 1) (by omega)
   have f0 := World.ownsRow.frozenAt o4 (k * 7 + 1)
   obtain ⟨P4, Q4⟩ := ClsO.set1 (j := 1) (v := .int .i64 r) (x' := ⟨x.c, r, x.p, x.v, x.r, x.e, x.t⟩) o4 hx (by decide) rfl
   obtain ⟨S4, G5⟩ := put_src h4 G4 (C := gB) (by omega) hgB (k * 7 + 1) (.int .i64 r)
   have P5 := Lib.hid P4
   have S5 := Lib.hid S4
   have G6 := Lib.hid G5
   have hxm := htx x (List.mem_of_getElem? hx)
   have T5 : Hid (∀ q ∈ ps.set k ⟨x.c, r, x.p, x.v, x.r, x.e, x.t⟩, q.sz <= 100) := Lib.hid (fun q hq => by
    rcases List.mem_or_eq_of_mem_set hq with h | rfl
    ·
     have := htx q h; omega
    ·
     unfold Cls.sz at hxm ⊢; simp only [] at *; omega)
   clear P4 Q4 S4 G5 o4 h4 G4 hx hxm htx
   go_wp2_with fail
   go_ret
   exact ⟨some ⟨gB, 0, none⟩, d, ps.set k ⟨x.c, r, x.p, x.v, x.r, x.e, x.t⟩, by rw [List.length_set]; rfl, by rw [List.length_set]; omega, by rw [List.length_set]; exact P5.out, T5.out, S5.out, G6.out⟩
 ·
  go_wp2_with fail
  refine (pick_new g 3 [-1, 3, 1] (-1) (3) base A c bs w3 h3 rfl (by decide) (by decide) (by decide)).mono ?_
  rintro e w4 ⟨r, rfl, r0, r1, h4, g4⟩
  have o4 : ClsO w4 w.heap.size (some ⟨gB, 0, none⟩) ps.length d ps := own_srcC o3 g4 hgl
  have G4 : w.grownBy w4 (some g) := drew_chain G3 g4
  clear o3 h3 G3 g4
  ·
   skip
   obtain ⟨x, hx⟩ : ∃ x, ps[k]? = some x := ⟨_, List.getElem?_eq_getElem hk⟩
   have hyl := flat_len Cls.cells 7 (fun _ => rfl) ps
   obtain ⟨vz, z0⟩ := own_at o4 (k * 7 + 2) (by omega)
   have f0 := World.ownsRow.frozenAt o4 (k * 7 + 2)
   obtain ⟨P4, Q4⟩ := ClsO.set1 (j := 2) (v := .int .i64 r) (x' := ⟨x.c, x.k, r, x.v, x.r, x.e, x.t⟩) o4 hx (by decide) rfl
   obtain ⟨S4, G5⟩ := put_src h4 G4 (C := gB) (by omega) hgB (k * 7 + 2) (.int .i64 r)
   have P5 := Lib.hid P4
   have S5 := Lib.hid S4
   have G6 := Lib.hid G5
   have hxm := htx x (List.mem_of_getElem? hx)
   have T5 : Hid (∀ q ∈ ps.set k ⟨x.c, x.k, r, x.v, x.r, x.e, x.t⟩, q.sz <= 100) := Lib.hid (fun q hq => by
    rcases List.mem_or_eq_of_mem_set hq with h | rfl
    ·
     have := htx q h; omega
    ·
     unfold Cls.sz at hxm ⊢; simp only [] at *; omega)
   clear P4 Q4 S4 G5 o4 h4 G4 hx hxm htx
   go_wp2_with fail
   go_ret
   exact ⟨some ⟨gB, 0, none⟩, d, ps.set k ⟨x.c, x.k, r, x.v, x.r, x.e, x.t⟩, by rw [List.length_set]; rfl, by rw [List.length_set]; omega, by rw [List.length_set]; exact P5.out, T5.out, S5.out, G6.out⟩
 ·
  have o4 := Lib.hid (own_take7 o3 (Nat.le_of_lt hk))
  have hl4 : Hid ((ps.take k).length = k) := Lib.hid (by rw [List.length_take]; omega)
  have h4 := Lib.hid h3
  have G4 := Lib.hid G3
  have T4 : Hid (∀ q ∈ ps.take k, q.sz <= 100) := Lib.hid fun q hq => by have := htx q (List.mem_of_mem_take hq); omega
  have hkd : k <= d := by omega
  clear o3 h3 G3 htx
  go_wp2_with fail
  go_ret
  exact ⟨some ⟨gB, 0, none⟩, d, ps.take k, by rw [hl4.out]; rfl, by rw [hl4.out]; omega, by rw [hl4.out]; exact o4.out, T4.out, h4.out, G4.out⟩
 ·
  obtain ⟨m, hm⟩ : ∃ m, ps.length = m + 1 := ⟨ps.length - 1, by omega⟩
  obtain ⟨x, hx⟩ : ∃ x, ps[m]? = some x := ⟨_, List.getElem?_eq_getElem (by omega)⟩
  have hxm := htx x (List.mem_of_getElem? hx)
  have hyl := flat_len Cls.cells 7 (fun _ => rfl) ps
  have RD := fun (j : Nat) (hj : j < 7) => (World.ownsRow.cellAt o3 (m * 7 + j) (by omega)).trans (flat_at Cls.cells 7 (fun _ => rfl) ps m j x hx hj)
  have c0 := RD 0 (by decide); have c1 := RD 1 (by decide); have c2 := RD 2 (by decide); have c3 := RD 3 (by decide); have c4 := RD 4 (by decide); have c5 := RD 5 (by decide); have c6 := RD 6 (by decide)
  simp only [Cls.cells, List.getElem?_cons_zero, List.getElem?_cons_succ, Nat.add_zero] at c0 c1 c2 c3 c4 c5 c6
  have hbx : (w3.alloc (.cells #[.string ⟨x.c.toArray⟩, .int .i64 x.k, .int .i64 x.p, .int .i64 x.v, .int .i64 x.r, .int .i64 x.e, .string ⟨x.t.toArray⟩] 47)).heap[w3.heap.size]? = some (.cells #[.string ⟨x.c.toArray⟩, .int .i64 x.k, .int .i64 x.p, .int .i64 x.v, .int .i64 x.r, .int .i64 x.e, .string ⟨x.t.toArray⟩] 47 (0, 0)) := heap_alloc_new w3 _
  have O0 : ClsO (w3.alloc (.cells #[.string ⟨x.c.toArray⟩, .int .i64 x.k, .int .i64 x.p, .int .i64 x.v, .int .i64 x.r, .int .i64 x.e, .string ⟨x.t.toArray⟩] 47)) w.heap.size (some ⟨gB, 0, none⟩) ps.length d ps := o3.below (below_alloc _ _)
  have S0 := h3.alloc (.cells #[.string ⟨x.c.toArray⟩, .int .i64 x.k, .int .i64 x.p, .int .i64 x.v, .int .i64 x.r, .int .i64 x.e, .string ⟨x.t.toArray⟩] 47)
  have G0 := grown_alloc G3 (.cells #[.string ⟨x.c.toArray⟩, .int .i64 x.k, .int .i64 x.p, .int .i64 x.v, .int .i64 x.r, .int .i64 x.e, .string ⟨x.t.toArray⟩] 47)
  have hne : (Value.slice (some ⟨gB, 0, none⟩) ps.length d).ownBlock ≠ some w3.heap.size := fun e => by
   have := (World.ownsRow.lt o3 gB rfl).2
   simp [Value.ownBlock] at e; omega
  have hbw : w.heap.size <= w3.heap.size := G3.size
  clear hyl RD o3 h3 G3
  go_wp2_with fail
  go_loopw [3, 6] (fun v i wr => ∃ (ys : List Cls) (O : Option Addr) (q j : Nat), v = .slice O ys.length q /\ i = .int .i64 (j : Int) /\ j <= 20 /\ ys.length <= 6 + j /\ Hid (ClsO wr w.heap.size O ys.length q ys) /\ Hid (∀ p ∈ ys, p.sz <= 100) /\ Hid (Src wr base g A c bs) /\ Hid (w.grownBy wr (some g)) /\
   Hid (wr.heap[w3.heap.size]? = some (.cells #[.string ⟨x.c.toArray⟩, .int .i64 x.k, .int .i64 x.p, .int .i64 x.v, .int .i64 x.r, .int .i64 x.e, .string ⟨x.t.toArray⟩] 47 (0, 0))) /\ Hid ((Value.slice O ys.length q).ownBlock ≠ some w3.heap.size)) (fun _ i _ => 20 - (intOf i).toNat)
  case atStart => exact ⟨ps, some ⟨gB, 0, none⟩, d, 0, by rw [hm], rfl, by omega, by omega, Lib.hid O0, Lib.hid (fun p hp => by have := htx p hp; omega), Lib.hid S0, Lib.hid G0, Lib.hid hbx, Lib.hid hne⟩
  case round =>
   clear O0 S0 G0 hbx hne c0 c1 c2 c3 c4 c5 c6 htx hcap hk hx hp1 hp6
   obtain ⟨ys, O, q, j, rfl, rfl, hj, hyn, HO, HT, HS, HG, HX, HN⟩ := hrel
   go_wp2_with fail
   refine (next_any g 2 base A c bs _ HS.out (by omega)).mono ?_
   rintro e w5 ⟨r, rfl, r0, r1, h5, g5⟩
   have O5 : ClsO w5 w.heap.size O ys.length q ys := own_srcC HO.out g5 hgl
   have G5 := drew_chain HG.out g5
   have X5 := keepG g5 HX.out (by omega)
   clear HO HS HG HX g5
   by_cases hc1 : ((ys.length : Int) < 12 + r)
   ·
    have d1 : decide ((ys.length : Int) < 12 + r) = true := decide_eq_true hc1
    by_cases hc2 : j < 20
    ·
     have d2 : decide ((j : Int) < 20) = true := decide_eq_true (by omega)
     obtain ⟨bb, sl⟩ : ∃ bb : UInt8, ∀ w : World, (Instr.slice 9 (.string ⟨#[97, 98, 99, 100, 101, 102, 103, 104, 105, 106, 107, 108, 109, 110, 111, 112, 113, 114, 115, 116]⟩) (some (.int .i64 (j : Int))) (some (.int .i64 ((j : Int) + 1))) none).run Tryz.prog w = .ok (.string ⟨#[bb]⟩) w := ⟨_, fun w => sl_abc j hc2 w⟩
     have x5 : w5.drew.cell? ⟨w3.heap.size, 5, none⟩ = some (.int .i64 x.e) := by
      have : w5.cell? ⟨w3.heap.size, 5, none⟩ = some (.int .i64 x.e) := by rw [cell_of_row _ _ _ _ _ _ X5]; rfl
      exact this
     have OD : ClsO w5.drew w.heap.size O ys.length q ys := O5
     have GD : w.grownBy w5.drew (some g) := grown_drewN G5 1
     have SD : Src w5.drew base g A c bs := h5.drewN 1
     have XD : w5.drew.heap[w3.heap.size]? = some (.cells #[.string ⟨x.c.toArray⟩, .int .i64 x.k, .int .i64 x.p, .int .i64 x.v, .int .i64 x.r, .int .i64 x.e, .string ⟨x.t.toArray⟩] 47 (0, 0)) := X5
     have hsz : w.heap.size <= w5.drew.heap.size := GD.size
     have hlx := lt_some XD
     have HX := Lib.hid (fun W (hb : Below w5.drew.heap.size w5.drew W) => (Below.cell hb (p := ⟨w3.heap.size, 5, none⟩) hlx).trans x5)
     have HO := Lib.hid OD
     have hlo := hsz
     have hwj : IntKind.i64.wrap ((j : Int) + 1) = (j : Int) + 1 := IntWalk.i64_in _ (by omega)
     clear O5 G5 h5 X5 hc1
     go_wp2_with fail
     refine region_us frA_of (by kernel_rfl) (by kernel_rfl) (InvA bb (w3.heap.size) j q w.heap.size g base c O A bs ys x w5.drew) ?_ ?_ ?_
     ·
      have Z : ∀ k, (Array.replicate 12 false).getD k false = false := fun k => by
       rcases Nat.lt_or_ge k 12 with h | h
       ·
        simp [h]
       ·
        simp [Array.getElem?_eq_none, h]
      have Zn : ∀ {k : Nat} {p : Prop}, (Array.replicate 12 false).getD k false = true -> p := fun {k p} h => by rw [Z k] at h; cases h
      exact { fx := fun _ _ _ => rfl, f80 := rfl, u3 := fun _ => rfl, u5 := rfl, u6 := rfl, bel := fun _ => (Below.refl _ _), o0 := Zn, o1 := Zn, o2 := Zn, o3 := Zn, o4 := Zn, o5 := Zn, o6 := Zn, o7 := Zn, o8 := Zn, s9 := Zn, s10 := Zn, o11 := Zn }
     ·
      intro i dd us W1 hi hcl I
      obtain ⟨hun, oi, hoi, hall⟩ := mem_ready.1 hi
      have hlt : i < 12 := (Array.getElem?_eq_some_iff.1 hoi).1
      rcases (by omega : i = 0 ∨ i = 1 ∨ i = 2 ∨ i = 3 ∨ i = 4 ∨ i = 5 ∨ i = 6 ∨ i = 7 ∨ i = 8 ∨ i = 9 ∨ i = 10 ∨ i = 11) with rfl | rfl | rfl | rfl | rfl | rfl | rfl | rfl | rfl | rfl | rfl | rfl
      all_goals
       obtain rfl := Option.some.inj hoi
       clear hoi hlt hi
      ·
       skip
       have D0 : (dd.setIfInBounds 0 true).getD 0 false = true := setB_same hun
       have H0 := undoneF hun
       have D1 : (dd.setIfInBounds 0 true).getD 1 false = dd.getD 1 false := getD_set_ne false (by decide)
       have D2 : (dd.setIfInBounds 0 true).getD 2 false = dd.getD 2 false := getD_set_ne false (by decide)
       have D3 : (dd.setIfInBounds 0 true).getD 3 false = dd.getD 3 false := getD_set_ne false (by decide)
       have D4 : (dd.setIfInBounds 0 true).getD 4 false = dd.getD 4 false := getD_set_ne false (by decide)
       have D5 : (dd.setIfInBounds 0 true).getD 5 false = dd.getD 5 false := getD_set_ne false (by decide)
       have D6 : (dd.setIfInBounds 0 true).getD 6 false = dd.getD 6 false := getD_set_ne false (by decide)
       have D7 : (dd.setIfInBounds 0 true).getD 7 false = dd.getD 7 false := getD_set_ne false (by decide)
       have D8 : (dd.setIfInBounds 0 true).getD 8 false = dd.getD 8 false := getD_set_ne false (by decide)
       have D9 : (dd.setIfInBounds 0 true).getD 9 false = dd.getD 9 false := getD_set_ne false (by decide)
       have D10 : (dd.setIfInBounds 0 true).getD 10 false = dd.getD 10 false := getD_set_ne false (by decide)
       have D11 : (dd.setIfInBounds 0 true).getD 11 false = dd.getD 11 false := getD_set_ne false (by decide)
       have H10 := hcl.back 10 _ ⟨0, .data⟩ rfl (by simp) rfl H0
       have H11 := hcl.back 11 _ ⟨10, .data⟩ rfl (by simp) rfl H10
       have e5 := I.u5
       have e6 := I.u6
       have e3 := I.u3 H11
       have hbel := I.bel H10
       have hsz := hbel.size
       have U3 : updB us 69 (.slice O ys.length q) 3 = us 3 := updB_other (by decide)
       have U5 : updB us 69 (.slice O ys.length q) 5 = us 5 := updB_other (by decide)
       have U6 : updB us 69 (.slice O ys.length q) 6 = us 6 := updB_other (by decide)
       have U80 : updB us 69 (.slice O ys.length q) 80 = us 80 := updB_other (by decide)
       have U69 : updB us 69 (.slice O ys.length q) 69 = (.slice O ys.length q) := updB_same _ _ _
       have U70 : updB us 69 (.slice O ys.length q) 70 = us 70 := updB_other (by decide)
       have U71 : updB us 69 (.slice O ys.length q) 71 = us 71 := updB_other (by decide)
       have U72 : updB us 69 (.slice O ys.length q) 72 = us 72 := updB_other (by decide)
       have U73 : updB us 69 (.slice O ys.length q) 73 = us 73 := updB_other (by decide)
       have U74 : updB us 69 (.slice O ys.length q) 74 = us 74 := updB_other (by decide)
       have U75 : updB us 69 (.slice O ys.length q) 75 = us 75 := updB_other (by decide)
       have U76 : updB us 69 (.slice O ys.length q) 76 = us 76 := updB_other (by decide)
       have U77 : updB us 69 (.slice O ys.length q) 77 = us 77 := updB_other (by decide)
       have U78 : updB us 69 (.slice O ys.length q) 78 = us 78 := updB_other (by decide)
       have U79 : updB us 69 (.slice O ys.length q) 79 = us 79 := updB_other (by decide)
       refine wpOp_step rfl (fun K hK => ?_)
       simp only [frA, e5, e6, e3]
       go_simp
       refine hK _ _ ⟨updB us 69 (.slice O ys.length q), by simp [frA, updB, Act.put, e5, e6, e3] <;> rfl, { fx := (fun k hk hk3 => (updB_other (by omega)).trans (I.fx k hk hk3)), f80 := (U80.trans I.f80), u5 := (U5.trans I.u5), u6 := (U6.trans I.u6), u3 := (cO U3 I.u3 D11), o0 := (fun _ => U69), o1 := (cO U70 I.o1 D1), o2 := (cO U71 I.o2 D2), o3 := (cO U72 I.o3 D3), o4 := (cO U73 I.o4 D4), o5 := (cO U74 I.o5 D5), o6 := (cO U75 I.o6 D6), o7 := (cO U76 I.o7 D7), o8 := (cO U77 I.o8 D8), bel := (fun h => I.bel (D10.symm.trans h)), s9 := (fun h h2 => by rw [U78]; exact I.s9 (D9.symm.trans h) (D10.symm.trans h2)), s10 := (fun h => by have := D10.symm.trans h; rw [H10] at this; cases this), o11 := (fun h => by have := D11.symm.trans h; rw [H11] at this; cases this) }⟩
      ·
       skip
       have D1 : (dd.setIfInBounds 1 true).getD 1 false = true := setB_same hun
       have H1 := undoneF hun
       have D0 : (dd.setIfInBounds 1 true).getD 0 false = dd.getD 0 false := getD_set_ne false (by decide)
       have D2 : (dd.setIfInBounds 1 true).getD 2 false = dd.getD 2 false := getD_set_ne false (by decide)
       have D3 : (dd.setIfInBounds 1 true).getD 3 false = dd.getD 3 false := getD_set_ne false (by decide)
       have D4 : (dd.setIfInBounds 1 true).getD 4 false = dd.getD 4 false := getD_set_ne false (by decide)
       have D5 : (dd.setIfInBounds 1 true).getD 5 false = dd.getD 5 false := getD_set_ne false (by decide)
       have D6 : (dd.setIfInBounds 1 true).getD 6 false = dd.getD 6 false := getD_set_ne false (by decide)
       have D7 : (dd.setIfInBounds 1 true).getD 7 false = dd.getD 7 false := getD_set_ne false (by decide)
       have D8 : (dd.setIfInBounds 1 true).getD 8 false = dd.getD 8 false := getD_set_ne false (by decide)
       have D9 : (dd.setIfInBounds 1 true).getD 9 false = dd.getD 9 false := getD_set_ne false (by decide)
       have D10 : (dd.setIfInBounds 1 true).getD 10 false = dd.getD 10 false := getD_set_ne false (by decide)
       have D11 : (dd.setIfInBounds 1 true).getD 11 false = dd.getD 11 false := getD_set_ne false (by decide)
       have H4 := hcl.back 4 _ ⟨1, .data⟩ rfl (by simp) rfl H1
       have H5 := hcl.back 5 _ ⟨4, .data⟩ rfl (by simp) rfl H4
       have H8 := hcl.back 8 _ ⟨5, .data⟩ rfl (by simp) rfl H5
       have H9 := hcl.back 9 _ ⟨8, .data⟩ rfl (by simp) rfl H8
       have H10 := hcl.back 10 _ ⟨9, .data⟩ rfl (by simp) rfl H9
       have H11 := hcl.back 11 _ ⟨10, .data⟩ rfl (by simp) rfl H10
       have e5 := I.u5
       have e6 := I.u6
       have hbel := I.bel H10
       have hsz := hbel.size
       have U3 : updB us 70 (.int .i64 (j : Int)) 3 = us 3 := updB_other (by decide)
       have U5 : updB us 70 (.int .i64 (j : Int)) 5 = us 5 := updB_other (by decide)
       have U6 : updB us 70 (.int .i64 (j : Int)) 6 = us 6 := updB_other (by decide)
       have U80 : updB us 70 (.int .i64 (j : Int)) 80 = us 80 := updB_other (by decide)
       have U69 : updB us 70 (.int .i64 (j : Int)) 69 = us 69 := updB_other (by decide)
       have U70 : updB us 70 (.int .i64 (j : Int)) 70 = (.int .i64 (j : Int)) := updB_same _ _ _
       have U71 : updB us 70 (.int .i64 (j : Int)) 71 = us 71 := updB_other (by decide)
       have U72 : updB us 70 (.int .i64 (j : Int)) 72 = us 72 := updB_other (by decide)
       have U73 : updB us 70 (.int .i64 (j : Int)) 73 = us 73 := updB_other (by decide)
       have U74 : updB us 70 (.int .i64 (j : Int)) 74 = us 74 := updB_other (by decide)
       have U75 : updB us 70 (.int .i64 (j : Int)) 75 = us 75 := updB_other (by decide)
       have U76 : updB us 70 (.int .i64 (j : Int)) 76 = us 76 := updB_other (by decide)
       have U77 : updB us 70 (.int .i64 (j : Int)) 77 = us 77 := updB_other (by decide)
       have U78 : updB us 70 (.int .i64 (j : Int)) 78 = us 78 := updB_other (by decide)
       have U79 : updB us 70 (.int .i64 (j : Int)) 79 = us 79 := updB_other (by decide)
       refine wpOp_step rfl (fun K hK => ?_)
       simp only [frA, e5, e6]
       go_simp
       refine hK _ _ ⟨updB us 70 (.int .i64 (j : Int)), by simp [frA, updB, Act.put, e5, e6] <;> rfl, { fx := (fun k hk hk3 => (updB_other (by omega)).trans (I.fx k hk hk3)), f80 := (U80.trans I.f80), u5 := (U5.trans I.u5), u6 := (U6.trans I.u6), u3 := (cO U3 I.u3 D11), o0 := (cO U69 I.o0 D0), o1 := (fun _ => U70), o2 := (cO U71 I.o2 D2), o3 := (cO U72 I.o3 D3), o4 := (cO U73 I.o4 D4), o5 := (cO U74 I.o5 D5), o6 := (cO U75 I.o6 D6), o7 := (cO U76 I.o7 D7), o8 := (cO U77 I.o8 D8), bel := (fun h => I.bel (D10.symm.trans h)), s9 := (fun h h2 => by rw [U78]; exact I.s9 (D9.symm.trans h) (D10.symm.trans h2)), s10 := (fun h => by have := D10.symm.trans h; rw [H10] at this; cases this), o11 := (fun h => by have := D11.symm.trans h; rw [H11] at this; cases this) }⟩
      ·
       skip
       have D2 : (dd.setIfInBounds 2 true).getD 2 false = true := setB_same hun
       have H2 := undoneF hun
       have D0 : (dd.setIfInBounds 2 true).getD 0 false = dd.getD 0 false := getD_set_ne false (by decide)
       have D1 : (dd.setIfInBounds 2 true).getD 1 false = dd.getD 1 false := getD_set_ne false (by decide)
       have D3 : (dd.setIfInBounds 2 true).getD 3 false = dd.getD 3 false := getD_set_ne false (by decide)
       have D4 : (dd.setIfInBounds 2 true).getD 4 false = dd.getD 4 false := getD_set_ne false (by decide)
       have D5 : (dd.setIfInBounds 2 true).getD 5 false = dd.getD 5 false := getD_set_ne false (by decide)
       have D6 : (dd.setIfInBounds 2 true).getD 6 false = dd.getD 6 false := getD_set_ne false (by decide)
       have D7 : (dd.setIfInBounds 2 true).getD 7 false = dd.getD 7 false := getD_set_ne false (by decide)
       have D8 : (dd.setIfInBounds 2 true).getD 8 false = dd.getD 8 false := getD_set_ne false (by decide)
       have D9 : (dd.setIfInBounds 2 true).getD 9 false = dd.getD 9 false := getD_set_ne false (by decide)
       have D10 : (dd.setIfInBounds 2 true).getD 10 false = dd.getD 10 false := getD_set_ne false (by decide)
       have D11 : (dd.setIfInBounds 2 true).getD 11 false = dd.getD 11 false := getD_set_ne false (by decide)
       have H3 := hcl.back 3 _ ⟨2, .data⟩ rfl (by simp) rfl H2
       have H4 := hcl.back 4 _ ⟨3, .data⟩ rfl (by simp) rfl H3
       have H5 := hcl.back 5 _ ⟨4, .data⟩ rfl (by simp) rfl H4
       have H8 := hcl.back 8 _ ⟨5, .data⟩ rfl (by simp) rfl H5
       have H9 := hcl.back 9 _ ⟨8, .data⟩ rfl (by simp) rfl H8
       have H10 := hcl.back 10 _ ⟨9, .data⟩ rfl (by simp) rfl H9
       have H11 := hcl.back 11 _ ⟨10, .data⟩ rfl (by simp) rfl H10
       have e5 := I.u5
       have e6 := I.u6
       have hbel := I.bel H10
       have hsz := hbel.size
       have U3 : updB us 71 (.int .i64 (j : Int)) 3 = us 3 := updB_other (by decide)
       have U5 : updB us 71 (.int .i64 (j : Int)) 5 = us 5 := updB_other (by decide)
       have U6 : updB us 71 (.int .i64 (j : Int)) 6 = us 6 := updB_other (by decide)
       have U80 : updB us 71 (.int .i64 (j : Int)) 80 = us 80 := updB_other (by decide)
       have U69 : updB us 71 (.int .i64 (j : Int)) 69 = us 69 := updB_other (by decide)
       have U70 : updB us 71 (.int .i64 (j : Int)) 70 = us 70 := updB_other (by decide)
       have U71 : updB us 71 (.int .i64 (j : Int)) 71 = (.int .i64 (j : Int)) := updB_same _ _ _
       have U72 : updB us 71 (.int .i64 (j : Int)) 72 = us 72 := updB_other (by decide)
       have U73 : updB us 71 (.int .i64 (j : Int)) 73 = us 73 := updB_other (by decide)
       have U74 : updB us 71 (.int .i64 (j : Int)) 74 = us 74 := updB_other (by decide)
       have U75 : updB us 71 (.int .i64 (j : Int)) 75 = us 75 := updB_other (by decide)
       have U76 : updB us 71 (.int .i64 (j : Int)) 76 = us 76 := updB_other (by decide)
       have U77 : updB us 71 (.int .i64 (j : Int)) 77 = us 77 := updB_other (by decide)
       have U78 : updB us 71 (.int .i64 (j : Int)) 78 = us 78 := updB_other (by decide)
       have U79 : updB us 71 (.int .i64 (j : Int)) 79 = us 79 := updB_other (by decide)
       refine wpOp_step rfl (fun K hK => ?_)
       simp only [frA, e5, e6]
       go_simp
       refine hK _ _ ⟨updB us 71 (.int .i64 (j : Int)), by simp [frA, updB, Act.put, e5, e6] <;> rfl, { fx := (fun k hk hk3 => (updB_other (by omega)).trans (I.fx k hk hk3)), f80 := (U80.trans I.f80), u5 := (U5.trans I.u5), u6 := (U6.trans I.u6), u3 := (cO U3 I.u3 D11), o0 := (cO U69 I.o0 D0), o1 := (cO U70 I.o1 D1), o2 := (fun _ => U71), o3 := (cO U72 I.o3 D3), o4 := (cO U73 I.o4 D4), o5 := (cO U74 I.o5 D5), o6 := (cO U75 I.o6 D6), o7 := (cO U76 I.o7 D7), o8 := (cO U77 I.o8 D8), bel := (fun h => I.bel (D10.symm.trans h)), s9 := (fun h h2 => by rw [U78]; exact I.s9 (D9.symm.trans h) (D10.symm.trans h2)), s10 := (fun h => by have := D10.symm.trans h; rw [H10] at this; cases this), o11 := (fun h => by have := D11.symm.trans h; rw [H11] at this; cases this) }⟩
      ·
       skip
       have D3 : (dd.setIfInBounds 3 true).getD 3 false = true := setB_same hun
       have H3 := undoneF hun
       have D0 : (dd.setIfInBounds 3 true).getD 0 false = dd.getD 0 false := getD_set_ne false (by decide)
       have D1 : (dd.setIfInBounds 3 true).getD 1 false = dd.getD 1 false := getD_set_ne false (by decide)
       have D2 : (dd.setIfInBounds 3 true).getD 2 false = dd.getD 2 false := getD_set_ne false (by decide)
       have D4 : (dd.setIfInBounds 3 true).getD 4 false = dd.getD 4 false := getD_set_ne false (by decide)
       have D5 : (dd.setIfInBounds 3 true).getD 5 false = dd.getD 5 false := getD_set_ne false (by decide)
       have D6 : (dd.setIfInBounds 3 true).getD 6 false = dd.getD 6 false := getD_set_ne false (by decide)
       have D7 : (dd.setIfInBounds 3 true).getD 7 false = dd.getD 7 false := getD_set_ne false (by decide)
       have D8 : (dd.setIfInBounds 3 true).getD 8 false = dd.getD 8 false := getD_set_ne false (by decide)
       have D9 : (dd.setIfInBounds 3 true).getD 9 false = dd.getD 9 false := getD_set_ne false (by decide)
       have D10 : (dd.setIfInBounds 3 true).getD 10 false = dd.getD 10 false := getD_set_ne false (by decide)
       have D11 : (dd.setIfInBounds 3 true).getD 11 false = dd.getD 11 false := getD_set_ne false (by decide)
       have H4 := hcl.back 4 _ ⟨3, .data⟩ rfl (by simp) rfl H3
       have H5 := hcl.back 5 _ ⟨4, .data⟩ rfl (by simp) rfl H4
       have H8 := hcl.back 8 _ ⟨5, .data⟩ rfl (by simp) rfl H5
       have H9 := hcl.back 9 _ ⟨8, .data⟩ rfl (by simp) rfl H8
       have H10 := hcl.back 10 _ ⟨9, .data⟩ rfl (by simp) rfl H9
       have H11 := hcl.back 11 _ ⟨10, .data⟩ rfl (by simp) rfl H10
       have e5 := I.u5
       have e6 := I.u6
       have h2 := hall ⟨2, .data⟩ (by simp) rfl
       have e71 := I.o2 h2
       have hbel := I.bel H10
       have hsz := hbel.size
       have U3 : updB us 72 (.int .i64 ((j : Int) + 1)) 3 = us 3 := updB_other (by decide)
       have U5 : updB us 72 (.int .i64 ((j : Int) + 1)) 5 = us 5 := updB_other (by decide)
       have U6 : updB us 72 (.int .i64 ((j : Int) + 1)) 6 = us 6 := updB_other (by decide)
       have U80 : updB us 72 (.int .i64 ((j : Int) + 1)) 80 = us 80 := updB_other (by decide)
       have U69 : updB us 72 (.int .i64 ((j : Int) + 1)) 69 = us 69 := updB_other (by decide)
       have U70 : updB us 72 (.int .i64 ((j : Int) + 1)) 70 = us 70 := updB_other (by decide)
       have U71 : updB us 72 (.int .i64 ((j : Int) + 1)) 71 = us 71 := updB_other (by decide)
       have U72 : updB us 72 (.int .i64 ((j : Int) + 1)) 72 = (.int .i64 ((j : Int) + 1)) := updB_same _ _ _
       have U73 : updB us 72 (.int .i64 ((j : Int) + 1)) 73 = us 73 := updB_other (by decide)
       have U74 : updB us 72 (.int .i64 ((j : Int) + 1)) 74 = us 74 := updB_other (by decide)
       have U75 : updB us 72 (.int .i64 ((j : Int) + 1)) 75 = us 75 := updB_other (by decide)
       have U76 : updB us 72 (.int .i64 ((j : Int) + 1)) 76 = us 76 := updB_other (by decide)
       have U77 : updB us 72 (.int .i64 ((j : Int) + 1)) 77 = us 77 := updB_other (by decide)
       have U78 : updB us 72 (.int .i64 ((j : Int) + 1)) 78 = us 78 := updB_other (by decide)
       have U79 : updB us 72 (.int .i64 ((j : Int) + 1)) 79 = us 79 := updB_other (by decide)
       refine wpOp_step rfl (fun K hK => ?_)
       simp only [frA, e5, e6, e71]
       go_simp
       try rw [hwj]
       refine hK _ _ ⟨updB us 72 (.int .i64 ((j : Int) + 1)), by simp [frA, updB, Act.put, e5, e6, e71] <;> rfl, { fx := (fun k hk hk3 => (updB_other (by omega)).trans (I.fx k hk hk3)), f80 := (U80.trans I.f80), u5 := (U5.trans I.u5), u6 := (U6.trans I.u6), u3 := (cO U3 I.u3 D11), o0 := (cO U69 I.o0 D0), o1 := (cO U70 I.o1 D1), o2 := (cO U71 I.o2 D2), o3 := (fun _ => U72), o4 := (cO U73 I.o4 D4), o5 := (cO U74 I.o5 D5), o6 := (cO U75 I.o6 D6), o7 := (cO U76 I.o7 D7), o8 := (cO U77 I.o8 D8), bel := (fun h => I.bel (D10.symm.trans h)), s9 := (fun h h2 => by rw [U78]; exact I.s9 (D9.symm.trans h) (D10.symm.trans h2)), s10 := (fun h => by have := D10.symm.trans h; rw [H10] at this; cases this), o11 := (fun h => by have := D11.symm.trans h; rw [H11] at this; cases this) }⟩
      ·
       skip
       have D4 : (dd.setIfInBounds 4 true).getD 4 false = true := setB_same hun
       have H4 := undoneF hun
       have D0 : (dd.setIfInBounds 4 true).getD 0 false = dd.getD 0 false := getD_set_ne false (by decide)
       have D1 : (dd.setIfInBounds 4 true).getD 1 false = dd.getD 1 false := getD_set_ne false (by decide)
       have D2 : (dd.setIfInBounds 4 true).getD 2 false = dd.getD 2 false := getD_set_ne false (by decide)
       have D3 : (dd.setIfInBounds 4 true).getD 3 false = dd.getD 3 false := getD_set_ne false (by decide)
       have D5 : (dd.setIfInBounds 4 true).getD 5 false = dd.getD 5 false := getD_set_ne false (by decide)
       have D6 : (dd.setIfInBounds 4 true).getD 6 false = dd.getD 6 false := getD_set_ne false (by decide)
       have D7 : (dd.setIfInBounds 4 true).getD 7 false = dd.getD 7 false := getD_set_ne false (by decide)
       have D8 : (dd.setIfInBounds 4 true).getD 8 false = dd.getD 8 false := getD_set_ne false (by decide)
       have D9 : (dd.setIfInBounds 4 true).getD 9 false = dd.getD 9 false := getD_set_ne false (by decide)
       have D10 : (dd.setIfInBounds 4 true).getD 10 false = dd.getD 10 false := getD_set_ne false (by decide)
       have D11 : (dd.setIfInBounds 4 true).getD 11 false = dd.getD 11 false := getD_set_ne false (by decide)
       have H5 := hcl.back 5 _ ⟨4, .data⟩ rfl (by simp) rfl H4
       have H8 := hcl.back 8 _ ⟨5, .data⟩ rfl (by simp) rfl H5
       have H9 := hcl.back 9 _ ⟨8, .data⟩ rfl (by simp) rfl H8
       have H10 := hcl.back 10 _ ⟨9, .data⟩ rfl (by simp) rfl H9
       have H11 := hcl.back 11 _ ⟨10, .data⟩ rfl (by simp) rfl H10
       have e5 := I.u5
       have e6 := I.u6
       have h1 := hall ⟨1, .data⟩ (by simp) rfl
       have e70 := I.o1 h1
       have h3 := hall ⟨3, .data⟩ (by simp) rfl
       have e72 := I.o3 h3
       have hbel := I.bel H10
       have hsz := hbel.size
       have U3 : updB us 73 (.string ⟨#[bb]⟩) 3 = us 3 := updB_other (by decide)
       have U5 : updB us 73 (.string ⟨#[bb]⟩) 5 = us 5 := updB_other (by decide)
       have U6 : updB us 73 (.string ⟨#[bb]⟩) 6 = us 6 := updB_other (by decide)
       have U80 : updB us 73 (.string ⟨#[bb]⟩) 80 = us 80 := updB_other (by decide)
       have U69 : updB us 73 (.string ⟨#[bb]⟩) 69 = us 69 := updB_other (by decide)
       have U70 : updB us 73 (.string ⟨#[bb]⟩) 70 = us 70 := updB_other (by decide)
       have U71 : updB us 73 (.string ⟨#[bb]⟩) 71 = us 71 := updB_other (by decide)
       have U72 : updB us 73 (.string ⟨#[bb]⟩) 72 = us 72 := updB_other (by decide)
       have U73 : updB us 73 (.string ⟨#[bb]⟩) 73 = (.string ⟨#[bb]⟩) := updB_same _ _ _
       have U74 : updB us 73 (.string ⟨#[bb]⟩) 74 = us 74 := updB_other (by decide)
       have U75 : updB us 73 (.string ⟨#[bb]⟩) 75 = us 75 := updB_other (by decide)
       have U76 : updB us 73 (.string ⟨#[bb]⟩) 76 = us 76 := updB_other (by decide)
       have U77 : updB us 73 (.string ⟨#[bb]⟩) 77 = us 77 := updB_other (by decide)
       have U78 : updB us 73 (.string ⟨#[bb]⟩) 78 = us 78 := updB_other (by decide)
       have U79 : updB us 73 (.string ⟨#[bb]⟩) 79 = us 79 := updB_other (by decide)
       refine wpOp_step rfl (fun K hK => ?_)
       simp only [frA, e5, e6, e70, e72]
       go_simp
       refine hK _ _ ⟨updB us 73 (.string ⟨#[bb]⟩), by simp [frA, updB, Act.put, e5, e6, e70, e72] <;> rfl, { fx := (fun k hk hk3 => (updB_other (by omega)).trans (I.fx k hk hk3)), f80 := (U80.trans I.f80), u5 := (U5.trans I.u5), u6 := (U6.trans I.u6), u3 := (cO U3 I.u3 D11), o0 := (cO U69 I.o0 D0), o1 := (cO U70 I.o1 D1), o2 := (cO U71 I.o2 D2), o3 := (cO U72 I.o3 D3), o4 := (fun _ => U73), o5 := (cO U74 I.o5 D5), o6 := (cO U75 I.o6 D6), o7 := (cO U76 I.o7 D7), o8 := (cO U77 I.o8 D8), bel := (fun h => I.bel (D10.symm.trans h)), s9 := (fun h h2 => by rw [U78]; exact I.s9 (D9.symm.trans h) (D10.symm.trans h2)), s10 := (fun h => by have := D10.symm.trans h; rw [H10] at this; cases this), o11 := (fun h => by have := D11.symm.trans h; rw [H11] at this; cases this) }⟩
      ·
       skip
       have D5 : (dd.setIfInBounds 5 true).getD 5 false = true := setB_same hun
       have H5 := undoneF hun
       have D0 : (dd.setIfInBounds 5 true).getD 0 false = dd.getD 0 false := getD_set_ne false (by decide)
       have D1 : (dd.setIfInBounds 5 true).getD 1 false = dd.getD 1 false := getD_set_ne false (by decide)
       have D2 : (dd.setIfInBounds 5 true).getD 2 false = dd.getD 2 false := getD_set_ne false (by decide)
       have D3 : (dd.setIfInBounds 5 true).getD 3 false = dd.getD 3 false := getD_set_ne false (by decide)
       have D4 : (dd.setIfInBounds 5 true).getD 4 false = dd.getD 4 false := getD_set_ne false (by decide)
       have D6 : (dd.setIfInBounds 5 true).getD 6 false = dd.getD 6 false := getD_set_ne false (by decide)
       have D7 : (dd.setIfInBounds 5 true).getD 7 false = dd.getD 7 false := getD_set_ne false (by decide)
       have D8 : (dd.setIfInBounds 5 true).getD 8 false = dd.getD 8 false := getD_set_ne false (by decide)
       have D9 : (dd.setIfInBounds 5 true).getD 9 false = dd.getD 9 false := getD_set_ne false (by decide)
       have D10 : (dd.setIfInBounds 5 true).getD 10 false = dd.getD 10 false := getD_set_ne false (by decide)
       have D11 : (dd.setIfInBounds 5 true).getD 11 false = dd.getD 11 false := getD_set_ne false (by decide)
       have H8 := hcl.back 8 _ ⟨5, .data⟩ rfl (by simp) rfl H5
       have H9 := hcl.back 9 _ ⟨8, .data⟩ rfl (by simp) rfl H8
       have H10 := hcl.back 10 _ ⟨9, .data⟩ rfl (by simp) rfl H9
       have H11 := hcl.back 11 _ ⟨10, .data⟩ rfl (by simp) rfl H10
       have e5 := I.u5
       have e6 := I.u6
       have h4 := hall ⟨4, .data⟩ (by simp) rfl
       have e73 := I.o4 h4
       have hbel := I.bel H10
       have hsz := hbel.size
       have U3 : updB us 74 (.string ⟨#[122, bb]⟩) 3 = us 3 := updB_other (by decide)
       have U5 : updB us 74 (.string ⟨#[122, bb]⟩) 5 = us 5 := updB_other (by decide)
       have U6 : updB us 74 (.string ⟨#[122, bb]⟩) 6 = us 6 := updB_other (by decide)
       have U80 : updB us 74 (.string ⟨#[122, bb]⟩) 80 = us 80 := updB_other (by decide)
       have U69 : updB us 74 (.string ⟨#[122, bb]⟩) 69 = us 69 := updB_other (by decide)
       have U70 : updB us 74 (.string ⟨#[122, bb]⟩) 70 = us 70 := updB_other (by decide)
       have U71 : updB us 74 (.string ⟨#[122, bb]⟩) 71 = us 71 := updB_other (by decide)
       have U72 : updB us 74 (.string ⟨#[122, bb]⟩) 72 = us 72 := updB_other (by decide)
       have U73 : updB us 74 (.string ⟨#[122, bb]⟩) 73 = us 73 := updB_other (by decide)
       have U74 : updB us 74 (.string ⟨#[122, bb]⟩) 74 = (.string ⟨#[122, bb]⟩) := updB_same _ _ _
       have U75 : updB us 74 (.string ⟨#[122, bb]⟩) 75 = us 75 := updB_other (by decide)
       have U76 : updB us 74 (.string ⟨#[122, bb]⟩) 76 = us 76 := updB_other (by decide)
       have U77 : updB us 74 (.string ⟨#[122, bb]⟩) 77 = us 77 := updB_other (by decide)
       have U78 : updB us 74 (.string ⟨#[122, bb]⟩) 78 = us 78 := updB_other (by decide)
       have U79 : updB us 74 (.string ⟨#[122, bb]⟩) 79 = us 79 := updB_other (by decide)
       refine wpOp_step rfl (fun K hK => ?_)
       simp only [frA, e5, e6, e73]
       go_simp
       refine hK _ _ ⟨updB us 74 (.string ⟨#[122, bb]⟩), by simp [frA, updB, Act.put, e5, e6, e73] <;> rfl, { fx := (fun k hk hk3 => (updB_other (by omega)).trans (I.fx k hk hk3)), f80 := (U80.trans I.f80), u5 := (U5.trans I.u5), u6 := (U6.trans I.u6), u3 := (cO U3 I.u3 D11), o0 := (cO U69 I.o0 D0), o1 := (cO U70 I.o1 D1), o2 := (cO U71 I.o2 D2), o3 := (cO U72 I.o3 D3), o4 := (cO U73 I.o4 D4), o5 := (fun _ => U74), o6 := (cO U75 I.o6 D6), o7 := (cO U76 I.o7 D7), o8 := (cO U77 I.o8 D8), bel := (fun h => I.bel (D10.symm.trans h)), s9 := (fun h h2 => by rw [U78]; exact I.s9 (D9.symm.trans h) (D10.symm.trans h2)), s10 := (fun h => by have := D10.symm.trans h; rw [H10] at this; cases this), o11 := (fun h => by have := D11.symm.trans h; rw [H11] at this; cases this) }⟩
      ·
       skip
       have D6 : (dd.setIfInBounds 6 true).getD 6 false = true := setB_same hun
       have H6 := undoneF hun
       have D0 : (dd.setIfInBounds 6 true).getD 0 false = dd.getD 0 false := getD_set_ne false (by decide)
       have D1 : (dd.setIfInBounds 6 true).getD 1 false = dd.getD 1 false := getD_set_ne false (by decide)
       have D2 : (dd.setIfInBounds 6 true).getD 2 false = dd.getD 2 false := getD_set_ne false (by decide)
       have D3 : (dd.setIfInBounds 6 true).getD 3 false = dd.getD 3 false := getD_set_ne false (by decide)
       have D4 : (dd.setIfInBounds 6 true).getD 4 false = dd.getD 4 false := getD_set_ne false (by decide)
       have D5 : (dd.setIfInBounds 6 true).getD 5 false = dd.getD 5 false := getD_set_ne false (by decide)
       have D7 : (dd.setIfInBounds 6 true).getD 7 false = dd.getD 7 false := getD_set_ne false (by decide)
       have D8 : (dd.setIfInBounds 6 true).getD 8 false = dd.getD 8 false := getD_set_ne false (by decide)
       have D9 : (dd.setIfInBounds 6 true).getD 9 false = dd.getD 9 false := getD_set_ne false (by decide)
       have D10 : (dd.setIfInBounds 6 true).getD 10 false = dd.getD 10 false := getD_set_ne false (by decide)
       have D11 : (dd.setIfInBounds 6 true).getD 11 false = dd.getD 11 false := getD_set_ne false (by decide)
       have H7 := hcl.back 7 _ ⟨6, .data⟩ rfl (by simp) rfl H6
       have H8 := hcl.back 8 _ ⟨7, .data⟩ rfl (by simp) rfl H7
       have H9 := hcl.back 9 _ ⟨8, .data⟩ rfl (by simp) rfl H8
       have H10 := hcl.back 10 _ ⟨9, .data⟩ rfl (by simp) rfl H9
       have H11 := hcl.back 11 _ ⟨10, .data⟩ rfl (by simp) rfl H10
       have e5 := I.u5
       have e6 := I.u6
       have hbel := I.bel H10
       have hsz := hbel.size
       have U3 : updB us 75 (.pointer (some ⟨w3.heap.size, 5, none⟩)) 3 = us 3 := updB_other (by decide)
       have U5 : updB us 75 (.pointer (some ⟨w3.heap.size, 5, none⟩)) 5 = us 5 := updB_other (by decide)
       have U6 : updB us 75 (.pointer (some ⟨w3.heap.size, 5, none⟩)) 6 = us 6 := updB_other (by decide)
       have U80 : updB us 75 (.pointer (some ⟨w3.heap.size, 5, none⟩)) 80 = us 80 := updB_other (by decide)
       have U69 : updB us 75 (.pointer (some ⟨w3.heap.size, 5, none⟩)) 69 = us 69 := updB_other (by decide)
       have U70 : updB us 75 (.pointer (some ⟨w3.heap.size, 5, none⟩)) 70 = us 70 := updB_other (by decide)
       have U71 : updB us 75 (.pointer (some ⟨w3.heap.size, 5, none⟩)) 71 = us 71 := updB_other (by decide)
       have U72 : updB us 75 (.pointer (some ⟨w3.heap.size, 5, none⟩)) 72 = us 72 := updB_other (by decide)
       have U73 : updB us 75 (.pointer (some ⟨w3.heap.size, 5, none⟩)) 73 = us 73 := updB_other (by decide)
       have U74 : updB us 75 (.pointer (some ⟨w3.heap.size, 5, none⟩)) 74 = us 74 := updB_other (by decide)
       have U75 : updB us 75 (.pointer (some ⟨w3.heap.size, 5, none⟩)) 75 = (.pointer (some ⟨w3.heap.size, 5, none⟩)) := updB_same _ _ _
       have U76 : updB us 75 (.pointer (some ⟨w3.heap.size, 5, none⟩)) 76 = us 76 := updB_other (by decide)
       have U77 : updB us 75 (.pointer (some ⟨w3.heap.size, 5, none⟩)) 77 = us 77 := updB_other (by decide)
       have U78 : updB us 75 (.pointer (some ⟨w3.heap.size, 5, none⟩)) 78 = us 78 := updB_other (by decide)
       have U79 : updB us 75 (.pointer (some ⟨w3.heap.size, 5, none⟩)) 79 = us 79 := updB_other (by decide)
       refine wpOp_step rfl (fun K hK => ?_)
       simp only [frA, e5, e6]
       go_simp
       refine hK _ _ ⟨updB us 75 (.pointer (some ⟨w3.heap.size, 5, none⟩)), by simp [frA, updB, Act.put, e5, e6] <;> rfl, { fx := (fun k hk hk3 => (updB_other (by omega)).trans (I.fx k hk hk3)), f80 := (U80.trans I.f80), u5 := (U5.trans I.u5), u6 := (U6.trans I.u6), u3 := (cO U3 I.u3 D11), o0 := (cO U69 I.o0 D0), o1 := (cO U70 I.o1 D1), o2 := (cO U71 I.o2 D2), o3 := (cO U72 I.o3 D3), o4 := (cO U73 I.o4 D4), o5 := (cO U74 I.o5 D5), o6 := (fun _ => U75), o7 := (cO U76 I.o7 D7), o8 := (cO U77 I.o8 D8), bel := (fun h => I.bel (D10.symm.trans h)), s9 := (fun h h2 => by rw [U78]; exact I.s9 (D9.symm.trans h) (D10.symm.trans h2)), s10 := (fun h => by have := D10.symm.trans h; rw [H10] at this; cases this), o11 := (fun h => by have := D11.symm.trans h; rw [H11] at this; cases this) }⟩
      ·
       skip
       have D7 : (dd.setIfInBounds 7 true).getD 7 false = true := setB_same hun
       have H7 := undoneF hun
       have D0 : (dd.setIfInBounds 7 true).getD 0 false = dd.getD 0 false := getD_set_ne false (by decide)
       have D1 : (dd.setIfInBounds 7 true).getD 1 false = dd.getD 1 false := getD_set_ne false (by decide)
       have D2 : (dd.setIfInBounds 7 true).getD 2 false = dd.getD 2 false := getD_set_ne false (by decide)
       have D3 : (dd.setIfInBounds 7 true).getD 3 false = dd.getD 3 false := getD_set_ne false (by decide)
       have D4 : (dd.setIfInBounds 7 true).getD 4 false = dd.getD 4 false := getD_set_ne false (by decide)
       have D5 : (dd.setIfInBounds 7 true).getD 5 false = dd.getD 5 false := getD_set_ne false (by decide)
       have D6 : (dd.setIfInBounds 7 true).getD 6 false = dd.getD 6 false := getD_set_ne false (by decide)
       have D8 : (dd.setIfInBounds 7 true).getD 8 false = dd.getD 8 false := getD_set_ne false (by decide)
       have D9 : (dd.setIfInBounds 7 true).getD 9 false = dd.getD 9 false := getD_set_ne false (by decide)
       have D10 : (dd.setIfInBounds 7 true).getD 10 false = dd.getD 10 false := getD_set_ne false (by decide)
       have D11 : (dd.setIfInBounds 7 true).getD 11 false = dd.getD 11 false := getD_set_ne false (by decide)
       have H8 := hcl.back 8 _ ⟨7, .data⟩ rfl (by simp) rfl H7
       have H9 := hcl.back 9 _ ⟨8, .data⟩ rfl (by simp) rfl H8
       have H10 := hcl.back 10 _ ⟨9, .data⟩ rfl (by simp) rfl H9
       have H11 := hcl.back 11 _ ⟨10, .data⟩ rfl (by simp) rfl H10
       have e5 := I.u5
       have e6 := I.u6
       have h6 := hall ⟨6, .data⟩ (by simp) rfl
       have e75 := I.o6 h6
       have hbel := I.bel H10
       have hsz := hbel.size
       have x5 := HX.out W1 hbel
       have U3 : updB us 76 (.int .i64 x.e) 3 = us 3 := updB_other (by decide)
       have U5 : updB us 76 (.int .i64 x.e) 5 = us 5 := updB_other (by decide)
       have U6 : updB us 76 (.int .i64 x.e) 6 = us 6 := updB_other (by decide)
       have U80 : updB us 76 (.int .i64 x.e) 80 = us 80 := updB_other (by decide)
       have U69 : updB us 76 (.int .i64 x.e) 69 = us 69 := updB_other (by decide)
       have U70 : updB us 76 (.int .i64 x.e) 70 = us 70 := updB_other (by decide)
       have U71 : updB us 76 (.int .i64 x.e) 71 = us 71 := updB_other (by decide)
       have U72 : updB us 76 (.int .i64 x.e) 72 = us 72 := updB_other (by decide)
       have U73 : updB us 76 (.int .i64 x.e) 73 = us 73 := updB_other (by decide)
       have U74 : updB us 76 (.int .i64 x.e) 74 = us 74 := updB_other (by decide)
       have U75 : updB us 76 (.int .i64 x.e) 75 = us 75 := updB_other (by decide)
       have U76 : updB us 76 (.int .i64 x.e) 76 = (.int .i64 x.e) := updB_same _ _ _
       have U77 : updB us 76 (.int .i64 x.e) 77 = us 77 := updB_other (by decide)
       have U78 : updB us 76 (.int .i64 x.e) 78 = us 78 := updB_other (by decide)
       have U79 : updB us 76 (.int .i64 x.e) 79 = us 79 := updB_other (by decide)
       refine wpOp_step rfl (fun K hK => ?_)
       simp only [frA, e5, e6, e75]
       go_simp
       refine hK _ _ ⟨updB us 76 (.int .i64 x.e), by simp [frA, updB, Act.put, e5, e6, e75] <;> rfl, { fx := (fun k hk hk3 => (updB_other (by omega)).trans (I.fx k hk hk3)), f80 := (U80.trans I.f80), u5 := (U5.trans I.u5), u6 := (U6.trans I.u6), u3 := (cO U3 I.u3 D11), o0 := (cO U69 I.o0 D0), o1 := (cO U70 I.o1 D1), o2 := (cO U71 I.o2 D2), o3 := (cO U72 I.o3 D3), o4 := (cO U73 I.o4 D4), o5 := (cO U74 I.o5 D5), o6 := (cO U75 I.o6 D6), o7 := (fun _ => U76), o8 := (cO U77 I.o8 D8), bel := (fun h => I.bel (D10.symm.trans h)), s9 := (fun h h2 => by rw [U78]; exact I.s9 (D9.symm.trans h) (D10.symm.trans h2)), s10 := (fun h => by have := D10.symm.trans h; rw [H10] at this; cases this), o11 := (fun h => by have := D11.symm.trans h; rw [H11] at this; cases this) }⟩
      ·
       skip
       have D8 : (dd.setIfInBounds 8 true).getD 8 false = true := setB_same hun
       have H8 := undoneF hun
       have D0 : (dd.setIfInBounds 8 true).getD 0 false = dd.getD 0 false := getD_set_ne false (by decide)
       have D1 : (dd.setIfInBounds 8 true).getD 1 false = dd.getD 1 false := getD_set_ne false (by decide)
       have D2 : (dd.setIfInBounds 8 true).getD 2 false = dd.getD 2 false := getD_set_ne false (by decide)
       have D3 : (dd.setIfInBounds 8 true).getD 3 false = dd.getD 3 false := getD_set_ne false (by decide)
       have D4 : (dd.setIfInBounds 8 true).getD 4 false = dd.getD 4 false := getD_set_ne false (by decide)
       have D5 : (dd.setIfInBounds 8 true).getD 5 false = dd.getD 5 false := getD_set_ne false (by decide)
       have D6 : (dd.setIfInBounds 8 true).getD 6 false = dd.getD 6 false := getD_set_ne false (by decide)
       have D7 : (dd.setIfInBounds 8 true).getD 7 false = dd.getD 7 false := getD_set_ne false (by decide)
       have D9 : (dd.setIfInBounds 8 true).getD 9 false = dd.getD 9 false := getD_set_ne false (by decide)
       have D10 : (dd.setIfInBounds 8 true).getD 10 false = dd.getD 10 false := getD_set_ne false (by decide)
       have D11 : (dd.setIfInBounds 8 true).getD 11 false = dd.getD 11 false := getD_set_ne false (by decide)
       have H9 := hcl.back 9 _ ⟨8, .data⟩ rfl (by simp) rfl H8
       have H10 := hcl.back 10 _ ⟨9, .data⟩ rfl (by simp) rfl H9
       have H11 := hcl.back 11 _ ⟨10, .data⟩ rfl (by simp) rfl H10
       have e5 := I.u5
       have e6 := I.u6
       have h5 := hall ⟨5, .data⟩ (by simp) rfl
       have e74 := I.o5 h5
       have h7 := hall ⟨7, .data⟩ (by simp) rfl
       have e76 := I.o7 h7
       have hbel := I.bel H10
       have hsz := hbel.size
       have U3 : updB us 77 (.agg #[.string ⟨#[122, bb]⟩, .int .i64 (-1), .int .i64 0, .int .i64 0, .int .i64 0, .int .i64 x.e, .string ⟨#[]⟩]) 3 = us 3 := updB_other (by decide)
       have U5 : updB us 77 (.agg #[.string ⟨#[122, bb]⟩, .int .i64 (-1), .int .i64 0, .int .i64 0, .int .i64 0, .int .i64 x.e, .string ⟨#[]⟩]) 5 = us 5 := updB_other (by decide)
       have U6 : updB us 77 (.agg #[.string ⟨#[122, bb]⟩, .int .i64 (-1), .int .i64 0, .int .i64 0, .int .i64 0, .int .i64 x.e, .string ⟨#[]⟩]) 6 = us 6 := updB_other (by decide)
       have U80 : updB us 77 (.agg #[.string ⟨#[122, bb]⟩, .int .i64 (-1), .int .i64 0, .int .i64 0, .int .i64 0, .int .i64 x.e, .string ⟨#[]⟩]) 80 = us 80 := updB_other (by decide)
       have U69 : updB us 77 (.agg #[.string ⟨#[122, bb]⟩, .int .i64 (-1), .int .i64 0, .int .i64 0, .int .i64 0, .int .i64 x.e, .string ⟨#[]⟩]) 69 = us 69 := updB_other (by decide)
       have U70 : updB us 77 (.agg #[.string ⟨#[122, bb]⟩, .int .i64 (-1), .int .i64 0, .int .i64 0, .int .i64 0, .int .i64 x.e, .string ⟨#[]⟩]) 70 = us 70 := updB_other (by decide)
       have U71 : updB us 77 (.agg #[.string ⟨#[122, bb]⟩, .int .i64 (-1), .int .i64 0, .int .i64 0, .int .i64 0, .int .i64 x.e, .string ⟨#[]⟩]) 71 = us 71 := updB_other (by decide)
       have U72 : updB us 77 (.agg #[.string ⟨#[122, bb]⟩, .int .i64 (-1), .int .i64 0, .int .i64 0, .int .i64 0, .int .i64 x.e, .string ⟨#[]⟩]) 72 = us 72 := updB_other (by decide)
       have U73 : updB us 77 (.agg #[.string ⟨#[122, bb]⟩, .int .i64 (-1), .int .i64 0, .int .i64 0, .int .i64 0, .int .i64 x.e, .string ⟨#[]⟩]) 73 = us 73 := updB_other (by decide)
       have U74 : updB us 77 (.agg #[.string ⟨#[122, bb]⟩, .int .i64 (-1), .int .i64 0, .int .i64 0, .int .i64 0, .int .i64 x.e, .string ⟨#[]⟩]) 74 = us 74 := updB_other (by decide)
       have U75 : updB us 77 (.agg #[.string ⟨#[122, bb]⟩, .int .i64 (-1), .int .i64 0, .int .i64 0, .int .i64 0, .int .i64 x.e, .string ⟨#[]⟩]) 75 = us 75 := updB_other (by decide)
       have U76 : updB us 77 (.agg #[.string ⟨#[122, bb]⟩, .int .i64 (-1), .int .i64 0, .int .i64 0, .int .i64 0, .int .i64 x.e, .string ⟨#[]⟩]) 76 = us 76 := updB_other (by decide)
       have U77 : updB us 77 (.agg #[.string ⟨#[122, bb]⟩, .int .i64 (-1), .int .i64 0, .int .i64 0, .int .i64 0, .int .i64 x.e, .string ⟨#[]⟩]) 77 = (.agg #[.string ⟨#[122, bb]⟩, .int .i64 (-1), .int .i64 0, .int .i64 0, .int .i64 0, .int .i64 x.e, .string ⟨#[]⟩]) := updB_same _ _ _
       have U78 : updB us 77 (.agg #[.string ⟨#[122, bb]⟩, .int .i64 (-1), .int .i64 0, .int .i64 0, .int .i64 0, .int .i64 x.e, .string ⟨#[]⟩]) 78 = us 78 := updB_other (by decide)
       have U79 : updB us 77 (.agg #[.string ⟨#[122, bb]⟩, .int .i64 (-1), .int .i64 0, .int .i64 0, .int .i64 0, .int .i64 x.e, .string ⟨#[]⟩]) 79 = us 79 := updB_other (by decide)
       refine wpOp_step rfl (fun K hK => ?_)
       simp only [frA, e5, e6, e74, e76]
       go_simp
       refine hK _ _ ⟨updB us 77 (.agg #[.string ⟨#[122, bb]⟩, .int .i64 (-1), .int .i64 0, .int .i64 0, .int .i64 0, .int .i64 x.e, .string ⟨#[]⟩]), by simp [frA, updB, Act.put, e5, e6, e74, e76] <;> rfl, { fx := (fun k hk hk3 => (updB_other (by omega)).trans (I.fx k hk hk3)), f80 := (U80.trans I.f80), u5 := (U5.trans I.u5), u6 := (U6.trans I.u6), u3 := (cO U3 I.u3 D11), o0 := (cO U69 I.o0 D0), o1 := (cO U70 I.o1 D1), o2 := (cO U71 I.o2 D2), o3 := (cO U72 I.o3 D3), o4 := (cO U73 I.o4 D4), o5 := (cO U74 I.o5 D5), o6 := (cO U75 I.o6 D6), o7 := (cO U76 I.o7 D7), o8 := (fun _ => U77), bel := (fun h => I.bel (D10.symm.trans h)), s9 := (fun h h2 => by rw [U78]; exact I.s9 (D9.symm.trans h) (D10.symm.trans h2)), s10 := (fun h => by have := D10.symm.trans h; rw [H10] at this; cases this), o11 := (fun h => by have := D11.symm.trans h; rw [H11] at this; cases this) }⟩
      ·
       skip
       have D9 : (dd.setIfInBounds 9 true).getD 9 false = true := setB_same hun
       have H9 := undoneF hun
       have D0 : (dd.setIfInBounds 9 true).getD 0 false = dd.getD 0 false := getD_set_ne false (by decide)
       have D1 : (dd.setIfInBounds 9 true).getD 1 false = dd.getD 1 false := getD_set_ne false (by decide)
       have D2 : (dd.setIfInBounds 9 true).getD 2 false = dd.getD 2 false := getD_set_ne false (by decide)
       have D3 : (dd.setIfInBounds 9 true).getD 3 false = dd.getD 3 false := getD_set_ne false (by decide)
       have D4 : (dd.setIfInBounds 9 true).getD 4 false = dd.getD 4 false := getD_set_ne false (by decide)
       have D5 : (dd.setIfInBounds 9 true).getD 5 false = dd.getD 5 false := getD_set_ne false (by decide)
       have D6 : (dd.setIfInBounds 9 true).getD 6 false = dd.getD 6 false := getD_set_ne false (by decide)
       have D7 : (dd.setIfInBounds 9 true).getD 7 false = dd.getD 7 false := getD_set_ne false (by decide)
       have D8 : (dd.setIfInBounds 9 true).getD 8 false = dd.getD 8 false := getD_set_ne false (by decide)
       have D10 : (dd.setIfInBounds 9 true).getD 10 false = dd.getD 10 false := getD_set_ne false (by decide)
       have D11 : (dd.setIfInBounds 9 true).getD 11 false = dd.getD 11 false := getD_set_ne false (by decide)
       have H10 := hcl.back 10 _ ⟨9, .data⟩ rfl (by simp) rfl H9
       have H11 := hcl.back 11 _ ⟨10, .data⟩ rfl (by simp) rfl H10
       have e5 := I.u5
       have e6 := I.u6
       have h8 := hall ⟨8, .data⟩ (by simp) rfl
       have e77 := I.o8 h8
       have hbel := I.bel H10
       have hsz := hbel.size
       have U3 : updB us 78 (.slice (some ⟨W1.heap.size, 0, none⟩) 1 1) 3 = us 3 := updB_other (by decide)
       have U5 : updB us 78 (.slice (some ⟨W1.heap.size, 0, none⟩) 1 1) 5 = us 5 := updB_other (by decide)
       have U6 : updB us 78 (.slice (some ⟨W1.heap.size, 0, none⟩) 1 1) 6 = us 6 := updB_other (by decide)
       have U80 : updB us 78 (.slice (some ⟨W1.heap.size, 0, none⟩) 1 1) 80 = us 80 := updB_other (by decide)
       have U69 : updB us 78 (.slice (some ⟨W1.heap.size, 0, none⟩) 1 1) 69 = us 69 := updB_other (by decide)
       have U70 : updB us 78 (.slice (some ⟨W1.heap.size, 0, none⟩) 1 1) 70 = us 70 := updB_other (by decide)
       have U71 : updB us 78 (.slice (some ⟨W1.heap.size, 0, none⟩) 1 1) 71 = us 71 := updB_other (by decide)
       have U72 : updB us 78 (.slice (some ⟨W1.heap.size, 0, none⟩) 1 1) 72 = us 72 := updB_other (by decide)
       have U73 : updB us 78 (.slice (some ⟨W1.heap.size, 0, none⟩) 1 1) 73 = us 73 := updB_other (by decide)
       have U74 : updB us 78 (.slice (some ⟨W1.heap.size, 0, none⟩) 1 1) 74 = us 74 := updB_other (by decide)
       have U75 : updB us 78 (.slice (some ⟨W1.heap.size, 0, none⟩) 1 1) 75 = us 75 := updB_other (by decide)
       have U76 : updB us 78 (.slice (some ⟨W1.heap.size, 0, none⟩) 1 1) 76 = us 76 := updB_other (by decide)
       have U77 : updB us 78 (.slice (some ⟨W1.heap.size, 0, none⟩) 1 1) 77 = us 77 := updB_other (by decide)
       have U78 : updB us 78 (.slice (some ⟨W1.heap.size, 0, none⟩) 1 1) 78 = (.slice (some ⟨W1.heap.size, 0, none⟩) 1 1) := updB_same _ _ _
       have U79 : updB us 78 (.slice (some ⟨W1.heap.size, 0, none⟩) 1 1) 79 = us 79 := updB_other (by decide)
       refine wpOp_step rfl (fun K hK => ?_)
       simp only [frA, e5, e6, e77]
       go_simp
       refine hK _ _ ⟨updB us 78 (.slice (some ⟨W1.heap.size, 0, none⟩) 1 1), by simp [frA, updB, Act.put, e5, e6, e77] <;> rfl, { fx := (fun k hk hk3 => (updB_other (by omega)).trans (I.fx k hk hk3)), f80 := (U80.trans I.f80), u5 := (U5.trans I.u5), u6 := (U6.trans I.u6), u3 := (cO U3 I.u3 D11), o0 := (cO U69 I.o0 D0), o1 := (cO U70 I.o1 D1), o2 := (cO U71 I.o2 D2), o3 := (cO U72 I.o3 D3), o4 := (cO U73 I.o4 D4), o5 := (cO U74 I.o5 D5), o6 := (cO U75 I.o6 D6), o7 := (cO U76 I.o7 D7), o8 := (cO U77 I.o8 D8), bel := (fun _ => hbel.alloc hsz _), s9 := (fun _ _ => ⟨W1.heap.size, U78, heap_alloc_new W1 _, hsz⟩), s10 := (fun h => by have := D10.symm.trans h; rw [H10] at this; cases this), o11 := (fun h => by have := D11.symm.trans h; rw [H11] at this; cases this) }⟩
      ·
       skip
       have D10 : (dd.setIfInBounds 10 true).getD 10 false = true := setB_same hun
       have H10 := undoneF hun
       have D0 : (dd.setIfInBounds 10 true).getD 0 false = dd.getD 0 false := getD_set_ne false (by decide)
       have D1 : (dd.setIfInBounds 10 true).getD 1 false = dd.getD 1 false := getD_set_ne false (by decide)
       have D2 : (dd.setIfInBounds 10 true).getD 2 false = dd.getD 2 false := getD_set_ne false (by decide)
       have D3 : (dd.setIfInBounds 10 true).getD 3 false = dd.getD 3 false := getD_set_ne false (by decide)
       have D4 : (dd.setIfInBounds 10 true).getD 4 false = dd.getD 4 false := getD_set_ne false (by decide)
       have D5 : (dd.setIfInBounds 10 true).getD 5 false = dd.getD 5 false := getD_set_ne false (by decide)
       have D6 : (dd.setIfInBounds 10 true).getD 6 false = dd.getD 6 false := getD_set_ne false (by decide)
       have D7 : (dd.setIfInBounds 10 true).getD 7 false = dd.getD 7 false := getD_set_ne false (by decide)
       have D8 : (dd.setIfInBounds 10 true).getD 8 false = dd.getD 8 false := getD_set_ne false (by decide)
       have D9 : (dd.setIfInBounds 10 true).getD 9 false = dd.getD 9 false := getD_set_ne false (by decide)
       have D11 : (dd.setIfInBounds 10 true).getD 11 false = dd.getD 11 false := getD_set_ne false (by decide)
       have H11 := hcl.back 11 _ ⟨10, .data⟩ rfl (by simp) rfl H10
       have e5 := I.u5
       have e6 := I.u6
       have h0 := hall ⟨0, .data⟩ (by simp) rfl
       have e69 := I.o0 h0
       have h9 := hall ⟨9, .data⟩ (by simp) rfl
       have hbel := I.bel H10
       have hsz := hbel.size
       obtain ⟨B, e78, hB, hBl⟩ := I.s9 h9 H10
       refine wpOp_append_clsD rfl rfl (.tmp 69) (.tmp 78) rfl w.heap.size (.slice O ys.length q) ys (by show us 69 = _; exact e69) ⟨O, q, rfl, HO.out.below hbel⟩ (some ⟨B, 0, none⟩) 1 [⟨[122, bb], -1, 0, 0, 0, x.e, []⟩] (by show us 78 = _; exact e78) (clsR_row (q := ⟨[122, bb], -1, 0, 0, 0, x.e, []⟩) hB) (.inr ⟨_, _, rfl⟩) (by simp; omega) (Nat.le_trans hlo hsz) ?_
       intro v' W2 hrow' hbl hg3 hk3
       obtain ⟨O2, q2, rfl, ho2⟩ := hrow'
       have U3 : updB us 79 (.slice O2 (ys ++ [(⟨[122, bb], -1, 0, 0, 0, x.e, []⟩ : Cls)]).length q2) 3 = us 3 := updB_other (by decide)
       have U5 : updB us 79 (.slice O2 (ys ++ [(⟨[122, bb], -1, 0, 0, 0, x.e, []⟩ : Cls)]).length q2) 5 = us 5 := updB_other (by decide)
       have U6 : updB us 79 (.slice O2 (ys ++ [(⟨[122, bb], -1, 0, 0, 0, x.e, []⟩ : Cls)]).length q2) 6 = us 6 := updB_other (by decide)
       have U80 : updB us 79 (.slice O2 (ys ++ [(⟨[122, bb], -1, 0, 0, 0, x.e, []⟩ : Cls)]).length q2) 80 = us 80 := updB_other (by decide)
       have U69 : updB us 79 (.slice O2 (ys ++ [(⟨[122, bb], -1, 0, 0, 0, x.e, []⟩ : Cls)]).length q2) 69 = us 69 := updB_other (by decide)
       have U70 : updB us 79 (.slice O2 (ys ++ [(⟨[122, bb], -1, 0, 0, 0, x.e, []⟩ : Cls)]).length q2) 70 = us 70 := updB_other (by decide)
       have U71 : updB us 79 (.slice O2 (ys ++ [(⟨[122, bb], -1, 0, 0, 0, x.e, []⟩ : Cls)]).length q2) 71 = us 71 := updB_other (by decide)
       have U72 : updB us 79 (.slice O2 (ys ++ [(⟨[122, bb], -1, 0, 0, 0, x.e, []⟩ : Cls)]).length q2) 72 = us 72 := updB_other (by decide)
       have U73 : updB us 79 (.slice O2 (ys ++ [(⟨[122, bb], -1, 0, 0, 0, x.e, []⟩ : Cls)]).length q2) 73 = us 73 := updB_other (by decide)
       have U74 : updB us 79 (.slice O2 (ys ++ [(⟨[122, bb], -1, 0, 0, 0, x.e, []⟩ : Cls)]).length q2) 74 = us 74 := updB_other (by decide)
       have U75 : updB us 79 (.slice O2 (ys ++ [(⟨[122, bb], -1, 0, 0, 0, x.e, []⟩ : Cls)]).length q2) 75 = us 75 := updB_other (by decide)
       have U76 : updB us 79 (.slice O2 (ys ++ [(⟨[122, bb], -1, 0, 0, 0, x.e, []⟩ : Cls)]).length q2) 76 = us 76 := updB_other (by decide)
       have U77 : updB us 79 (.slice O2 (ys ++ [(⟨[122, bb], -1, 0, 0, 0, x.e, []⟩ : Cls)]).length q2) 77 = us 77 := updB_other (by decide)
       have U78 : updB us 79 (.slice O2 (ys ++ [(⟨[122, bb], -1, 0, 0, 0, x.e, []⟩ : Cls)]).length q2) 78 = us 78 := updB_other (by decide)
       have U79 : updB us 79 (.slice O2 (ys ++ [(⟨[122, bb], -1, 0, 0, 0, x.e, []⟩ : Cls)]).length q2) 79 = (.slice O2 (ys ++ [(⟨[122, bb], -1, 0, 0, 0, x.e, []⟩ : Cls)]).length q2) := updB_same _ _ _
       exact ⟨updB us 79 (.slice O2 (ys ++ [(⟨[122, bb], -1, 0, 0, 0, x.e, []⟩ : Cls)]).length q2), by simp [frA, updB, Act.put, e5, e6, e69] <;> rfl, { fx := (fun k hk hk3 => (updB_other (by omega)).trans (I.fx k hk hk3)), f80 := (U80.trans I.f80), u5 := (U5.trans I.u5), u6 := (U6.trans I.u6), u3 := (cO U3 I.u3 D11), o0 := (cO U69 I.o0 D0), o1 := (cO U70 I.o1 D1), o2 := (cO U71 I.o2 D2), o3 := (cO U72 I.o3 D3), o4 := (cO U73 I.o4 D4), o5 := (cO U74 I.o5 D5), o6 := (cO U75 I.o6 D6), o7 := (cO U76 I.o7 D7), o8 := (cO U77 I.o8 D8), bel := (fun h => by rw [D10] at h; cases h), s9 := (fun _ h => by rw [D10] at h; cases h), s10 := (fun _ => ⟨W1, O2, q2, hbel, hg3, U79, ho2, hk3⟩), o11 := (fun h => by have := D11.symm.trans h; rw [H11] at this; cases this) }⟩
      ·
       skip
       have D11 : (dd.setIfInBounds 11 true).getD 11 false = true := setB_same hun
       have H11 := undoneF hun
       have D0 : (dd.setIfInBounds 11 true).getD 0 false = dd.getD 0 false := getD_set_ne false (by decide)
       have D1 : (dd.setIfInBounds 11 true).getD 1 false = dd.getD 1 false := getD_set_ne false (by decide)
       have D2 : (dd.setIfInBounds 11 true).getD 2 false = dd.getD 2 false := getD_set_ne false (by decide)
       have D3 : (dd.setIfInBounds 11 true).getD 3 false = dd.getD 3 false := getD_set_ne false (by decide)
       have D4 : (dd.setIfInBounds 11 true).getD 4 false = dd.getD 4 false := getD_set_ne false (by decide)
       have D5 : (dd.setIfInBounds 11 true).getD 5 false = dd.getD 5 false := getD_set_ne false (by decide)
       have D6 : (dd.setIfInBounds 11 true).getD 6 false = dd.getD 6 false := getD_set_ne false (by decide)
       have D7 : (dd.setIfInBounds 11 true).getD 7 false = dd.getD 7 false := getD_set_ne false (by decide)
       have D8 : (dd.setIfInBounds 11 true).getD 8 false = dd.getD 8 false := getD_set_ne false (by decide)
       have D9 : (dd.setIfInBounds 11 true).getD 9 false = dd.getD 9 false := getD_set_ne false (by decide)
       have D10 : (dd.setIfInBounds 11 true).getD 10 false = dd.getD 10 false := getD_set_ne false (by decide)
       have e5 := I.u5
       have e6 := I.u6
       have h10 := hall ⟨10, .data⟩ (by simp) rfl
       have G10 := I.s10 h10
       have U3 : updB us 3 (us 79) 3 = (us 79) := updB_same _ _ _
       have U5 : updB us 3 (us 79) 5 = us 5 := updB_other (by decide)
       have U6 : updB us 3 (us 79) 6 = us 6 := updB_other (by decide)
       have U80 : updB us 3 (us 79) 80 = us 80 := updB_other (by decide)
       have U69 : updB us 3 (us 79) 69 = us 69 := updB_other (by decide)
       have U70 : updB us 3 (us 79) 70 = us 70 := updB_other (by decide)
       have U71 : updB us 3 (us 79) 71 = us 71 := updB_other (by decide)
       have U72 : updB us 3 (us 79) 72 = us 72 := updB_other (by decide)
       have U73 : updB us 3 (us 79) 73 = us 73 := updB_other (by decide)
       have U74 : updB us 3 (us 79) 74 = us 74 := updB_other (by decide)
       have U75 : updB us 3 (us 79) 75 = us 75 := updB_other (by decide)
       have U76 : updB us 3 (us 79) 76 = us 76 := updB_other (by decide)
       have U77 : updB us 3 (us 79) 77 = us 77 := updB_other (by decide)
       have U78 : updB us 3 (us 79) 78 = us 78 := updB_other (by decide)
       have U79 : updB us 3 (us 79) 79 = us 79 := updB_other (by decide)
       refine wpOp_step rfl (fun K hK => ?_)
       simp only [frA, e5, e6]
       go_simp
       refine hK _ _ ⟨updB us 3 (us 79), by simp [frA, updB, Act.put, e5, e6] <;> rfl, { fx := (fun k hk hk3 => (updB_other (by omega)).trans (I.fx k hk hk3)), f80 := (U80.trans I.f80), u5 := (U5.trans I.u5), u6 := (U6.trans I.u6), u3 := (fun h => by rw [D11] at h; cases h), o0 := (cO U69 I.o0 D0), o1 := (cO U70 I.o1 D1), o2 := (cO U71 I.o2 D2), o3 := (cO U72 I.o3 D3), o4 := (cO U73 I.o4 D4), o5 := (cO U74 I.o5 D5), o6 := (cO U75 I.o6 D6), o7 := (cO U76 I.o7 D7), o8 := (cO U77 I.o8 D8), bel := (fun h => I.bel (D10.symm.trans h)), s9 := (fun h h2 => by rw [U78]; exact I.s9 (D9.symm.trans h) (D10.symm.trans h2)), s10 := (fun _ => by rw [U79]; exact G10), o11 := (fun _ => by rw [U3, U79]) }⟩
     intro dd us W1 hd hall I
     have DD : ∀ k, k < 12 -> dd.getD k false = true := fun k hk => by
      have := hall k hk
      have hk2 : k < dd.size := by rw [hd]; exact hk
      simp [hk2] at this ⊢; exact this
     have g3 := I.o11 (DD 11 (by decide))
     obtain ⟨Wp, O', q', hbp, hgp, e79, hRow, hk3⟩ := I.s10 (DD 10 (by decide))
     rw [e79] at g3
     have e5 := I.u5
     have e6 := I.u6
     have e80 : us 80 = undef := I.f80
     have e0 : us 0 = .pointer (some ⟨g, 0, none⟩) := I.fx 0 (by decide) (by decide)
     have e1 : us 1 = undef := I.fx 1 (by decide) (by decide)
     have e2 : us 2 = .slice none 0 0 := I.fx 2 (by decide) (by decide)
     have e4 : us 4 = .int .i64 (k : Int) := I.fx 4 (by decide) (by decide)
     have e7 : us 7 = .pointer (some ⟨g, 0, none⟩) := I.fx 7 (by decide) (by decide)
     have e8 : us 8 = .slice (some ⟨gB, 0, none⟩) (m + 1) d := I.fx 8 (by decide) (by decide)
     have e9 : us 9 = .pointer (some ⟨g, 0, none⟩) := I.fx 9 (by decide) (by decide)
     have e10 : us 10 = .slice (some ⟨gB, 0, none⟩) (m + 1) d := I.fx 10 (by decide) (by decide)
     have e11 : us 11 = .int .i64 ((m : Int) + 1) := I.fx 11 (by decide) (by decide)
     have e12 : us 12 = .int .i64 (k : Int) := I.fx 12 (by decide) (by decide)
     have e13 : us 13 = .pointer (some ⟨g, 0, none⟩) := I.fx 13 (by decide) (by decide)
     have e14 : us 14 = .int .i64 4 := I.fx 14 (by decide) (by decide)
     have e15 : us 15 = .bool false := I.fx 15 (by decide) (by decide)
     have e16 : us 16 = .bool false := I.fx 16 (by decide) (by decide)
     have e17 : us 17 = undef := I.fx 17 (by decide) (by decide)
     have e18 : us 18 = undef := I.fx 18 (by decide) (by decide)
     have e19 : us 19 = undef := I.fx 19 (by decide) (by decide)
     have e20 : us 20 = undef := I.fx 20 (by decide) (by decide)
     have e21 : us 21 = undef := I.fx 21 (by decide) (by decide)
     have e22 : us 22 = undef := I.fx 22 (by decide) (by decide)
     have e23 : us 23 = undef := I.fx 23 (by decide) (by decide)
     have e24 : us 24 = undef := I.fx 24 (by decide) (by decide)
     have e25 : us 25 = undef := I.fx 25 (by decide) (by decide)
     have e26 : us 26 = .bool false := I.fx 26 (by decide) (by decide)
     have e27 : us 27 = .bool false := I.fx 27 (by decide) (by decide)
     have e28 : us 28 = undef := I.fx 28 (by decide) (by decide)
     have e29 : us 29 = undef := I.fx 29 (by decide) (by decide)
     have e30 : us 30 = undef := I.fx 30 (by decide) (by decide)
     have e31 : us 31 = undef := I.fx 31 (by decide) (by decide)
     have e32 : us 32 = undef := I.fx 32 (by decide) (by decide)
     have e33 : us 33 = undef := I.fx 33 (by decide) (by decide)
     have e34 : us 34 = undef := I.fx 34 (by decide) (by decide)
     have e35 : us 35 = .bool false := I.fx 35 (by decide) (by decide)
     have e36 : us 36 = .bool false := I.fx 36 (by decide) (by decide)
     have e37 : us 37 = undef := I.fx 37 (by decide) (by decide)
     have e38 : us 38 = undef := I.fx 38 (by decide) (by decide)
     have e39 : us 39 = undef := I.fx 39 (by decide) (by decide)
     have e40 : us 40 = undef := I.fx 40 (by decide) (by decide)
     have e41 : us 41 = undef := I.fx 41 (by decide) (by decide)
     have e42 : us 42 = undef := I.fx 42 (by decide) (by decide)
     have e43 : us 43 = undef := I.fx 43 (by decide) (by decide)
     have e44 : us 44 = .bool false := I.fx 44 (by decide) (by decide)
     have e45 : us 45 = .bool false := I.fx 45 (by decide) (by decide)
     have e46 : us 46 = undef := I.fx 46 (by decide) (by decide)
     have e47 : us 47 = undef := I.fx 47 (by decide) (by decide)
     have e48 : us 48 = undef := I.fx 48 (by decide) (by decide)
     have e49 : us 49 = .bool true := I.fx 49 (by decide) (by decide)
     have e50 : us 50 = .bool true := I.fx 50 (by decide) (by decide)
     have e51 : us 51 = .slice (some ⟨gB, 0, none⟩) (m + 1) d := I.fx 51 (by decide) (by decide)
     have e52 : us 52 = .slice (some ⟨gB, 0, none⟩) (m + 1) d := I.fx 52 (by decide) (by decide)
     have e53 : us 53 = .int .i64 ((m : Int) + 1) := I.fx 53 (by decide) (by decide)
     have e54 : us 54 = .int .i64 (m : Int) := I.fx 54 (by decide) (by decide)
     have e55 : us 55 = .pointer (some ⟨gB, m * 7, none⟩) := I.fx 55 (by decide) (by decide)
     have e56 : us 56 = .agg #[.string ⟨x.c.toArray⟩, .int .i64 x.k, .int .i64 x.p, .int .i64 x.v, .int .i64 x.r, .int .i64 x.e, .string ⟨x.t.toArray⟩] := I.fx 56 (by decide) (by decide)
     clear I hall DD
     generalize w5.drew = W at *
     have hgO : ∀ t, (Value.slice O ys.length q).ownBlock = some t -> w.heap.size <= t := fun t e => (World.ownsRow.lt OD t e).1
     have bW : Below w.heap.size W W1 := (hbp.mono hsz).trans ((Below.refl _ _).grown hgp (Nat.le_trans hsz hbp.size) hgO)
     have bX : W1.heap[w3.heap.size]? = W.heap[w3.heap.size]? := (hgp.block _ (Nat.lt_of_lt_of_le hlx hbp.size) (fun e => HN.out e.symm)).trans (hbp.block _ hlx)
     simp only [frA, g3, e0, e1, e2, e4, e5, e6, e7, e8, e9, e10, e11, e12, e13, e14, e15, e16, e17, e18, e19, e20, e21, e22, e23, e24, e25, e26, e27, e28, e29, e30, e31, e32, e33, e34, e35, e36, e37, e38, e39, e40, e41, e42, e43, e44, e45, e46, e47, e48, e49, e50, e51, e52, e53, e54, e55, e56, e80]
     go_wp2_with fail
     go_roundw
     case rel =>
      refine ⟨ys ++ [⟨[122, bb], -1, 0, 0, 0, x.e, []⟩], O', q', j + 1, rfl, by go_num, by omega, by simp; omega, Lib.hid hRow, Lib.hid fun p hp => ?_, Lib.hid (SD.keep (bW.mono (by omega))), Lib.hid (grown_below GD bW), Lib.hid ?_, Lib.hid ?_⟩
      ·
       rcases List.mem_append.1 hp with h | h
       ·
        exact HT.out p h
       ·
        rw [List.mem_singleton.1 h]; unfold Cls.sz; simp
      ·
       exact bX.trans XD
      ·
       intro e
       rcases hk3 with hk3 | hk3
       ·
        exact HN.out (hk3.symm.trans e)
       ·
        rw [hk3] at e
        injection e with e
        have := hbp.size
        omega
     case measure => simp [intOf]; omega
    ·
     have d2 : decide ((j : Int) < 20) = false := decide_eq_false (by omega)
     have E := Lib.hid (show ys.length <= 30 by omega)
     clear hc1
     go_wp2_with fail
     go_ret
     exact ⟨O, q, ys, rfl, E.out, O5, HT.out, h5, G5⟩
   ·
    have d1 : decide ((ys.length : Int) < 12 + r) = false := decide_eq_false hc1
    have E := Lib.hid (show ys.length <= 30 by omega)
    clear hc1
    go_wp2_with fail
    go_ret
    exact ⟨O, q, ys, rfl, E.out, O5, HT.out, h5, G5⟩
 ·
  have e0 : (r' == 0) = false := beq_eq_false_iff_ne.2 (by omega)
  have e1 : (r' == 1) = false := beq_eq_false_iff_ne.2 (by omega)
  have e2 : (r' == 2) = false := beq_eq_false_iff_ne.2 (by omega)
  have e3 : (r' == 3) = false := beq_eq_false_iff_ne.2 (by omega)
  have e4 : (r' == 4) = false := beq_eq_false_iff_ne.2 (by omega)
  go_wp2_with fail
  go_ret
  exact ⟨_, d, ps, rfl, by omega, o3, fun p hp => by have := htx p hp; omega, h3, G3⟩
end Go.Proofs.YtjcklmhgjdmjoaaGreat
