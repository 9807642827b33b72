import Derived.Test.YtjcklmhgjdmjoaaGreatMDraw
import Derived.Test.YtjcklmhgjdmjoaaGreatMRate
namespace Go.Proofs.YtjcklmhgjdmjoaaGreat
open Go.ChangeShapes Go.WideShapes Go.ChangeAt Go.RowKit
set_option linter.unusedVariables false
def frDv (us : Nat -> Value) : Act := { tmps := #[us 0, us 1, us 2, us 3, us 4, us 5, us 6, us 7, us 8, us 9, us 10, us 11, us 12, us 13, us 14, us 15, us 16, us 17, us 18, us 19, us 20, us 21, us 22, us 23, us 24, us 25, us 26, us 27, us 28, us 29, us 30, us 31, us 32, us 33, us 34, us 35, us 36, us 37, us 38, us 39, us 40, us 41, us 42, us 43, us 44, us 45, us 46, us 47, us 48, us 49, us 50, us 51, us 52, us 53, us 54, us 55, us 56, us 57, us 58, us 59, us 60, us 61, us 62, us 63, us 64, us 65, us 66, us 67, us 68, us 69], defers := [] }
theorem frDv_of {x0 x1 x2 x3 x4 x5 x6 x7 x8 x9 x10 x11 x12 x13 x14 x15 x16 x17 x18 x19 x20 x21 x22 x23 x24 x25 x26 x27 x28 x29 x30 x31 x32 x33 x34 x35 x36 x37 x38 x39 x40 x41 x42 x43 x44 x45 x46 x47 x48 x49 x50 x51 x52 x53 x54 x55 x56 x57 x58 x59 x60 x61 x62 x63 x64 x65 x66 x67 x68 x69 : Value} : ({ tmps := #[x0, x1, x2, x3, x4, x5, x6, x7, x8, x9, x10, x11, x12, x13, x14, x15, x16, x17, x18, x19, x20, x21, x22, x23, x24, x25, x26, x27, x28, x29, x30, x31, x32, x33, x34, x35, x36, x37, x38, x39, x40, x41, x42, x43, x44, x45, x46, x47, x48, x49, x50, x51, x52, x53, x54, x55, x56, x57, x58, x59, x60, x61, x62, x63, x64, x65, x66, x67, x68, x69], defers := [] } : Act) = frDv (fun k => #[x0, x1, x2, x3, x4, x5, x6, x7, x8, x9, x10, x11, x12, x13, x14, x15, x16, x17, x18, x19, x20, x21, x22, x23, x24, x25, x26, x27, x28, x29, x30, x31, x32, x33, x34, x35, x36, x37, x38, x39, x40, x41, x42, x43, x44, x45, x46, x47, x48, x49, x50, x51, x52, x53, x54, x55, x56, x57, x58, x59, x60, x61, x62, x63, x64, x65, x66, x67, x68, x69].getD k undef) := rfl
structure InvDv (base g : Nat) (A : Option Addr) (c : Nat) (bs : List Int) (KB ki km : Nat) (ci : List UInt8) (LV V12 : Value) (w1 w : World) (d : Array Bool) (us : Nat -> Value) (W : World) : Prop where
 u0 : us 0 = .pointer (some ⟨g, 0, none⟩)
 u1 : us 1 = undef
 u2 : us 2 = .slice none 0 0
 u8 : us 8 = .slice (some ⟨KB, 0, none⟩) 6 6
 u9 : us 9 = .pointer (some ⟨g, 0, none⟩)
 u10 : us 10 = .int .i64 (km : Int)
 u11 : us 11 = .int .i64 (1 + (km : Int))
 u12 : us 12 = V12
 u3 : us 3 = .slice (some ⟨KB, 0, none⟩) 6 6
 u4 : us 4 = .int .i64 (1 + (km : Int))
 u5 : us 5 = LV
 u6 : us 6 = .int .i64 (ki : Int)
 u60 : us 60 = undef
 u61 : us 61 = undef
 u62 : us 62 = undef
 u63 : us 63 = undef
 u64 : us 64 = undef
 u65 : us 65 = undef
 u66 : us 66 = undef
 u67 : us 67 = undef
 u68 : us 68 = undef
 u69 : us 69 = undef
 src : Src W base g A c bs
 gr1 : w1.grownBy W (some g)
 gro : d.getD 19 false = false -> w.grownBy W (some g)
 o0 : d.getD 0 false = true -> d.getD 19 false = false -> us 18 = .slice (some ⟨KB, 0, none⟩) 6 6
 o1 : d.getD 1 false = true -> d.getD 19 false = false -> us 19 = .int .i64 (ki : Int)
 o2 : d.getD 2 false = true -> d.getD 19 false = false -> us 20 = .pointer (some ⟨KB, ki, none⟩)
 o3 : d.getD 3 false = true -> d.getD 19 false = false -> us 21 = .string ⟨ci.toArray⟩
 o4 : d.getD 4 false = true -> d.getD 19 false = false -> us 22 = .pointer (some ⟨g, 0, none⟩)
 o5 : d.getD 5 false = true -> d.getD 19 false = false -> us 23 = .pointer (some ⟨g, 0, none⟩)
 o6 : d.getD 6 false = true -> d.getD 19 false = false -> ∃ z : Int, us 24 = .int .i64 z /\ 0 <= z /\ z <= 6
 o7 : d.getD 7 false = true -> d.getD 19 false = false -> ∃ (B : Nat) (y : Int), us 25 = .slice (some ⟨B, 0, none⟩) 3 3 /\ W.heap[B]? = some (.cells #[.int .i64 (-1), .int .i64 (-1), .int .i64 y] 2 (0, 0)) /\ B ≠ g /\ w.heap.size <= B /\ 0 <= y /\ y <= 6
 o8 : d.getD 8 false = true -> d.getD 19 false = false -> ∃ z : Int, us 26 = .int .i64 z /\ -1 <= z /\ z <= 6
 o9 : d.getD 9 false = true -> d.getD 19 false = false -> us 27 = .pointer (some ⟨g, 0, none⟩)
 o10 : d.getD 10 false = true -> d.getD 19 false = false -> ∃ z : Int, us 28 = .int .i64 z /\ 0 <= z /\ z <= 2
 o11 : d.getD 11 false = true -> d.getD 19 false = false -> us 29 = .pointer (some ⟨g, 0, none⟩)
 o12 : d.getD 12 false = true -> d.getD 19 false = false -> ∃ z : Int, us 30 = .int .i64 z /\ 0 <= z /\ z <= 2
 o13 : d.getD 13 false = true -> d.getD 19 false = false -> us 31 = .pointer (some ⟨g, 0, none⟩)
 o14 : d.getD 14 false = true -> d.getD 19 false = false -> ∃ z : Int, us 32 = .int .i64 z /\ 0 <= z /\ z <= 2
 o15 : d.getD 15 false = true -> d.getD 19 false = false -> us 33 = .pointer (some ⟨g, 0, none⟩)
 o16 : d.getD 16 false = true -> d.getD 19 false = false -> ∃ z : Int, us 34 = .int .i64 z /\ 0 <= z /\ z <= 2
 o17 : d.getD 17 false = true -> d.getD 19 false = false -> ∃ (q : Cls), us 35 = .agg #[.string ⟨q.c.toArray⟩, .int .i64 q.k, .int .i64 q.p, .int .i64 q.v, .int .i64 q.r, .int .i64 q.e, .string ⟨q.t.toArray⟩] /\ Dcv q
 o18 : d.getD 18 false = true -> d.getD 19 false = false -> ∃ B : Nat, us 7 = .pointer (some ⟨B, 0, none⟩) /\ W.heap[B]? = some (.cells #[.string ⟨#[]⟩, .int .i64 0, .int .i64 0, .int .i64 0, .int .i64 0, .int .i64 0, .string ⟨#[]⟩] 47 (0, 0)) /\ B ≠ g /\ w.heap.size <= B
 o19 : d.getD 19 false = true -> ∃ (B : Nat) (q : Cls), us 7 = .pointer (some ⟨B, 0, none⟩) /\ W.heap[B]? = some (.cells #[.string ⟨q.c.toArray⟩, .int .i64 q.k, .int .i64 q.p, .int .i64 q.v, .int .i64 q.r, .int .i64 q.e, .string ⟨q.t.toArray⟩] 47 (0, 0)) /\ Dcv q /\ B ≠ g /\ w.heap.size <= B /\ w.grownBy W (some g)
def frDw (us : Nat -> Value) : Act := { tmps := #[us 0, us 1, us 2, us 3, us 4, us 5, us 6, us 7, us 8, us 9, us 10, us 11, us 12, us 13, us 14, us 15, us 16, us 17, us 18, us 19, us 20, us 21, us 22, us 23, us 24, us 25, us 26, us 27, us 28, us 29, us 30, us 31, us 32, us 33, us 34, us 35, us 36, us 37, us 38, us 39, us 40, us 41, us 42, us 43, us 44, us 45, us 46, us 47, us 48, us 49, us 50, us 51, us 52, us 53, us 54, us 55, us 56, us 57, us 58, us 59, us 60, us 61, us 62, us 63, us 64, us 65, us 66, us 67, us 68, us 69], defers := [] }
theorem frDw_of {x0 x1 x2 x3 x4 x5 x6 x7 x8 x9 x10 x11 x12 x13 x14 x15 x16 x17 x18 x19 x20 x21 x22 x23 x24 x25 x26 x27 x28 x29 x30 x31 x32 x33 x34 x35 x36 x37 x38 x39 x40 x41 x42 x43 x44 x45 x46 x47 x48 x49 x50 x51 x52 x53 x54 x55 x56 x57 x58 x59 x60 x61 x62 x63 x64 x65 x66 x67 x68 x69 : Value} : ({ tmps := #[x0, x1, x2, x3, x4, x5, x6, x7, x8, x9, x10, x11, x12, x13, x14, x15, x16, x17, x18, x19, x20, x21, x22, x23, x24, x25, x26, x27, x28, x29, x30, x31, x32, x33, x34, x35, x36, x37, x38, x39, x40, x41, x42, x43, x44, x45, x46, x47, x48, x49, x50, x51, x52, x53, x54, x55, x56, x57, x58, x59, x60, x61, x62, x63, x64, x65, x66, x67, x68, x69], defers := [] } : Act) = frDw (fun k => #[x0, x1, x2, x3, x4, x5, x6, x7, x8, x9, x10, x11, x12, x13, x14, x15, x16, x17, x18, x19, x20, x21, x22, x23, x24, x25, x26, x27, x28, x29, x30, x31, x32, x33, x34, x35, x36, x37, x38, x39, x40, x41, x42, x43, x44, x45, x46, x47, x48, x49, x50, x51, x52, x53, x54, x55, x56, x57, x58, x59, x60, x61, x62, x63, x64, x65, x66, x67, x68, x69].getD k undef) := rfl
structure InvDw (base g : Nat) (A : Option Addr) (c : Nat) (bs : List Int) (KB km lo : Nat) (ci : List UInt8) (LV : Value) (ys : List Cls) (w1 w : World) (d : Array Bool) (us : Nat -> Value) (W : World) : Prop where
 u0 : us 0 = .pointer (some ⟨g, 0, none⟩)
 u3 : us 3 = .slice (some ⟨KB, 0, none⟩) 6 6
 u4 : us 4 = .int .i64 (1 + (km : Int))
 u5 : us 5 = LV
 src : Src W base g A c bs
 gr1 : w1.grownBy W (some g)
 gro : d.getD 9 false = false -> w.grownBy W (some g)
 o0 : d.getD 0 false = true -> d.getD 9 false = false -> us 60 = LV
 o1 : d.getD 1 false = true -> d.getD 9 false = false -> us 61 = .slice (some ⟨KB, 0, none⟩) 6 6
 o2 : d.getD 2 false = true -> d.getD 9 false = false -> us 62 = .int .i64 (1 + (km : Int))
 o3 : d.getD 3 false = true -> d.getD 9 false = false -> us 63 = .pointer (some ⟨KB, 1 + km, none⟩)
 o4 : d.getD 4 false = true -> d.getD 9 false = false -> us 64 = .string ⟨ci.toArray⟩
 o5 : d.getD 5 false = true -> d.getD 9 false = false -> us 65 = .pointer (some ⟨g, 0, none⟩)
 o6 : d.getD 6 false = true -> d.getD 9 false = false -> ∃ z : Int, us 66 = .int .i64 z /\ 0 <= z /\ z <= 2
 o7 : d.getD 7 false = true -> d.getD 9 false = false -> ∃ (q : Cls), us 67 = .agg #[.string ⟨q.c.toArray⟩, .int .i64 q.k, .int .i64 q.p, .int .i64 q.v, .int .i64 q.r, .int .i64 q.e, .string ⟨q.t.toArray⟩] /\ Dcv q
 o8 : d.getD 8 false = true -> d.getD 9 false = false -> ∃ (B : Nat) (q : Cls), us 68 = .slice (some ⟨B, 0, none⟩) 1 1 /\ W.heap[B]? = some (.cells #[.string ⟨q.c.toArray⟩, .int .i64 q.k, .int .i64 q.p, .int .i64 q.v, .int .i64 q.r, .int .i64 q.e, .string ⟨q.t.toArray⟩] 47 (0, 0)) /\ B ≠ g /\ w.heap.size <= B /\ Dcv q
 o9 : d.getD 9 false = true -> ∃ (O : Option Addr) (dd : Nat) (q : Cls), us 69 = .slice O (ys ++ [q]).length dd /\ ClsO W lo O (ys ++ [q]).length dd (ys ++ [q]) /\ Dcv q
 o10 : d.getD 10 false = true -> us 2 = us 69
def NewCV (w : World) (base g : Nat) (A : Option Addr) (c : Nat) (bs : List Int) (e : Ending) (w' : World) : Prop :=
 ∃ B d ps, e = .returned (.slice B (List.length ps) d) /\ 1 <= ps.length /\ ps.length <= 6 /\ ClsO w' w.heap.size B ps.length d ps /\ (∀ p ∈ ps, Dcv p) /\ Src w' base g A c bs /\ w.grownBy w' (some g)
set_option maxRecDepth 100000 in
set_option maxHeartbeats 32000000 in
theorem valid_c (g : Nat) (base : Nat) (A : Option Addr) (c : Nat) (bs : List Int) (w : World) (h : Src w base g A c bs) :
  Calls Tryz.prog 66 #[.pointer (some ⟨g, 0, none⟩)] w (NewCV w base g A c bs) := by
 obtain ⟨i0, hi, hz0, hz1, hz2⟩ := info_parts clsInfo
 have hgl := h.lt
 have hrow0 : (w.alloc (.cells (codesC6.map strC).toArray 9)).heap[w.heap.size]? = some (.cells (codesC6.map strC).toArray 9 (0, 0)) := heap_alloc_new w _
 go_enter Tryz.func66, Tryz.ntmps66
 go_wp2_with fail
 refine (next_any g _ base A c bs _ (h.alloc _) (by omega)).mono ?_
 rintro e w1 ⟨r1, rfl, a1, b1, s1, g1⟩
 have k1 := keepG g1 hrow0 (by omega)
 have G1 : w.grownBy w1 (some g) := (World.grownBy_alloc w _ _).trans g1
 obtain ⟨km, rfl⟩ := Int.eq_ofNat_of_zero_le a1
 have hkm : km <= 4 := by omega
 have hg1lt : g < w1.heap.size := s1.lt
 have hszK : w.heap.size <= w1.heap.size := G1.size
 have H0 : (w1.alloc (Obj.cells #[] 47)).ownsRow w1.heap.size 47 7 (.slice (some ⟨w1.heap.size, 0, none⟩) 0 0) 0 [] := World.ownsRow_made w1 #[] 0 (Nat.le_refl _) (by decide) (by simp)
 have HH0 := Lib.hid H0
 have s1a := s1.alloc (Obj.cells #[] 47)
 have g1a : w1.grownBy (w1.alloc (Obj.cells #[] 47)) (some g) := World.grownBy_alloc _ _ _
 have hKBg : w.heap.size ≠ g := by omega
 clear h hrow0 g1 a1 b1 H0
 obtain ⟨KB, hKBe⟩ : ∃ n, n = w.heap.size := ⟨_, rfl⟩
 have HKE := Lib.hid hKBe
 rw [<- hKBe] at k1 hKBg ⊢
 clear hKBe
 go_wp2_with fail
 go_loopw [5, 6] (fun v i wr => ∃ (ki : Nat) (B : Option Addr) (d0 : Nat) (ys : List Cls), v = .slice B ys.length d0 /\ i = .int .i64 (ki : Int) /\ ki <= km + 1 /\ ys.length <= ki /\ Hid (∀ p ∈ ys, Dcv p) /\ Hid (ClsO wr w1.heap.size B ys.length d0 ys) /\ Src wr base g A c bs /\ w1.grownBy wr (some g)) (fun _ i _ => km + 1 - (intOf i).toNat)
 case atStart => exact ⟨0, some ⟨w1.heap.size, 0, none⟩, 0, [], rfl, rfl, by omega, by simp, Lib.hid (by simp), HH0, s1a, g1a⟩
 case round =>
  clear HH0 s1a g1a
  obtain ⟨ki, B, d0, ys, rfl, rfl, hki, hyl, hok, hown, hsq, hg1q⟩ := hrel
  obtain ⟨wq, hwq⟩ : ∃ x, x = wr := ⟨_, rfl⟩
  subst hwq
  have hgq := hsq.lt
  have hKB := keepG hg1q k1 hKBg
  clear s1 k1
  by_cases hlt : ki < km + 1
  ·
   have zlt : decide ((ki : Int) < 1 + (km : Int)) = true := decide_eq_true (by omega)
   have hki6 : ki < 6 := by omega
   obtain ⟨ci, hcl2, hci⟩ := text_atC (ts := codesC6) (n := 2) (by decide) (k := ki) hki6
   have hcil : ci.length <= 7 := by omega
   go_wp2_with fail
   refine region_inv2 (by kernel_rfl) (by kernel_rfl) (fun d' a' W => ∃ us, a' = frDv us /\ InvDv base g A c bs KB ki km ci (.slice B ys.length d0) (.slice (some ⟨w1.heap.size, 0, none⟩) 0 0) w1 wq d' us W) ?_ ?_ ?_
   ·
    refine ⟨_, frDv_of, ?_⟩
    have Z : ∀ k, (Array.replicate 20 false).getD k false = false := fun k => by
     rcases Nat.lt_or_ge k 20 with h | h
     ·
      simp [h]
     ·
      simp [Array.getElem?_eq_none, h]
    have Zn : ∀ {k : Nat} {p : Prop}, (Array.replicate 20 false).getD k false = true -> p := fun {k p} h => by rw [Z k] at h; cases h
    exact { u0 := rfl, u1 := rfl, u2 := rfl, u8 := rfl, u9 := rfl, u10 := rfl, u11 := rfl, u12 := rfl, u3 := rfl, u4 := rfl, u5 := rfl, u6 := rfl, u60 := rfl, u61 := rfl, u62 := rfl, u63 := rfl, u64 := rfl, u65 := rfl, u66 := rfl, u67 := rfl, u68 := rfl, u69 := rfl, src := hsq, gr1 := ⟨hg1q.os, hg1q.tape, hg1q.output, hg1q.size, hg1q.block⟩, gro := fun _ => ⟨rfl, rfl, rfl, Nat.le_refl _, fun _ _ _ => rfl⟩, o0 := fun h _ => Zn h, o1 := fun h _ => Zn h, o2 := fun h _ => Zn h, o3 := fun h _ => Zn h, o4 := fun h _ => Zn h, o5 := fun h _ => Zn h, o6 := fun h _ => Zn h, o7 := fun h _ => Zn h, o8 := fun h _ => Zn h, o9 := fun h _ => Zn h, o10 := fun h _ => Zn h, o11 := fun h _ => Zn h, o12 := fun h _ => Zn h, o13 := fun h _ => Zn h, o14 := fun h _ => Zn h, o15 := fun h _ => Zn h, o16 := fun h _ => Zn h, o17 := fun h _ => Zn h, o18 := fun h _ => Zn h, o19 := Zn }
   ·
    intro i d' a' W hi hcl hI
    obtain ⟨hun, oi, hoi, hall⟩ := mem_ready.1 hi
    have hlt : i < 20 := (Array.getElem?_eq_some_iff.1 hoi).1
    obtain ⟨us, rfl, I⟩ := hI
    have hs := I.src
    have hgW := hs.lt
    have e0 := I.u0
    have e1 := I.u1
    have e2 := I.u2
    have e8 := I.u8
    have e9 := I.u9
    have e10 := I.u10
    have e11 := I.u11
    have e12 := I.u12
    have e3 := I.u3
    have e4 := I.u4
    have e5 := I.u5
    have e6 := I.u6
    have e60 := I.u60
    have e61 := I.u61
    have e62 := I.u62
    have e63 := I.u63
    have e64 := I.u64
    have e65 := I.u65
    have e66 := I.u66
    have e67 := I.u67
    have e68 := I.u68
    have e69 := I.u69
    rcases (by omega : i = 0 ∨ i = 1 ∨ i = 2 ∨ i = 3 ∨ i = 4 ∨ i = 5 ∨ i = 6 ∨ i = 7 ∨ i = 8 ∨ i = 9 ∨ i = 10 ∨ i = 11 ∨ i = 12 ∨ i = 13 ∨ i = 14 ∨ i = 15 ∨ i = 16 ∨ i = 17 ∨ i = 18 ∨ i = 19) with rfl | rfl | rfl | rfl | rfl | rfl | rfl | rfl | rfl | rfl | rfl | rfl | rfl | rfl | rfl | rfl | rfl | rfl | rfl | rfl
    all_goals
     obtain rfl := Option.some.inj hoi
     clear hoi hlt hi
    ·
     skip
     have DO : ∀ n, 0 ≠ n -> (d'.setIfInBounds 0 true).getD n false = d'.getD n false := fun n h => getD_set_ne false h
     have D0 : (d'.setIfInBounds 0 true).getD 0 false = true := setB_same hun
     have D1 := DO 1 (by decide)
     have D2 := DO 2 (by decide)
     have D3 := DO 3 (by decide)
     have D4 := DO 4 (by decide)
     have D5 := DO 5 (by decide)
     have D6 := DO 6 (by decide)
     have D7 := DO 7 (by decide)
     have D8 := DO 8 (by decide)
     have D9 := DO 9 (by decide)
     have D10 := DO 10 (by decide)
     have D11 := DO 11 (by decide)
     have D12 := DO 12 (by decide)
     have D13 := DO 13 (by decide)
     have D14 := DO 14 (by decide)
     have D15 := DO 15 (by decide)
     have D16 := DO 16 (by decide)
     have D17 := DO 17 (by decide)
     have D18 := DO 18 (by decide)
     have D19 := DO 19 (by decide)
     have H0 := undoneF hun
     have H2 := hcl.back 2 _ ⟨0, .data⟩ rfl (by simp) rfl H0
     have H3 := hcl.back 3 _ ⟨2, .data⟩ rfl (by simp) rfl H2
     have H17 := hcl.back 17 _ ⟨3, .data⟩ rfl (by simp) rfl H3
     have H19 := hcl.back 19 _ ⟨17, .data⟩ rfl (by simp) rfl H17
     have hL := H19
     have hgr := I.gro hL
     have kc := cell_code (keepG hgr hKB hKBg) hci
     refine wpOp_step rfl (fun K hK => ?_)
     simp only [frDv, e0, e1, e2, e8, e9, e10, e11, e12, e3, e4, e5, e6, e60, e61, e62, e63, e64, e65, e66, e67, e68, e69]
     go_simp
     have UO : ∀ n, n ≠ 18 -> updB us 18 (.slice (some ⟨KB, 0, none⟩) 6 6) n = us n := fun n h => updB_other h
     have U18 : updB us 18 (.slice (some ⟨KB, 0, none⟩) 6 6) 18 = (.slice (some ⟨KB, 0, none⟩) 6 6) := updB_same _ _ _
     have U0 := UO 0 (by decide)
     have U1 := UO 1 (by decide)
     have U2 := UO 2 (by decide)
     have U3 := UO 3 (by decide)
     have U4 := UO 4 (by decide)
     have U5 := UO 5 (by decide)
     have U6 := UO 6 (by decide)
     have U7 := UO 7 (by decide)
     have U8 := UO 8 (by decide)
     have U9 := UO 9 (by decide)
     have U10 := UO 10 (by decide)
     have U11 := UO 11 (by decide)
     have U12 := UO 12 (by decide)
     have U19 := UO 19 (by decide)
     have U20 := UO 20 (by decide)
     have U21 := UO 21 (by decide)
     have U22 := UO 22 (by decide)
     have U23 := UO 23 (by decide)
     have U24 := UO 24 (by decide)
     have U25 := UO 25 (by decide)
     have U26 := UO 26 (by decide)
     have U27 := UO 27 (by decide)
     have U28 := UO 28 (by decide)
     have U29 := UO 29 (by decide)
     have U30 := UO 30 (by decide)
     have U31 := UO 31 (by decide)
     have U32 := UO 32 (by decide)
     have U33 := UO 33 (by decide)
     have U34 := UO 34 (by decide)
     have U35 := UO 35 (by decide)
     have U60 := UO 60 (by decide)
     have U61 := UO 61 (by decide)
     have U62 := UO 62 (by decide)
     have U63 := UO 63 (by decide)
     have U64 := UO 64 (by decide)
     have U65 := UO 65 (by decide)
     have U66 := UO 66 (by decide)
     have U67 := UO 67 (by decide)
     have U68 := UO 68 (by decide)
     have U69 := UO 69 (by decide)
     refine hK _ _ ⟨updB us 18 (.slice (some ⟨KB, 0, none⟩) 6 6), by simp [frDv, updB, e0, e1, e2, e8, e9, e10, e11, e12, e3, e4, e5, e6, e60, e61, e62, e63, e64, e65, e66, e67, e68, e69], { u0 := (U0.trans I.u0), u1 := (U1.trans I.u1), u2 := (U2.trans I.u2), u8 := (U8.trans I.u8), u9 := (U9.trans I.u9), u10 := (U10.trans I.u10), u11 := (U11.trans I.u11), u12 := (U12.trans I.u12), u3 := (U3.trans I.u3), u4 := (U4.trans I.u4), u5 := (U5.trans I.u5), u6 := (U6.trans I.u6), u60 := (U60.trans I.u60), u61 := (U61.trans I.u61), u62 := (U62.trans I.u62), u63 := (U63.trans I.u63), u64 := (U64.trans I.u64), u65 := (U65.trans I.u65), u66 := (U66.trans I.u66), u67 := (U67.trans I.u67), u68 := (U68.trans I.u68), u69 := (U69.trans I.u69), src := hs, gr1 := I.gr1, gro := (fun _ => hgr), o0 := (fun _ _ => U18), o1 := (fun h _ => by rw [U19]; exact I.o1 (D1.symm.trans h) hL), o2 := (fun h _ => by rw [U20]; exact I.o2 (D2.symm.trans h) hL), o3 := (fun h _ => by rw [U21]; exact I.o3 (D3.symm.trans h) hL), o4 := (fun h _ => by rw [U22]; exact I.o4 (D4.symm.trans h) hL), o5 := (fun h _ => by rw [U23]; exact I.o5 (D5.symm.trans h) hL), o6 := (fun h _ => by rw [U24]; exact I.o6 (D6.symm.trans h) hL), o7 := (fun h _ => by rw [U25]; obtain ⟨B2, y0, g1, g2, g3, g4, p0, p1⟩ := I.o7 (D7.symm.trans h) hL; exact ⟨B2, y0, g1, g2, g3, g4, p0, p1⟩), o8 := (fun h _ => by rw [U26]; exact I.o8 (D8.symm.trans h) hL), o9 := (fun h _ => by rw [U27]; exact I.o9 (D9.symm.trans h) hL), o10 := (fun h _ => by rw [U28]; exact I.o10 (D10.symm.trans h) hL), o11 := (fun h _ => by rw [U29]; exact I.o11 (D11.symm.trans h) hL), o12 := (fun h _ => by rw [U30]; exact I.o12 (D12.symm.trans h) hL), o13 := (fun h _ => by rw [U31]; exact I.o13 (D13.symm.trans h) hL), o14 := (fun h _ => by rw [U32]; exact I.o14 (D14.symm.trans h) hL), o15 := (fun h _ => by rw [U33]; exact I.o15 (D15.symm.trans h) hL), o16 := (fun h _ => by rw [U34]; exact I.o16 (D16.symm.trans h) hL), o17 := (fun h _ => by rw [U35]; exact I.o17 (D17.symm.trans h) hL), o18 := (fun h _ => by rw [U7]; obtain ⟨B2, g1, g2, g3, g4⟩ := I.o18 (D18.symm.trans h) hL; exact ⟨B2, g1, g2, g3, g4⟩), o19 := (fun h => by rw [D19, hL] at h; cases h) }⟩
    ·
     skip
     have DO : ∀ n, 1 ≠ n -> (d'.setIfInBounds 1 true).getD n false = d'.getD n false := fun n h => getD_set_ne false h
     have D1 : (d'.setIfInBounds 1 true).getD 1 false = true := setB_same hun
     have D0 := DO 0 (by decide)
     have D2 := DO 2 (by decide)
     have D3 := DO 3 (by decide)
     have D4 := DO 4 (by decide)
     have D5 := DO 5 (by decide)
     have D6 := DO 6 (by decide)
     have D7 := DO 7 (by decide)
     have D8 := DO 8 (by decide)
     have D9 := DO 9 (by decide)
     have D10 := DO 10 (by decide)
     have D11 := DO 11 (by decide)
     have D12 := DO 12 (by decide)
     have D13 := DO 13 (by decide)
     have D14 := DO 14 (by decide)
     have D15 := DO 15 (by decide)
     have D16 := DO 16 (by decide)
     have D17 := DO 17 (by decide)
     have D18 := DO 18 (by decide)
     have D19 := DO 19 (by decide)
     have H1 := undoneF hun
     have H2 := hcl.back 2 _ ⟨1, .data⟩ rfl (by simp) rfl H1
     have H3 := hcl.back 3 _ ⟨2, .data⟩ rfl (by simp) rfl H2
     have H17 := hcl.back 17 _ ⟨3, .data⟩ rfl (by simp) rfl H3
     have H19 := hcl.back 19 _ ⟨17, .data⟩ rfl (by simp) rfl H17
     have hL := H19
     have hgr := I.gro hL
     have kc := cell_code (keepG hgr hKB hKBg) hci
     refine wpOp_step rfl (fun K hK => ?_)
     simp only [frDv, e0, e1, e2, e8, e9, e10, e11, e12, e3, e4, e5, e6, e60, e61, e62, e63, e64, e65, e66, e67, e68, e69]
     go_simp
     have UO : ∀ n, n ≠ 19 -> updB us 19 (.int .i64 (ki : Int)) n = us n := fun n h => updB_other h
     have U19 : updB us 19 (.int .i64 (ki : Int)) 19 = (.int .i64 (ki : Int)) := updB_same _ _ _
     have U0 := UO 0 (by decide)
     have U1 := UO 1 (by decide)
     have U2 := UO 2 (by decide)
     have U3 := UO 3 (by decide)
     have U4 := UO 4 (by decide)
     have U5 := UO 5 (by decide)
     have U6 := UO 6 (by decide)
     have U7 := UO 7 (by decide)
     have U8 := UO 8 (by decide)
     have U9 := UO 9 (by decide)
     have U10 := UO 10 (by decide)
     have U11 := UO 11 (by decide)
     have U12 := UO 12 (by decide)
     have U18 := UO 18 (by decide)
     have U20 := UO 20 (by decide)
     have U21 := UO 21 (by decide)
     have U22 := UO 22 (by decide)
     have U23 := UO 23 (by decide)
     have U24 := UO 24 (by decide)
     have U25 := UO 25 (by decide)
     have U26 := UO 26 (by decide)
     have U27 := UO 27 (by decide)
     have U28 := UO 28 (by decide)
     have U29 := UO 29 (by decide)
     have U30 := UO 30 (by decide)
     have U31 := UO 31 (by decide)
     have U32 := UO 32 (by decide)
     have U33 := UO 33 (by decide)
     have U34 := UO 34 (by decide)
     have U35 := UO 35 (by decide)
     have U60 := UO 60 (by decide)
     have U61 := UO 61 (by decide)
     have U62 := UO 62 (by decide)
     have U63 := UO 63 (by decide)
     have U64 := UO 64 (by decide)
     have U65 := UO 65 (by decide)
     have U66 := UO 66 (by decide)
     have U67 := UO 67 (by decide)
     have U68 := UO 68 (by decide)
     have U69 := UO 69 (by decide)
     refine hK _ _ ⟨updB us 19 (.int .i64 (ki : Int)), by simp [frDv, updB, e0, e1, e2, e8, e9, e10, e11, e12, e3, e4, e5, e6, e60, e61, e62, e63, e64, e65, e66, e67, e68, e69], { u0 := (U0.trans I.u0), u1 := (U1.trans I.u1), u2 := (U2.trans I.u2), u8 := (U8.trans I.u8), u9 := (U9.trans I.u9), u10 := (U10.trans I.u10), u11 := (U11.trans I.u11), u12 := (U12.trans I.u12), u3 := (U3.trans I.u3), u4 := (U4.trans I.u4), u5 := (U5.trans I.u5), u6 := (U6.trans I.u6), u60 := (U60.trans I.u60), u61 := (U61.trans I.u61), u62 := (U62.trans I.u62), u63 := (U63.trans I.u63), u64 := (U64.trans I.u64), u65 := (U65.trans I.u65), u66 := (U66.trans I.u66), u67 := (U67.trans I.u67), u68 := (U68.trans I.u68), u69 := (U69.trans I.u69), src := hs, gr1 := I.gr1, gro := (fun _ => hgr), o0 := (fun h _ => by rw [U18]; exact I.o0 (D0.symm.trans h) hL), o1 := (fun _ _ => U19), o2 := (fun h _ => by rw [U20]; exact I.o2 (D2.symm.trans h) hL), o3 := (fun h _ => by rw [U21]; exact I.o3 (D3.symm.trans h) hL), o4 := (fun h _ => by rw [U22]; exact I.o4 (D4.symm.trans h) hL), o5 := (fun h _ => by rw [U23]; exact I.o5 (D5.symm.trans h) hL), o6 := (fun h _ => by rw [U24]; exact I.o6 (D6.symm.trans h) hL), o7 := (fun h _ => by rw [U25]; obtain ⟨B2, y0, g1, g2, g3, g4, p0, p1⟩ := I.o7 (D7.symm.trans h) hL; exact ⟨B2, y0, g1, g2, g3, g4, p0, p1⟩), o8 := (fun h _ => by rw [U26]; exact I.o8 (D8.symm.trans h) hL), o9 := (fun h _ => by rw [U27]; exact I.o9 (D9.symm.trans h) hL), o10 := (fun h _ => by rw [U28]; exact I.o10 (D10.symm.trans h) hL), o11 := (fun h _ => by rw [U29]; exact I.o11 (D11.symm.trans h) hL), o12 := (fun h _ => by rw [U30]; exact I.o12 (D12.symm.trans h) hL), o13 := (fun h _ => by rw [U31]; exact I.o13 (D13.symm.trans h) hL), o14 := (fun h _ => by rw [U32]; exact I.o14 (D14.symm.trans h) hL), o15 := (fun h _ => by rw [U33]; exact I.o15 (D15.symm.trans h) hL), o16 := (fun h _ => by rw [U34]; exact I.o16 (D16.symm.trans h) hL), o17 := (fun h _ => by rw [U35]; exact I.o17 (D17.symm.trans h) hL), o18 := (fun h _ => by rw [U7]; obtain ⟨B2, g1, g2, g3, g4⟩ := I.o18 (D18.symm.trans h) hL; exact ⟨B2, g1, g2, g3, g4⟩), o19 := (fun h => by rw [D19, hL] at h; cases h) }⟩
    ·
     skip
     have DO : ∀ n, 2 ≠ n -> (d'.setIfInBounds 2 true).getD n false = d'.getD n false := fun n h => getD_set_ne false h
     have D2 : (d'.setIfInBounds 2 true).getD 2 false = true := setB_same hun
     have D0 := DO 0 (by decide)
     have D1 := DO 1 (by decide)
     have D3 := DO 3 (by decide)
     have D4 := DO 4 (by decide)
     have D5 := DO 5 (by decide)
     have D6 := DO 6 (by decide)
     have D7 := DO 7 (by decide)
     have D8 := DO 8 (by decide)
     have D9 := DO 9 (by decide)
     have D10 := DO 10 (by decide)
     have D11 := DO 11 (by decide)
     have D12 := DO 12 (by decide)
     have D13 := DO 13 (by decide)
     have D14 := DO 14 (by decide)
     have D15 := DO 15 (by decide)
     have D16 := DO 16 (by decide)
     have D17 := DO 17 (by decide)
     have D18 := DO 18 (by decide)
     have D19 := DO 19 (by decide)
     have H2 := undoneF hun
     have H3 := hcl.back 3 _ ⟨2, .data⟩ rfl (by simp) rfl H2
     have H17 := hcl.back 17 _ ⟨3, .data⟩ rfl (by simp) rfl H3
     have H19 := hcl.back 19 _ ⟨17, .data⟩ rfl (by simp) rfl H17
     have hL := H19
     have hgr := I.gro hL
     have kc := cell_code (keepG hgr hKB hKBg) hci
     have e18 := I.o0 (hall ⟨0, .data⟩ (by simp) rfl) hL
     have e19 := I.o1 (hall ⟨1, .data⟩ (by simp) rfl) hL
     refine wpOp_step rfl (fun K hK => ?_)
     simp only [frDv, e0, e1, e2, e8, e9, e10, e11, e12, e3, e4, e5, e6, e60, e61, e62, e63, e64, e65, e66, e67, e68, e69, e18, e19]
     go_simp
     try (rw [if_pos (by omega)]; go_simp)
     have UO : ∀ n, n ≠ 20 -> updB us 20 (.pointer (some ⟨KB, ki, none⟩)) n = us n := fun n h => updB_other h
     have U20 : updB us 20 (.pointer (some ⟨KB, ki, none⟩)) 20 = (.pointer (some ⟨KB, ki, none⟩)) := updB_same _ _ _
     have U0 := UO 0 (by decide)
     have U1 := UO 1 (by decide)
     have U2 := UO 2 (by decide)
     have U3 := UO 3 (by decide)
     have U4 := UO 4 (by decide)
     have U5 := UO 5 (by decide)
     have U6 := UO 6 (by decide)
     have U7 := UO 7 (by decide)
     have U8 := UO 8 (by decide)
     have U9 := UO 9 (by decide)
     have U10 := UO 10 (by decide)
     have U11 := UO 11 (by decide)
     have U12 := UO 12 (by decide)
     have U18 := UO 18 (by decide)
     have U19 := UO 19 (by decide)
     have U21 := UO 21 (by decide)
     have U22 := UO 22 (by decide)
     have U23 := UO 23 (by decide)
     have U24 := UO 24 (by decide)
     have U25 := UO 25 (by decide)
     have U26 := UO 26 (by decide)
     have U27 := UO 27 (by decide)
     have U28 := UO 28 (by decide)
     have U29 := UO 29 (by decide)
     have U30 := UO 30 (by decide)
     have U31 := UO 31 (by decide)
     have U32 := UO 32 (by decide)
     have U33 := UO 33 (by decide)
     have U34 := UO 34 (by decide)
     have U35 := UO 35 (by decide)
     have U60 := UO 60 (by decide)
     have U61 := UO 61 (by decide)
     have U62 := UO 62 (by decide)
     have U63 := UO 63 (by decide)
     have U64 := UO 64 (by decide)
     have U65 := UO 65 (by decide)
     have U66 := UO 66 (by decide)
     have U67 := UO 67 (by decide)
     have U68 := UO 68 (by decide)
     have U69 := UO 69 (by decide)
     refine hK _ _ ⟨updB us 20 (.pointer (some ⟨KB, ki, none⟩)), by simp [frDv, updB, e0, e1, e2, e8, e9, e10, e11, e12, e3, e4, e5, e6, e60, e61, e62, e63, e64, e65, e66, e67, e68, e69, e18, e19], { u0 := (U0.trans I.u0), u1 := (U1.trans I.u1), u2 := (U2.trans I.u2), u8 := (U8.trans I.u8), u9 := (U9.trans I.u9), u10 := (U10.trans I.u10), u11 := (U11.trans I.u11), u12 := (U12.trans I.u12), u3 := (U3.trans I.u3), u4 := (U4.trans I.u4), u5 := (U5.trans I.u5), u6 := (U6.trans I.u6), u60 := (U60.trans I.u60), u61 := (U61.trans I.u61), u62 := (U62.trans I.u62), u63 := (U63.trans I.u63), u64 := (U64.trans I.u64), u65 := (U65.trans I.u65), u66 := (U66.trans I.u66), u67 := (U67.trans I.u67), u68 := (U68.trans I.u68), u69 := (U69.trans I.u69), src := hs, gr1 := I.gr1, gro := (fun _ => hgr), o0 := (fun h _ => by rw [U18]; exact I.o0 (D0.symm.trans h) hL), o1 := (fun h _ => by rw [U19]; exact I.o1 (D1.symm.trans h) hL), o2 := (fun _ _ => U20), o3 := (fun h _ => by rw [U21]; exact I.o3 (D3.symm.trans h) hL), o4 := (fun h _ => by rw [U22]; exact I.o4 (D4.symm.trans h) hL), o5 := (fun h _ => by rw [U23]; exact I.o5 (D5.symm.trans h) hL), o6 := (fun h _ => by rw [U24]; exact I.o6 (D6.symm.trans h) hL), o7 := (fun h _ => by rw [U25]; obtain ⟨B2, y0, g1, g2, g3, g4, p0, p1⟩ := I.o7 (D7.symm.trans h) hL; exact ⟨B2, y0, g1, g2, g3, g4, p0, p1⟩), o8 := (fun h _ => by rw [U26]; exact I.o8 (D8.symm.trans h) hL), o9 := (fun h _ => by rw [U27]; exact I.o9 (D9.symm.trans h) hL), o10 := (fun h _ => by rw [U28]; exact I.o10 (D10.symm.trans h) hL), o11 := (fun h _ => by rw [U29]; exact I.o11 (D11.symm.trans h) hL), o12 := (fun h _ => by rw [U30]; exact I.o12 (D12.symm.trans h) hL), o13 := (fun h _ => by rw [U31]; exact I.o13 (D13.symm.trans h) hL), o14 := (fun h _ => by rw [U32]; exact I.o14 (D14.symm.trans h) hL), o15 := (fun h _ => by rw [U33]; exact I.o15 (D15.symm.trans h) hL), o16 := (fun h _ => by rw [U34]; exact I.o16 (D16.symm.trans h) hL), o17 := (fun h _ => by rw [U35]; exact I.o17 (D17.symm.trans h) hL), o18 := (fun h _ => by rw [U7]; obtain ⟨B2, g1, g2, g3, g4⟩ := I.o18 (D18.symm.trans h) hL; exact ⟨B2, g1, g2, g3, g4⟩), o19 := (fun h => by rw [D19, hL] at h; cases h) }⟩
    ·
     skip
     have DO : ∀ n, 3 ≠ n -> (d'.setIfInBounds 3 true).getD n false = d'.getD n false := fun n h => getD_set_ne false h
     have D3 : (d'.setIfInBounds 3 true).getD 3 false = true := setB_same hun
     have D0 := DO 0 (by decide)
     have D1 := DO 1 (by decide)
     have D2 := DO 2 (by decide)
     have D4 := DO 4 (by decide)
     have D5 := DO 5 (by decide)
     have D6 := DO 6 (by decide)
     have D7 := DO 7 (by decide)
     have D8 := DO 8 (by decide)
     have D9 := DO 9 (by decide)
     have D10 := DO 10 (by decide)
     have D11 := DO 11 (by decide)
     have D12 := DO 12 (by decide)
     have D13 := DO 13 (by decide)
     have D14 := DO 14 (by decide)
     have D15 := DO 15 (by decide)
     have D16 := DO 16 (by decide)
     have D17 := DO 17 (by decide)
     have D18 := DO 18 (by decide)
     have D19 := DO 19 (by decide)
     have H3 := undoneF hun
     have H17 := hcl.back 17 _ ⟨3, .data⟩ rfl (by simp) rfl H3
     have H19 := hcl.back 19 _ ⟨17, .data⟩ rfl (by simp) rfl H17
     have hL := H19
     have hgr := I.gro hL
     have kc := cell_code (keepG hgr hKB hKBg) hci
     have e20 := I.o2 (hall ⟨2, .data⟩ (by simp) rfl) hL
     refine wpOp_step rfl (fun K hK => ?_)
     simp only [frDv, e0, e1, e2, e8, e9, e10, e11, e12, e3, e4, e5, e6, e60, e61, e62, e63, e64, e65, e66, e67, e68, e69, e20]
     go_simp
     have UO : ∀ n, n ≠ 21 -> updB us 21 (.string ⟨ci.toArray⟩) n = us n := fun n h => updB_other h
     have U21 : updB us 21 (.string ⟨ci.toArray⟩) 21 = (.string ⟨ci.toArray⟩) := updB_same _ _ _
     have U0 := UO 0 (by decide)
     have U1 := UO 1 (by decide)
     have U2 := UO 2 (by decide)
     have U3 := UO 3 (by decide)
     have U4 := UO 4 (by decide)
     have U5 := UO 5 (by decide)
     have U6 := UO 6 (by decide)
     have U7 := UO 7 (by decide)
     have U8 := UO 8 (by decide)
     have U9 := UO 9 (by decide)
     have U10 := UO 10 (by decide)
     have U11 := UO 11 (by decide)
     have U12 := UO 12 (by decide)
     have U18 := UO 18 (by decide)
     have U19 := UO 19 (by decide)
     have U20 := UO 20 (by decide)
     have U22 := UO 22 (by decide)
     have U23 := UO 23 (by decide)
     have U24 := UO 24 (by decide)
     have U25 := UO 25 (by decide)
     have U26 := UO 26 (by decide)
     have U27 := UO 27 (by decide)
     have U28 := UO 28 (by decide)
     have U29 := UO 29 (by decide)
     have U30 := UO 30 (by decide)
     have U31 := UO 31 (by decide)
     have U32 := UO 32 (by decide)
     have U33 := UO 33 (by decide)
     have U34 := UO 34 (by decide)
     have U35 := UO 35 (by decide)
     have U60 := UO 60 (by decide)
     have U61 := UO 61 (by decide)
     have U62 := UO 62 (by decide)
     have U63 := UO 63 (by decide)
     have U64 := UO 64 (by decide)
     have U65 := UO 65 (by decide)
     have U66 := UO 66 (by decide)
     have U67 := UO 67 (by decide)
     have U68 := UO 68 (by decide)
     have U69 := UO 69 (by decide)
     refine hK _ _ ⟨updB us 21 (.string ⟨ci.toArray⟩), by simp [frDv, updB, e0, e1, e2, e8, e9, e10, e11, e12, e3, e4, e5, e6, e60, e61, e62, e63, e64, e65, e66, e67, e68, e69, e20], { u0 := (U0.trans I.u0), u1 := (U1.trans I.u1), u2 := (U2.trans I.u2), u8 := (U8.trans I.u8), u9 := (U9.trans I.u9), u10 := (U10.trans I.u10), u11 := (U11.trans I.u11), u12 := (U12.trans I.u12), u3 := (U3.trans I.u3), u4 := (U4.trans I.u4), u5 := (U5.trans I.u5), u6 := (U6.trans I.u6), u60 := (U60.trans I.u60), u61 := (U61.trans I.u61), u62 := (U62.trans I.u62), u63 := (U63.trans I.u63), u64 := (U64.trans I.u64), u65 := (U65.trans I.u65), u66 := (U66.trans I.u66), u67 := (U67.trans I.u67), u68 := (U68.trans I.u68), u69 := (U69.trans I.u69), src := hs, gr1 := I.gr1, gro := (fun _ => hgr), o0 := (fun h _ => by rw [U18]; exact I.o0 (D0.symm.trans h) hL), o1 := (fun h _ => by rw [U19]; exact I.o1 (D1.symm.trans h) hL), o2 := (fun h _ => by rw [U20]; exact I.o2 (D2.symm.trans h) hL), o3 := (fun _ _ => U21), o4 := (fun h _ => by rw [U22]; exact I.o4 (D4.symm.trans h) hL), o5 := (fun h _ => by rw [U23]; exact I.o5 (D5.symm.trans h) hL), o6 := (fun h _ => by rw [U24]; exact I.o6 (D6.symm.trans h) hL), o7 := (fun h _ => by rw [U25]; obtain ⟨B2, y0, g1, g2, g3, g4, p0, p1⟩ := I.o7 (D7.symm.trans h) hL; exact ⟨B2, y0, g1, g2, g3, g4, p0, p1⟩), o8 := (fun h _ => by rw [U26]; exact I.o8 (D8.symm.trans h) hL), o9 := (fun h _ => by rw [U27]; exact I.o9 (D9.symm.trans h) hL), o10 := (fun h _ => by rw [U28]; exact I.o10 (D10.symm.trans h) hL), o11 := (fun h _ => by rw [U29]; exact I.o11 (D11.symm.trans h) hL), o12 := (fun h _ => by rw [U30]; exact I.o12 (D12.symm.trans h) hL), o13 := (fun h _ => by rw [U31]; exact I.o13 (D13.symm.trans h) hL), o14 := (fun h _ => by rw [U32]; exact I.o14 (D14.symm.trans h) hL), o15 := (fun h _ => by rw [U33]; exact I.o15 (D15.symm.trans h) hL), o16 := (fun h _ => by rw [U34]; exact I.o16 (D16.symm.trans h) hL), o17 := (fun h _ => by rw [U35]; exact I.o17 (D17.symm.trans h) hL), o18 := (fun h _ => by rw [U7]; obtain ⟨B2, g1, g2, g3, g4⟩ := I.o18 (D18.symm.trans h) hL; exact ⟨B2, g1, g2, g3, g4⟩), o19 := (fun h => by rw [D19, hL] at h; cases h) }⟩
    ·
     skip
     have DO : ∀ n, 4 ≠ n -> (d'.setIfInBounds 4 true).getD n false = d'.getD n false := fun n h => getD_set_ne false h
     have D4 : (d'.setIfInBounds 4 true).getD 4 false = true := setB_same hun
     have D0 := DO 0 (by decide)
     have D1 := DO 1 (by decide)
     have D2 := DO 2 (by decide)
     have D3 := DO 3 (by decide)
     have D5 := DO 5 (by decide)
     have D6 := DO 6 (by decide)
     have D7 := DO 7 (by decide)
     have D8 := DO 8 (by decide)
     have D9 := DO 9 (by decide)
     have D10 := DO 10 (by decide)
     have D11 := DO 11 (by decide)
     have D12 := DO 12 (by decide)
     have D13 := DO 13 (by decide)
     have D14 := DO 14 (by decide)
     have D15 := DO 15 (by decide)
     have D16 := DO 16 (by decide)
     have D17 := DO 17 (by decide)
     have D18 := DO 18 (by decide)
     have D19 := DO 19 (by decide)
     have H4 := undoneF hun
     have H8 := hcl.back 8 _ ⟨4, .data⟩ rfl (by simp) rfl H4
     have H17 := hcl.back 17 _ ⟨8, .data⟩ rfl (by simp) rfl H8
     have H19 := hcl.back 19 _ ⟨17, .data⟩ rfl (by simp) rfl H17
     have hL := H19
     have hgr := I.gro hL
     have kc := cell_code (keepG hgr hKB hKBg) hci
     refine wpOp_step rfl (fun K hK => ?_)
     simp only [frDv, e0, e1, e2, e8, e9, e10, e11, e12, e3, e4, e5, e6, e60, e61, e62, e63, e64, e65, e66, e67, e68, e69]
     go_simp
     have UO : ∀ n, n ≠ 22 -> updB us 22 (.pointer (some ⟨g, 0, none⟩)) n = us n := fun n h => updB_other h
     have U22 : updB us 22 (.pointer (some ⟨g, 0, none⟩)) 22 = (.pointer (some ⟨g, 0, none⟩)) := updB_same _ _ _
     have U0 := UO 0 (by decide)
     have U1 := UO 1 (by decide)
     have U2 := UO 2 (by decide)
     have U3 := UO 3 (by decide)
     have U4 := UO 4 (by decide)
     have U5 := UO 5 (by decide)
     have U6 := UO 6 (by decide)
     have U7 := UO 7 (by decide)
     have U8 := UO 8 (by decide)
     have U9 := UO 9 (by decide)
     have U10 := UO 10 (by decide)
     have U11 := UO 11 (by decide)
     have U12 := UO 12 (by decide)
     have U18 := UO 18 (by decide)
     have U19 := UO 19 (by decide)
     have U20 := UO 20 (by decide)
     have U21 := UO 21 (by decide)
     have U23 := UO 23 (by decide)
     have U24 := UO 24 (by decide)
     have U25 := UO 25 (by decide)
     have U26 := UO 26 (by decide)
     have U27 := UO 27 (by decide)
     have U28 := UO 28 (by decide)
     have U29 := UO 29 (by decide)
     have U30 := UO 30 (by decide)
     have U31 := UO 31 (by decide)
     have U32 := UO 32 (by decide)
     have U33 := UO 33 (by decide)
     have U34 := UO 34 (by decide)
     have U35 := UO 35 (by decide)
     have U60 := UO 60 (by decide)
     have U61 := UO 61 (by decide)
     have U62 := UO 62 (by decide)
     have U63 := UO 63 (by decide)
     have U64 := UO 64 (by decide)
     have U65 := UO 65 (by decide)
     have U66 := UO 66 (by decide)
     have U67 := UO 67 (by decide)
     have U68 := UO 68 (by decide)
     have U69 := UO 69 (by decide)
     refine hK _ _ ⟨updB us 22 (.pointer (some ⟨g, 0, none⟩)), by simp [frDv, updB, e0, e1, e2, e8, e9, e10, e11, e12, e3, e4, e5, e6, e60, e61, e62, e63, e64, e65, e66, e67, e68, e69], { u0 := (U0.trans I.u0), u1 := (U1.trans I.u1), u2 := (U2.trans I.u2), u8 := (U8.trans I.u8), u9 := (U9.trans I.u9), u10 := (U10.trans I.u10), u11 := (U11.trans I.u11), u12 := (U12.trans I.u12), u3 := (U3.trans I.u3), u4 := (U4.trans I.u4), u5 := (U5.trans I.u5), u6 := (U6.trans I.u6), u60 := (U60.trans I.u60), u61 := (U61.trans I.u61), u62 := (U62.trans I.u62), u63 := (U63.trans I.u63), u64 := (U64.trans I.u64), u65 := (U65.trans I.u65), u66 := (U66.trans I.u66), u67 := (U67.trans I.u67), u68 := (U68.trans I.u68), u69 := (U69.trans I.u69), src := hs, gr1 := I.gr1, gro := (fun _ => hgr), o0 := (fun h _ => by rw [U18]; exact I.o0 (D0.symm.trans h) hL), o1 := (fun h _ => by rw [U19]; exact I.o1 (D1.symm.trans h) hL), o2 := (fun h _ => by rw [U20]; exact I.o2 (D2.symm.trans h) hL), o3 := (fun h _ => by rw [U21]; exact I.o3 (D3.symm.trans h) hL), o4 := (fun _ _ => U22), o5 := (fun h _ => by rw [U23]; exact I.o5 (D5.symm.trans h) hL), o6 := (fun h _ => by rw [U24]; exact I.o6 (D6.symm.trans h) hL), o7 := (fun h _ => by rw [U25]; obtain ⟨B2, y0, g1, g2, g3, g4, p0, p1⟩ := I.o7 (D7.symm.trans h) hL; exact ⟨B2, y0, g1, g2, g3, g4, p0, p1⟩), o8 := (fun h _ => by rw [U26]; exact I.o8 (D8.symm.trans h) hL), o9 := (fun h _ => by rw [U27]; exact I.o9 (D9.symm.trans h) hL), o10 := (fun h _ => by rw [U28]; exact I.o10 (D10.symm.trans h) hL), o11 := (fun h _ => by rw [U29]; exact I.o11 (D11.symm.trans h) hL), o12 := (fun h _ => by rw [U30]; exact I.o12 (D12.symm.trans h) hL), o13 := (fun h _ => by rw [U31]; exact I.o13 (D13.symm.trans h) hL), o14 := (fun h _ => by rw [U32]; exact I.o14 (D14.symm.trans h) hL), o15 := (fun h _ => by rw [U33]; exact I.o15 (D15.symm.trans h) hL), o16 := (fun h _ => by rw [U34]; exact I.o16 (D16.symm.trans h) hL), o17 := (fun h _ => by rw [U35]; exact I.o17 (D17.symm.trans h) hL), o18 := (fun h _ => by rw [U7]; obtain ⟨B2, g1, g2, g3, g4⟩ := I.o18 (D18.symm.trans h) hL; exact ⟨B2, g1, g2, g3, g4⟩), o19 := (fun h => by rw [D19, hL] at h; cases h) }⟩
    ·
     skip
     have DO : ∀ n, 5 ≠ n -> (d'.setIfInBounds 5 true).getD n false = d'.getD n false := fun n h => getD_set_ne false h
     have D5 : (d'.setIfInBounds 5 true).getD 5 false = true := setB_same hun
     have D0 := DO 0 (by decide)
     have D1 := DO 1 (by decide)
     have D2 := DO 2 (by decide)
     have D3 := DO 3 (by decide)
     have D4 := DO 4 (by decide)
     have D6 := DO 6 (by decide)
     have D7 := DO 7 (by decide)
     have D8 := DO 8 (by decide)
     have D9 := DO 9 (by decide)
     have D10 := DO 10 (by decide)
     have D11 := DO 11 (by decide)
     have D12 := DO 12 (by decide)
     have D13 := DO 13 (by decide)
     have D14 := DO 14 (by decide)
     have D15 := DO 15 (by decide)
     have D16 := DO 16 (by decide)
     have D17 := DO 17 (by decide)
     have D18 := DO 18 (by decide)
     have D19 := DO 19 (by decide)
     have H5 := undoneF hun
     have H6 := hcl.back 6 _ ⟨5, .data⟩ rfl (by simp) rfl H5
     have H7 := hcl.back 7 _ ⟨6, .data⟩ rfl (by simp) rfl H6
     have H8 := hcl.back 8 _ ⟨7, .data⟩ rfl (by simp) rfl H7
     have H17 := hcl.back 17 _ ⟨8, .data⟩ rfl (by simp) rfl H8
     have H19 := hcl.back 19 _ ⟨17, .data⟩ rfl (by simp) rfl H17
     have hL := H19
     have hgr := I.gro hL
     have kc := cell_code (keepG hgr hKB hKBg) hci
     refine wpOp_step rfl (fun K hK => ?_)
     simp only [frDv, e0, e1, e2, e8, e9, e10, e11, e12, e3, e4, e5, e6, e60, e61, e62, e63, e64, e65, e66, e67, e68, e69]
     go_simp
     have UO : ∀ n, n ≠ 23 -> updB us 23 (.pointer (some ⟨g, 0, none⟩)) n = us n := fun n h => updB_other h
     have U23 : updB us 23 (.pointer (some ⟨g, 0, none⟩)) 23 = (.pointer (some ⟨g, 0, none⟩)) := updB_same _ _ _
     have U0 := UO 0 (by decide)
     have U1 := UO 1 (by decide)
     have U2 := UO 2 (by decide)
     have U3 := UO 3 (by decide)
     have U4 := UO 4 (by decide)
     have U5 := UO 5 (by decide)
     have U6 := UO 6 (by decide)
     have U7 := UO 7 (by decide)
     have U8 := UO 8 (by decide)
     have U9 := UO 9 (by decide)
     have U10 := UO 10 (by decide)
     have U11 := UO 11 (by decide)
     have U12 := UO 12 (by decide)
     have U18 := UO 18 (by decide)
     have U19 := UO 19 (by decide)
     have U20 := UO 20 (by decide)
     have U21 := UO 21 (by decide)
     have U22 := UO 22 (by decide)
     have U24 := UO 24 (by decide)
     have U25 := UO 25 (by decide)
     have U26 := UO 26 (by decide)
     have U27 := UO 27 (by decide)
     have U28 := UO 28 (by decide)
     have U29 := UO 29 (by decide)
     have U30 := UO 30 (by decide)
     have U31 := UO 31 (by decide)
     have U32 := UO 32 (by decide)
     have U33 := UO 33 (by decide)
     have U34 := UO 34 (by decide)
     have U35 := UO 35 (by decide)
     have U60 := UO 60 (by decide)
     have U61 := UO 61 (by decide)
     have U62 := UO 62 (by decide)
     have U63 := UO 63 (by decide)
     have U64 := UO 64 (by decide)
     have U65 := UO 65 (by decide)
     have U66 := UO 66 (by decide)
     have U67 := UO 67 (by decide)
     have U68 := UO 68 (by decide)
     have U69 := UO 69 (by decide)
     refine hK _ _ ⟨updB us 23 (.pointer (some ⟨g, 0, none⟩)), by simp [frDv, updB, e0, e1, e2, e8, e9, e10, e11, e12, e3, e4, e5, e6, e60, e61, e62, e63, e64, e65, e66, e67, e68, e69], { u0 := (U0.trans I.u0), u1 := (U1.trans I.u1), u2 := (U2.trans I.u2), u8 := (U8.trans I.u8), u9 := (U9.trans I.u9), u10 := (U10.trans I.u10), u11 := (U11.trans I.u11), u12 := (U12.trans I.u12), u3 := (U3.trans I.u3), u4 := (U4.trans I.u4), u5 := (U5.trans I.u5), u6 := (U6.trans I.u6), u60 := (U60.trans I.u60), u61 := (U61.trans I.u61), u62 := (U62.trans I.u62), u63 := (U63.trans I.u63), u64 := (U64.trans I.u64), u65 := (U65.trans I.u65), u66 := (U66.trans I.u66), u67 := (U67.trans I.u67), u68 := (U68.trans I.u68), u69 := (U69.trans I.u69), src := hs, gr1 := I.gr1, gro := (fun _ => hgr), o0 := (fun h _ => by rw [U18]; exact I.o0 (D0.symm.trans h) hL), o1 := (fun h _ => by rw [U19]; exact I.o1 (D1.symm.trans h) hL), o2 := (fun h _ => by rw [U20]; exact I.o2 (D2.symm.trans h) hL), o3 := (fun h _ => by rw [U21]; exact I.o3 (D3.symm.trans h) hL), o4 := (fun h _ => by rw [U22]; exact I.o4 (D4.symm.trans h) hL), o5 := (fun _ _ => U23), o6 := (fun h _ => by rw [U24]; exact I.o6 (D6.symm.trans h) hL), o7 := (fun h _ => by rw [U25]; obtain ⟨B2, y0, g1, g2, g3, g4, p0, p1⟩ := I.o7 (D7.symm.trans h) hL; exact ⟨B2, y0, g1, g2, g3, g4, p0, p1⟩), o8 := (fun h _ => by rw [U26]; exact I.o8 (D8.symm.trans h) hL), o9 := (fun h _ => by rw [U27]; exact I.o9 (D9.symm.trans h) hL), o10 := (fun h _ => by rw [U28]; exact I.o10 (D10.symm.trans h) hL), o11 := (fun h _ => by rw [U29]; exact I.o11 (D11.symm.trans h) hL), o12 := (fun h _ => by rw [U30]; exact I.o12 (D12.symm.trans h) hL), o13 := (fun h _ => by rw [U31]; exact I.o13 (D13.symm.trans h) hL), o14 := (fun h _ => by rw [U32]; exact I.o14 (D14.symm.trans h) hL), o15 := (fun h _ => by rw [U33]; exact I.o15 (D15.symm.trans h) hL), o16 := (fun h _ => by rw [U34]; exact I.o16 (D16.symm.trans h) hL), o17 := (fun h _ => by rw [U35]; exact I.o17 (D17.symm.trans h) hL), o18 := (fun h _ => by rw [U7]; obtain ⟨B2, g1, g2, g3, g4⟩ := I.o18 (D18.symm.trans h) hL; exact ⟨B2, g1, g2, g3, g4⟩), o19 := (fun h => by rw [D19, hL] at h; cases h) }⟩
    ·
     skip
     have DO : ∀ n, 6 ≠ n -> (d'.setIfInBounds 6 true).getD n false = d'.getD n false := fun n h => getD_set_ne false h
     have D6 : (d'.setIfInBounds 6 true).getD 6 false = true := setB_same hun
     have D0 := DO 0 (by decide)
     have D1 := DO 1 (by decide)
     have D2 := DO 2 (by decide)
     have D3 := DO 3 (by decide)
     have D4 := DO 4 (by decide)
     have D5 := DO 5 (by decide)
     have D7 := DO 7 (by decide)
     have D8 := DO 8 (by decide)
     have D9 := DO 9 (by decide)
     have D10 := DO 10 (by decide)
     have D11 := DO 11 (by decide)
     have D12 := DO 12 (by decide)
     have D13 := DO 13 (by decide)
     have D14 := DO 14 (by decide)
     have D15 := DO 15 (by decide)
     have D16 := DO 16 (by decide)
     have D17 := DO 17 (by decide)
     have D18 := DO 18 (by decide)
     have D19 := DO 19 (by decide)
     have H6 := undoneF hun
     have H7 := hcl.back 7 _ ⟨6, .data⟩ rfl (by simp) rfl H6
     have H8 := hcl.back 8 _ ⟨7, .data⟩ rfl (by simp) rfl H7
     have H17 := hcl.back 17 _ ⟨8, .data⟩ rfl (by simp) rfl H8
     have H19 := hcl.back 19 _ ⟨17, .data⟩ rfl (by simp) rfl H17
     have hL := H19
     have hgr := I.gro hL
     have kc := cell_code (keepG hgr hKB hKBg) hci
     have e23 := I.o5 (hall ⟨5, .data⟩ (by simp) rfl) hL
     refine wpOp_step rfl (fun K hK => ?_)
     simp only [frDv, e0, e1, e2, e8, e9, e10, e11, e12, e3, e4, e5, e6, e60, e61, e62, e63, e64, e65, e66, e67, e68, e69, e23]
     go_simp
     go_wp2_with (go_at_call 55; refine (next_any g _ base A c bs _ hs (by omega)).mono ?_; rintro e w2 ⟨r, rfl, r0, r1, hs2, hg2⟩)
     have UO : ∀ n, n ≠ 24 -> updB us 24 (.int .i64 r) n = us n := fun n h => updB_other h
     have U24 : updB us 24 (.int .i64 r) 24 = (.int .i64 r) := updB_same _ _ _
     have U0 := UO 0 (by decide)
     have U1 := UO 1 (by decide)
     have U2 := UO 2 (by decide)
     have U3 := UO 3 (by decide)
     have U4 := UO 4 (by decide)
     have U5 := UO 5 (by decide)
     have U6 := UO 6 (by decide)
     have U7 := UO 7 (by decide)
     have U8 := UO 8 (by decide)
     have U9 := UO 9 (by decide)
     have U10 := UO 10 (by decide)
     have U11 := UO 11 (by decide)
     have U12 := UO 12 (by decide)
     have U18 := UO 18 (by decide)
     have U19 := UO 19 (by decide)
     have U20 := UO 20 (by decide)
     have U21 := UO 21 (by decide)
     have U22 := UO 22 (by decide)
     have U23 := UO 23 (by decide)
     have U25 := UO 25 (by decide)
     have U26 := UO 26 (by decide)
     have U27 := UO 27 (by decide)
     have U28 := UO 28 (by decide)
     have U29 := UO 29 (by decide)
     have U30 := UO 30 (by decide)
     have U31 := UO 31 (by decide)
     have U32 := UO 32 (by decide)
     have U33 := UO 33 (by decide)
     have U34 := UO 34 (by decide)
     have U35 := UO 35 (by decide)
     have U60 := UO 60 (by decide)
     have U61 := UO 61 (by decide)
     have U62 := UO 62 (by decide)
     have U63 := UO 63 (by decide)
     have U64 := UO 64 (by decide)
     have U65 := UO 65 (by decide)
     have U66 := UO 66 (by decide)
     have U67 := UO 67 (by decide)
     have U68 := UO 68 (by decide)
     have U69 := UO 69 (by decide)
     exact ⟨updB us 24 (.int .i64 r), by simp [frDv, updB, e0, e1, e2, e8, e9, e10, e11, e12, e3, e4, e5, e6, e60, e61, e62, e63, e64, e65, e66, e67, e68, e69, e23], { u0 := (U0.trans I.u0), u1 := (U1.trans I.u1), u2 := (U2.trans I.u2), u8 := (U8.trans I.u8), u9 := (U9.trans I.u9), u10 := (U10.trans I.u10), u11 := (U11.trans I.u11), u12 := (U12.trans I.u12), u3 := (U3.trans I.u3), u4 := (U4.trans I.u4), u5 := (U5.trans I.u5), u6 := (U6.trans I.u6), u60 := (U60.trans I.u60), u61 := (U61.trans I.u61), u62 := (U62.trans I.u62), u63 := (U63.trans I.u63), u64 := (U64.trans I.u64), u65 := (U65.trans I.u65), u66 := (U66.trans I.u66), u67 := (U67.trans I.u67), u68 := (U68.trans I.u68), u69 := (U69.trans I.u69), src := hs2, gr1 := (I.gr1.trans hg2), gro := (fun _ => hgr.trans hg2), o0 := (fun h _ => by rw [U18]; exact I.o0 (D0.symm.trans h) hL), o1 := (fun h _ => by rw [U19]; exact I.o1 (D1.symm.trans h) hL), o2 := (fun h _ => by rw [U20]; exact I.o2 (D2.symm.trans h) hL), o3 := (fun h _ => by rw [U21]; exact I.o3 (D3.symm.trans h) hL), o4 := (fun h _ => by rw [U22]; exact I.o4 (D4.symm.trans h) hL), o5 := (fun h _ => by rw [U23]; exact I.o5 (D5.symm.trans h) hL), o6 := (fun _ _ => ⟨r, U24, by omega, by omega⟩), o7 := (fun h _ => by rw [U25]; obtain ⟨B2, y0, g1, g2, g3, g4, p0, p1⟩ := I.o7 (D7.symm.trans h) hL; exact ⟨B2, y0, g1, (keepG hg2 g2 g3), g3, g4, p0, p1⟩), o8 := (fun h _ => by rw [U26]; exact I.o8 (D8.symm.trans h) hL), o9 := (fun h _ => by rw [U27]; exact I.o9 (D9.symm.trans h) hL), o10 := (fun h _ => by rw [U28]; exact I.o10 (D10.symm.trans h) hL), o11 := (fun h _ => by rw [U29]; exact I.o11 (D11.symm.trans h) hL), o12 := (fun h _ => by rw [U30]; exact I.o12 (D12.symm.trans h) hL), o13 := (fun h _ => by rw [U31]; exact I.o13 (D13.symm.trans h) hL), o14 := (fun h _ => by rw [U32]; exact I.o14 (D14.symm.trans h) hL), o15 := (fun h _ => by rw [U33]; exact I.o15 (D15.symm.trans h) hL), o16 := (fun h _ => by rw [U34]; exact I.o16 (D16.symm.trans h) hL), o17 := (fun h _ => by rw [U35]; exact I.o17 (D17.symm.trans h) hL), o18 := (fun h _ => by rw [U7]; obtain ⟨B2, g1, g2, g3, g4⟩ := I.o18 (D18.symm.trans h) hL; exact ⟨B2, g1, (keepG hg2 g2 g3), g3, g4⟩), o19 := (fun h => by rw [D19, hL] at h; cases h) }⟩
    ·
     skip
     have DO : ∀ n, 7 ≠ n -> (d'.setIfInBounds 7 true).getD n false = d'.getD n false := fun n h => getD_set_ne false h
     have D7 : (d'.setIfInBounds 7 true).getD 7 false = true := setB_same hun
     have D0 := DO 0 (by decide)
     have D1 := DO 1 (by decide)
     have D2 := DO 2 (by decide)
     have D3 := DO 3 (by decide)
     have D4 := DO 4 (by decide)
     have D5 := DO 5 (by decide)
     have D6 := DO 6 (by decide)
     have D8 := DO 8 (by decide)
     have D9 := DO 9 (by decide)
     have D10 := DO 10 (by decide)
     have D11 := DO 11 (by decide)
     have D12 := DO 12 (by decide)
     have D13 := DO 13 (by decide)
     have D14 := DO 14 (by decide)
     have D15 := DO 15 (by decide)
     have D16 := DO 16 (by decide)
     have D17 := DO 17 (by decide)
     have D18 := DO 18 (by decide)
     have D19 := DO 19 (by decide)
     have H7 := undoneF hun
     have H8 := hcl.back 8 _ ⟨7, .data⟩ rfl (by simp) rfl H7
     have H17 := hcl.back 17 _ ⟨8, .data⟩ rfl (by simp) rfl H8
     have H19 := hcl.back 19 _ ⟨17, .data⟩ rfl (by simp) rfl H17
     have hL := H19
     have hgr := I.gro hL
     have kc := cell_code (keepG hgr hKB hKBg) hci
     obtain ⟨z6, e24, za6, zb6⟩ := I.o6 (hall ⟨6, .data⟩ (by simp) rfl) hL
     refine wpOp_step rfl (fun K hK => ?_)
     simp only [frDv, e0, e1, e2, e8, e9, e10, e11, e12, e3, e4, e5, e6, e60, e61, e62, e63, e64, e65, e66, e67, e68, e69, e24]
     go_simp
     have UO : ∀ n, n ≠ 25 -> updB us 25 (.slice (some ⟨W.heap.size, 0, none⟩) 3 3) n = us n := fun n h => updB_other h
     have U25 : updB us 25 (.slice (some ⟨W.heap.size, 0, none⟩) 3 3) 25 = (.slice (some ⟨W.heap.size, 0, none⟩) 3 3) := updB_same _ _ _
     have U0 := UO 0 (by decide)
     have U1 := UO 1 (by decide)
     have U2 := UO 2 (by decide)
     have U3 := UO 3 (by decide)
     have U4 := UO 4 (by decide)
     have U5 := UO 5 (by decide)
     have U6 := UO 6 (by decide)
     have U7 := UO 7 (by decide)
     have U8 := UO 8 (by decide)
     have U9 := UO 9 (by decide)
     have U10 := UO 10 (by decide)
     have U11 := UO 11 (by decide)
     have U12 := UO 12 (by decide)
     have U18 := UO 18 (by decide)
     have U19 := UO 19 (by decide)
     have U20 := UO 20 (by decide)
     have U21 := UO 21 (by decide)
     have U22 := UO 22 (by decide)
     have U23 := UO 23 (by decide)
     have U24 := UO 24 (by decide)
     have U26 := UO 26 (by decide)
     have U27 := UO 27 (by decide)
     have U28 := UO 28 (by decide)
     have U29 := UO 29 (by decide)
     have U30 := UO 30 (by decide)
     have U31 := UO 31 (by decide)
     have U32 := UO 32 (by decide)
     have U33 := UO 33 (by decide)
     have U34 := UO 34 (by decide)
     have U35 := UO 35 (by decide)
     have U60 := UO 60 (by decide)
     have U61 := UO 61 (by decide)
     have U62 := UO 62 (by decide)
     have U63 := UO 63 (by decide)
     have U64 := UO 64 (by decide)
     have U65 := UO 65 (by decide)
     have U66 := UO 66 (by decide)
     have U67 := UO 67 (by decide)
     have U68 := UO 68 (by decide)
     have U69 := UO 69 (by decide)
     refine hK _ _ ⟨updB us 25 (.slice (some ⟨W.heap.size, 0, none⟩) 3 3), by simp [frDv, updB, e0, e1, e2, e8, e9, e10, e11, e12, e3, e4, e5, e6, e60, e61, e62, e63, e64, e65, e66, e67, e68, e69, e24], { u0 := (U0.trans I.u0), u1 := (U1.trans I.u1), u2 := (U2.trans I.u2), u8 := (U8.trans I.u8), u9 := (U9.trans I.u9), u10 := (U10.trans I.u10), u11 := (U11.trans I.u11), u12 := (U12.trans I.u12), u3 := (U3.trans I.u3), u4 := (U4.trans I.u4), u5 := (U5.trans I.u5), u6 := (U6.trans I.u6), u60 := (U60.trans I.u60), u61 := (U61.trans I.u61), u62 := (U62.trans I.u62), u63 := (U63.trans I.u63), u64 := (U64.trans I.u64), u65 := (U65.trans I.u65), u66 := (U66.trans I.u66), u67 := (U67.trans I.u67), u68 := (U68.trans I.u68), u69 := (U69.trans I.u69), src := (hs.alloc _), gr1 := (grown_alloc I.gr1 _), gro := (fun _ => grown_alloc hgr _), o0 := (fun h _ => by rw [U18]; exact I.o0 (D0.symm.trans h) hL), o1 := (fun h _ => by rw [U19]; exact I.o1 (D1.symm.trans h) hL), o2 := (fun h _ => by rw [U20]; exact I.o2 (D2.symm.trans h) hL), o3 := (fun h _ => by rw [U21]; exact I.o3 (D3.symm.trans h) hL), o4 := (fun h _ => by rw [U22]; exact I.o4 (D4.symm.trans h) hL), o5 := (fun h _ => by rw [U23]; exact I.o5 (D5.symm.trans h) hL), o6 := (fun h _ => by rw [U24]; exact I.o6 (D6.symm.trans h) hL), o7 := (fun _ _ => ⟨W.heap.size, z6, U25, heap_alloc_new W _, by omega, hgr.size, za6, zb6⟩), o8 := (fun h _ => by rw [U26]; exact I.o8 (D8.symm.trans h) hL), o9 := (fun h _ => by rw [U27]; exact I.o9 (D9.symm.trans h) hL), o10 := (fun h _ => by rw [U28]; exact I.o10 (D10.symm.trans h) hL), o11 := (fun h _ => by rw [U29]; exact I.o11 (D11.symm.trans h) hL), o12 := (fun h _ => by rw [U30]; exact I.o12 (D12.symm.trans h) hL), o13 := (fun h _ => by rw [U31]; exact I.o13 (D13.symm.trans h) hL), o14 := (fun h _ => by rw [U32]; exact I.o14 (D14.symm.trans h) hL), o15 := (fun h _ => by rw [U33]; exact I.o15 (D15.symm.trans h) hL), o16 := (fun h _ => by rw [U34]; exact I.o16 (D16.symm.trans h) hL), o17 := (fun h _ => by rw [U35]; exact I.o17 (D17.symm.trans h) hL), o18 := (fun h _ => by rw [U7]; obtain ⟨B2, g1, g2, g3, g4⟩ := I.o18 (D18.symm.trans h) hL; exact ⟨B2, g1, ((heap_alloc_old W _ (lt_some g2)).trans g2), g3, g4⟩), o19 := (fun h => by rw [D19, hL] at h; cases h) }⟩
    ·
     skip
     have DO : ∀ n, 8 ≠ n -> (d'.setIfInBounds 8 true).getD n false = d'.getD n false := fun n h => getD_set_ne false h
     have D8 : (d'.setIfInBounds 8 true).getD 8 false = true := setB_same hun
     have D0 := DO 0 (by decide)
     have D1 := DO 1 (by decide)
     have D2 := DO 2 (by decide)
     have D3 := DO 3 (by decide)
     have D4 := DO 4 (by decide)
     have D5 := DO 5 (by decide)
     have D6 := DO 6 (by decide)
     have D7 := DO 7 (by decide)
     have D9 := DO 9 (by decide)
     have D10 := DO 10 (by decide)
     have D11 := DO 11 (by decide)
     have D12 := DO 12 (by decide)
     have D13 := DO 13 (by decide)
     have D14 := DO 14 (by decide)
     have D15 := DO 15 (by decide)
     have D16 := DO 16 (by decide)
     have D17 := DO 17 (by decide)
     have D18 := DO 18 (by decide)
     have D19 := DO 19 (by decide)
     have H8 := undoneF hun
     have H17 := hcl.back 17 _ ⟨8, .data⟩ rfl (by simp) rfl H8
     have H19 := hcl.back 19 _ ⟨17, .data⟩ rfl (by simp) rfl H17
     have hL := H19
     have hgr := I.gro hL
     have kc := cell_code (keepG hgr hKB hKBg) hci
     have e22 := I.o4 (hall ⟨4, .data⟩ (by simp) rfl) hL
     obtain ⟨B7, z7_0, e25, hB7, hBg7, hBl7, q7_0, q7_1⟩ := I.o7 (hall ⟨7, .data⟩ (by simp) rfl) hL
     refine wpOp_step rfl (fun K hK => ?_)
     simp only [frDv, e0, e1, e2, e8, e9, e10, e11, e12, e3, e4, e5, e6, e60, e61, e62, e63, e64, e65, e66, e67, e68, e69, e22, e25]
     go_simp
     go_wp2_with (go_at_call 67; refine (pick_any g (some ⟨B7, 0, none⟩) 3 3 [-1, -1, z7_0] (-1) 6 base A c bs _ hs (rw_row hB7) rfl (by rintro a ⟨rfl⟩; exact hBg7) (by decide) (by decide) (by intro x hx; simp only [List.mem_cons, List.not_mem_nil, or_false] at hx; omega)).mono ?_; rintro e w2 ⟨r, rfl, r0, r1, hs2, hg2⟩)
     have UO : ∀ n, n ≠ 26 -> updB us 26 (.int .i64 r) n = us n := fun n h => updB_other h
     have U26 : updB us 26 (.int .i64 r) 26 = (.int .i64 r) := updB_same _ _ _
     have U0 := UO 0 (by decide)
     have U1 := UO 1 (by decide)
     have U2 := UO 2 (by decide)
     have U3 := UO 3 (by decide)
     have U4 := UO 4 (by decide)
     have U5 := UO 5 (by decide)
     have U6 := UO 6 (by decide)
     have U7 := UO 7 (by decide)
     have U8 := UO 8 (by decide)
     have U9 := UO 9 (by decide)
     have U10 := UO 10 (by decide)
     have U11 := UO 11 (by decide)
     have U12 := UO 12 (by decide)
     have U18 := UO 18 (by decide)
     have U19 := UO 19 (by decide)
     have U20 := UO 20 (by decide)
     have U21 := UO 21 (by decide)
     have U22 := UO 22 (by decide)
     have U23 := UO 23 (by decide)
     have U24 := UO 24 (by decide)
     have U25 := UO 25 (by decide)
     have U27 := UO 27 (by decide)
     have U28 := UO 28 (by decide)
     have U29 := UO 29 (by decide)
     have U30 := UO 30 (by decide)
     have U31 := UO 31 (by decide)
     have U32 := UO 32 (by decide)
     have U33 := UO 33 (by decide)
     have U34 := UO 34 (by decide)
     have U35 := UO 35 (by decide)
     have U60 := UO 60 (by decide)
     have U61 := UO 61 (by decide)
     have U62 := UO 62 (by decide)
     have U63 := UO 63 (by decide)
     have U64 := UO 64 (by decide)
     have U65 := UO 65 (by decide)
     have U66 := UO 66 (by decide)
     have U67 := UO 67 (by decide)
     have U68 := UO 68 (by decide)
     have U69 := UO 69 (by decide)
     exact ⟨updB us 26 (.int .i64 r), by simp [frDv, updB, e0, e1, e2, e8, e9, e10, e11, e12, e3, e4, e5, e6, e60, e61, e62, e63, e64, e65, e66, e67, e68, e69, e22, e25], { u0 := (U0.trans I.u0), u1 := (U1.trans I.u1), u2 := (U2.trans I.u2), u8 := (U8.trans I.u8), u9 := (U9.trans I.u9), u10 := (U10.trans I.u10), u11 := (U11.trans I.u11), u12 := (U12.trans I.u12), u3 := (U3.trans I.u3), u4 := (U4.trans I.u4), u5 := (U5.trans I.u5), u6 := (U6.trans I.u6), u60 := (U60.trans I.u60), u61 := (U61.trans I.u61), u62 := (U62.trans I.u62), u63 := (U63.trans I.u63), u64 := (U64.trans I.u64), u65 := (U65.trans I.u65), u66 := (U66.trans I.u66), u67 := (U67.trans I.u67), u68 := (U68.trans I.u68), u69 := (U69.trans I.u69), src := hs2, gr1 := (I.gr1.trans hg2), gro := (fun _ => hgr.trans hg2), o0 := (fun h _ => by rw [U18]; exact I.o0 (D0.symm.trans h) hL), o1 := (fun h _ => by rw [U19]; exact I.o1 (D1.symm.trans h) hL), o2 := (fun h _ => by rw [U20]; exact I.o2 (D2.symm.trans h) hL), o3 := (fun h _ => by rw [U21]; exact I.o3 (D3.symm.trans h) hL), o4 := (fun h _ => by rw [U22]; exact I.o4 (D4.symm.trans h) hL), o5 := (fun h _ => by rw [U23]; exact I.o5 (D5.symm.trans h) hL), o6 := (fun h _ => by rw [U24]; exact I.o6 (D6.symm.trans h) hL), o7 := (fun h _ => by rw [U25]; obtain ⟨B2, y0, g1, g2, g3, g4, p0, p1⟩ := I.o7 (D7.symm.trans h) hL; exact ⟨B2, y0, g1, (keepG hg2 g2 g3), g3, g4, p0, p1⟩), o8 := (fun _ _ => ⟨r, U26, by omega, by omega⟩), o9 := (fun h _ => by rw [U27]; exact I.o9 (D9.symm.trans h) hL), o10 := (fun h _ => by rw [U28]; exact I.o10 (D10.symm.trans h) hL), o11 := (fun h _ => by rw [U29]; exact I.o11 (D11.symm.trans h) hL), o12 := (fun h _ => by rw [U30]; exact I.o12 (D12.symm.trans h) hL), o13 := (fun h _ => by rw [U31]; exact I.o13 (D13.symm.trans h) hL), o14 := (fun h _ => by rw [U32]; exact I.o14 (D14.symm.trans h) hL), o15 := (fun h _ => by rw [U33]; exact I.o15 (D15.symm.trans h) hL), o16 := (fun h _ => by rw [U34]; exact I.o16 (D16.symm.trans h) hL), o17 := (fun h _ => by rw [U35]; exact I.o17 (D17.symm.trans h) hL), o18 := (fun h _ => by rw [U7]; obtain ⟨B2, g1, g2, g3, g4⟩ := I.o18 (D18.symm.trans h) hL; exact ⟨B2, g1, (keepG hg2 g2 g3), g3, g4⟩), o19 := (fun h => by rw [D19, hL] at h; cases h) }⟩
    ·
     skip
     have DO : ∀ n, 9 ≠ n -> (d'.setIfInBounds 9 true).getD n false = d'.getD n false := fun n h => getD_set_ne false h
     have D9 : (d'.setIfInBounds 9 true).getD 9 false = true := setB_same hun
     have D0 := DO 0 (by decide)
     have D1 := DO 1 (by decide)
     have D2 := DO 2 (by decide)
     have D3 := DO 3 (by decide)
     have D4 := DO 4 (by decide)
     have D5 := DO 5 (by decide)
     have D6 := DO 6 (by decide)
     have D7 := DO 7 (by decide)
     have D8 := DO 8 (by decide)
     have D10 := DO 10 (by decide)
     have D11 := DO 11 (by decide)
     have D12 := DO 12 (by decide)
     have D13 := DO 13 (by decide)
     have D14 := DO 14 (by decide)
     have D15 := DO 15 (by decide)
     have D16 := DO 16 (by decide)
     have D17 := DO 17 (by decide)
     have D18 := DO 18 (by decide)
     have D19 := DO 19 (by decide)
     have H9 := undoneF hun
     have H10 := hcl.back 10 _ ⟨9, .data⟩ rfl (by simp) rfl H9
     have H17 := hcl.back 17 _ ⟨10, .data⟩ rfl (by simp) rfl H10
     have H19 := hcl.back 19 _ ⟨17, .data⟩ rfl (by simp) rfl H17
     have hL := H19
     have hgr := I.gro hL
     have kc := cell_code (keepG hgr hKB hKBg) hci
     refine wpOp_step rfl (fun K hK => ?_)
     simp only [frDv, e0, e1, e2, e8, e9, e10, e11, e12, e3, e4, e5, e6, e60, e61, e62, e63, e64, e65, e66, e67, e68, e69]
     go_simp
     have UO : ∀ n, n ≠ 27 -> updB us 27 (.pointer (some ⟨g, 0, none⟩)) n = us n := fun n h => updB_other h
     have U27 : updB us 27 (.pointer (some ⟨g, 0, none⟩)) 27 = (.pointer (some ⟨g, 0, none⟩)) := updB_same _ _ _
     have U0 := UO 0 (by decide)
     have U1 := UO 1 (by decide)
     have U2 := UO 2 (by decide)
     have U3 := UO 3 (by decide)
     have U4 := UO 4 (by decide)
     have U5 := UO 5 (by decide)
     have U6 := UO 6 (by decide)
     have U7 := UO 7 (by decide)
     have U8 := UO 8 (by decide)
     have U9 := UO 9 (by decide)
     have U10 := UO 10 (by decide)
     have U11 := UO 11 (by decide)
     have U12 := UO 12 (by decide)
     have U18 := UO 18 (by decide)
     have U19 := UO 19 (by decide)
     have U20 := UO 20 (by decide)
     have U21 := UO 21 (by decide)
     have U22 := UO 22 (by decide)
     have U23 := UO 23 (by decide)
     have U24 := UO 24 (by decide)
     have U25 := UO 25 (by decide)
     have U26 := UO 26 (by decide)
     have U28 := UO 28 (by decide)
     have U29 := UO 29 (by decide)
     have U30 := UO 30 (by decide)
     have U31 := UO 31 (by decide)
     have U32 := UO 32 (by decide)
     have U33 := UO 33 (by decide)
     have U34 := UO 34 (by decide)
     have U35 := UO 35 (by decide)
     have U60 := UO 60 (by decide)
     have U61 := UO 61 (by decide)
     have U62 := UO 62 (by decide)
     have U63 := UO 63 (by decide)
     have U64 := UO 64 (by decide)
     have U65 := UO 65 (by decide)
     have U66 := UO 66 (by decide)
     have U67 := UO 67 (by decide)
     have U68 := UO 68 (by decide)
     have U69 := UO 69 (by decide)
     refine hK _ _ ⟨updB us 27 (.pointer (some ⟨g, 0, none⟩)), by simp [frDv, updB, e0, e1, e2, e8, e9, e10, e11, e12, e3, e4, e5, e6, e60, e61, e62, e63, e64, e65, e66, e67, e68, e69], { u0 := (U0.trans I.u0), u1 := (U1.trans I.u1), u2 := (U2.trans I.u2), u8 := (U8.trans I.u8), u9 := (U9.trans I.u9), u10 := (U10.trans I.u10), u11 := (U11.trans I.u11), u12 := (U12.trans I.u12), u3 := (U3.trans I.u3), u4 := (U4.trans I.u4), u5 := (U5.trans I.u5), u6 := (U6.trans I.u6), u60 := (U60.trans I.u60), u61 := (U61.trans I.u61), u62 := (U62.trans I.u62), u63 := (U63.trans I.u63), u64 := (U64.trans I.u64), u65 := (U65.trans I.u65), u66 := (U66.trans I.u66), u67 := (U67.trans I.u67), u68 := (U68.trans I.u68), u69 := (U69.trans I.u69), src := hs, gr1 := I.gr1, gro := (fun _ => hgr), o0 := (fun h _ => by rw [U18]; exact I.o0 (D0.symm.trans h) hL), o1 := (fun h _ => by rw [U19]; exact I.o1 (D1.symm.trans h) hL), o2 := (fun h _ => by rw [U20]; exact I.o2 (D2.symm.trans h) hL), o3 := (fun h _ => by rw [U21]; exact I.o3 (D3.symm.trans h) hL), o4 := (fun h _ => by rw [U22]; exact I.o4 (D4.symm.trans h) hL), o5 := (fun h _ => by rw [U23]; exact I.o5 (D5.symm.trans h) hL), o6 := (fun h _ => by rw [U24]; exact I.o6 (D6.symm.trans h) hL), o7 := (fun h _ => by rw [U25]; obtain ⟨B2, y0, g1, g2, g3, g4, p0, p1⟩ := I.o7 (D7.symm.trans h) hL; exact ⟨B2, y0, g1, g2, g3, g4, p0, p1⟩), o8 := (fun h _ => by rw [U26]; exact I.o8 (D8.symm.trans h) hL), o9 := (fun _ _ => U27), o10 := (fun h _ => by rw [U28]; exact I.o10 (D10.symm.trans h) hL), o11 := (fun h _ => by rw [U29]; exact I.o11 (D11.symm.trans h) hL), o12 := (fun h _ => by rw [U30]; exact I.o12 (D12.symm.trans h) hL), o13 := (fun h _ => by rw [U31]; exact I.o13 (D13.symm.trans h) hL), o14 := (fun h _ => by rw [U32]; exact I.o14 (D14.symm.trans h) hL), o15 := (fun h _ => by rw [U33]; exact I.o15 (D15.symm.trans h) hL), o16 := (fun h _ => by rw [U34]; exact I.o16 (D16.symm.trans h) hL), o17 := (fun h _ => by rw [U35]; exact I.o17 (D17.symm.trans h) hL), o18 := (fun h _ => by rw [U7]; obtain ⟨B2, g1, g2, g3, g4⟩ := I.o18 (D18.symm.trans h) hL; exact ⟨B2, g1, g2, g3, g4⟩), o19 := (fun h => by rw [D19, hL] at h; cases h) }⟩
    ·
     skip
     have DO : ∀ n, 10 ≠ n -> (d'.setIfInBounds 10 true).getD n false = d'.getD n false := fun n h => getD_set_ne false h
     have D10 : (d'.setIfInBounds 10 true).getD 10 false = true := setB_same hun
     have D0 := DO 0 (by decide)
     have D1 := DO 1 (by decide)
     have D2 := DO 2 (by decide)
     have D3 := DO 3 (by decide)
     have D4 := DO 4 (by decide)
     have D5 := DO 5 (by decide)
     have D6 := DO 6 (by decide)
     have D7 := DO 7 (by decide)
     have D8 := DO 8 (by decide)
     have D9 := DO 9 (by decide)
     have D11 := DO 11 (by decide)
     have D12 := DO 12 (by decide)
     have D13 := DO 13 (by decide)
     have D14 := DO 14 (by decide)
     have D15 := DO 15 (by decide)
     have D16 := DO 16 (by decide)
     have D17 := DO 17 (by decide)
     have D18 := DO 18 (by decide)
     have D19 := DO 19 (by decide)
     have H10 := undoneF hun
     have H17 := hcl.back 17 _ ⟨10, .data⟩ rfl (by simp) rfl H10
     have H19 := hcl.back 19 _ ⟨17, .data⟩ rfl (by simp) rfl H17
     have hL := H19
     have hgr := I.gro hL
     have kc := cell_code (keepG hgr hKB hKBg) hci
     have e27 := I.o9 (hall ⟨9, .data⟩ (by simp) rfl) hL
     refine wpOp_step rfl (fun K hK => ?_)
     simp only [frDv, e0, e1, e2, e8, e9, e10, e11, e12, e3, e4, e5, e6, e60, e61, e62, e63, e64, e65, e66, e67, e68, e69, e27]
     go_simp
     go_wp2_with (go_at_call 55; refine (next_any g _ base A c bs _ hs (by omega)).mono ?_; rintro e w2 ⟨r, rfl, r0, r1, hs2, hg2⟩)
     have UO : ∀ n, n ≠ 28 -> updB us 28 (.int .i64 r) n = us n := fun n h => updB_other h
     have U28 : updB us 28 (.int .i64 r) 28 = (.int .i64 r) := updB_same _ _ _
     have U0 := UO 0 (by decide)
     have U1 := UO 1 (by decide)
     have U2 := UO 2 (by decide)
     have U3 := UO 3 (by decide)
     have U4 := UO 4 (by decide)
     have U5 := UO 5 (by decide)
     have U6 := UO 6 (by decide)
     have U7 := UO 7 (by decide)
     have U8 := UO 8 (by decide)
     have U9 := UO 9 (by decide)
     have U10 := UO 10 (by decide)
     have U11 := UO 11 (by decide)
     have U12 := UO 12 (by decide)
     have U18 := UO 18 (by decide)
     have U19 := UO 19 (by decide)
     have U20 := UO 20 (by decide)
     have U21 := UO 21 (by decide)
     have U22 := UO 22 (by decide)
     have U23 := UO 23 (by decide)
     have U24 := UO 24 (by decide)
     have U25 := UO 25 (by decide)
     have U26 := UO 26 (by decide)
     have U27 := UO 27 (by decide)
     have U29 := UO 29 (by decide)
     have U30 := UO 30 (by decide)
     have U31 := UO 31 (by decide)
     have U32 := UO 32 (by decide)
     have U33 := UO 33 (by decide)
     have U34 := UO 34 (by decide)
     have U35 := UO 35 (by decide)
     have U60 := UO 60 (by decide)
     have U61 := UO 61 (by decide)
     have U62 := UO 62 (by decide)
     have U63 := UO 63 (by decide)
     have U64 := UO 64 (by decide)
     have U65 := UO 65 (by decide)
     have U66 := UO 66 (by decide)
     have U67 := UO 67 (by decide)
     have U68 := UO 68 (by decide)
     have U69 := UO 69 (by decide)
     exact ⟨updB us 28 (.int .i64 r), by simp [frDv, updB, e0, e1, e2, e8, e9, e10, e11, e12, e3, e4, e5, e6, e60, e61, e62, e63, e64, e65, e66, e67, e68, e69, e27], { u0 := (U0.trans I.u0), u1 := (U1.trans I.u1), u2 := (U2.trans I.u2), u8 := (U8.trans I.u8), u9 := (U9.trans I.u9), u10 := (U10.trans I.u10), u11 := (U11.trans I.u11), u12 := (U12.trans I.u12), u3 := (U3.trans I.u3), u4 := (U4.trans I.u4), u5 := (U5.trans I.u5), u6 := (U6.trans I.u6), u60 := (U60.trans I.u60), u61 := (U61.trans I.u61), u62 := (U62.trans I.u62), u63 := (U63.trans I.u63), u64 := (U64.trans I.u64), u65 := (U65.trans I.u65), u66 := (U66.trans I.u66), u67 := (U67.trans I.u67), u68 := (U68.trans I.u68), u69 := (U69.trans I.u69), src := hs2, gr1 := (I.gr1.trans hg2), gro := (fun _ => hgr.trans hg2), o0 := (fun h _ => by rw [U18]; exact I.o0 (D0.symm.trans h) hL), o1 := (fun h _ => by rw [U19]; exact I.o1 (D1.symm.trans h) hL), o2 := (fun h _ => by rw [U20]; exact I.o2 (D2.symm.trans h) hL), o3 := (fun h _ => by rw [U21]; exact I.o3 (D3.symm.trans h) hL), o4 := (fun h _ => by rw [U22]; exact I.o4 (D4.symm.trans h) hL), o5 := (fun h _ => by rw [U23]; exact I.o5 (D5.symm.trans h) hL), o6 := (fun h _ => by rw [U24]; exact I.o6 (D6.symm.trans h) hL), o7 := (fun h _ => by rw [U25]; obtain ⟨B2, y0, g1, g2, g3, g4, p0, p1⟩ := I.o7 (D7.symm.trans h) hL; exact ⟨B2, y0, g1, (keepG hg2 g2 g3), g3, g4, p0, p1⟩), o8 := (fun h _ => by rw [U26]; exact I.o8 (D8.symm.trans h) hL), o9 := (fun h _ => by rw [U27]; exact I.o9 (D9.symm.trans h) hL), o10 := (fun _ _ => ⟨r, U28, by omega, by omega⟩), o11 := (fun h _ => by rw [U29]; exact I.o11 (D11.symm.trans h) hL), o12 := (fun h _ => by rw [U30]; exact I.o12 (D12.symm.trans h) hL), o13 := (fun h _ => by rw [U31]; exact I.o13 (D13.symm.trans h) hL), o14 := (fun h _ => by rw [U32]; exact I.o14 (D14.symm.trans h) hL), o15 := (fun h _ => by rw [U33]; exact I.o15 (D15.symm.trans h) hL), o16 := (fun h _ => by rw [U34]; exact I.o16 (D16.symm.trans h) hL), o17 := (fun h _ => by rw [U35]; exact I.o17 (D17.symm.trans h) hL), o18 := (fun h _ => by rw [U7]; obtain ⟨B2, g1, g2, g3, g4⟩ := I.o18 (D18.symm.trans h) hL; exact ⟨B2, g1, (keepG hg2 g2 g3), g3, g4⟩), o19 := (fun h => by rw [D19, hL] at h; cases h) }⟩
    ·
     skip
     have DO : ∀ n, 11 ≠ n -> (d'.setIfInBounds 11 true).getD n false = d'.getD n false := fun n h => getD_set_ne false h
     have D11 : (d'.setIfInBounds 11 true).getD 11 false = true := setB_same hun
     have D0 := DO 0 (by decide)
     have D1 := DO 1 (by decide)
     have D2 := DO 2 (by decide)
     have D3 := DO 3 (by decide)
     have D4 := DO 4 (by decide)
     have D5 := DO 5 (by decide)
     have D6 := DO 6 (by decide)
     have D7 := DO 7 (by decide)
     have D8 := DO 8 (by decide)
     have D9 := DO 9 (by decide)
     have D10 := DO 10 (by decide)
     have D12 := DO 12 (by decide)
     have D13 := DO 13 (by decide)
     have D14 := DO 14 (by decide)
     have D15 := DO 15 (by decide)
     have D16 := DO 16 (by decide)
     have D17 := DO 17 (by decide)
     have D18 := DO 18 (by decide)
     have D19 := DO 19 (by decide)
     have H11 := undoneF hun
     have H12 := hcl.back 12 _ ⟨11, .data⟩ rfl (by simp) rfl H11
     have H17 := hcl.back 17 _ ⟨12, .data⟩ rfl (by simp) rfl H12
     have H19 := hcl.back 19 _ ⟨17, .data⟩ rfl (by simp) rfl H17
     have hL := H19
     have hgr := I.gro hL
     have kc := cell_code (keepG hgr hKB hKBg) hci
     refine wpOp_step rfl (fun K hK => ?_)
     simp only [frDv, e0, e1, e2, e8, e9, e10, e11, e12, e3, e4, e5, e6, e60, e61, e62, e63, e64, e65, e66, e67, e68, e69]
     go_simp
     have UO : ∀ n, n ≠ 29 -> updB us 29 (.pointer (some ⟨g, 0, none⟩)) n = us n := fun n h => updB_other h
     have U29 : updB us 29 (.pointer (some ⟨g, 0, none⟩)) 29 = (.pointer (some ⟨g, 0, none⟩)) := updB_same _ _ _
     have U0 := UO 0 (by decide)
     have U1 := UO 1 (by decide)
     have U2 := UO 2 (by decide)
     have U3 := UO 3 (by decide)
     have U4 := UO 4 (by decide)
     have U5 := UO 5 (by decide)
     have U6 := UO 6 (by decide)
     have U7 := UO 7 (by decide)
     have U8 := UO 8 (by decide)
     have U9 := UO 9 (by decide)
     have U10 := UO 10 (by decide)
     have U11 := UO 11 (by decide)
     have U12 := UO 12 (by decide)
     have U18 := UO 18 (by decide)
     have U19 := UO 19 (by decide)
     have U20 := UO 20 (by decide)
     have U21 := UO 21 (by decide)
     have U22 := UO 22 (by decide)
     have U23 := UO 23 (by decide)
     have U24 := UO 24 (by decide)
     have U25 := UO 25 (by decide)
     have U26 := UO 26 (by decide)
     have U27 := UO 27 (by decide)
     have U28 := UO 28 (by decide)
     have U30 := UO 30 (by decide)
     have U31 := UO 31 (by decide)
     have U32 := UO 32 (by decide)
     have U33 := UO 33 (by decide)
     have U34 := UO 34 (by decide)
     have U35 := UO 35 (by decide)
     have U60 := UO 60 (by decide)
     have U61 := UO 61 (by decide)
     have U62 := UO 62 (by decide)
     have U63 := UO 63 (by decide)
     have U64 := UO 64 (by decide)
     have U65 := UO 65 (by decide)
     have U66 := UO 66 (by decide)
     have U67 := UO 67 (by decide)
     have U68 := UO 68 (by decide)
     have U69 := UO 69 (by decide)
     refine hK _ _ ⟨updB us 29 (.pointer (some ⟨g, 0, none⟩)), by simp [frDv, updB, e0, e1, e2, e8, e9, e10, e11, e12, e3, e4, e5, e6, e60, e61, e62, e63, e64, e65, e66, e67, e68, e69], { u0 := (U0.trans I.u0), u1 := (U1.trans I.u1), u2 := (U2.trans I.u2), u8 := (U8.trans I.u8), u9 := (U9.trans I.u9), u10 := (U10.trans I.u10), u11 := (U11.trans I.u11), u12 := (U12.trans I.u12), u3 := (U3.trans I.u3), u4 := (U4.trans I.u4), u5 := (U5.trans I.u5), u6 := (U6.trans I.u6), u60 := (U60.trans I.u60), u61 := (U61.trans I.u61), u62 := (U62.trans I.u62), u63 := (U63.trans I.u63), u64 := (U64.trans I.u64), u65 := (U65.trans I.u65), u66 := (U66.trans I.u66), u67 := (U67.trans I.u67), u68 := (U68.trans I.u68), u69 := (U69.trans I.u69), src := hs, gr1 := I.gr1, gro := (fun _ => hgr), o0 := (fun h _ => by rw [U18]; exact I.o0 (D0.symm.trans h) hL), o1 := (fun h _ => by rw [U19]; exact I.o1 (D1.symm.trans h) hL), o2 := (fun h _ => by rw [U20]; exact I.o2 (D2.symm.trans h) hL), o3 := (fun h _ => by rw [U21]; exact I.o3 (D3.symm.trans h) hL), o4 := (fun h _ => by rw [U22]; exact I.o4 (D4.symm.trans h) hL), o5 := (fun h _ => by rw [U23]; exact I.o5 (D5.symm.trans h) hL), o6 := (fun h _ => by rw [U24]; exact I.o6 (D6.symm.trans h) hL), o7 := (fun h _ => by rw [U25]; obtain ⟨B2, y0, g1, g2, g3, g4, p0, p1⟩ := I.o7 (D7.symm.trans h) hL; exact ⟨B2, y0, g1, g2, g3, g4, p0, p1⟩), o8 := (fun h _ => by rw [U26]; exact I.o8 (D8.symm.trans h) hL), o9 := (fun h _ => by rw [U27]; exact I.o9 (D9.symm.trans h) hL), o10 := (fun h _ => by rw [U28]; exact I.o10 (D10.symm.trans h) hL), o11 := (fun _ _ => U29), o12 := (fun h _ => by rw [U30]; exact I.o12 (D12.symm.trans h) hL), o13 := (fun h _ => by rw [U31]; exact I.o13 (D13.symm.trans h) hL), o14 := (fun h _ => by rw [U32]; exact I.o14 (D14.symm.trans h) hL), o15 := (fun h _ => by rw [U33]; exact I.o15 (D15.symm.trans h) hL), o16 := (fun h _ => by rw [U34]; exact I.o16 (D16.symm.trans h) hL), o17 := (fun h _ => by rw [U35]; exact I.o17 (D17.symm.trans h) hL), o18 := (fun h _ => by rw [U7]; obtain ⟨B2, g1, g2, g3, g4⟩ := I.o18 (D18.symm.trans h) hL; exact ⟨B2, g1, g2, g3, g4⟩), o19 := (fun h => by rw [D19, hL] at h; cases h) }⟩
    ·
     skip
     have DO : ∀ n, 12 ≠ n -> (d'.setIfInBounds 12 true).getD n false = d'.getD n false := fun n h => getD_set_ne false h
     have D12 : (d'.setIfInBounds 12 true).getD 12 false = true := setB_same hun
     have D0 := DO 0 (by decide)
     have D1 := DO 1 (by decide)
     have D2 := DO 2 (by decide)
     have D3 := DO 3 (by decide)
     have D4 := DO 4 (by decide)
     have D5 := DO 5 (by decide)
     have D6 := DO 6 (by decide)
     have D7 := DO 7 (by decide)
     have D8 := DO 8 (by decide)
     have D9 := DO 9 (by decide)
     have D10 := DO 10 (by decide)
     have D11 := DO 11 (by decide)
     have D13 := DO 13 (by decide)
     have D14 := DO 14 (by decide)
     have D15 := DO 15 (by decide)
     have D16 := DO 16 (by decide)
     have D17 := DO 17 (by decide)
     have D18 := DO 18 (by decide)
     have D19 := DO 19 (by decide)
     have H12 := undoneF hun
     have H17 := hcl.back 17 _ ⟨12, .data⟩ rfl (by simp) rfl H12
     have H19 := hcl.back 19 _ ⟨17, .data⟩ rfl (by simp) rfl H17
     have hL := H19
     have hgr := I.gro hL
     have kc := cell_code (keepG hgr hKB hKBg) hci
     have e29 := I.o11 (hall ⟨11, .data⟩ (by simp) rfl) hL
     refine wpOp_step rfl (fun K hK => ?_)
     simp only [frDv, e0, e1, e2, e8, e9, e10, e11, e12, e3, e4, e5, e6, e60, e61, e62, e63, e64, e65, e66, e67, e68, e69, e29]
     go_simp
     go_wp2_with (go_at_call 55; refine (next_any g _ base A c bs _ hs (by omega)).mono ?_; rintro e w2 ⟨r, rfl, r0, r1, hs2, hg2⟩)
     have UO : ∀ n, n ≠ 30 -> updB us 30 (.int .i64 r) n = us n := fun n h => updB_other h
     have U30 : updB us 30 (.int .i64 r) 30 = (.int .i64 r) := updB_same _ _ _
     have U0 := UO 0 (by decide)
     have U1 := UO 1 (by decide)
     have U2 := UO 2 (by decide)
     have U3 := UO 3 (by decide)
     have U4 := UO 4 (by decide)
     have U5 := UO 5 (by decide)
     have U6 := UO 6 (by decide)
     have U7 := UO 7 (by decide)
     have U8 := UO 8 (by decide)
     have U9 := UO 9 (by decide)
     have U10 := UO 10 (by decide)
     have U11 := UO 11 (by decide)
     have U12 := UO 12 (by decide)
     have U18 := UO 18 (by decide)
     have U19 := UO 19 (by decide)
     have U20 := UO 20 (by decide)
     have U21 := UO 21 (by decide)
     have U22 := UO 22 (by decide)
     have U23 := UO 23 (by decide)
     have U24 := UO 24 (by decide)
     have U25 := UO 25 (by decide)
     have U26 := UO 26 (by decide)
     have U27 := UO 27 (by decide)
     have U28 := UO 28 (by decide)
     have U29 := UO 29 (by decide)
     have U31 := UO 31 (by decide)
     have U32 := UO 32 (by decide)
     have U33 := UO 33 (by decide)
     have U34 := UO 34 (by decide)
     have U35 := UO 35 (by decide)
     have U60 := UO 60 (by decide)
     have U61 := UO 61 (by decide)
     have U62 := UO 62 (by decide)
     have U63 := UO 63 (by decide)
     have U64 := UO 64 (by decide)
     have U65 := UO 65 (by decide)
     have U66 := UO 66 (by decide)
     have U67 := UO 67 (by decide)
     have U68 := UO 68 (by decide)
     have U69 := UO 69 (by decide)
     exact ⟨updB us 30 (.int .i64 r), by simp [frDv, updB, e0, e1, e2, e8, e9, e10, e11, e12, e3, e4, e5, e6, e60, e61, e62, e63, e64, e65, e66, e67, e68, e69, e29], { u0 := (U0.trans I.u0), u1 := (U1.trans I.u1), u2 := (U2.trans I.u2), u8 := (U8.trans I.u8), u9 := (U9.trans I.u9), u10 := (U10.trans I.u10), u11 := (U11.trans I.u11), u12 := (U12.trans I.u12), u3 := (U3.trans I.u3), u4 := (U4.trans I.u4), u5 := (U5.trans I.u5), u6 := (U6.trans I.u6), u60 := (U60.trans I.u60), u61 := (U61.trans I.u61), u62 := (U62.trans I.u62), u63 := (U63.trans I.u63), u64 := (U64.trans I.u64), u65 := (U65.trans I.u65), u66 := (U66.trans I.u66), u67 := (U67.trans I.u67), u68 := (U68.trans I.u68), u69 := (U69.trans I.u69), src := hs2, gr1 := (I.gr1.trans hg2), gro := (fun _ => hgr.trans hg2), o0 := (fun h _ => by rw [U18]; exact I.o0 (D0.symm.trans h) hL), o1 := (fun h _ => by rw [U19]; exact I.o1 (D1.symm.trans h) hL), o2 := (fun h _ => by rw [U20]; exact I.o2 (D2.symm.trans h) hL), o3 := (fun h _ => by rw [U21]; exact I.o3 (D3.symm.trans h) hL), o4 := (fun h _ => by rw [U22]; exact I.o4 (D4.symm.trans h) hL), o5 := (fun h _ => by rw [U23]; exact I.o5 (D5.symm.trans h) hL), o6 := (fun h _ => by rw [U24]; exact I.o6 (D6.symm.trans h) hL), o7 := (fun h _ => by rw [U25]; obtain ⟨B2, y0, g1, g2, g3, g4, p0, p1⟩ := I.o7 (D7.symm.trans h) hL; exact ⟨B2, y0, g1, (keepG hg2 g2 g3), g3, g4, p0, p1⟩), o8 := (fun h _ => by rw [U26]; exact I.o8 (D8.symm.trans h) hL), o9 := (fun h _ => by rw [U27]; exact I.o9 (D9.symm.trans h) hL), o10 := (fun h _ => by rw [U28]; exact I.o10 (D10.symm.trans h) hL), o11 := (fun h _ => by rw [U29]; exact I.o11 (D11.symm.trans h) hL), o12 := (fun _ _ => ⟨r, U30, by omega, by omega⟩), o13 := (fun h _ => by rw [U31]; exact I.o13 (D13.symm.trans h) hL), o14 := (fun h _ => by rw [U32]; exact I.o14 (D14.symm.trans h) hL), o15 := (fun h _ => by rw [U33]; exact I.o15 (D15.symm.trans h) hL), o16 := (fun h _ => by rw [U34]; exact I.o16 (D16.symm.trans h) hL), o17 := (fun h _ => by rw [U35]; exact I.o17 (D17.symm.trans h) hL), o18 := (fun h _ => by rw [U7]; obtain ⟨B2, g1, g2, g3, g4⟩ := I.o18 (D18.symm.trans h) hL; exact ⟨B2, g1, (keepG hg2 g2 g3), g3, g4⟩), o19 := (fun h => by rw [D19, hL] at h; cases h) }⟩
    ·
     skip
     have DO : ∀ n, 13 ≠ n -> (d'.setIfInBounds 13 true).getD n false = d'.getD n false := fun n h => getD_set_ne false h
     have D13 : (d'.setIfInBounds 13 true).getD 13 false = true := setB_same hun
     have D0 := DO 0 (by decide)
     have D1 := DO 1 (by decide)
     have D2 := DO 2 (by decide)
     have D3 := DO 3 (by decide)
     have D4 := DO 4 (by decide)
     have D5 := DO 5 (by decide)
     have D6 := DO 6 (by decide)
     have D7 := DO 7 (by decide)
     have D8 := DO 8 (by decide)
     have D9 := DO 9 (by decide)
     have D10 := DO 10 (by decide)
     have D11 := DO 11 (by decide)
     have D12 := DO 12 (by decide)
     have D14 := DO 14 (by decide)
     have D15 := DO 15 (by decide)
     have D16 := DO 16 (by decide)
     have D17 := DO 17 (by decide)
     have D18 := DO 18 (by decide)
     have D19 := DO 19 (by decide)
     have H13 := undoneF hun
     have H14 := hcl.back 14 _ ⟨13, .data⟩ rfl (by simp) rfl H13
     have H17 := hcl.back 17 _ ⟨14, .data⟩ rfl (by simp) rfl H14
     have H19 := hcl.back 19 _ ⟨17, .data⟩ rfl (by simp) rfl H17
     have hL := H19
     have hgr := I.gro hL
     have kc := cell_code (keepG hgr hKB hKBg) hci
     refine wpOp_step rfl (fun K hK => ?_)
     simp only [frDv, e0, e1, e2, e8, e9, e10, e11, e12, e3, e4, e5, e6, e60, e61, e62, e63, e64, e65, e66, e67, e68, e69]
     go_simp
     have UO : ∀ n, n ≠ 31 -> updB us 31 (.pointer (some ⟨g, 0, none⟩)) n = us n := fun n h => updB_other h
     have U31 : updB us 31 (.pointer (some ⟨g, 0, none⟩)) 31 = (.pointer (some ⟨g, 0, none⟩)) := updB_same _ _ _
     have U0 := UO 0 (by decide)
     have U1 := UO 1 (by decide)
     have U2 := UO 2 (by decide)
     have U3 := UO 3 (by decide)
     have U4 := UO 4 (by decide)
     have U5 := UO 5 (by decide)
     have U6 := UO 6 (by decide)
     have U7 := UO 7 (by decide)
     have U8 := UO 8 (by decide)
     have U9 := UO 9 (by decide)
     have U10 := UO 10 (by decide)
     have U11 := UO 11 (by decide)
     have U12 := UO 12 (by decide)
     have U18 := UO 18 (by decide)
     have U19 := UO 19 (by decide)
     have U20 := UO 20 (by decide)
     have U21 := UO 21 (by decide)
     have U22 := UO 22 (by decide)
     have U23 := UO 23 (by decide)
     have U24 := UO 24 (by decide)
     have U25 := UO 25 (by decide)
     have U26 := UO 26 (by decide)
     have U27 := UO 27 (by decide)
     have U28 := UO 28 (by decide)
     have U29 := UO 29 (by decide)
     have U30 := UO 30 (by decide)
     have U32 := UO 32 (by decide)
     have U33 := UO 33 (by decide)
     have U34 := UO 34 (by decide)
     have U35 := UO 35 (by decide)
     have U60 := UO 60 (by decide)
     have U61 := UO 61 (by decide)
     have U62 := UO 62 (by decide)
     have U63 := UO 63 (by decide)
     have U64 := UO 64 (by decide)
     have U65 := UO 65 (by decide)
     have U66 := UO 66 (by decide)
     have U67 := UO 67 (by decide)
     have U68 := UO 68 (by decide)
     have U69 := UO 69 (by decide)
     refine hK _ _ ⟨updB us 31 (.pointer (some ⟨g, 0, none⟩)), by simp [frDv, updB, e0, e1, e2, e8, e9, e10, e11, e12, e3, e4, e5, e6, e60, e61, e62, e63, e64, e65, e66, e67, e68, e69], { u0 := (U0.trans I.u0), u1 := (U1.trans I.u1), u2 := (U2.trans I.u2), u8 := (U8.trans I.u8), u9 := (U9.trans I.u9), u10 := (U10.trans I.u10), u11 := (U11.trans I.u11), u12 := (U12.trans I.u12), u3 := (U3.trans I.u3), u4 := (U4.trans I.u4), u5 := (U5.trans I.u5), u6 := (U6.trans I.u6), u60 := (U60.trans I.u60), u61 := (U61.trans I.u61), u62 := (U62.trans I.u62), u63 := (U63.trans I.u63), u64 := (U64.trans I.u64), u65 := (U65.trans I.u65), u66 := (U66.trans I.u66), u67 := (U67.trans I.u67), u68 := (U68.trans I.u68), u69 := (U69.trans I.u69), src := hs, gr1 := I.gr1, gro := (fun _ => hgr), o0 := (fun h _ => by rw [U18]; exact I.o0 (D0.symm.trans h) hL), o1 := (fun h _ => by rw [U19]; exact I.o1 (D1.symm.trans h) hL), o2 := (fun h _ => by rw [U20]; exact I.o2 (D2.symm.trans h) hL), o3 := (fun h _ => by rw [U21]; exact I.o3 (D3.symm.trans h) hL), o4 := (fun h _ => by rw [U22]; exact I.o4 (D4.symm.trans h) hL), o5 := (fun h _ => by rw [U23]; exact I.o5 (D5.symm.trans h) hL), o6 := (fun h _ => by rw [U24]; exact I.o6 (D6.symm.trans h) hL), o7 := (fun h _ => by rw [U25]; obtain ⟨B2, y0, g1, g2, g3, g4, p0, p1⟩ := I.o7 (D7.symm.trans h) hL; exact ⟨B2, y0, g1, g2, g3, g4, p0, p1⟩), o8 := (fun h _ => by rw [U26]; exact I.o8 (D8.symm.trans h) hL), o9 := (fun h _ => by rw [U27]; exact I.o9 (D9.symm.trans h) hL), o10 := (fun h _ => by rw [U28]; exact I.o10 (D10.symm.trans h) hL), o11 := (fun h _ => by rw [U29]; exact I.o11 (D11.symm.trans h) hL), o12 := (fun h _ => by rw [U30]; exact I.o12 (D12.symm.trans h) hL), o13 := (fun _ _ => U31), o14 := (fun h _ => by rw [U32]; exact I.o14 (D14.symm.trans h) hL), o15 := (fun h _ => by rw [U33]; exact I.o15 (D15.symm.trans h) hL), o16 := (fun h _ => by rw [U34]; exact I.o16 (D16.symm.trans h) hL), o17 := (fun h _ => by rw [U35]; exact I.o17 (D17.symm.trans h) hL), o18 := (fun h _ => by rw [U7]; obtain ⟨B2, g1, g2, g3, g4⟩ := I.o18 (D18.symm.trans h) hL; exact ⟨B2, g1, g2, g3, g4⟩), o19 := (fun h => by rw [D19, hL] at h; cases h) }⟩
    ·
     skip
     have DO : ∀ n, 14 ≠ n -> (d'.setIfInBounds 14 true).getD n false = d'.getD n false := fun n h => getD_set_ne false h
     have D14 : (d'.setIfInBounds 14 true).getD 14 false = true := setB_same hun
     have D0 := DO 0 (by decide)
     have D1 := DO 1 (by decide)
     have D2 := DO 2 (by decide)
     have D3 := DO 3 (by decide)
     have D4 := DO 4 (by decide)
     have D5 := DO 5 (by decide)
     have D6 := DO 6 (by decide)
     have D7 := DO 7 (by decide)
     have D8 := DO 8 (by decide)
     have D9 := DO 9 (by decide)
     have D10 := DO 10 (by decide)
     have D11 := DO 11 (by decide)
     have D12 := DO 12 (by decide)
     have D13 := DO 13 (by decide)
     have D15 := DO 15 (by decide)
     have D16 := DO 16 (by decide)
     have D17 := DO 17 (by decide)
     have D18 := DO 18 (by decide)
     have D19 := DO 19 (by decide)
     have H14 := undoneF hun
     have H17 := hcl.back 17 _ ⟨14, .data⟩ rfl (by simp) rfl H14
     have H19 := hcl.back 19 _ ⟨17, .data⟩ rfl (by simp) rfl H17
     have hL := H19
     have hgr := I.gro hL
     have kc := cell_code (keepG hgr hKB hKBg) hci
     have e31 := I.o13 (hall ⟨13, .data⟩ (by simp) rfl) hL
     refine wpOp_step rfl (fun K hK => ?_)
     simp only [frDv, e0, e1, e2, e8, e9, e10, e11, e12, e3, e4, e5, e6, e60, e61, e62, e63, e64, e65, e66, e67, e68, e69, e31]
     go_simp
     go_wp2_with (go_at_call 55; refine (next_any g _ base A c bs _ hs (by omega)).mono ?_; rintro e w2 ⟨r, rfl, r0, r1, hs2, hg2⟩)
     have UO : ∀ n, n ≠ 32 -> updB us 32 (.int .i64 r) n = us n := fun n h => updB_other h
     have U32 : updB us 32 (.int .i64 r) 32 = (.int .i64 r) := updB_same _ _ _
     have U0 := UO 0 (by decide)
     have U1 := UO 1 (by decide)
     have U2 := UO 2 (by decide)
     have U3 := UO 3 (by decide)
     have U4 := UO 4 (by decide)
     have U5 := UO 5 (by decide)
     have U6 := UO 6 (by decide)
     have U7 := UO 7 (by decide)
     have U8 := UO 8 (by decide)
     have U9 := UO 9 (by decide)
     have U10 := UO 10 (by decide)
     have U11 := UO 11 (by decide)
     have U12 := UO 12 (by decide)
     have U18 := UO 18 (by decide)
     have U19 := UO 19 (by decide)
     have U20 := UO 20 (by decide)
     have U21 := UO 21 (by decide)
     have U22 := UO 22 (by decide)
     have U23 := UO 23 (by decide)
     have U24 := UO 24 (by decide)
     have U25 := UO 25 (by decide)
     have U26 := UO 26 (by decide)
     have U27 := UO 27 (by decide)
     have U28 := UO 28 (by decide)
     have U29 := UO 29 (by decide)
     have U30 := UO 30 (by decide)
     have U31 := UO 31 (by decide)
     have U33 := UO 33 (by decide)
     have U34 := UO 34 (by decide)
     have U35 := UO 35 (by decide)
     have U60 := UO 60 (by decide)
     have U61 := UO 61 (by decide)
     have U62 := UO 62 (by decide)
     have U63 := UO 63 (by decide)
     have U64 := UO 64 (by decide)
     have U65 := UO 65 (by decide)
     have U66 := UO 66 (by decide)
     have U67 := UO 67 (by decide)
     have U68 := UO 68 (by decide)
     have U69 := UO 69 (by decide)
     exact ⟨updB us 32 (.int .i64 r), by simp [frDv, updB, e0, e1, e2, e8, e9, e10, e11, e12, e3, e4, e5, e6, e60, e61, e62, e63, e64, e65, e66, e67, e68, e69, e31], { u0 := (U0.trans I.u0), u1 := (U1.trans I.u1), u2 := (U2.trans I.u2), u8 := (U8.trans I.u8), u9 := (U9.trans I.u9), u10 := (U10.trans I.u10), u11 := (U11.trans I.u11), u12 := (U12.trans I.u12), u3 := (U3.trans I.u3), u4 := (U4.trans I.u4), u5 := (U5.trans I.u5), u6 := (U6.trans I.u6), u60 := (U60.trans I.u60), u61 := (U61.trans I.u61), u62 := (U62.trans I.u62), u63 := (U63.trans I.u63), u64 := (U64.trans I.u64), u65 := (U65.trans I.u65), u66 := (U66.trans I.u66), u67 := (U67.trans I.u67), u68 := (U68.trans I.u68), u69 := (U69.trans I.u69), src := hs2, gr1 := (I.gr1.trans hg2), gro := (fun _ => hgr.trans hg2), o0 := (fun h _ => by rw [U18]; exact I.o0 (D0.symm.trans h) hL), o1 := (fun h _ => by rw [U19]; exact I.o1 (D1.symm.trans h) hL), o2 := (fun h _ => by rw [U20]; exact I.o2 (D2.symm.trans h) hL), o3 := (fun h _ => by rw [U21]; exact I.o3 (D3.symm.trans h) hL), o4 := (fun h _ => by rw [U22]; exact I.o4 (D4.symm.trans h) hL), o5 := (fun h _ => by rw [U23]; exact I.o5 (D5.symm.trans h) hL), o6 := (fun h _ => by rw [U24]; exact I.o6 (D6.symm.trans h) hL), o7 := (fun h _ => by rw [U25]; obtain ⟨B2, y0, g1, g2, g3, g4, p0, p1⟩ := I.o7 (D7.symm.trans h) hL; exact ⟨B2, y0, g1, (keepG hg2 g2 g3), g3, g4, p0, p1⟩), o8 := (fun h _ => by rw [U26]; exact I.o8 (D8.symm.trans h) hL), o9 := (fun h _ => by rw [U27]; exact I.o9 (D9.symm.trans h) hL), o10 := (fun h _ => by rw [U28]; exact I.o10 (D10.symm.trans h) hL), o11 := (fun h _ => by rw [U29]; exact I.o11 (D11.symm.trans h) hL), o12 := (fun h _ => by rw [U30]; exact I.o12 (D12.symm.trans h) hL), o13 := (fun h _ => by rw [U31]; exact I.o13 (D13.symm.trans h) hL), o14 := (fun _ _ => ⟨r, U32, by omega, by omega⟩), o15 := (fun h _ => by rw [U33]; exact I.o15 (D15.symm.trans h) hL), o16 := (fun h _ => by rw [U34]; exact I.o16 (D16.symm.trans h) hL), o17 := (fun h _ => by rw [U35]; exact I.o17 (D17.symm.trans h) hL), o18 := (fun h _ => by rw [U7]; obtain ⟨B2, g1, g2, g3, g4⟩ := I.o18 (D18.symm.trans h) hL; exact ⟨B2, g1, (keepG hg2 g2 g3), g3, g4⟩), o19 := (fun h => by rw [D19, hL] at h; cases h) }⟩
    ·
     skip
     have DO : ∀ n, 15 ≠ n -> (d'.setIfInBounds 15 true).getD n false = d'.getD n false := fun n h => getD_set_ne false h
     have D15 : (d'.setIfInBounds 15 true).getD 15 false = true := setB_same hun
     have D0 := DO 0 (by decide)
     have D1 := DO 1 (by decide)
     have D2 := DO 2 (by decide)
     have D3 := DO 3 (by decide)
     have D4 := DO 4 (by decide)
     have D5 := DO 5 (by decide)
     have D6 := DO 6 (by decide)
     have D7 := DO 7 (by decide)
     have D8 := DO 8 (by decide)
     have D9 := DO 9 (by decide)
     have D10 := DO 10 (by decide)
     have D11 := DO 11 (by decide)
     have D12 := DO 12 (by decide)
     have D13 := DO 13 (by decide)
     have D14 := DO 14 (by decide)
     have D16 := DO 16 (by decide)
     have D17 := DO 17 (by decide)
     have D18 := DO 18 (by decide)
     have D19 := DO 19 (by decide)
     have H15 := undoneF hun
     have H16 := hcl.back 16 _ ⟨15, .data⟩ rfl (by simp) rfl H15
     have H17 := hcl.back 17 _ ⟨16, .data⟩ rfl (by simp) rfl H16
     have H19 := hcl.back 19 _ ⟨17, .data⟩ rfl (by simp) rfl H17
     have hL := H19
     have hgr := I.gro hL
     have kc := cell_code (keepG hgr hKB hKBg) hci
     refine wpOp_step rfl (fun K hK => ?_)
     simp only [frDv, e0, e1, e2, e8, e9, e10, e11, e12, e3, e4, e5, e6, e60, e61, e62, e63, e64, e65, e66, e67, e68, e69]
     go_simp
     have UO : ∀ n, n ≠ 33 -> updB us 33 (.pointer (some ⟨g, 0, none⟩)) n = us n := fun n h => updB_other h
     have U33 : updB us 33 (.pointer (some ⟨g, 0, none⟩)) 33 = (.pointer (some ⟨g, 0, none⟩)) := updB_same _ _ _
     have U0 := UO 0 (by decide)
     have U1 := UO 1 (by decide)
     have U2 := UO 2 (by decide)
     have U3 := UO 3 (by decide)
     have U4 := UO 4 (by decide)
     have U5 := UO 5 (by decide)
     have U6 := UO 6 (by decide)
     have U7 := UO 7 (by decide)
     have U8 := UO 8 (by decide)
     have U9 := UO 9 (by decide)
     have U10 := UO 10 (by decide)
     have U11 := UO 11 (by decide)
     have U12 := UO 12 (by decide)
     have U18 := UO 18 (by decide)
     have U19 := UO 19 (by decide)
     have U20 := UO 20 (by decide)
     have U21 := UO 21 (by decide)
     have U22 := UO 22 (by decide)
     have U23 := UO 23 (by decide)
     have U24 := UO 24 (by decide)
     have U25 := UO 25 (by decide)
     have U26 := UO 26 (by decide)
     have U27 := UO 27 (by decide)
     have U28 := UO 28 (by decide)
     have U29 := UO 29 (by decide)
     have U30 := UO 30 (by decide)
     have U31 := UO 31 (by decide)
     have U32 := UO 32 (by decide)
     have U34 := UO 34 (by decide)
     have U35 := UO 35 (by decide)
     have U60 := UO 60 (by decide)
     have U61 := UO 61 (by decide)
     have U62 := UO 62 (by decide)
     have U63 := UO 63 (by decide)
     have U64 := UO 64 (by decide)
     have U65 := UO 65 (by decide)
     have U66 := UO 66 (by decide)
     have U67 := UO 67 (by decide)
     have U68 := UO 68 (by decide)
     have U69 := UO 69 (by decide)
     refine hK _ _ ⟨updB us 33 (.pointer (some ⟨g, 0, none⟩)), by simp [frDv, updB, e0, e1, e2, e8, e9, e10, e11, e12, e3, e4, e5, e6, e60, e61, e62, e63, e64, e65, e66, e67, e68, e69], { u0 := (U0.trans I.u0), u1 := (U1.trans I.u1), u2 := (U2.trans I.u2), u8 := (U8.trans I.u8), u9 := (U9.trans I.u9), u10 := (U10.trans I.u10), u11 := (U11.trans I.u11), u12 := (U12.trans I.u12), u3 := (U3.trans I.u3), u4 := (U4.trans I.u4), u5 := (U5.trans I.u5), u6 := (U6.trans I.u6), u60 := (U60.trans I.u60), u61 := (U61.trans I.u61), u62 := (U62.trans I.u62), u63 := (U63.trans I.u63), u64 := (U64.trans I.u64), u65 := (U65.trans I.u65), u66 := (U66.trans I.u66), u67 := (U67.trans I.u67), u68 := (U68.trans I.u68), u69 := (U69.trans I.u69), src := hs, gr1 := I.gr1, gro := (fun _ => hgr), o0 := (fun h _ => by rw [U18]; exact I.o0 (D0.symm.trans h) hL), o1 := (fun h _ => by rw [U19]; exact I.o1 (D1.symm.trans h) hL), o2 := (fun h _ => by rw [U20]; exact I.o2 (D2.symm.trans h) hL), o3 := (fun h _ => by rw [U21]; exact I.o3 (D3.symm.trans h) hL), o4 := (fun h _ => by rw [U22]; exact I.o4 (D4.symm.trans h) hL), o5 := (fun h _ => by rw [U23]; exact I.o5 (D5.symm.trans h) hL), o6 := (fun h _ => by rw [U24]; exact I.o6 (D6.symm.trans h) hL), o7 := (fun h _ => by rw [U25]; obtain ⟨B2, y0, g1, g2, g3, g4, p0, p1⟩ := I.o7 (D7.symm.trans h) hL; exact ⟨B2, y0, g1, g2, g3, g4, p0, p1⟩), o8 := (fun h _ => by rw [U26]; exact I.o8 (D8.symm.trans h) hL), o9 := (fun h _ => by rw [U27]; exact I.o9 (D9.symm.trans h) hL), o10 := (fun h _ => by rw [U28]; exact I.o10 (D10.symm.trans h) hL), o11 := (fun h _ => by rw [U29]; exact I.o11 (D11.symm.trans h) hL), o12 := (fun h _ => by rw [U30]; exact I.o12 (D12.symm.trans h) hL), o13 := (fun h _ => by rw [U31]; exact I.o13 (D13.symm.trans h) hL), o14 := (fun h _ => by rw [U32]; exact I.o14 (D14.symm.trans h) hL), o15 := (fun _ _ => U33), o16 := (fun h _ => by rw [U34]; exact I.o16 (D16.symm.trans h) hL), o17 := (fun h _ => by rw [U35]; exact I.o17 (D17.symm.trans h) hL), o18 := (fun h _ => by rw [U7]; obtain ⟨B2, g1, g2, g3, g4⟩ := I.o18 (D18.symm.trans h) hL; exact ⟨B2, g1, g2, g3, g4⟩), o19 := (fun h => by rw [D19, hL] at h; cases h) }⟩
    ·
     skip
     have DO : ∀ n, 16 ≠ n -> (d'.setIfInBounds 16 true).getD n false = d'.getD n false := fun n h => getD_set_ne false h
     have D16 : (d'.setIfInBounds 16 true).getD 16 false = true := setB_same hun
     have D0 := DO 0 (by decide)
     have D1 := DO 1 (by decide)
     have D2 := DO 2 (by decide)
     have D3 := DO 3 (by decide)
     have D4 := DO 4 (by decide)
     have D5 := DO 5 (by decide)
     have D6 := DO 6 (by decide)
     have D7 := DO 7 (by decide)
     have D8 := DO 8 (by decide)
     have D9 := DO 9 (by decide)
     have D10 := DO 10 (by decide)
     have D11 := DO 11 (by decide)
     have D12 := DO 12 (by decide)
     have D13 := DO 13 (by decide)
     have D14 := DO 14 (by decide)
     have D15 := DO 15 (by decide)
     have D17 := DO 17 (by decide)
     have D18 := DO 18 (by decide)
     have D19 := DO 19 (by decide)
     have H16 := undoneF hun
     have H17 := hcl.back 17 _ ⟨16, .data⟩ rfl (by simp) rfl H16
     have H19 := hcl.back 19 _ ⟨17, .data⟩ rfl (by simp) rfl H17
     have hL := H19
     have hgr := I.gro hL
     have kc := cell_code (keepG hgr hKB hKBg) hci
     have e33 := I.o15 (hall ⟨15, .data⟩ (by simp) rfl) hL
     refine wpOp_step rfl (fun K hK => ?_)
     simp only [frDv, e0, e1, e2, e8, e9, e10, e11, e12, e3, e4, e5, e6, e60, e61, e62, e63, e64, e65, e66, e67, e68, e69, e33]
     go_simp
     go_wp2_with (go_at_call 55; refine (next_any g _ base A c bs _ hs (by omega)).mono ?_; rintro e w2 ⟨r, rfl, r0, r1, hs2, hg2⟩)
     have UO : ∀ n, n ≠ 34 -> updB us 34 (.int .i64 r) n = us n := fun n h => updB_other h
     have U34 : updB us 34 (.int .i64 r) 34 = (.int .i64 r) := updB_same _ _ _
     have U0 := UO 0 (by decide)
     have U1 := UO 1 (by decide)
     have U2 := UO 2 (by decide)
     have U3 := UO 3 (by decide)
     have U4 := UO 4 (by decide)
     have U5 := UO 5 (by decide)
     have U6 := UO 6 (by decide)
     have U7 := UO 7 (by decide)
     have U8 := UO 8 (by decide)
     have U9 := UO 9 (by decide)
     have U10 := UO 10 (by decide)
     have U11 := UO 11 (by decide)
     have U12 := UO 12 (by decide)
     have U18 := UO 18 (by decide)
     have U19 := UO 19 (by decide)
     have U20 := UO 20 (by decide)
     have U21 := UO 21 (by decide)
     have U22 := UO 22 (by decide)
     have U23 := UO 23 (by decide)
     have U24 := UO 24 (by decide)
     have U25 := UO 25 (by decide)
     have U26 := UO 26 (by decide)
     have U27 := UO 27 (by decide)
     have U28 := UO 28 (by decide)
     have U29 := UO 29 (by decide)
     have U30 := UO 30 (by decide)
     have U31 := UO 31 (by decide)
     have U32 := UO 32 (by decide)
     have U33 := UO 33 (by decide)
     have U35 := UO 35 (by decide)
     have U60 := UO 60 (by decide)
     have U61 := UO 61 (by decide)
     have U62 := UO 62 (by decide)
     have U63 := UO 63 (by decide)
     have U64 := UO 64 (by decide)
     have U65 := UO 65 (by decide)
     have U66 := UO 66 (by decide)
     have U67 := UO 67 (by decide)
     have U68 := UO 68 (by decide)
     have U69 := UO 69 (by decide)
     exact ⟨updB us 34 (.int .i64 r), by simp [frDv, updB, e0, e1, e2, e8, e9, e10, e11, e12, e3, e4, e5, e6, e60, e61, e62, e63, e64, e65, e66, e67, e68, e69, e33], { u0 := (U0.trans I.u0), u1 := (U1.trans I.u1), u2 := (U2.trans I.u2), u8 := (U8.trans I.u8), u9 := (U9.trans I.u9), u10 := (U10.trans I.u10), u11 := (U11.trans I.u11), u12 := (U12.trans I.u12), u3 := (U3.trans I.u3), u4 := (U4.trans I.u4), u5 := (U5.trans I.u5), u6 := (U6.trans I.u6), u60 := (U60.trans I.u60), u61 := (U61.trans I.u61), u62 := (U62.trans I.u62), u63 := (U63.trans I.u63), u64 := (U64.trans I.u64), u65 := (U65.trans I.u65), u66 := (U66.trans I.u66), u67 := (U67.trans I.u67), u68 := (U68.trans I.u68), u69 := (U69.trans I.u69), src := hs2, gr1 := (I.gr1.trans hg2), gro := (fun _ => hgr.trans hg2), o0 := (fun h _ => by rw [U18]; exact I.o0 (D0.symm.trans h) hL), o1 := (fun h _ => by rw [U19]; exact I.o1 (D1.symm.trans h) hL), o2 := (fun h _ => by rw [U20]; exact I.o2 (D2.symm.trans h) hL), o3 := (fun h _ => by rw [U21]; exact I.o3 (D3.symm.trans h) hL), o4 := (fun h _ => by rw [U22]; exact I.o4 (D4.symm.trans h) hL), o5 := (fun h _ => by rw [U23]; exact I.o5 (D5.symm.trans h) hL), o6 := (fun h _ => by rw [U24]; exact I.o6 (D6.symm.trans h) hL), o7 := (fun h _ => by rw [U25]; obtain ⟨B2, y0, g1, g2, g3, g4, p0, p1⟩ := I.o7 (D7.symm.trans h) hL; exact ⟨B2, y0, g1, (keepG hg2 g2 g3), g3, g4, p0, p1⟩), o8 := (fun h _ => by rw [U26]; exact I.o8 (D8.symm.trans h) hL), o9 := (fun h _ => by rw [U27]; exact I.o9 (D9.symm.trans h) hL), o10 := (fun h _ => by rw [U28]; exact I.o10 (D10.symm.trans h) hL), o11 := (fun h _ => by rw [U29]; exact I.o11 (D11.symm.trans h) hL), o12 := (fun h _ => by rw [U30]; exact I.o12 (D12.symm.trans h) hL), o13 := (fun h _ => by rw [U31]; exact I.o13 (D13.symm.trans h) hL), o14 := (fun h _ => by rw [U32]; exact I.o14 (D14.symm.trans h) hL), o15 := (fun h _ => by rw [U33]; exact I.o15 (D15.symm.trans h) hL), o16 := (fun _ _ => ⟨r, U34, by omega, by omega⟩), o17 := (fun h _ => by rw [U35]; exact I.o17 (D17.symm.trans h) hL), o18 := (fun h _ => by rw [U7]; obtain ⟨B2, g1, g2, g3, g4⟩ := I.o18 (D18.symm.trans h) hL; exact ⟨B2, g1, (keepG hg2 g2 g3), g3, g4⟩), o19 := (fun h => by rw [D19, hL] at h; cases h) }⟩
    ·
     skip
     have DO : ∀ n, 17 ≠ n -> (d'.setIfInBounds 17 true).getD n false = d'.getD n false := fun n h => getD_set_ne false h
     have D17 : (d'.setIfInBounds 17 true).getD 17 false = true := setB_same hun
     have D0 := DO 0 (by decide)
     have D1 := DO 1 (by decide)
     have D2 := DO 2 (by decide)
     have D3 := DO 3 (by decide)
     have D4 := DO 4 (by decide)
     have D5 := DO 5 (by decide)
     have D6 := DO 6 (by decide)
     have D7 := DO 7 (by decide)
     have D8 := DO 8 (by decide)
     have D9 := DO 9 (by decide)
     have D10 := DO 10 (by decide)
     have D11 := DO 11 (by decide)
     have D12 := DO 12 (by decide)
     have D13 := DO 13 (by decide)
     have D14 := DO 14 (by decide)
     have D15 := DO 15 (by decide)
     have D16 := DO 16 (by decide)
     have D18 := DO 18 (by decide)
     have D19 := DO 19 (by decide)
     have H17 := undoneF hun
     have H19 := hcl.back 19 _ ⟨17, .data⟩ rfl (by simp) rfl H17
     have hL := H19
     have hgr := I.gro hL
     have kc := cell_code (keepG hgr hKB hKBg) hci
     have e21 := I.o3 (hall ⟨3, .data⟩ (by simp) rfl) hL
     obtain ⟨z8, e26, za8, zb8⟩ := I.o8 (hall ⟨8, .data⟩ (by simp) rfl) hL
     obtain ⟨z10, e28, za10, zb10⟩ := I.o10 (hall ⟨10, .data⟩ (by simp) rfl) hL
     obtain ⟨z12, e30, za12, zb12⟩ := I.o12 (hall ⟨12, .data⟩ (by simp) rfl) hL
     obtain ⟨z14, e32, za14, zb14⟩ := I.o14 (hall ⟨14, .data⟩ (by simp) rfl) hL
     obtain ⟨z16, e34, za16, zb16⟩ := I.o16 (hall ⟨16, .data⟩ (by simp) rfl) hL
     refine wpOp_step rfl (fun K hK => ?_)
     simp only [frDv, e0, e1, e2, e8, e9, e10, e11, e12, e3, e4, e5, e6, e60, e61, e62, e63, e64, e65, e66, e67, e68, e69, e21, e26, e28, e30, e32, e34]
     go_simp
     have UO : ∀ n, n ≠ 35 -> updB us 35 (.agg #[.string ⟨ci.toArray⟩, .int .i64 z8, .int .i64 z10, .int .i64 z12, .int .i64 z14, .int .i64 z16, .string ⟨#[]⟩]) n = us n := fun n h => updB_other h
     have U35 : updB us 35 (.agg #[.string ⟨ci.toArray⟩, .int .i64 z8, .int .i64 z10, .int .i64 z12, .int .i64 z14, .int .i64 z16, .string ⟨#[]⟩]) 35 = (.agg #[.string ⟨ci.toArray⟩, .int .i64 z8, .int .i64 z10, .int .i64 z12, .int .i64 z14, .int .i64 z16, .string ⟨#[]⟩]) := updB_same _ _ _
     have U0 := UO 0 (by decide)
     have U1 := UO 1 (by decide)
     have U2 := UO 2 (by decide)
     have U3 := UO 3 (by decide)
     have U4 := UO 4 (by decide)
     have U5 := UO 5 (by decide)
     have U6 := UO 6 (by decide)
     have U7 := UO 7 (by decide)
     have U8 := UO 8 (by decide)
     have U9 := UO 9 (by decide)
     have U10 := UO 10 (by decide)
     have U11 := UO 11 (by decide)
     have U12 := UO 12 (by decide)
     have U18 := UO 18 (by decide)
     have U19 := UO 19 (by decide)
     have U20 := UO 20 (by decide)
     have U21 := UO 21 (by decide)
     have U22 := UO 22 (by decide)
     have U23 := UO 23 (by decide)
     have U24 := UO 24 (by decide)
     have U25 := UO 25 (by decide)
     have U26 := UO 26 (by decide)
     have U27 := UO 27 (by decide)
     have U28 := UO 28 (by decide)
     have U29 := UO 29 (by decide)
     have U30 := UO 30 (by decide)
     have U31 := UO 31 (by decide)
     have U32 := UO 32 (by decide)
     have U33 := UO 33 (by decide)
     have U34 := UO 34 (by decide)
     have U60 := UO 60 (by decide)
     have U61 := UO 61 (by decide)
     have U62 := UO 62 (by decide)
     have U63 := UO 63 (by decide)
     have U64 := UO 64 (by decide)
     have U65 := UO 65 (by decide)
     have U66 := UO 66 (by decide)
     have U67 := UO 67 (by decide)
     have U68 := UO 68 (by decide)
     have U69 := UO 69 (by decide)
     refine hK _ _ ⟨updB us 35 (.agg #[.string ⟨ci.toArray⟩, .int .i64 z8, .int .i64 z10, .int .i64 z12, .int .i64 z14, .int .i64 z16, .string ⟨#[]⟩]), by simp [frDv, updB, e0, e1, e2, e8, e9, e10, e11, e12, e3, e4, e5, e6, e60, e61, e62, e63, e64, e65, e66, e67, e68, e69, e21, e26, e28, e30, e32, e34], { u0 := (U0.trans I.u0), u1 := (U1.trans I.u1), u2 := (U2.trans I.u2), u8 := (U8.trans I.u8), u9 := (U9.trans I.u9), u10 := (U10.trans I.u10), u11 := (U11.trans I.u11), u12 := (U12.trans I.u12), u3 := (U3.trans I.u3), u4 := (U4.trans I.u4), u5 := (U5.trans I.u5), u6 := (U6.trans I.u6), u60 := (U60.trans I.u60), u61 := (U61.trans I.u61), u62 := (U62.trans I.u62), u63 := (U63.trans I.u63), u64 := (U64.trans I.u64), u65 := (U65.trans I.u65), u66 := (U66.trans I.u66), u67 := (U67.trans I.u67), u68 := (U68.trans I.u68), u69 := (U69.trans I.u69), src := hs, gr1 := I.gr1, gro := (fun _ => hgr), o0 := (fun h _ => by rw [U18]; exact I.o0 (D0.symm.trans h) hL), o1 := (fun h _ => by rw [U19]; exact I.o1 (D1.symm.trans h) hL), o2 := (fun h _ => by rw [U20]; exact I.o2 (D2.symm.trans h) hL), o3 := (fun h _ => by rw [U21]; exact I.o3 (D3.symm.trans h) hL), o4 := (fun h _ => by rw [U22]; exact I.o4 (D4.symm.trans h) hL), o5 := (fun h _ => by rw [U23]; exact I.o5 (D5.symm.trans h) hL), o6 := (fun h _ => by rw [U24]; exact I.o6 (D6.symm.trans h) hL), o7 := (fun h _ => by rw [U25]; obtain ⟨B2, y0, g1, g2, g3, g4, p0, p1⟩ := I.o7 (D7.symm.trans h) hL; exact ⟨B2, y0, g1, g2, g3, g4, p0, p1⟩), o8 := (fun h _ => by rw [U26]; exact I.o8 (D8.symm.trans h) hL), o9 := (fun h _ => by rw [U27]; exact I.o9 (D9.symm.trans h) hL), o10 := (fun h _ => by rw [U28]; exact I.o10 (D10.symm.trans h) hL), o11 := (fun h _ => by rw [U29]; exact I.o11 (D11.symm.trans h) hL), o12 := (fun h _ => by rw [U30]; exact I.o12 (D12.symm.trans h) hL), o13 := (fun h _ => by rw [U31]; exact I.o13 (D13.symm.trans h) hL), o14 := (fun h _ => by rw [U32]; exact I.o14 (D14.symm.trans h) hL), o15 := (fun h _ => by rw [U33]; exact I.o15 (D15.symm.trans h) hL), o16 := (fun h _ => by rw [U34]; exact I.o16 (D16.symm.trans h) hL), o17 := (fun _ _ => ⟨⟨ci, z8, z10, z12, z14, z16, []⟩, U35, ⟨by simp only; omega, by simp, ⟨za8, zb8⟩, ⟨za10, zb10⟩, ⟨za12, zb12⟩, ⟨za14, zb14⟩, ⟨za16, by simp only; omega⟩⟩⟩), o18 := (fun h _ => by rw [U7]; obtain ⟨B2, g1, g2, g3, g4⟩ := I.o18 (D18.symm.trans h) hL; exact ⟨B2, g1, g2, g3, g4⟩), o19 := (fun h => by rw [D19, hL] at h; cases h) }⟩
    ·
     skip
     have DO : ∀ n, 18 ≠ n -> (d'.setIfInBounds 18 true).getD n false = d'.getD n false := fun n h => getD_set_ne false h
     have D18 : (d'.setIfInBounds 18 true).getD 18 false = true := setB_same hun
     have D0 := DO 0 (by decide)
     have D1 := DO 1 (by decide)
     have D2 := DO 2 (by decide)
     have D3 := DO 3 (by decide)
     have D4 := DO 4 (by decide)
     have D5 := DO 5 (by decide)
     have D6 := DO 6 (by decide)
     have D7 := DO 7 (by decide)
     have D8 := DO 8 (by decide)
     have D9 := DO 9 (by decide)
     have D10 := DO 10 (by decide)
     have D11 := DO 11 (by decide)
     have D12 := DO 12 (by decide)
     have D13 := DO 13 (by decide)
     have D14 := DO 14 (by decide)
     have D15 := DO 15 (by decide)
     have D16 := DO 16 (by decide)
     have D17 := DO 17 (by decide)
     have D19 := DO 19 (by decide)
     have H18 := undoneF hun
     have H19 := hcl.back 19 _ ⟨18, .data⟩ rfl (by simp) rfl H18
     have hL := H19
     have hgr := I.gro hL
     have kc := cell_code (keepG hgr hKB hKBg) hci
     refine wpOp_step rfl (fun K hK => ?_)
     simp only [frDv, e0, e1, e2, e8, e9, e10, e11, e12, e3, e4, e5, e6, e60, e61, e62, e63, e64, e65, e66, e67, e68, e69]
     go_simp
     have UO : ∀ n, n ≠ 7 -> updB us 7 (.pointer (some ⟨W.heap.size, 0, none⟩)) n = us n := fun n h => updB_other h
     have U7 : updB us 7 (.pointer (some ⟨W.heap.size, 0, none⟩)) 7 = (.pointer (some ⟨W.heap.size, 0, none⟩)) := updB_same _ _ _
     have U0 := UO 0 (by decide)
     have U1 := UO 1 (by decide)
     have U2 := UO 2 (by decide)
     have U3 := UO 3 (by decide)
     have U4 := UO 4 (by decide)
     have U5 := UO 5 (by decide)
     have U6 := UO 6 (by decide)
     have U8 := UO 8 (by decide)
     have U9 := UO 9 (by decide)
     have U10 := UO 10 (by decide)
     have U11 := UO 11 (by decide)
     have U12 := UO 12 (by decide)
     have U18 := UO 18 (by decide)
     have U19 := UO 19 (by decide)
     have U20 := UO 20 (by decide)
     have U21 := UO 21 (by decide)
     have U22 := UO 22 (by decide)
     have U23 := UO 23 (by decide)
     have U24 := UO 24 (by decide)
     have U25 := UO 25 (by decide)
     have U26 := UO 26 (by decide)
     have U27 := UO 27 (by decide)
     have U28 := UO 28 (by decide)
     have U29 := UO 29 (by decide)
     have U30 := UO 30 (by decide)
     have U31 := UO 31 (by decide)
     have U32 := UO 32 (by decide)
     have U33 := UO 33 (by decide)
     have U34 := UO 34 (by decide)
     have U35 := UO 35 (by decide)
     have U60 := UO 60 (by decide)
     have U61 := UO 61 (by decide)
     have U62 := UO 62 (by decide)
     have U63 := UO 63 (by decide)
     have U64 := UO 64 (by decide)
     have U65 := UO 65 (by decide)
     have U66 := UO 66 (by decide)
     have U67 := UO 67 (by decide)
     have U68 := UO 68 (by decide)
     have U69 := UO 69 (by decide)
     refine hK _ _ ⟨updB us 7 (.pointer (some ⟨W.heap.size, 0, none⟩)), by simp [frDv, updB, e0, e1, e2, e8, e9, e10, e11, e12, e3, e4, e5, e6, e60, e61, e62, e63, e64, e65, e66, e67, e68, e69], { u0 := (U0.trans I.u0), u1 := (U1.trans I.u1), u2 := (U2.trans I.u2), u8 := (U8.trans I.u8), u9 := (U9.trans I.u9), u10 := (U10.trans I.u10), u11 := (U11.trans I.u11), u12 := (U12.trans I.u12), u3 := (U3.trans I.u3), u4 := (U4.trans I.u4), u5 := (U5.trans I.u5), u6 := (U6.trans I.u6), u60 := (U60.trans I.u60), u61 := (U61.trans I.u61), u62 := (U62.trans I.u62), u63 := (U63.trans I.u63), u64 := (U64.trans I.u64), u65 := (U65.trans I.u65), u66 := (U66.trans I.u66), u67 := (U67.trans I.u67), u68 := (U68.trans I.u68), u69 := (U69.trans I.u69), src := (hs.alloc _), gr1 := (grown_alloc I.gr1 _), gro := (fun _ => grown_alloc hgr _), o0 := (fun h _ => by rw [U18]; exact I.o0 (D0.symm.trans h) hL), o1 := (fun h _ => by rw [U19]; exact I.o1 (D1.symm.trans h) hL), o2 := (fun h _ => by rw [U20]; exact I.o2 (D2.symm.trans h) hL), o3 := (fun h _ => by rw [U21]; exact I.o3 (D3.symm.trans h) hL), o4 := (fun h _ => by rw [U22]; exact I.o4 (D4.symm.trans h) hL), o5 := (fun h _ => by rw [U23]; exact I.o5 (D5.symm.trans h) hL), o6 := (fun h _ => by rw [U24]; exact I.o6 (D6.symm.trans h) hL), o7 := (fun h _ => by rw [U25]; obtain ⟨B2, y0, g1, g2, g3, g4, p0, p1⟩ := I.o7 (D7.symm.trans h) hL; exact ⟨B2, y0, g1, ((heap_alloc_old W _ (lt_some g2)).trans g2), g3, g4, p0, p1⟩), o8 := (fun h _ => by rw [U26]; exact I.o8 (D8.symm.trans h) hL), o9 := (fun h _ => by rw [U27]; exact I.o9 (D9.symm.trans h) hL), o10 := (fun h _ => by rw [U28]; exact I.o10 (D10.symm.trans h) hL), o11 := (fun h _ => by rw [U29]; exact I.o11 (D11.symm.trans h) hL), o12 := (fun h _ => by rw [U30]; exact I.o12 (D12.symm.trans h) hL), o13 := (fun h _ => by rw [U31]; exact I.o13 (D13.symm.trans h) hL), o14 := (fun h _ => by rw [U32]; exact I.o14 (D14.symm.trans h) hL), o15 := (fun h _ => by rw [U33]; exact I.o15 (D15.symm.trans h) hL), o16 := (fun h _ => by rw [U34]; exact I.o16 (D16.symm.trans h) hL), o17 := (fun h _ => by rw [U35]; exact I.o17 (D17.symm.trans h) hL), o18 := (fun _ _ => ⟨W.heap.size, U7, heap_alloc_new W _, by omega, hgr.size⟩), o19 := (fun h => by rw [D19, hL] at h; cases h) }⟩
    ·
     skip
     have DO : ∀ n, 19 ≠ n -> (d'.setIfInBounds 19 true).getD n false = d'.getD n false := fun n h => getD_set_ne false h
     have D19 : (d'.setIfInBounds 19 true).getD 19 false = true := setB_same hun
     have D0 := DO 0 (by decide)
     have D1 := DO 1 (by decide)
     have D2 := DO 2 (by decide)
     have D3 := DO 3 (by decide)
     have D4 := DO 4 (by decide)
     have D5 := DO 5 (by decide)
     have D6 := DO 6 (by decide)
     have D7 := DO 7 (by decide)
     have D8 := DO 8 (by decide)
     have D9 := DO 9 (by decide)
     have D10 := DO 10 (by decide)
     have D11 := DO 11 (by decide)
     have D12 := DO 12 (by decide)
     have D13 := DO 13 (by decide)
     have D14 := DO 14 (by decide)
     have D15 := DO 15 (by decide)
     have D16 := DO 16 (by decide)
     have D17 := DO 17 (by decide)
     have D18 := DO 18 (by decide)
     have H19 := undoneF hun
     have hL := H19
     have hgr := I.gro hL
     have kc := cell_code (keepG hgr hKB hKBg) hci
     obtain ⟨B18, e7, hB18, hBg18, hBl18⟩ := I.o18 (hall ⟨18, .data⟩ (by simp) rfl) hL
     obtain ⟨z17_0, e35, q17_0⟩ := I.o17 (hall ⟨17, .data⟩ (by simp) rfl) hL
     obtain ⟨b0, b1, b2, b3, b4, b5, b6, f0, f1, f2, f3, f4, f5, f6⟩ := cel7 hB18
     obtain ⟨W2, hW2, hR, bW⟩ := done7 hB18 (.string ⟨z17_0.c.toArray⟩) (.int .i64 z17_0.k) (.int .i64 z17_0.p) (.int .i64 z17_0.v) (.int .i64 z17_0.r) (.int .i64 z17_0.e) (.string ⟨z17_0.t.toArray⟩)
     refine wpOp_step rfl (fun K hK => ?_)
     simp only [frDv, e0, e1, e2, e8, e9, e10, e11, e12, e3, e4, e5, e6, e60, e61, e62, e63, e64, e65, e66, e67, e68, e69, e7, e35]
     go_simp
     try rw [hW2]
     refine hK _ _ ⟨us, by simp [frDv, e0, e1, e2, e8, e9, e10, e11, e12, e3, e4, e5, e6, e60, e61, e62, e63, e64, e65, e66, e67, e68, e69, e7, e35], { u0 := I.u0, u1 := I.u1, u2 := I.u2, u8 := I.u8, u9 := I.u9, u10 := I.u10, u11 := I.u11, u12 := I.u12, u3 := I.u3, u4 := I.u4, u5 := I.u5, u6 := I.u6, u60 := I.u60, u61 := I.u61, u62 := I.u62, u63 := I.u63, u64 := I.u64, u65 := I.u65, u66 := I.u66, u67 := I.u67, u68 := I.u68, u69 := I.u69, src := hs.keep (bW (g + 1) W (by omega) (Below.refl _ _)), gr1 := grown_below I.gr1 (bW w1.heap.size W (by have := hg1q.size; omega) (Below.refl _ _)), gro := (fun h => by rw [D19] at h; cases h), o0 := (fun _ h => by rw [D19] at h; cases h), o1 := (fun _ h => by rw [D19] at h; cases h), o2 := (fun _ h => by rw [D19] at h; cases h), o3 := (fun _ h => by rw [D19] at h; cases h), o4 := (fun _ h => by rw [D19] at h; cases h), o5 := (fun _ h => by rw [D19] at h; cases h), o6 := (fun _ h => by rw [D19] at h; cases h), o7 := (fun _ h => by rw [D19] at h; cases h), o8 := (fun _ h => by rw [D19] at h; cases h), o9 := (fun _ h => by rw [D19] at h; cases h), o10 := (fun _ h => by rw [D19] at h; cases h), o11 := (fun _ h => by rw [D19] at h; cases h), o12 := (fun _ h => by rw [D19] at h; cases h), o13 := (fun _ h => by rw [D19] at h; cases h), o14 := (fun _ h => by rw [D19] at h; cases h), o15 := (fun _ h => by rw [D19] at h; cases h), o16 := (fun _ h => by rw [D19] at h; cases h), o17 := (fun _ h => by rw [D19] at h; cases h), o18 := (fun _ h => by rw [D19] at h; cases h), o19 := (fun _ => ⟨B18, z17_0, e7, hR, q17_0, hBg18, hBl18, grown_below hgr (bW wq.heap.size W hBl18 (Below.refl _ _))⟩) }⟩
   ·
    intro d' a' W hd hall hI
    obtain ⟨us, rfl, I⟩ := hI
    have D : ∀ k, k < 20 -> d'.getD k false = true := fun k hk => by
     have := hall k hk
     have hk2 : k < d'.size := by rw [hd]; exact hk
     simp [hk2] at this ⊢; exact this
    have oL := I.o19 (D 19 (by decide))
    have e0 := I.u0
    have e1 := I.u1
    have e2 := I.u2
    have e8 := I.u8
    have e9 := I.u9
    have e10 := I.u10
    have e11 := I.u11
    have e12 := I.u12
    have e3 := I.u3
    have e4 := I.u4
    have e5 := I.u5
    have e6 := I.u6
    have e60 := I.u60
    have e61 := I.u61
    have e62 := I.u62
    have e63 := I.u63
    have e64 := I.u64
    have e65 := I.u65
    have e66 := I.u66
    have e67 := I.u67
    have e68 := I.u68
    have e69 := I.u69
    have hsR := I.src
    have hgR1 := I.gr1
    clear I D hall hd
    obtain ⟨C, q, e7, cW, hq, hCg, hCl, gW⟩ := oL
    have sW := hsR
    clear hgR1 hsR
    simp only [frDv, e0, e1, e2, e8, e9, e10, e11, e12, e3, e4, e5, e6, e60, e61, e62, e63, e64, e65, e66, e67, e68, e69, e7]
    obtain ⟨c0, c1, c2, c3, c4, c5, c6, cf0, cf1, cf2, cf3, cf4, cf5, cf6⟩ := cel7 cW
    go_wp2_with fail
    refine (next_any g _ base A c bs _ sW (by omega)).mono ?_
    rintro e w3 ⟨r3, rfl, a3, b3, sw3, g3⟩
    have gw3 := gW.trans g3
    have cw3 := keepG g3 cW hCg
    clear sW gW cW g3 c0 cf0 c1 cf1 c2 cf2 c3 cf3 c4 cf4 c5 cf5 c6 cf6
    by_cases h3 : r3 = 0
    ·
     subst h3
     obtain ⟨x0, x1, x2, x3, x4, x5, x6, xf0, xf1, xf2, xf3, xf4, xf5, xf6⟩ := cel7 cw3
     obtain ⟨WA, hWA⟩ : ∃ WA, w3.setCell ⟨C, 5, none⟩ (.int .i64 3) = WA := ⟨_, rfl⟩
     have cWA : WA.heap[C]? = some (.cells #[.string ⟨q.c.toArray⟩, .int .i64 q.k, .int .i64 q.p, .int .i64 q.v, .int .i64 q.r, .int .i64 3, .string ⟨q.t.toArray⟩] 47 (0, 0)) := by rw [<- hWA, heap_setCell_same _ _ _ _ _ _ cw3]; rfl
     obtain ⟨sWA, gWA⟩ := put_src (wq := wq) sw3 gw3 (show g < C by omega) hCl 5 (.int .i64 3)
     rw [hWA] at sWA gWA
     clear sw3 gw3 cw3
     go_wp2_with fail
     refine (next_any g _ base A c bs _ sWA (by omega)).mono ?_
     rintro e w4 ⟨r4, rfl, a4, b4, sw4, g4⟩
     have gw4 := gWA.trans g4
     have cw4 := keepG g4 cWA hCg
     obtain ⟨j, rfl⟩ := Int.eq_ofNat_of_zero_le a4
     have hj6 : ki + 1 + j < 6 := by omega
     obtain ⟨s, hsl2, hv⟩ := text_atC (ts := codesC6) (n := 2) (by decide) (k := ki + 1 + j) hj6
     have hsl : s.length <= 7 := by omega
     have kc4 := cell_code (keepG gw4 hKB hKBg) hv
     obtain ⟨WB, hWB⟩ : ∃ WB, w4.setCell ⟨C, 6, none⟩ (.string ⟨s.toArray⟩) = WB := ⟨_, rfl⟩
     have cWB : WB.heap[C]? = some (.cells #[.string ⟨q.c.toArray⟩, .int .i64 q.k, .int .i64 q.p, .int .i64 q.v, .int .i64 q.r, .int .i64 3, .string ⟨s.toArray⟩] 47 (0, 0)) := by rw [<- hWB, heap_setCell_same _ _ _ _ _ _ cw4]; rfl
     obtain ⟨sWB, gWB⟩ := put_src (wq := wq) sw4 gw4 (show g < C by omega) hCl 6 (.string ⟨s.toArray⟩)
     rw [hWB] at sWB gWB
     obtain ⟨v0, v1, v2, v3, v4, v5, v6, vf0, vf1, vf2, vf3, vf4, vf5, vf6⟩ := cel7 cw4
     clear sw4 gw4 cw4 hWA sWA gWA cWA g4 hv
     obtain ⟨c0, c1, c2, c3, c4, c5, c6, cf0, cf1, cf2, cf3, cf4, cf5, cf6⟩ := cel7 cWB
     go_wp2_with fail
     refine (next_any g _ base A c bs _ sWB (by omega)).mono ?_
     rintro e w6 ⟨r6, rfl, a6, b6, sw6, g6⟩
     have gw6 := gWB.trans g6
     have cw6 := keepG g6 cWB hCg
     clear sWB gWB cWB g6 c0 cf0 c1 cf1 c2 cf2 c3 cf3 c4 cf4 c5 cf5 c6 cf6
     by_cases h6 : r6 = 0
     ·
      subst h6
      obtain ⟨y0, y1, y2, y3, y4, y5, y6, yf0, yf1, yf2, yf3, yf4, yf5, yf6⟩ := cel7 cw6
      obtain ⟨WR, hWR⟩ : ∃ WR, w6.setCell ⟨C, 4, none⟩ (.int .i64 0) = WR := ⟨_, rfl⟩
      have cWR : WR.heap[C]? = some (.cells #[.string ⟨q.c.toArray⟩, .int .i64 q.k, .int .i64 q.p, .int .i64 q.v, .int .i64 0, .int .i64 3, .string ⟨s.toArray⟩] 47 (0, 0)) := by rw [<- hWR, heap_setCell_same _ _ _ _ _ _ cw6]; rfl
      obtain ⟨sWR, gWR⟩ := put_src (wq := wq) sw6 gw6 (show g < C by omega) hCl 4 (.int .i64 0)
      rw [hWR] at sWR gWR
      clear sw6 gw6 cw6
      have own5 : ClsO WR w1.heap.size B ys.length d0 ys := own_srcC hown.out gWR hg1lt
      have hszW : w1.heap.size <= WR.heap.size := Nat.le_trans hg1q.size gWR.size
      have hQ : Dcv ⟨q.c, q.k, q.p, q.v, 0, 3, s⟩ := ⟨hq.1, hsl, hq.2.2.1, hq.2.2.2.1, hq.2.2.2.2.1, ⟨by (try simp only); omega, by (try simp only); omega⟩, ⟨by (try simp only); omega, by (try simp only); omega⟩⟩
      have sE := Lib.hid sWR; have gE := Lib.hid gWR
      obtain ⟨c0, c1, c2, c3, c4, c5, c6, cf0, cf1, cf2, cf3, cf4, cf5, cf6⟩ := cel7 cWR
      clear sWR gWR cWR
      go_wp2_with (at_builtin; refine wpList_push _ rfl (.tmp 56) (.tmp 58) 24 rfl w1.heap.size 47 i0 _ 7 72 Tryz.underlying24 hi hz0 hz1 hz2 rfl (by decide) (.slice B ys.length d0) ys.length _ rfl own5 [.string ⟨q.c.toArray⟩, .int .i64 q.k, .int .i64 q.p, .int .i64 q.v, .int .i64 0, .int .i64 3, .string ⟨s.toArray⟩] rfl (by simp [Value.oneCell']) rfl (by unfold maxLen; omega) (by omega) hszW ?_; intro v' w' hown' hb')
      obtain ⟨B', d', rfl⟩ := own_form hown'
      go_roundw
      case rel => exact ⟨ki + 1, B', d', ys ++ [⟨q.c, q.k, q.p, q.v, 0, 3, s⟩], by simp, by go_num, by omega, by simp; omega, Lib.hid (snoc_dcv hok.out hQ), Lib.hid (by simpa [ClsO, Cls.cells] using hown'), sE.out.keep (hb'.mono (by omega)), grown_below (hg1q.trans gE.out) hb'⟩
      case measure => simp [intOf]; omega
     ·
      have n6 : (r6 == 0) = false := beq_eq_false_iff_ne.2 h6
      have own5 : ClsO w6 w1.heap.size B ys.length d0 ys := own_srcC hown.out gw6 hg1lt
      have hszW : w1.heap.size <= w6.heap.size := Nat.le_trans hg1q.size gw6.size
      have hQ : Dcv ⟨q.c, q.k, q.p, q.v, q.r, 3, s⟩ := ⟨hq.1, hsl, hq.2.2.1, hq.2.2.2.1, hq.2.2.2.2.1, hq.2.2.2.2.2.1, ⟨by (try simp only); omega, by (try simp only); omega⟩⟩
      have sE := Lib.hid sw6; have gE := Lib.hid gw6
      obtain ⟨c0, c1, c2, c3, c4, c5, c6, cf0, cf1, cf2, cf3, cf4, cf5, cf6⟩ := cel7 cw6
      clear sw6 gw6 cw6
      go_wp2_with (at_builtin; refine wpList_push _ rfl (.tmp 56) (.tmp 58) 24 rfl w1.heap.size 47 i0 _ 7 72 Tryz.underlying24 hi hz0 hz1 hz2 rfl (by decide) (.slice B ys.length d0) ys.length _ rfl own5 [.string ⟨q.c.toArray⟩, .int .i64 q.k, .int .i64 q.p, .int .i64 q.v, .int .i64 q.r, .int .i64 3, .string ⟨s.toArray⟩] rfl (by simp [Value.oneCell']) rfl (by unfold maxLen; omega) (by omega) hszW ?_; intro v' w' hown' hb')
      obtain ⟨B', d', rfl⟩ := own_form hown'
      go_roundw
      case rel => exact ⟨ki + 1, B', d', ys ++ [⟨q.c, q.k, q.p, q.v, q.r, 3, s⟩], by simp, by go_num, by omega, by simp; omega, Lib.hid (snoc_dcv hok.out hQ), Lib.hid (by simpa [ClsO, Cls.cells] using hown'), sE.out.keep (hb'.mono (by omega)), grown_below (hg1q.trans gE.out) hb'⟩
      case measure => simp [intOf]; omega
    ·
     have n3 : (r3 == 0) = false := beq_eq_false_iff_ne.2 h3
     obtain ⟨c0, c1, c2, c3, c4, c5, c6, cf0, cf1, cf2, cf3, cf4, cf5, cf6⟩ := cel7 cw3
     go_wp2_with fail
     refine (next_any g _ base A c bs _ sw3 (by omega)).mono ?_
     rintro e w6 ⟨r6, rfl, a6, b6, sw6, g6⟩
     have gw6 := gw3.trans g6
     have cw6 := keepG g6 cw3 hCg
     clear sw3 gw3 cw3 g6 c0 cf0 c1 cf1 c2 cf2 c3 cf3 c4 cf4 c5 cf5 c6 cf6
     by_cases h6 : r6 = 0
     ·
      subst h6
      obtain ⟨y0, y1, y2, y3, y4, y5, y6, yf0, yf1, yf2, yf3, yf4, yf5, yf6⟩ := cel7 cw6
      obtain ⟨WR, hWR⟩ : ∃ WR, w6.setCell ⟨C, 4, none⟩ (.int .i64 0) = WR := ⟨_, rfl⟩
      have cWR : WR.heap[C]? = some (.cells #[.string ⟨q.c.toArray⟩, .int .i64 q.k, .int .i64 q.p, .int .i64 q.v, .int .i64 0, .int .i64 q.e, .string ⟨q.t.toArray⟩] 47 (0, 0)) := by rw [<- hWR, heap_setCell_same _ _ _ _ _ _ cw6]; rfl
      obtain ⟨sWR, gWR⟩ := put_src (wq := wq) sw6 gw6 (show g < C by omega) hCl 4 (.int .i64 0)
      rw [hWR] at sWR gWR
      clear sw6 gw6 cw6
      have own5 : ClsO WR w1.heap.size B ys.length d0 ys := own_srcC hown.out gWR hg1lt
      have hszW : w1.heap.size <= WR.heap.size := Nat.le_trans hg1q.size gWR.size
      have hQ : Dcv ⟨q.c, q.k, q.p, q.v, 0, q.e, q.t⟩ := ⟨hq.1, hq.2.1, hq.2.2.1, hq.2.2.2.1, hq.2.2.2.2.1, ⟨by (try simp only); omega, by (try simp only); omega⟩, hq.2.2.2.2.2.2⟩
      have sE := Lib.hid sWR; have gE := Lib.hid gWR
      obtain ⟨c0, c1, c2, c3, c4, c5, c6, cf0, cf1, cf2, cf3, cf4, cf5, cf6⟩ := cel7 cWR
      clear sWR gWR cWR
      go_wp2_with (at_builtin; refine wpList_push _ rfl (.tmp 56) (.tmp 58) 24 rfl w1.heap.size 47 i0 _ 7 72 Tryz.underlying24 hi hz0 hz1 hz2 rfl (by decide) (.slice B ys.length d0) ys.length _ rfl own5 [.string ⟨q.c.toArray⟩, .int .i64 q.k, .int .i64 q.p, .int .i64 q.v, .int .i64 0, .int .i64 q.e, .string ⟨q.t.toArray⟩] rfl (by simp [Value.oneCell']) rfl (by unfold maxLen; omega) (by omega) hszW ?_; intro v' w' hown' hb')
      obtain ⟨B', d', rfl⟩ := own_form hown'
      go_roundw
      case rel => exact ⟨ki + 1, B', d', ys ++ [⟨q.c, q.k, q.p, q.v, 0, q.e, q.t⟩], by simp, by go_num, by omega, by simp; omega, Lib.hid (snoc_dcv hok.out hQ), Lib.hid (by simpa [ClsO, Cls.cells] using hown'), sE.out.keep (hb'.mono (by omega)), grown_below (hg1q.trans gE.out) hb'⟩
      case measure => simp [intOf]; omega
     ·
      have n6 : (r6 == 0) = false := beq_eq_false_iff_ne.2 h6
      have own5 : ClsO w6 w1.heap.size B ys.length d0 ys := own_srcC hown.out gw6 hg1lt
      have hszW : w1.heap.size <= w6.heap.size := Nat.le_trans hg1q.size gw6.size
      have hQ : Dcv ⟨q.c, q.k, q.p, q.v, q.r, q.e, q.t⟩ := ⟨hq.1, hq.2.1, hq.2.2.1, hq.2.2.2.1, hq.2.2.2.2.1, hq.2.2.2.2.2.1, hq.2.2.2.2.2.2⟩
      have sE := Lib.hid sw6; have gE := Lib.hid gw6
      obtain ⟨c0, c1, c2, c3, c4, c5, c6, cf0, cf1, cf2, cf3, cf4, cf5, cf6⟩ := cel7 cw6
      clear sw6 gw6 cw6
      go_wp2_with (at_builtin; refine wpList_push _ rfl (.tmp 56) (.tmp 58) 24 rfl w1.heap.size 47 i0 _ 7 72 Tryz.underlying24 hi hz0 hz1 hz2 rfl (by decide) (.slice B ys.length d0) ys.length _ rfl own5 [.string ⟨q.c.toArray⟩, .int .i64 q.k, .int .i64 q.p, .int .i64 q.v, .int .i64 q.r, .int .i64 q.e, .string ⟨q.t.toArray⟩] rfl (by simp [Value.oneCell']) rfl (by unfold maxLen; omega) (by omega) hszW ?_; intro v' w' hown' hb')
      obtain ⟨B', d', rfl⟩ := own_form hown'
      go_roundw
      case rel => exact ⟨ki + 1, B', d', ys ++ [⟨q.c, q.k, q.p, q.v, q.r, q.e, q.t⟩], by simp, by go_num, by omega, by simp; omega, Lib.hid (snoc_dcv hok.out hQ), Lib.hid (by simpa [ClsO, Cls.cells] using hown'), sE.out.keep (hb'.mono (by omega)), grown_below (hg1q.trans gE.out) hb'⟩
      case measure => simp [intOf]; omega
  ·
   obtain rfl : ki = km + 1 := by omega
   have zlt : decide ((((km + 1 : Nat) : Int)) < 1 + (km : Int)) = false := decide_eq_false (by omega)
   have hkm6 : 1 + km < 6 := by omega
   obtain ⟨ci, hcl2, hci⟩ := text_atC (ts := codesC6) (n := 2) (by decide) (k := 1 + km) hkm6
   have hcil : ci.length <= 7 := by omega
   go_wp2_with fail
   refine region_inv2 (by kernel_rfl) (by kernel_rfl) (fun d' a' W => ∃ us, a' = frDw us /\ InvDw base g A c bs KB km w1.heap.size ci (.slice B ys.length d0) ys w1 wq d' us W) ?_ ?_ ?_
   ·
    refine ⟨_, frDw_of, ?_⟩
    have Z : ∀ k, (Array.replicate 11 false).getD k false = false := fun k => by
     rcases Nat.lt_or_ge k 11 with h | h
     ·
      simp [h]
     ·
      simp [Array.getElem?_eq_none, h]
    have Zn : ∀ {k : Nat} {p : Prop}, (Array.replicate 11 false).getD k false = true -> p := fun {k p} h => by rw [Z k] at h; cases h
    exact { u0 := rfl, u3 := rfl, u4 := rfl, u5 := rfl, src := hsq, gr1 := ⟨hg1q.os, hg1q.tape, hg1q.output, hg1q.size, hg1q.block⟩, gro := fun _ => ⟨rfl, rfl, rfl, Nat.le_refl _, fun _ _ _ => rfl⟩, o0 := fun h _ => Zn h, o1 := fun h _ => Zn h, o2 := fun h _ => Zn h, o3 := fun h _ => Zn h, o4 := fun h _ => Zn h, o5 := fun h _ => Zn h, o6 := fun h _ => Zn h, o7 := fun h _ => Zn h, o8 := fun h _ => Zn h, o9 := Zn, o10 := Zn }
   ·
    intro i d' a' W hi hcl hI
    obtain ⟨hun, oi, hoi, hall⟩ := mem_ready.1 hi
    have hlt : i < 11 := (Array.getElem?_eq_some_iff.1 hoi).1
    obtain ⟨us, rfl, I⟩ := hI
    have hs := I.src
    have hgW := hs.lt
    have e0 := I.u0
    have e3 := I.u3
    have e4 := I.u4
    have e5 := I.u5
    rcases (by omega : i = 0 ∨ i = 1 ∨ i = 2 ∨ i = 3 ∨ i = 4 ∨ i = 5 ∨ i = 6 ∨ i = 7 ∨ i = 8 ∨ i = 9 ∨ i = 10) with rfl | rfl | rfl | rfl | rfl | rfl | rfl | rfl | rfl | rfl | rfl
    all_goals
     obtain rfl := Option.some.inj hoi
     clear hoi hlt hi
    ·
     skip
     have DO : ∀ n, 0 ≠ n -> (d'.setIfInBounds 0 true).getD n false = d'.getD n false := fun n h => getD_set_ne false h
     have D0 : (d'.setIfInBounds 0 true).getD 0 false = true := setB_same hun
     have D1 := DO 1 (by decide)
     have D2 := DO 2 (by decide)
     have D3 := DO 3 (by decide)
     have D4 := DO 4 (by decide)
     have D5 := DO 5 (by decide)
     have D6 := DO 6 (by decide)
     have D7 := DO 7 (by decide)
     have D8 := DO 8 (by decide)
     have D9 := DO 9 (by decide)
     have D10 := DO 10 (by decide)
     have H0 := undoneF hun
     have H9 := hcl.back 9 _ ⟨0, .data⟩ rfl (by simp) rfl H0
     have hL := H9
     have hgr := I.gro hL
     have kc := cell_code (keepG hgr hKB hKBg) hci
     refine wpOp_step rfl (fun K hK => ?_)
     simp only [frDw, e0, e3, e4, e5]
     go_simp
     have UO : ∀ n, n ≠ 60 -> updB us 60 (.slice B ys.length d0) n = us n := fun n h => updB_other h
     have U60 : updB us 60 (.slice B ys.length d0) 60 = (.slice B ys.length d0) := updB_same _ _ _
     have U0 := UO 0 (by decide)
     have U2 := UO 2 (by decide)
     have U3 := UO 3 (by decide)
     have U4 := UO 4 (by decide)
     have U5 := UO 5 (by decide)
     have U61 := UO 61 (by decide)
     have U62 := UO 62 (by decide)
     have U63 := UO 63 (by decide)
     have U64 := UO 64 (by decide)
     have U65 := UO 65 (by decide)
     have U66 := UO 66 (by decide)
     have U67 := UO 67 (by decide)
     have U68 := UO 68 (by decide)
     have U69 := UO 69 (by decide)
     refine hK _ _ ⟨updB us 60 (.slice B ys.length d0), by simp [frDw, updB, e0, e3, e4, e5], { u0 := (U0.trans I.u0), u3 := (U3.trans I.u3), u4 := (U4.trans I.u4), u5 := (U5.trans I.u5), src := hs, gr1 := I.gr1, gro := (fun _ => hgr), o0 := (fun _ _ => U60), o1 := (fun h _ => by rw [U61]; exact I.o1 (D1.symm.trans h) hL), o2 := (fun h _ => by rw [U62]; exact I.o2 (D2.symm.trans h) hL), o3 := (fun h _ => by rw [U63]; exact I.o3 (D3.symm.trans h) hL), o4 := (fun h _ => by rw [U64]; exact I.o4 (D4.symm.trans h) hL), o5 := (fun h _ => by rw [U65]; exact I.o5 (D5.symm.trans h) hL), o6 := (fun h _ => by rw [U66]; exact I.o6 (D6.symm.trans h) hL), o7 := (fun h _ => by rw [U67]; exact I.o7 (D7.symm.trans h) hL), o8 := (fun h _ => by rw [U68]; obtain ⟨B2, y0, g1, g2, g3, g4, p0⟩ := I.o8 (D8.symm.trans h) hL; exact ⟨B2, y0, g1, g2, g3, g4, p0⟩), o9 := (fun h => by rw [D9, hL] at h; cases h), o10 := (fun h => by have h2 := hcl 10 _ rfl (D10.symm.trans h) ⟨9, .data⟩ (by simp) rfl; rw [hL] at h2; cases h2) }⟩
    ·
     skip
     have DO : ∀ n, 1 ≠ n -> (d'.setIfInBounds 1 true).getD n false = d'.getD n false := fun n h => getD_set_ne false h
     have D1 : (d'.setIfInBounds 1 true).getD 1 false = true := setB_same hun
     have D0 := DO 0 (by decide)
     have D2 := DO 2 (by decide)
     have D3 := DO 3 (by decide)
     have D4 := DO 4 (by decide)
     have D5 := DO 5 (by decide)
     have D6 := DO 6 (by decide)
     have D7 := DO 7 (by decide)
     have D8 := DO 8 (by decide)
     have D9 := DO 9 (by decide)
     have D10 := DO 10 (by decide)
     have H1 := undoneF hun
     have H3 := hcl.back 3 _ ⟨1, .data⟩ rfl (by simp) rfl H1
     have H4 := hcl.back 4 _ ⟨3, .data⟩ rfl (by simp) rfl H3
     have H7 := hcl.back 7 _ ⟨4, .data⟩ rfl (by simp) rfl H4
     have H8 := hcl.back 8 _ ⟨7, .data⟩ rfl (by simp) rfl H7
     have H9 := hcl.back 9 _ ⟨8, .data⟩ rfl (by simp) rfl H8
     have hL := H9
     have hgr := I.gro hL
     have kc := cell_code (keepG hgr hKB hKBg) hci
     refine wpOp_step rfl (fun K hK => ?_)
     simp only [frDw, e0, e3, e4, e5]
     go_simp
     have UO : ∀ n, n ≠ 61 -> updB us 61 (.slice (some ⟨KB, 0, none⟩) 6 6) n = us n := fun n h => updB_other h
     have U61 : updB us 61 (.slice (some ⟨KB, 0, none⟩) 6 6) 61 = (.slice (some ⟨KB, 0, none⟩) 6 6) := updB_same _ _ _
     have U0 := UO 0 (by decide)
     have U2 := UO 2 (by decide)
     have U3 := UO 3 (by decide)
     have U4 := UO 4 (by decide)
     have U5 := UO 5 (by decide)
     have U60 := UO 60 (by decide)
     have U62 := UO 62 (by decide)
     have U63 := UO 63 (by decide)
     have U64 := UO 64 (by decide)
     have U65 := UO 65 (by decide)
     have U66 := UO 66 (by decide)
     have U67 := UO 67 (by decide)
     have U68 := UO 68 (by decide)
     have U69 := UO 69 (by decide)
     refine hK _ _ ⟨updB us 61 (.slice (some ⟨KB, 0, none⟩) 6 6), by simp [frDw, updB, e0, e3, e4, e5], { u0 := (U0.trans I.u0), u3 := (U3.trans I.u3), u4 := (U4.trans I.u4), u5 := (U5.trans I.u5), src := hs, gr1 := I.gr1, gro := (fun _ => hgr), o0 := (fun h _ => by rw [U60]; exact I.o0 (D0.symm.trans h) hL), o1 := (fun _ _ => U61), o2 := (fun h _ => by rw [U62]; exact I.o2 (D2.symm.trans h) hL), o3 := (fun h _ => by rw [U63]; exact I.o3 (D3.symm.trans h) hL), o4 := (fun h _ => by rw [U64]; exact I.o4 (D4.symm.trans h) hL), o5 := (fun h _ => by rw [U65]; exact I.o5 (D5.symm.trans h) hL), o6 := (fun h _ => by rw [U66]; exact I.o6 (D6.symm.trans h) hL), o7 := (fun h _ => by rw [U67]; exact I.o7 (D7.symm.trans h) hL), o8 := (fun h _ => by rw [U68]; obtain ⟨B2, y0, g1, g2, g3, g4, p0⟩ := I.o8 (D8.symm.trans h) hL; exact ⟨B2, y0, g1, g2, g3, g4, p0⟩), o9 := (fun h => by rw [D9, hL] at h; cases h), o10 := (fun h => by have h2 := hcl 10 _ rfl (D10.symm.trans h) ⟨9, .data⟩ (by simp) rfl; rw [hL] at h2; cases h2) }⟩
    ·
     skip
     have DO : ∀ n, 2 ≠ n -> (d'.setIfInBounds 2 true).getD n false = d'.getD n false := fun n h => getD_set_ne false h
     have D2 : (d'.setIfInBounds 2 true).getD 2 false = true := setB_same hun
     have D0 := DO 0 (by decide)
     have D1 := DO 1 (by decide)
     have D3 := DO 3 (by decide)
     have D4 := DO 4 (by decide)
     have D5 := DO 5 (by decide)
     have D6 := DO 6 (by decide)
     have D7 := DO 7 (by decide)
     have D8 := DO 8 (by decide)
     have D9 := DO 9 (by decide)
     have D10 := DO 10 (by decide)
     have H2 := undoneF hun
     have H3 := hcl.back 3 _ ⟨2, .data⟩ rfl (by simp) rfl H2
     have H4 := hcl.back 4 _ ⟨3, .data⟩ rfl (by simp) rfl H3
     have H7 := hcl.back 7 _ ⟨4, .data⟩ rfl (by simp) rfl H4
     have H8 := hcl.back 8 _ ⟨7, .data⟩ rfl (by simp) rfl H7
     have H9 := hcl.back 9 _ ⟨8, .data⟩ rfl (by simp) rfl H8
     have hL := H9
     have hgr := I.gro hL
     have kc := cell_code (keepG hgr hKB hKBg) hci
     refine wpOp_step rfl (fun K hK => ?_)
     simp only [frDw, e0, e3, e4, e5]
     go_simp
     have UO : ∀ n, n ≠ 62 -> updB us 62 (.int .i64 (1 + (km : Int))) n = us n := fun n h => updB_other h
     have U62 : updB us 62 (.int .i64 (1 + (km : Int))) 62 = (.int .i64 (1 + (km : Int))) := updB_same _ _ _
     have U0 := UO 0 (by decide)
     have U2 := UO 2 (by decide)
     have U3 := UO 3 (by decide)
     have U4 := UO 4 (by decide)
     have U5 := UO 5 (by decide)
     have U60 := UO 60 (by decide)
     have U61 := UO 61 (by decide)
     have U63 := UO 63 (by decide)
     have U64 := UO 64 (by decide)
     have U65 := UO 65 (by decide)
     have U66 := UO 66 (by decide)
     have U67 := UO 67 (by decide)
     have U68 := UO 68 (by decide)
     have U69 := UO 69 (by decide)
     refine hK _ _ ⟨updB us 62 (.int .i64 (1 + (km : Int))), by simp [frDw, updB, e0, e3, e4, e5], { u0 := (U0.trans I.u0), u3 := (U3.trans I.u3), u4 := (U4.trans I.u4), u5 := (U5.trans I.u5), src := hs, gr1 := I.gr1, gro := (fun _ => hgr), o0 := (fun h _ => by rw [U60]; exact I.o0 (D0.symm.trans h) hL), o1 := (fun h _ => by rw [U61]; exact I.o1 (D1.symm.trans h) hL), o2 := (fun _ _ => U62), o3 := (fun h _ => by rw [U63]; exact I.o3 (D3.symm.trans h) hL), o4 := (fun h _ => by rw [U64]; exact I.o4 (D4.symm.trans h) hL), o5 := (fun h _ => by rw [U65]; exact I.o5 (D5.symm.trans h) hL), o6 := (fun h _ => by rw [U66]; exact I.o6 (D6.symm.trans h) hL), o7 := (fun h _ => by rw [U67]; exact I.o7 (D7.symm.trans h) hL), o8 := (fun h _ => by rw [U68]; obtain ⟨B2, y0, g1, g2, g3, g4, p0⟩ := I.o8 (D8.symm.trans h) hL; exact ⟨B2, y0, g1, g2, g3, g4, p0⟩), o9 := (fun h => by rw [D9, hL] at h; cases h), o10 := (fun h => by have h2 := hcl 10 _ rfl (D10.symm.trans h) ⟨9, .data⟩ (by simp) rfl; rw [hL] at h2; cases h2) }⟩
    ·
     skip
     have DO : ∀ n, 3 ≠ n -> (d'.setIfInBounds 3 true).getD n false = d'.getD n false := fun n h => getD_set_ne false h
     have D3 : (d'.setIfInBounds 3 true).getD 3 false = true := setB_same hun
     have D0 := DO 0 (by decide)
     have D1 := DO 1 (by decide)
     have D2 := DO 2 (by decide)
     have D4 := DO 4 (by decide)
     have D5 := DO 5 (by decide)
     have D6 := DO 6 (by decide)
     have D7 := DO 7 (by decide)
     have D8 := DO 8 (by decide)
     have D9 := DO 9 (by decide)
     have D10 := DO 10 (by decide)
     have H3 := undoneF hun
     have H4 := hcl.back 4 _ ⟨3, .data⟩ rfl (by simp) rfl H3
     have H7 := hcl.back 7 _ ⟨4, .data⟩ rfl (by simp) rfl H4
     have H8 := hcl.back 8 _ ⟨7, .data⟩ rfl (by simp) rfl H7
     have H9 := hcl.back 9 _ ⟨8, .data⟩ rfl (by simp) rfl H8
     have hL := H9
     have hgr := I.gro hL
     have kc := cell_code (keepG hgr hKB hKBg) hci
     have e61 := I.o1 (hall ⟨1, .data⟩ (by simp) rfl) hL
     have e62 := I.o2 (hall ⟨2, .data⟩ (by simp) rfl) hL
     refine wpOp_step rfl (fun K hK => ?_)
     simp only [frDw, e0, e3, e4, e5, e61, e62]
     go_simp
     try (rw [if_pos (by omega)]; go_simp)
     have UO : ∀ n, n ≠ 63 -> updB us 63 (.pointer (some ⟨KB, 1 + km, none⟩)) n = us n := fun n h => updB_other h
     have U63 : updB us 63 (.pointer (some ⟨KB, 1 + km, none⟩)) 63 = (.pointer (some ⟨KB, 1 + km, none⟩)) := updB_same _ _ _
     have U0 := UO 0 (by decide)
     have U2 := UO 2 (by decide)
     have U3 := UO 3 (by decide)
     have U4 := UO 4 (by decide)
     have U5 := UO 5 (by decide)
     have U60 := UO 60 (by decide)
     have U61 := UO 61 (by decide)
     have U62 := UO 62 (by decide)
     have U64 := UO 64 (by decide)
     have U65 := UO 65 (by decide)
     have U66 := UO 66 (by decide)
     have U67 := UO 67 (by decide)
     have U68 := UO 68 (by decide)
     have U69 := UO 69 (by decide)
     refine hK _ _ ⟨updB us 63 (.pointer (some ⟨KB, 1 + km, none⟩)), by simp [frDw, updB, e0, e3, e4, e5, e61, e62], { u0 := (U0.trans I.u0), u3 := (U3.trans I.u3), u4 := (U4.trans I.u4), u5 := (U5.trans I.u5), src := hs, gr1 := I.gr1, gro := (fun _ => hgr), o0 := (fun h _ => by rw [U60]; exact I.o0 (D0.symm.trans h) hL), o1 := (fun h _ => by rw [U61]; exact I.o1 (D1.symm.trans h) hL), o2 := (fun h _ => by rw [U62]; exact I.o2 (D2.symm.trans h) hL), o3 := (fun _ _ => U63), o4 := (fun h _ => by rw [U64]; exact I.o4 (D4.symm.trans h) hL), o5 := (fun h _ => by rw [U65]; exact I.o5 (D5.symm.trans h) hL), o6 := (fun h _ => by rw [U66]; exact I.o6 (D6.symm.trans h) hL), o7 := (fun h _ => by rw [U67]; exact I.o7 (D7.symm.trans h) hL), o8 := (fun h _ => by rw [U68]; obtain ⟨B2, y0, g1, g2, g3, g4, p0⟩ := I.o8 (D8.symm.trans h) hL; exact ⟨B2, y0, g1, g2, g3, g4, p0⟩), o9 := (fun h => by rw [D9, hL] at h; cases h), o10 := (fun h => by have h2 := hcl 10 _ rfl (D10.symm.trans h) ⟨9, .data⟩ (by simp) rfl; rw [hL] at h2; cases h2) }⟩
    ·
     skip
     have DO : ∀ n, 4 ≠ n -> (d'.setIfInBounds 4 true).getD n false = d'.getD n false := fun n h => getD_set_ne false h
     have D4 : (d'.setIfInBounds 4 true).getD 4 false = true := setB_same hun
     have D0 := DO 0 (by decide)
     have D1 := DO 1 (by decide)
     have D2 := DO 2 (by decide)
     have D3 := DO 3 (by decide)
     have D5 := DO 5 (by decide)
     have D6 := DO 6 (by decide)
     have D7 := DO 7 (by decide)
     have D8 := DO 8 (by decide)
     have D9 := DO 9 (by decide)
     have D10 := DO 10 (by decide)
     have H4 := undoneF hun
     have H7 := hcl.back 7 _ ⟨4, .data⟩ rfl (by simp) rfl H4
     have H8 := hcl.back 8 _ ⟨7, .data⟩ rfl (by simp) rfl H7
     have H9 := hcl.back 9 _ ⟨8, .data⟩ rfl (by simp) rfl H8
     have hL := H9
     have hgr := I.gro hL
     have kc := cell_code (keepG hgr hKB hKBg) hci
     have e63 := I.o3 (hall ⟨3, .data⟩ (by simp) rfl) hL
     refine wpOp_step rfl (fun K hK => ?_)
     simp only [frDw, e0, e3, e4, e5, e63]
     go_simp
     have UO : ∀ n, n ≠ 64 -> updB us 64 (.string ⟨ci.toArray⟩) n = us n := fun n h => updB_other h
     have U64 : updB us 64 (.string ⟨ci.toArray⟩) 64 = (.string ⟨ci.toArray⟩) := updB_same _ _ _
     have U0 := UO 0 (by decide)
     have U2 := UO 2 (by decide)
     have U3 := UO 3 (by decide)
     have U4 := UO 4 (by decide)
     have U5 := UO 5 (by decide)
     have U60 := UO 60 (by decide)
     have U61 := UO 61 (by decide)
     have U62 := UO 62 (by decide)
     have U63 := UO 63 (by decide)
     have U65 := UO 65 (by decide)
     have U66 := UO 66 (by decide)
     have U67 := UO 67 (by decide)
     have U68 := UO 68 (by decide)
     have U69 := UO 69 (by decide)
     refine hK _ _ ⟨updB us 64 (.string ⟨ci.toArray⟩), by simp [frDw, updB, e0, e3, e4, e5, e63], { u0 := (U0.trans I.u0), u3 := (U3.trans I.u3), u4 := (U4.trans I.u4), u5 := (U5.trans I.u5), src := hs, gr1 := I.gr1, gro := (fun _ => hgr), o0 := (fun h _ => by rw [U60]; exact I.o0 (D0.symm.trans h) hL), o1 := (fun h _ => by rw [U61]; exact I.o1 (D1.symm.trans h) hL), o2 := (fun h _ => by rw [U62]; exact I.o2 (D2.symm.trans h) hL), o3 := (fun h _ => by rw [U63]; exact I.o3 (D3.symm.trans h) hL), o4 := (fun _ _ => U64), o5 := (fun h _ => by rw [U65]; exact I.o5 (D5.symm.trans h) hL), o6 := (fun h _ => by rw [U66]; exact I.o6 (D6.symm.trans h) hL), o7 := (fun h _ => by rw [U67]; exact I.o7 (D7.symm.trans h) hL), o8 := (fun h _ => by rw [U68]; obtain ⟨B2, y0, g1, g2, g3, g4, p0⟩ := I.o8 (D8.symm.trans h) hL; exact ⟨B2, y0, g1, g2, g3, g4, p0⟩), o9 := (fun h => by rw [D9, hL] at h; cases h), o10 := (fun h => by have h2 := hcl 10 _ rfl (D10.symm.trans h) ⟨9, .data⟩ (by simp) rfl; rw [hL] at h2; cases h2) }⟩
    ·
     skip
     have DO : ∀ n, 5 ≠ n -> (d'.setIfInBounds 5 true).getD n false = d'.getD n false := fun n h => getD_set_ne false h
     have D5 : (d'.setIfInBounds 5 true).getD 5 false = true := setB_same hun
     have D0 := DO 0 (by decide)
     have D1 := DO 1 (by decide)
     have D2 := DO 2 (by decide)
     have D3 := DO 3 (by decide)
     have D4 := DO 4 (by decide)
     have D6 := DO 6 (by decide)
     have D7 := DO 7 (by decide)
     have D8 := DO 8 (by decide)
     have D9 := DO 9 (by decide)
     have D10 := DO 10 (by decide)
     have H5 := undoneF hun
     have H6 := hcl.back 6 _ ⟨5, .data⟩ rfl (by simp) rfl H5
     have H7 := hcl.back 7 _ ⟨6, .data⟩ rfl (by simp) rfl H6
     have H8 := hcl.back 8 _ ⟨7, .data⟩ rfl (by simp) rfl H7
     have H9 := hcl.back 9 _ ⟨8, .data⟩ rfl (by simp) rfl H8
     have hL := H9
     have hgr := I.gro hL
     have kc := cell_code (keepG hgr hKB hKBg) hci
     refine wpOp_step rfl (fun K hK => ?_)
     simp only [frDw, e0, e3, e4, e5]
     go_simp
     have UO : ∀ n, n ≠ 65 -> updB us 65 (.pointer (some ⟨g, 0, none⟩)) n = us n := fun n h => updB_other h
     have U65 : updB us 65 (.pointer (some ⟨g, 0, none⟩)) 65 = (.pointer (some ⟨g, 0, none⟩)) := updB_same _ _ _
     have U0 := UO 0 (by decide)
     have U2 := UO 2 (by decide)
     have U3 := UO 3 (by decide)
     have U4 := UO 4 (by decide)
     have U5 := UO 5 (by decide)
     have U60 := UO 60 (by decide)
     have U61 := UO 61 (by decide)
     have U62 := UO 62 (by decide)
     have U63 := UO 63 (by decide)
     have U64 := UO 64 (by decide)
     have U66 := UO 66 (by decide)
     have U67 := UO 67 (by decide)
     have U68 := UO 68 (by decide)
     have U69 := UO 69 (by decide)
     refine hK _ _ ⟨updB us 65 (.pointer (some ⟨g, 0, none⟩)), by simp [frDw, updB, e0, e3, e4, e5], { u0 := (U0.trans I.u0), u3 := (U3.trans I.u3), u4 := (U4.trans I.u4), u5 := (U5.trans I.u5), src := hs, gr1 := I.gr1, gro := (fun _ => hgr), o0 := (fun h _ => by rw [U60]; exact I.o0 (D0.symm.trans h) hL), o1 := (fun h _ => by rw [U61]; exact I.o1 (D1.symm.trans h) hL), o2 := (fun h _ => by rw [U62]; exact I.o2 (D2.symm.trans h) hL), o3 := (fun h _ => by rw [U63]; exact I.o3 (D3.symm.trans h) hL), o4 := (fun h _ => by rw [U64]; exact I.o4 (D4.symm.trans h) hL), o5 := (fun _ _ => U65), o6 := (fun h _ => by rw [U66]; exact I.o6 (D6.symm.trans h) hL), o7 := (fun h _ => by rw [U67]; exact I.o7 (D7.symm.trans h) hL), o8 := (fun h _ => by rw [U68]; obtain ⟨B2, y0, g1, g2, g3, g4, p0⟩ := I.o8 (D8.symm.trans h) hL; exact ⟨B2, y0, g1, g2, g3, g4, p0⟩), o9 := (fun h => by rw [D9, hL] at h; cases h), o10 := (fun h => by have h2 := hcl 10 _ rfl (D10.symm.trans h) ⟨9, .data⟩ (by simp) rfl; rw [hL] at h2; cases h2) }⟩
    ·
     skip
     have DO : ∀ n, 6 ≠ n -> (d'.setIfInBounds 6 true).getD n false = d'.getD n false := fun n h => getD_set_ne false h
     have D6 : (d'.setIfInBounds 6 true).getD 6 false = true := setB_same hun
     have D0 := DO 0 (by decide)
     have D1 := DO 1 (by decide)
     have D2 := DO 2 (by decide)
     have D3 := DO 3 (by decide)
     have D4 := DO 4 (by decide)
     have D5 := DO 5 (by decide)
     have D7 := DO 7 (by decide)
     have D8 := DO 8 (by decide)
     have D9 := DO 9 (by decide)
     have D10 := DO 10 (by decide)
     have H6 := undoneF hun
     have H7 := hcl.back 7 _ ⟨6, .data⟩ rfl (by simp) rfl H6
     have H8 := hcl.back 8 _ ⟨7, .data⟩ rfl (by simp) rfl H7
     have H9 := hcl.back 9 _ ⟨8, .data⟩ rfl (by simp) rfl H8
     have hL := H9
     have hgr := I.gro hL
     have kc := cell_code (keepG hgr hKB hKBg) hci
     have e65 := I.o5 (hall ⟨5, .data⟩ (by simp) rfl) hL
     refine wpOp_step rfl (fun K hK => ?_)
     simp only [frDw, e0, e3, e4, e5, e65]
     go_simp
     go_wp2_with (go_at_call 55; refine (next_any g _ base A c bs _ hs (by omega)).mono ?_; rintro e w2 ⟨r, rfl, r0, r1, hs2, hg2⟩)
     have UO : ∀ n, n ≠ 66 -> updB us 66 (.int .i64 r) n = us n := fun n h => updB_other h
     have U66 : updB us 66 (.int .i64 r) 66 = (.int .i64 r) := updB_same _ _ _
     have U0 := UO 0 (by decide)
     have U2 := UO 2 (by decide)
     have U3 := UO 3 (by decide)
     have U4 := UO 4 (by decide)
     have U5 := UO 5 (by decide)
     have U60 := UO 60 (by decide)
     have U61 := UO 61 (by decide)
     have U62 := UO 62 (by decide)
     have U63 := UO 63 (by decide)
     have U64 := UO 64 (by decide)
     have U65 := UO 65 (by decide)
     have U67 := UO 67 (by decide)
     have U68 := UO 68 (by decide)
     have U69 := UO 69 (by decide)
     exact ⟨updB us 66 (.int .i64 r), by simp [frDw, updB, e0, e3, e4, e5, e65], { u0 := (U0.trans I.u0), u3 := (U3.trans I.u3), u4 := (U4.trans I.u4), u5 := (U5.trans I.u5), src := hs2, gr1 := (I.gr1.trans hg2), gro := (fun _ => hgr.trans hg2), o0 := (fun h _ => by rw [U60]; exact I.o0 (D0.symm.trans h) hL), o1 := (fun h _ => by rw [U61]; exact I.o1 (D1.symm.trans h) hL), o2 := (fun h _ => by rw [U62]; exact I.o2 (D2.symm.trans h) hL), o3 := (fun h _ => by rw [U63]; exact I.o3 (D3.symm.trans h) hL), o4 := (fun h _ => by rw [U64]; exact I.o4 (D4.symm.trans h) hL), o5 := (fun h _ => by rw [U65]; exact I.o5 (D5.symm.trans h) hL), o6 := (fun _ _ => ⟨r, U66, by omega, by omega⟩), o7 := (fun h _ => by rw [U67]; exact I.o7 (D7.symm.trans h) hL), o8 := (fun h _ => by rw [U68]; obtain ⟨B2, y0, g1, g2, g3, g4, p0⟩ := I.o8 (D8.symm.trans h) hL; exact ⟨B2, y0, g1, (keepG hg2 g2 g3), g3, g4, p0⟩), o9 := (fun h => by rw [D9, hL] at h; cases h), o10 := (fun h => by have h2 := hcl 10 _ rfl (D10.symm.trans h) ⟨9, .data⟩ (by simp) rfl; rw [hL] at h2; cases h2) }⟩
    ·
     skip
     have DO : ∀ n, 7 ≠ n -> (d'.setIfInBounds 7 true).getD n false = d'.getD n false := fun n h => getD_set_ne false h
     have D7 : (d'.setIfInBounds 7 true).getD 7 false = true := setB_same hun
     have D0 := DO 0 (by decide)
     have D1 := DO 1 (by decide)
     have D2 := DO 2 (by decide)
     have D3 := DO 3 (by decide)
     have D4 := DO 4 (by decide)
     have D5 := DO 5 (by decide)
     have D6 := DO 6 (by decide)
     have D8 := DO 8 (by decide)
     have D9 := DO 9 (by decide)
     have D10 := DO 10 (by decide)
     have H7 := undoneF hun
     have H8 := hcl.back 8 _ ⟨7, .data⟩ rfl (by simp) rfl H7
     have H9 := hcl.back 9 _ ⟨8, .data⟩ rfl (by simp) rfl H8
     have hL := H9
     have hgr := I.gro hL
     have kc := cell_code (keepG hgr hKB hKBg) hci
     have e64 := I.o4 (hall ⟨4, .data⟩ (by simp) rfl) hL
     obtain ⟨z6, e66, za6, zb6⟩ := I.o6 (hall ⟨6, .data⟩ (by simp) rfl) hL
     refine wpOp_step rfl (fun K hK => ?_)
     simp only [frDw, e0, e3, e4, e5, e64, e66]
     go_simp
     have UO : ∀ n, n ≠ 67 -> updB us 67 (.agg #[.string ⟨ci.toArray⟩, .int .i64 (-1), .int .i64 0, .int .i64 0, .int .i64 0, .int .i64 z6, .string ⟨#[]⟩]) n = us n := fun n h => updB_other h
     have U67 : updB us 67 (.agg #[.string ⟨ci.toArray⟩, .int .i64 (-1), .int .i64 0, .int .i64 0, .int .i64 0, .int .i64 z6, .string ⟨#[]⟩]) 67 = (.agg #[.string ⟨ci.toArray⟩, .int .i64 (-1), .int .i64 0, .int .i64 0, .int .i64 0, .int .i64 z6, .string ⟨#[]⟩]) := updB_same _ _ _
     have U0 := UO 0 (by decide)
     have U2 := UO 2 (by decide)
     have U3 := UO 3 (by decide)
     have U4 := UO 4 (by decide)
     have U5 := UO 5 (by decide)
     have U60 := UO 60 (by decide)
     have U61 := UO 61 (by decide)
     have U62 := UO 62 (by decide)
     have U63 := UO 63 (by decide)
     have U64 := UO 64 (by decide)
     have U65 := UO 65 (by decide)
     have U66 := UO 66 (by decide)
     have U68 := UO 68 (by decide)
     have U69 := UO 69 (by decide)
     refine hK _ _ ⟨updB us 67 (.agg #[.string ⟨ci.toArray⟩, .int .i64 (-1), .int .i64 0, .int .i64 0, .int .i64 0, .int .i64 z6, .string ⟨#[]⟩]), by simp [frDw, updB, e0, e3, e4, e5, e64, e66], { u0 := (U0.trans I.u0), u3 := (U3.trans I.u3), u4 := (U4.trans I.u4), u5 := (U5.trans I.u5), src := hs, gr1 := I.gr1, gro := (fun _ => hgr), o0 := (fun h _ => by rw [U60]; exact I.o0 (D0.symm.trans h) hL), o1 := (fun h _ => by rw [U61]; exact I.o1 (D1.symm.trans h) hL), o2 := (fun h _ => by rw [U62]; exact I.o2 (D2.symm.trans h) hL), o3 := (fun h _ => by rw [U63]; exact I.o3 (D3.symm.trans h) hL), o4 := (fun h _ => by rw [U64]; exact I.o4 (D4.symm.trans h) hL), o5 := (fun h _ => by rw [U65]; exact I.o5 (D5.symm.trans h) hL), o6 := (fun h _ => by rw [U66]; exact I.o6 (D6.symm.trans h) hL), o7 := (fun _ _ => ⟨⟨ci, -1, 0, 0, 0, z6, []⟩, U67, ⟨by simp only; omega, by simp, ⟨by (try simp only); omega, by (try simp only); omega⟩, ⟨by (try simp only); omega, by (try simp only); omega⟩, ⟨by (try simp only); omega, by (try simp only); omega⟩, ⟨by (try simp only); omega, by (try simp only); omega⟩, ⟨za6, by simp only; omega⟩⟩⟩), o8 := (fun h _ => by rw [U68]; obtain ⟨B2, y0, g1, g2, g3, g4, p0⟩ := I.o8 (D8.symm.trans h) hL; exact ⟨B2, y0, g1, g2, g3, g4, p0⟩), o9 := (fun h => by rw [D9, hL] at h; cases h), o10 := (fun h => by have h2 := hcl 10 _ rfl (D10.symm.trans h) ⟨9, .data⟩ (by simp) rfl; rw [hL] at h2; cases h2) }⟩
    ·
     skip
     have DO : ∀ n, 8 ≠ n -> (d'.setIfInBounds 8 true).getD n false = d'.getD n false := fun n h => getD_set_ne false h
     have D8 : (d'.setIfInBounds 8 true).getD 8 false = true := setB_same hun
     have D0 := DO 0 (by decide)
     have D1 := DO 1 (by decide)
     have D2 := DO 2 (by decide)
     have D3 := DO 3 (by decide)
     have D4 := DO 4 (by decide)
     have D5 := DO 5 (by decide)
     have D6 := DO 6 (by decide)
     have D7 := DO 7 (by decide)
     have D9 := DO 9 (by decide)
     have D10 := DO 10 (by decide)
     have H8 := undoneF hun
     have H9 := hcl.back 9 _ ⟨8, .data⟩ rfl (by simp) rfl H8
     have hL := H9
     have hgr := I.gro hL
     have kc := cell_code (keepG hgr hKB hKBg) hci
     obtain ⟨z7_0, e67, q7_0⟩ := I.o7 (hall ⟨7, .data⟩ (by simp) rfl) hL
     refine wpOp_step rfl (fun K hK => ?_)
     simp only [frDw, e0, e3, e4, e5, e67]
     go_simp
     have UO : ∀ n, n ≠ 68 -> updB us 68 (.slice (some ⟨W.heap.size, 0, none⟩) 1 1) n = us n := fun n h => updB_other h
     have U68 : updB us 68 (.slice (some ⟨W.heap.size, 0, none⟩) 1 1) 68 = (.slice (some ⟨W.heap.size, 0, none⟩) 1 1) := updB_same _ _ _
     have U0 := UO 0 (by decide)
     have U2 := UO 2 (by decide)
     have U3 := UO 3 (by decide)
     have U4 := UO 4 (by decide)
     have U5 := UO 5 (by decide)
     have U60 := UO 60 (by decide)
     have U61 := UO 61 (by decide)
     have U62 := UO 62 (by decide)
     have U63 := UO 63 (by decide)
     have U64 := UO 64 (by decide)
     have U65 := UO 65 (by decide)
     have U66 := UO 66 (by decide)
     have U67 := UO 67 (by decide)
     have U69 := UO 69 (by decide)
     refine hK _ _ ⟨updB us 68 (.slice (some ⟨W.heap.size, 0, none⟩) 1 1), by simp [frDw, updB, e0, e3, e4, e5, e67], { u0 := (U0.trans I.u0), u3 := (U3.trans I.u3), u4 := (U4.trans I.u4), u5 := (U5.trans I.u5), src := (hs.alloc _), gr1 := (grown_alloc I.gr1 _), gro := (fun _ => grown_alloc hgr _), o0 := (fun h _ => by rw [U60]; exact I.o0 (D0.symm.trans h) hL), o1 := (fun h _ => by rw [U61]; exact I.o1 (D1.symm.trans h) hL), o2 := (fun h _ => by rw [U62]; exact I.o2 (D2.symm.trans h) hL), o3 := (fun h _ => by rw [U63]; exact I.o3 (D3.symm.trans h) hL), o4 := (fun h _ => by rw [U64]; exact I.o4 (D4.symm.trans h) hL), o5 := (fun h _ => by rw [U65]; exact I.o5 (D5.symm.trans h) hL), o6 := (fun h _ => by rw [U66]; exact I.o6 (D6.symm.trans h) hL), o7 := (fun h _ => by rw [U67]; exact I.o7 (D7.symm.trans h) hL), o8 := (fun _ _ => ⟨W.heap.size, z7_0, U68, heap_alloc_new W _, by omega, hgr.size, q7_0⟩), o9 := (fun h => by rw [D9, hL] at h; cases h), o10 := (fun h => by have h2 := hcl 10 _ rfl (D10.symm.trans h) ⟨9, .data⟩ (by simp) rfl; rw [hL] at h2; cases h2) }⟩
    ·
     skip
     have DO : ∀ n, 9 ≠ n -> (d'.setIfInBounds 9 true).getD n false = d'.getD n false := fun n h => getD_set_ne false h
     have D9 : (d'.setIfInBounds 9 true).getD 9 false = true := setB_same hun
     have D0 := DO 0 (by decide)
     have D1 := DO 1 (by decide)
     have D2 := DO 2 (by decide)
     have D3 := DO 3 (by decide)
     have D4 := DO 4 (by decide)
     have D5 := DO 5 (by decide)
     have D6 := DO 6 (by decide)
     have D7 := DO 7 (by decide)
     have D8 := DO 8 (by decide)
     have D10 := DO 10 (by decide)
     have H9 := undoneF hun
     have hL := H9
     have hgr := I.gro hL
     have kc := cell_code (keepG hgr hKB hKBg) hci
     have e60 := I.o0 (hall ⟨0, .data⟩ (by simp) rfl) hL
     obtain ⟨B8, z8_0, e68, hB8, hBg8, hBl8, q8_0⟩ := I.o8 (hall ⟨8, .data⟩ (by simp) rfl) hL
     have own := own_srcC hown.out hgr hg1lt
     refine wpOp_append_clsD rfl rfl (.tmp 60) (.tmp 68) rfl w1.heap.size (.slice B ys.length d0) ys (by show us 60 = _; exact e60) ⟨B, d0, rfl, own⟩ (some ⟨B8, 0, none⟩) 1 [z8_0] (by show us 68 = _; exact e68) (clsR_row hB8) (.inr ⟨_, _, rfl⟩) (by simp; omega) (Nat.le_trans hg1q.size hgr.size) ?_
     intro v' W2 hrow' hbl hg3 hown3
     obtain ⟨O2, q2, rfl, ho2⟩ := hrow'
     have UO : ∀ n, n ≠ 69 -> updB us 69 (.slice O2 (ys ++ [z8_0]).length q2) n = us n := fun n h => updB_other h
     have U69 : updB us 69 (.slice O2 (ys ++ [z8_0]).length q2) 69 = (.slice O2 (ys ++ [z8_0]).length q2) := updB_same _ _ _
     have U0 := UO 0 (by decide)
     have U2 := UO 2 (by decide)
     have U3 := UO 3 (by decide)
     have U4 := UO 4 (by decide)
     have U5 := UO 5 (by decide)
     have U60 := UO 60 (by decide)
     have U61 := UO 61 (by decide)
     have U62 := UO 62 (by decide)
     have U63 := UO 63 (by decide)
     have U64 := UO 64 (by decide)
     have U65 := UO 65 (by decide)
     have U66 := UO 66 (by decide)
     have U67 := UO 67 (by decide)
     have U68 := UO 68 (by decide)
     exact ⟨updB us 69 (.slice O2 (ys ++ [z8_0]).length q2), by simp [frDw, updB, Act.put], { u0 := (U0.trans I.u0), u3 := (U3.trans I.u3), u4 := (U4.trans I.u4), u5 := (U5.trans I.u5), src := (hs.keep (hbl.mono (by omega))), gr1 := (grown_below I.gr1 hbl), gro := (fun h => by rw [D9] at h; cases h), o0 := (fun _ h => by rw [D9] at h; cases h), o1 := (fun _ h => by rw [D9] at h; cases h), o2 := (fun _ h => by rw [D9] at h; cases h), o3 := (fun _ h => by rw [D9] at h; cases h), o4 := (fun _ h => by rw [D9] at h; cases h), o5 := (fun _ h => by rw [D9] at h; cases h), o6 := (fun _ h => by rw [D9] at h; cases h), o7 := (fun _ h => by rw [D9] at h; cases h), o8 := (fun _ h => by rw [D9] at h; cases h), o9 := (fun _ => ⟨O2, q2, z8_0, U69, ho2, q8_0⟩), o10 := (fun h => by have h2 := hcl 10 _ rfl (D10.symm.trans h) ⟨9, .data⟩ (by simp) rfl; rw [hL] at h2; cases h2) }⟩
    ·
     skip
     have DO : ∀ n, 10 ≠ n -> (d'.setIfInBounds 10 true).getD n false = d'.getD n false := fun n h => getD_set_ne false h
     have D10 : (d'.setIfInBounds 10 true).getD 10 false = true := setB_same hun
     have D0 := DO 0 (by decide)
     have D1 := DO 1 (by decide)
     have D2 := DO 2 (by decide)
     have D3 := DO 3 (by decide)
     have D4 := DO 4 (by decide)
     have D5 := DO 5 (by decide)
     have D6 := DO 6 (by decide)
     have D7 := DO 7 (by decide)
     have D8 := DO 8 (by decide)
     have D9 := DO 9 (by decide)
     have UO : ∀ n, n ≠ 2 -> updB us 2 (us 69) n = us n := fun n h => updB_other h
     have U2 : updB us 2 (us 69) 2 = us 69 := updB_same _ _ _
     have U0 := UO 0 (by decide)
     have U3 := UO 3 (by decide)
     have U4 := UO 4 (by decide)
     have U5 := UO 5 (by decide)
     have U60 := UO 60 (by decide)
     have U61 := UO 61 (by decide)
     have U62 := UO 62 (by decide)
     have U63 := UO 63 (by decide)
     have U64 := UO 64 (by decide)
     have U65 := UO 65 (by decide)
     have U66 := UO 66 (by decide)
     have U67 := UO 67 (by decide)
     have U68 := UO 68 (by decide)
     have U69 := UO 69 (by decide)
     refine wpOp_step rfl (fun K hK => ?_)
     simp only [frDw, e0, e3, e4, e5]
     go_simp
     have hT := hall ⟨9, .data⟩ (by simp) rfl
     refine hK _ _ ⟨updB us 2 (us 69), by simp [frDw, updB, e0, e3, e4, e5], { u0 := (U0.trans I.u0), u3 := (U3.trans I.u3), u4 := (U4.trans I.u4), u5 := (U5.trans I.u5), src := hs, gr1 := I.gr1, gro := (fun h => by rw [D9, hT] at h; cases h), o0 := (fun _ h => by rw [D9, hT] at h; cases h), o1 := (fun _ h => by rw [D9, hT] at h; cases h), o2 := (fun _ h => by rw [D9, hT] at h; cases h), o3 := (fun _ h => by rw [D9, hT] at h; cases h), o4 := (fun _ h => by rw [D9, hT] at h; cases h), o5 := (fun _ h => by rw [D9, hT] at h; cases h), o6 := (fun _ h => by rw [D9, hT] at h; cases h), o7 := (fun _ h => by rw [D9, hT] at h; cases h), o8 := (fun _ h => by rw [D9, hT] at h; cases h), o9 := (fun h => by rw [U69]; exact I.o9 (D9.symm.trans h)), o10 := (fun _ => by rw [U2, U69]) }⟩
   ·
    intro d' a' W hd hall hI
    obtain ⟨us, rfl, I⟩ := hI
    have D : ∀ k, k < 11 -> d'.getD k false = true := fun k hk => by
     have := hall k hk
     have hk2 : k < d'.size := by rw [hd]; exact hk
     simp [hk2] at this ⊢; exact this
    have oL := I.o9 (D 9 (by decide))
    have e2 := I.o10 (D 10 (by decide))
    have e0 := I.u0
    have e3 := I.u3
    have e4 := I.u4
    have e5 := I.u5
    have hsR := I.src
    have hgR1 := I.gr1
    clear I D hall hd
    obtain ⟨O, dd, q, e69, ho, hq⟩ := oL
    rw [e69] at e2
    clear e69
    simp only [frDw, e0, e3, e4, e5, e2]
    have HF := Lib.hid (show ∀ p ∈ ys ++ [q], Dcv p from snoc_dcv hok.out hq)
    have HO := Lib.hid ho
    have HG := Lib.hid (G1.trans hgR1)
    have HSR := Lib.hid hsR
    clear ho hgR1 hsR hq hok hown
    go_wp2_with fail
    go_ret
    exact ⟨O, dd, ys ++ [q], rfl, by simp, by simp; omega, HO.out.mono hszK, HF.out, HSR.out, HG.out⟩
end Go.Proofs.YtjcklmhgjdmjoaaGreat
