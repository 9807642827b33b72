import Derived.Test.YtjcklmhgjdmjoaaGreatClb
import Derived.Test.YtjcklmhgjdmjoaaGreatRin
import Derived.Test.YtjcklmhgjdmjoaaGreatMEvl
namespace Go.Proofs.YtjcklmhgjdmjoaaGreat
open Go.ChangeShapes Go.WideShapes Go.ChangeAt Go.RowKit
set_option linter.unusedVariables false
theorem if_wanted {c : Bool} {A B : Prop} (h : c = true) (a : A) : (if c = true then A else B) := by rw [if_pos h]; exact a
def updC (us : Nat -> Value) (j : Nat) (v : Value) : Nat -> Value := fun n => if n = j then v else us n
theorem updC_same (us : Nat -> Value) (j : Nat) (v : Value) : updC us j v j = v := by unfold updC; rw [if_pos rfl]
theorem updC_other {us : Nat -> Value} {j n : Nat} {v : Value} (h : n ≠ j) : updC us j v n = us n := by unfold updC; rw [if_neg h]
theorem setB_sameC {d : Array Bool} {i : Nat} (h : d.getD i true = false) : (d.setIfInBounds i true).getD i false = true := by
 have hi : i < d.size := by
  rcases Nat.lt_or_ge i d.size with h2 | h2
  ·
   exact h2
  ·
   simp [Array.getElem?_eq_none h2] at h
 simp [hi]
theorem getB_fC {d : Array Bool} {i : Nat} (h : d.getD i true = false) : d.getD i false = false := by
 cases h2 : d.getD i false with
 | false => rfl
 | true => have := getD_ft h2; rw [h] at this; cases this
theorem funSz : (Tryz.prog.info? 145).map (·.size) = some 3 := by kernel_rfl
theorem bolSz : (Tryz.prog.info? 147).map (·.size) = some 3 := by kernel_rfl
theorem test1_i (b : Bool) (w : World) : Calls Tryz.prog 115 #[.bool b] w fun e w' => e = .returned (.bool (true)) /\ w = w' := by
 go_enter Tryz.func115, Tryz.ntmps115
 go_wp2_with fail
 go_ret
 exact ⟨rfl, rfl⟩
theorem test2_i (b : Bool) (w : World) : Calls Tryz.prog 116 #[.bool b] w fun e w' => e = .returned (.bool (b)) /\ w = w' := by
 go_enter Tryz.func116, Tryz.ntmps116
 go_wp2_with fail
 go_ret
 exact ⟨rfl, rfl⟩
theorem test3_i (b : Bool) (w : World) : Calls Tryz.prog 117 #[.bool b] w fun e w' => e = .returned (.bool (!b)) /\ w = w' := by
 go_enter Tryz.func117, Tryz.ntmps117
 go_wp2_with fail
 go_ret
 exact ⟨rfl, rfl⟩
set_option maxHeartbeats 1000000 in
theorem tests_i (w : World) : Calls Tryz.prog 110 #[] w (Gives w (.agg #[.func (.func 115) #[] #[], .func (.func 116) #[] #[], .func (.func 117) #[] #[]])) := by
 have o1 := heap_alloc_new w (.cells #[.nilFunc, .nilFunc, .nilFunc] 145)
 have B := below_alloc w (.cells #[.nilFunc, .nilFunc, .nilFunc] 145)
 have hg2 := heap_setRow_sameC (cs' := #[.func (.func 115) #[] #[], .func (.func 116) #[] #[], .func (.func 117) #[] #[]]) o1
 have hb2 := Lib.hid (below_setRowC (g := w.heap.size) (cs := #[.func (.func 115) #[] #[], .func (.func 116) #[] #[], .func (.func 117) #[] #[]]) B (Nat.le_refl _))
 clear B
 go_enter Tryz.func110, Tryz.ntmps110
 go_wp2_with (refine wpList_store_row rfl 145 (.tmp 0) (.tmp 1) rfl w.heap.size #[.func (.func 115) #[] #[], .func (.func 116) #[] #[], .func (.func 117) #[] #[]] rfl rfl 145 #[.nilFunc, .nilFunc, .nilFunc] o1 funSz rfl (by simp [Value.oneCell']) ?_)
 (try simp only [Exit.inBlock, Exit.then])
 refine bodyPost_ret (v := .agg #[.func (.func 115) #[] #[], .func (.func 116) #[] #[], .func (.func 117) #[] #[]]) ?_ ?_ ?_
 ·
  exact results_cell_row rfl _ _ w.heap.size 145 _ (0, 0) _ rfl hg2 Tryz.underlying145 rfl funSz
 ·
  rfl
 exact ⟨rfl, hb2.out⟩
set_option maxHeartbeats 1000000 in
theorem inord_i (q : Evt) (w : World) : Calls Tryz.prog 112 #[.agg #[.bool q.p, .bool q.v, .bool q.r]] w (Gives w (.agg #[.bool q.p, .bool q.v, .bool q.r])) := by
 have o1 := heap_alloc2_new w (.cells #[.bool q.p, .bool q.v, .bool q.r] 149) (.cells #[.bool false, .bool false, .bool false] 147)
 have B := belowGo (below_alloc w (.cells #[.bool q.p, .bool q.v, .bool q.r] 149)) (below_alloc _ (.cells #[.bool false, .bool false, .bool false] 147))
 have hg2 := heap_setRow_sameC (cs' := #[.bool q.p, .bool q.v, .bool q.r]) o1
 have hb2 := Lib.hid (below_setRowC (g := w.heap.size + 1) (cs := #[.bool q.p, .bool q.v, .bool q.r]) B (Nat.le_succ _))
 clear B
 go_enter Tryz.func112, Tryz.ntmps112
 go_wp2_with (refine wpList_store_row rfl 147 (.tmp 2) (.tmp 9) rfl (w.heap.size + 1) #[.bool q.p, .bool q.v, .bool q.r] rfl rfl 147 #[.bool false, .bool false, .bool false] o1 bolSz rfl (by simp [Value.oneCell']) ?_)
 (try simp only [Exit.inBlock, Exit.then])
 refine bodyPost_ret (v := .agg #[.bool q.p, .bool q.v, .bool q.r]) ?_ ?_ ?_
 ·
  exact results_cell_row rfl _ _ (w.heap.size + 1) 147 _ (0, 0) _ rfl hg2 Tryz.underlying147 rfl bolSz
 ·
  rfl
 exact ⟨rfl, hb2.out⟩
set_option maxHeartbeats 2000000 in
theorem told_iC (q : Evt) (w : World) : Calls Tryz.prog 111 #[.agg #[.int .i64 q.d, .int .i64 q.k, .string ⟨q.c.toArray⟩, .int .i64 q.a, .bool q.p, .bool q.v, .bool q.r]] w (Gives w (.agg #[.int .i64 q.d, .int .i64 q.k, .string ⟨q.c.toArray⟩, .int .i64 q.a, .bool q.p, .bool q.v, .bool q.r])) := by
 have B : ∀ o q, Hid (Below w.heap.size w ((w.alloc o).alloc q)) := fun o q => Lib.hid (((Below.refl _ _).alloc (Nat.le_refl _) _).alloc (by simp) _)
 go_enter Tryz.func111, Tryz.ntmps111
 go_wp2_with fail
 exact bodyPost_ret (v := .agg #[.int .i64 q.d, .int .i64 q.k, .string ⟨q.c.toArray⟩, .int .i64 q.a, .bool q.p, .bool q.v, .bool q.r]) (by simp [results, Tryz.results111, go_sem]) rfl ⟨rfl, (B _ _).out⟩
def trC (q : Evt) : Nat -> Bool
 | 0 => q.p
 | 1 => q.v
 | _ => q.r
def metTo (p : Cls) (q : Evt) (k : Nat) : Bool := (List.range k).all fun j => meetB (ndC p j) (trC q j)
def metB (p : Cls) (q : Evt) : Bool := meetB p.p q.p && (meetB p.v q.v && meetB p.r q.r)
theorem met_3 (p : Cls) (q : Evt) : metTo p q 3 = metB p q := by
 show (meetB p.p q.p && (meetB p.v q.v && (meetB p.r q.r && true))) = _
 rw [Bool.and_true]; rfl
theorem met_succ (p : Cls) (q : Evt) (k : Nat) : metTo p q (k + 1) = (metTo p q k && meetB (ndC p k) (trC q k)) := by simp [metTo, List.range_succ]
theorem met_no {p : Cls} {q : Evt} {k : Nat} (hk : k < 3) (h : meetB (ndC p k) (trC q k) = false) : metB p q = false := by
 rw [<- met_3]; unfold metTo; rw [List.all_eq_false]; exact ⟨k, List.mem_range.2 hk, by rw [h]; decide⟩
theorem match_no {p : Cls} {q : Evt} (h : (p.k != -1) = true) (h1 : (p.k != q.k) = true) : matchB p q = false := by
 unfold matchB; rw [bne_iff_ne] at h h1; simp [h, h1]
theorem match_yes {p : Cls} {q : Evt} (h : (p.k != -1) = false ∨ (p.k != q.k) = false) : matchB p q = metB p q := by
 unfold matchB metB
 rcases h with h | h <;> simp only [bne_eq_false_iff_eq] at h <;> simp [h]
def frMt (us : Nat -> Value) : Act := { tmps := #[us 0, us 1, us 2, us 3, us 4, us 5, us 6, us 7, us 8, us 9, us 10, us 11, us 12, us 13, us 14, us 15, us 16, us 17, us 18, us 19, us 20, us 21, us 22, us 23, us 24, us 25, us 26, us 27, us 28, us 29, us 30, us 31, us 32, us 33, us 34, us 35, us 36, us 37, us 38, us 39, us 40], defers := [] }
theorem frMt_of {x0 x1 x2 x3 x4 x5 x6 x7 x8 x9 x10 x11 x12 x13 x14 x15 x16 x17 x18 x19 x20 x21 x22 x23 x24 x25 x26 x27 x28 x29 x30 x31 x32 x33 x34 x35 x36 x37 x38 x39 x40 : Value} : ({ tmps := #[x0, x1, x2, x3, x4, x5, x6, x7, x8, x9, x10, x11, x12, x13, x14, x15, x16, x17, x18, x19, x20, x21, x22, x23, x24, x25, x26, x27, x28, x29, x30, x31, x32, x33, x34, x35, x36, x37, x38, x39, x40], defers := [] } : Act) = frMt (fun k => #[x0, x1, x2, x3, x4, x5, x6, x7, x8, x9, x10, x11, x12, x13, x14, x15, x16, x17, x18, x19, x20, x21, x22, x23, x24, x25, x26, x27, x28, x29, x30, x31, x32, x33, x34, x35, x36, x37, x38, x39, x40].getD k undef) := rfl
structure InvMt (P2 P3 : Value) (q : Evt) (w : World) (d : Array Bool) (us : Nat -> Value) (W : World) : Prop where
 u2 : us 2 = P2
 u3 : us 3 = P3
 bel : Below w.heap.size w W
 o0 : d.getD 0 false = true -> us 20 = .agg #[.func (.func 115) #[] #[], .func (.func 116) #[] #[], .func (.func 117) #[] #[]]
 o1 : d.getD 1 false = true -> us 21 = .agg #[.int .i64 q.d, .int .i64 q.k, .string ⟨q.c.toArray⟩, .int .i64 q.a, .bool q.p, .bool q.v, .bool q.r]
 o2 : d.getD 2 false = true -> us 22 = .agg #[.int .i64 q.d, .int .i64 q.k, .string ⟨q.c.toArray⟩, .int .i64 q.a, .bool q.p, .bool q.v, .bool q.r]
 o3 : d.getD 3 false = true -> us 23 = .agg #[.bool q.p, .bool q.v, .bool q.r]
 o4 : d.getD 4 false = true -> us 24 = .agg #[.bool q.p, .bool q.v, .bool q.r]
 o5 : d.getD 5 false = true -> ∃ B, us 5 = .pointer (some ⟨B, 0, none⟩) /\ w.heap.size <= B /\ W.heap[B]? = some (.cells (if d.getD 7 false = true then #[.func (.func 115) #[] #[], .func (.func 116) #[] #[], .func (.func 117) #[] #[]] else #[.nilFunc, .nilFunc, .nilFunc]) 145 (0, 0))
 o6 : d.getD 6 false = true -> ∃ B, us 6 = .pointer (some ⟨B, 0, none⟩) /\ w.heap.size <= B /\ W.heap[B]? = some (.cells (if d.getD 8 false = true then #[.bool q.p, .bool q.v, .bool q.r] else #[.bool false, .bool false, .bool false]) 147 (0, 0))
 o7 : d.getD 7 false = true -> d.getD 5 false = true
 o8 : d.getD 8 false = true -> d.getD 6 false = true
set_option maxRecDepth 100000 in
set_option maxHeartbeats 16000000 in
theorem matches_yes (p : Cls) (q : Evt) (w : World) (hn0 : p.p = 0 ∨ p.p = 1 ∨ p.p = 2) (hn1 : p.v = 0 ∨ p.v = 1 ∨ p.v = 2) (hn2 : p.r = 0 ∨ p.r = 1 ∨ p.r = 2) (hy : (p.k != -1) = false ∨ (p.k != q.k) = false) :
  Calls Tryz.prog 101 #[.agg #[.string ⟨p.c.toArray⟩, .int .i64 p.k, .int .i64 p.p, .int .i64 p.v, .int .i64 p.r, .int .i64 p.e, .string ⟨p.t.toArray⟩], .agg #[.int .i64 q.d, .int .i64 q.k, .string ⟨q.c.toArray⟩, .int .i64 q.a, .bool q.p, .bool q.v, .bool q.r]] w (Gives w (.bool (matchB p q))) := by
 have kc := (KeepC.new w p).step (below_alloc _ (.cells #[.int .i64 q.d, .int .i64 q.k, .string ⟨q.c.toArray⟩, .int .i64 q.a, .bool q.p, .bool q.v, .bool q.r] 30))
 have ke := KeepE.new (w.alloc (.cells #[.string ⟨p.c.toArray⟩, .int .i64 p.k, .int .i64 p.p, .int .i64 p.v, .int .i64 p.r, .int .i64 p.e, .string ⟨p.t.toArray⟩] 47)) q
 have HB := kc.bel
 have HO := Lib.hid (fun w => order_i p w)
 have E := Lib.hid (match_yes hy)
 obtain ⟨wq, hwq⟩ : ∃ wq, wq = (w.alloc (.cells #[.string ⟨p.c.toArray⟩, .int .i64 p.k, .int .i64 p.p, .int .i64 p.v, .int .i64 p.r, .int .i64 p.e, .string ⟨p.t.toArray⟩] 47)).alloc (.cells #[.int .i64 q.d, .int .i64 q.k, .string ⟨q.c.toArray⟩, .int .i64 q.a, .bool q.p, .bool q.v, .bool q.r] 30) := ⟨_, rfl⟩
 have hg : w.heap.size + 1 < wq.heap.size := by rw [hwq]; simp
 have hsz1 : (w.alloc (.cells #[.string ⟨p.c.toArray⟩, .int .i64 p.k, .int .i64 p.p, .int .i64 p.v, .int .i64 p.r, .int .i64 p.e, .string ⟨p.t.toArray⟩] 47)).heap.size = w.heap.size + 1 := by simp
 have n0 := ke.cells.c0; have n1 := ke.cells.c1; have n2 := ke.cells.c2; have n3 := ke.cells.c3; have n4 := ke.cells.c4; have n5 := ke.cells.c5; have n6 := ke.cells.c6
 rw [hsz1, <- hwq] at n0 n1 n2 n3 n4 n5 n6
 have v1 := kc.cells.c1
 rw [<- hwq] at kc v1 HB
 clear ke
 rcases Bool.eq_false_or_eq_true (p.k != -1) with h | h
 ·
  have h1 : (p.k != q.k) = false := by
   rcases hy with hy | hy
   ·
    rw [h] at hy; cases hy
   ·
    exact hy
  clear hy
  go_enter Tryz.func101, Tryz.ntmps101
  go_wp2_with fail
  rw [<- hwq]
  refine region_inv (by kernel_rfl) (by kernel_rfl) (fun d' a' W => ∃ us, a' = frMt us /\ InvMt (.pointer (some ⟨w.heap.size, 0, none⟩)) (.pointer (some ⟨w.heap.size + 1, 0, none⟩)) q wq d' us W) ?_ ?_ ?_
  ·
   refine ⟨_, frMt_of, ?_⟩
   have Z : ∀ k, (Array.replicate 9 false).getD k false = false := fun k => by
    rcases Nat.lt_or_ge k 9 with h | h
    ·
     simp [h]
    ·
     simp [Array.getElem?_eq_none, h]
   have Zn : ∀ {k : Nat} {p : Prop}, (Array.replicate 9 false).getD k false = true -> p := fun {k p} h => by rw [Z k] at h; cases h
   exact { u2 := rfl, u3 := rfl, bel := (Below.refl _ _).drew, o0 := Zn, o1 := Zn, o2 := Zn, o3 := Zn, o4 := Zn, o5 := Zn, o6 := Zn, o7 := Zn, o8 := Zn }
  ·
   intro i d' a' W hi hI
   obtain ⟨hun, oi, hoi, hall⟩ := mem_ready.1 hi
   have hlt : i < 9 := (Array.getElem?_eq_some_iff.1 hoi).1
   obtain ⟨us, rfl, I⟩ := hI
   have hbel := I.bel
   have hsz : wq.heap.size <= W.heap.size := hbel.size
   have e2 := I.u2
   have e3 := I.u3
   have m0 := (I.bel.cell (p := ⟨w.heap.size + 1, 0, none⟩) hg).trans n0
   have m1 := (I.bel.cell (p := ⟨w.heap.size + 1, 1, none⟩) hg).trans n1
   have m2 := (I.bel.cell (p := ⟨w.heap.size + 1, 2, none⟩) hg).trans n2
   have m3 := (I.bel.cell (p := ⟨w.heap.size + 1, 3, none⟩) hg).trans n3
   have m4 := (I.bel.cell (p := ⟨w.heap.size + 1, 4, none⟩) hg).trans n4
   have m5 := (I.bel.cell (p := ⟨w.heap.size + 1, 5, none⟩) hg).trans n5
   have m6 := (I.bel.cell (p := ⟨w.heap.size + 1, 6, none⟩) hg).trans n6
   rcases (by omega : i = 0 ∨ i = 1 ∨ i = 2 ∨ i = 3 ∨ i = 4 ∨ i = 5 ∨ i = 6 ∨ i = 7 ∨ i = 8) with rfl | rfl | rfl | rfl | rfl | rfl | rfl | rfl | rfl
   all_goals
    obtain rfl := Option.some.inj hoi
    clear hoi hlt hi
   ·
    skip
    have DO : ∀ n, 0 ≠ n -> (d'.setIfInBounds 0 true).getD n false = d'.getD n false := fun n h => getD_set_ne false h
    have D0 : (d'.setIfInBounds 0 true).getD 0 false = true := setB_sameC hun
    have D1 := DO 1 (by decide)
    have D2 := DO 2 (by decide)
    have D3 := DO 3 (by decide)
    have D4 := DO 4 (by decide)
    have D5 := DO 5 (by decide)
    have D6 := DO 6 (by decide)
    have D7 := DO 7 (by decide)
    have D8 := DO 8 (by decide)
    have UO : ∀ n, n ≠ 20 -> updC us 20 (.agg #[.func (.func 115) #[] #[], .func (.func 116) #[] #[], .func (.func 117) #[] #[]]) n = us n := fun n h => updC_other h
    have U20 : updC us 20 (.agg #[.func (.func 115) #[] #[], .func (.func 116) #[] #[], .func (.func 117) #[] #[]]) 20 = (.agg #[.func (.func 115) #[] #[], .func (.func 116) #[] #[], .func (.func 117) #[] #[]]) := updC_same _ _ _
    have U2 := UO 2 (by decide)
    have U3 := UO 3 (by decide)
    have U5 := UO 5 (by decide)
    have U6 := UO 6 (by decide)
    have U21 := UO 21 (by decide)
    have U22 := UO 22 (by decide)
    have U23 := UO 23 (by decide)
    have U24 := UO 24 (by decide)
    refine wpOp_step rfl (fun K hK => ?_)
    simp only [frMt, e2, e3]
    go_simp
    go_wp2_with (go_at_call 110; refine (tests_i W).mono ?_; rintro e w2 ⟨rfl, hb2⟩)
    exact ⟨updC us 20 (.agg #[.func (.func 115) #[] #[], .func (.func 116) #[] #[], .func (.func 117) #[] #[]]), by simp [frMt, updC, e2, e3], { u2 := (U2.trans I.u2), u3 := (U3.trans I.u3), bel := (I.bel.trans (hb2.mono hsz)), o0 := (fun _ => U20), o1 := (cO U21 I.o1 D1), o2 := (cO U22 I.o2 D2), o3 := (cO U23 I.o3 D3), o4 := (cO U24 I.o4 D4), o5 := (fun h => by rw [U5, D7]; obtain ⟨B2, g1, g2, g3⟩ := I.o5 (D5.symm.trans h); exact ⟨B2, g1, g2, (hb2.block B2 (lt_some g3)).trans g3⟩), o6 := (fun h => by rw [U6, D8]; obtain ⟨B2, g1, g2, g3⟩ := I.o6 (D6.symm.trans h); exact ⟨B2, g1, g2, (hb2.block B2 (lt_some g3)).trans g3⟩), o7 := (fun h => D5.trans (I.o7 (D7.symm.trans h))), o8 := (fun h => D6.trans (I.o8 (D8.symm.trans h))) }⟩
   ·
    skip
    have DO : ∀ n, 1 ≠ n -> (d'.setIfInBounds 1 true).getD n false = d'.getD n false := fun n h => getD_set_ne false h
    have D1 : (d'.setIfInBounds 1 true).getD 1 false = true := setB_sameC hun
    have D0 := DO 0 (by decide)
    have D2 := DO 2 (by decide)
    have D3 := DO 3 (by decide)
    have D4 := DO 4 (by decide)
    have D5 := DO 5 (by decide)
    have D6 := DO 6 (by decide)
    have D7 := DO 7 (by decide)
    have D8 := DO 8 (by decide)
    have UO : ∀ n, n ≠ 21 -> updC us 21 (.agg #[.int .i64 q.d, .int .i64 q.k, .string ⟨q.c.toArray⟩, .int .i64 q.a, .bool q.p, .bool q.v, .bool q.r]) n = us n := fun n h => updC_other h
    have U21 : updC us 21 (.agg #[.int .i64 q.d, .int .i64 q.k, .string ⟨q.c.toArray⟩, .int .i64 q.a, .bool q.p, .bool q.v, .bool q.r]) 21 = (.agg #[.int .i64 q.d, .int .i64 q.k, .string ⟨q.c.toArray⟩, .int .i64 q.a, .bool q.p, .bool q.v, .bool q.r]) := updC_same _ _ _
    have U2 := UO 2 (by decide)
    have U3 := UO 3 (by decide)
    have U5 := UO 5 (by decide)
    have U6 := UO 6 (by decide)
    have U20 := UO 20 (by decide)
    have U22 := UO 22 (by decide)
    have U23 := UO 23 (by decide)
    have U24 := UO 24 (by decide)
    refine wpOp_step rfl (fun K hK => ?_)
    simp only [frMt, e2, e3]
    go_simp
    refine hK _ _ ⟨updC us 21 (.agg #[.int .i64 q.d, .int .i64 q.k, .string ⟨q.c.toArray⟩, .int .i64 q.a, .bool q.p, .bool q.v, .bool q.r]), by simp [frMt, updC, e2, e3], { u2 := (U2.trans I.u2), u3 := (U3.trans I.u3), bel := (I.bel), o0 := (cO U20 I.o0 D0), o1 := (fun _ => U21), o2 := (cO U22 I.o2 D2), o3 := (cO U23 I.o3 D3), o4 := (cO U24 I.o4 D4), o5 := (fun h => by rw [U5, D7]; obtain ⟨B2, g1, g2, g3⟩ := I.o5 (D5.symm.trans h); exact ⟨B2, g1, g2, g3⟩), o6 := (fun h => by rw [U6, D8]; obtain ⟨B2, g1, g2, g3⟩ := I.o6 (D6.symm.trans h); exact ⟨B2, g1, g2, g3⟩), o7 := (fun h => D5.trans (I.o7 (D7.symm.trans h))), o8 := (fun h => D6.trans (I.o8 (D8.symm.trans h))) }⟩
   ·
    skip
    have DO : ∀ n, 2 ≠ n -> (d'.setIfInBounds 2 true).getD n false = d'.getD n false := fun n h => getD_set_ne false h
    have D2 : (d'.setIfInBounds 2 true).getD 2 false = true := setB_sameC hun
    have D0 := DO 0 (by decide)
    have D1 := DO 1 (by decide)
    have D3 := DO 3 (by decide)
    have D4 := DO 4 (by decide)
    have D5 := DO 5 (by decide)
    have D6 := DO 6 (by decide)
    have D7 := DO 7 (by decide)
    have D8 := DO 8 (by decide)
    have e21 := I.o1 (hall ⟨1, .data⟩ (by simp) rfl)
    have UO : ∀ n, n ≠ 22 -> updC us 22 (.agg #[.int .i64 q.d, .int .i64 q.k, .string ⟨q.c.toArray⟩, .int .i64 q.a, .bool q.p, .bool q.v, .bool q.r]) n = us n := fun n h => updC_other h
    have U22 : updC us 22 (.agg #[.int .i64 q.d, .int .i64 q.k, .string ⟨q.c.toArray⟩, .int .i64 q.a, .bool q.p, .bool q.v, .bool q.r]) 22 = (.agg #[.int .i64 q.d, .int .i64 q.k, .string ⟨q.c.toArray⟩, .int .i64 q.a, .bool q.p, .bool q.v, .bool q.r]) := updC_same _ _ _
    have U2 := UO 2 (by decide)
    have U3 := UO 3 (by decide)
    have U5 := UO 5 (by decide)
    have U6 := UO 6 (by decide)
    have U20 := UO 20 (by decide)
    have U21 := UO 21 (by decide)
    have U23 := UO 23 (by decide)
    have U24 := UO 24 (by decide)
    refine wpOp_step rfl (fun K hK => ?_)
    simp only [frMt, e2, e3, e21]
    go_simp
    go_wp2_with (go_at_call 111; refine (told_iC q W).mono ?_; rintro e w2 ⟨rfl, hb2⟩)
    exact ⟨updC us 22 (.agg #[.int .i64 q.d, .int .i64 q.k, .string ⟨q.c.toArray⟩, .int .i64 q.a, .bool q.p, .bool q.v, .bool q.r]), by simp [frMt, updC, e2, e3, e21], { u2 := (U2.trans I.u2), u3 := (U3.trans I.u3), bel := (I.bel.trans (hb2.mono hsz)), o0 := (cO U20 I.o0 D0), o1 := (cO U21 I.o1 D1), o2 := (fun _ => U22), o3 := (cO U23 I.o3 D3), o4 := (cO U24 I.o4 D4), o5 := (fun h => by rw [U5, D7]; obtain ⟨B2, g1, g2, g3⟩ := I.o5 (D5.symm.trans h); exact ⟨B2, g1, g2, (hb2.block B2 (lt_some g3)).trans g3⟩), o6 := (fun h => by rw [U6, D8]; obtain ⟨B2, g1, g2, g3⟩ := I.o6 (D6.symm.trans h); exact ⟨B2, g1, g2, (hb2.block B2 (lt_some g3)).trans g3⟩), o7 := (fun h => D5.trans (I.o7 (D7.symm.trans h))), o8 := (fun h => D6.trans (I.o8 (D8.symm.trans h))) }⟩
   ·
    skip
    have DO : ∀ n, 3 ≠ n -> (d'.setIfInBounds 3 true).getD n false = d'.getD n false := fun n h => getD_set_ne false h
    have D3 : (d'.setIfInBounds 3 true).getD 3 false = true := setB_sameC hun
    have D0 := DO 0 (by decide)
    have D1 := DO 1 (by decide)
    have D2 := DO 2 (by decide)
    have D4 := DO 4 (by decide)
    have D5 := DO 5 (by decide)
    have D6 := DO 6 (by decide)
    have D7 := DO 7 (by decide)
    have D8 := DO 8 (by decide)
    have e22 := I.o2 (hall ⟨2, .data⟩ (by simp) rfl)
    have UO : ∀ n, n ≠ 23 -> updC us 23 (.agg #[.bool q.p, .bool q.v, .bool q.r]) n = us n := fun n h => updC_other h
    have U23 : updC us 23 (.agg #[.bool q.p, .bool q.v, .bool q.r]) 23 = (.agg #[.bool q.p, .bool q.v, .bool q.r]) := updC_same _ _ _
    have U2 := UO 2 (by decide)
    have U3 := UO 3 (by decide)
    have U5 := UO 5 (by decide)
    have U6 := UO 6 (by decide)
    have U20 := UO 20 (by decide)
    have U21 := UO 21 (by decide)
    have U22 := UO 22 (by decide)
    have U24 := UO 24 (by decide)
    have f4 : ∀ w, (Instr.field 151 (.agg #[.int .i64 q.d, .int .i64 q.k, .string ⟨q.c.toArray⟩, .int .i64 q.a, .bool q.p, .bool q.v, .bool q.r]) 4).run Tryz.prog w = .ok (.agg #[.bool q.p, .bool q.v, .bool q.r]) w := fun _ => by kernel_rfl
    refine wpOp_step rfl (fun K hK => ?_)
    simp only [frMt, e2, e3, e22]
    go_simp
    refine hK _ _ ⟨updC us 23 (.agg #[.bool q.p, .bool q.v, .bool q.r]), by simp [frMt, updC, e2, e3, e22], { u2 := (U2.trans I.u2), u3 := (U3.trans I.u3), bel := (I.bel), o0 := (cO U20 I.o0 D0), o1 := (cO U21 I.o1 D1), o2 := (cO U22 I.o2 D2), o3 := (fun _ => U23), o4 := (cO U24 I.o4 D4), o5 := (fun h => by rw [U5, D7]; obtain ⟨B2, g1, g2, g3⟩ := I.o5 (D5.symm.trans h); exact ⟨B2, g1, g2, g3⟩), o6 := (fun h => by rw [U6, D8]; obtain ⟨B2, g1, g2, g3⟩ := I.o6 (D6.symm.trans h); exact ⟨B2, g1, g2, g3⟩), o7 := (fun h => D5.trans (I.o7 (D7.symm.trans h))), o8 := (fun h => D6.trans (I.o8 (D8.symm.trans h))) }⟩
   ·
    skip
    have DO : ∀ n, 4 ≠ n -> (d'.setIfInBounds 4 true).getD n false = d'.getD n false := fun n h => getD_set_ne false h
    have D4 : (d'.setIfInBounds 4 true).getD 4 false = true := setB_sameC hun
    have D0 := DO 0 (by decide)
    have D1 := DO 1 (by decide)
    have D2 := DO 2 (by decide)
    have D3 := DO 3 (by decide)
    have D5 := DO 5 (by decide)
    have D6 := DO 6 (by decide)
    have D7 := DO 7 (by decide)
    have D8 := DO 8 (by decide)
    have e23 := I.o3 (hall ⟨3, .data⟩ (by simp) rfl)
    have UO : ∀ n, n ≠ 24 -> updC us 24 (.agg #[.bool q.p, .bool q.v, .bool q.r]) n = us n := fun n h => updC_other h
    have U24 : updC us 24 (.agg #[.bool q.p, .bool q.v, .bool q.r]) 24 = (.agg #[.bool q.p, .bool q.v, .bool q.r]) := updC_same _ _ _
    have U2 := UO 2 (by decide)
    have U3 := UO 3 (by decide)
    have U5 := UO 5 (by decide)
    have U6 := UO 6 (by decide)
    have U20 := UO 20 (by decide)
    have U21 := UO 21 (by decide)
    have U22 := UO 22 (by decide)
    have U23 := UO 23 (by decide)
    refine wpOp_step rfl (fun K hK => ?_)
    simp only [frMt, e2, e3, e23]
    go_simp
    go_wp2_with (go_at_call 112; refine (inord_i q W).mono ?_; rintro e w2 ⟨rfl, hb2⟩)
    exact ⟨updC us 24 (.agg #[.bool q.p, .bool q.v, .bool q.r]), by simp [frMt, updC, e2, e3, e23], { u2 := (U2.trans I.u2), u3 := (U3.trans I.u3), bel := (I.bel.trans (hb2.mono hsz)), o0 := (cO U20 I.o0 D0), o1 := (cO U21 I.o1 D1), o2 := (cO U22 I.o2 D2), o3 := (cO U23 I.o3 D3), o4 := (fun _ => U24), o5 := (fun h => by rw [U5, D7]; obtain ⟨B2, g1, g2, g3⟩ := I.o5 (D5.symm.trans h); exact ⟨B2, g1, g2, (hb2.block B2 (lt_some g3)).trans g3⟩), o6 := (fun h => by rw [U6, D8]; obtain ⟨B2, g1, g2, g3⟩ := I.o6 (D6.symm.trans h); exact ⟨B2, g1, g2, (hb2.block B2 (lt_some g3)).trans g3⟩), o7 := (fun h => D5.trans (I.o7 (D7.symm.trans h))), o8 := (fun h => D6.trans (I.o8 (D8.symm.trans h))) }⟩
   ·
    skip
    have DO : ∀ n, 5 ≠ n -> (d'.setIfInBounds 5 true).getD n false = d'.getD n false := fun n h => getD_set_ne false h
    have D5 : (d'.setIfInBounds 5 true).getD 5 false = true := setB_sameC hun
    have D0 := DO 0 (by decide)
    have D1 := DO 1 (by decide)
    have D2 := DO 2 (by decide)
    have D3 := DO 3 (by decide)
    have D4 := DO 4 (by decide)
    have D6 := DO 6 (by decide)
    have D7 := DO 7 (by decide)
    have D8 := DO 8 (by decide)
    have UO : ∀ n, n ≠ 5 -> updC us 5 (.pointer (some ⟨W.heap.size, 0, none⟩)) n = us n := fun n h => updC_other h
    have U5 : updC us 5 (.pointer (some ⟨W.heap.size, 0, none⟩)) 5 = (.pointer (some ⟨W.heap.size, 0, none⟩)) := updC_same _ _ _
    have U2 := UO 2 (by decide)
    have U3 := UO 3 (by decide)
    have U6 := UO 6 (by decide)
    have U20 := UO 20 (by decide)
    have U21 := UO 21 (by decide)
    have U22 := UO 22 (by decide)
    have U23 := UO 23 (by decide)
    have U24 := UO 24 (by decide)
    have hf : d'.getD 7 false = false := by
     cases h : d'.getD 7 false with
     | false => rfl
     | true => have h2 := getD_ft (I.o7 h); rw [hun] at h2; cases h2
    refine wpOp_step rfl (fun K hK => ?_)
    simp only [frMt, e2, e3]
    go_simp
    refine hK _ _ ⟨updC us 5 (.pointer (some ⟨W.heap.size, 0, none⟩)), by simp [frMt, updC, e2, e3], { u2 := (U2.trans I.u2), u3 := (U3.trans I.u3), bel := (I.bel.alloc hsz _), o0 := (cO U20 I.o0 D0), o1 := (cO U21 I.o1 D1), o2 := (cO U22 I.o2 D2), o3 := (cO U23 I.o3 D3), o4 := (cO U24 I.o4 D4), o5 := (fun _ => ⟨W.heap.size, U5, hsz, by rw [D7, hf, if_neg Bool.false_ne_true]; exact heap_alloc_new W _⟩), o6 := (fun h => by rw [U6, D8]; obtain ⟨B2, g1, g2, g3⟩ := I.o6 (D6.symm.trans h); exact ⟨B2, g1, g2, (heap_alloc_old W _ (lt_some g3)).trans g3⟩), o7 := (fun h => by rw [D7, hf] at h; cases h), o8 := (fun h => D6.trans (I.o8 (D8.symm.trans h))) }⟩
   ·
    skip
    have DO : ∀ n, 6 ≠ n -> (d'.setIfInBounds 6 true).getD n false = d'.getD n false := fun n h => getD_set_ne false h
    have D6 : (d'.setIfInBounds 6 true).getD 6 false = true := setB_sameC hun
    have D0 := DO 0 (by decide)
    have D1 := DO 1 (by decide)
    have D2 := DO 2 (by decide)
    have D3 := DO 3 (by decide)
    have D4 := DO 4 (by decide)
    have D5 := DO 5 (by decide)
    have D7 := DO 7 (by decide)
    have D8 := DO 8 (by decide)
    have UO : ∀ n, n ≠ 6 -> updC us 6 (.pointer (some ⟨W.heap.size, 0, none⟩)) n = us n := fun n h => updC_other h
    have U6 : updC us 6 (.pointer (some ⟨W.heap.size, 0, none⟩)) 6 = (.pointer (some ⟨W.heap.size, 0, none⟩)) := updC_same _ _ _
    have U2 := UO 2 (by decide)
    have U3 := UO 3 (by decide)
    have U5 := UO 5 (by decide)
    have U20 := UO 20 (by decide)
    have U21 := UO 21 (by decide)
    have U22 := UO 22 (by decide)
    have U23 := UO 23 (by decide)
    have U24 := UO 24 (by decide)
    have hf : d'.getD 8 false = false := by
     cases h : d'.getD 8 false with
     | false => rfl
     | true => have h2 := getD_ft (I.o8 h); rw [hun] at h2; cases h2
    refine wpOp_step rfl (fun K hK => ?_)
    simp only [frMt, e2, e3]
    go_simp
    refine hK _ _ ⟨updC us 6 (.pointer (some ⟨W.heap.size, 0, none⟩)), by simp [frMt, updC, e2, e3], { u2 := (U2.trans I.u2), u3 := (U3.trans I.u3), bel := (I.bel.alloc hsz _), o0 := (cO U20 I.o0 D0), o1 := (cO U21 I.o1 D1), o2 := (cO U22 I.o2 D2), o3 := (cO U23 I.o3 D3), o4 := (cO U24 I.o4 D4), o5 := (fun h => by rw [U5, D7]; obtain ⟨B2, g1, g2, g3⟩ := I.o5 (D5.symm.trans h); exact ⟨B2, g1, g2, (heap_alloc_old W _ (lt_some g3)).trans g3⟩), o6 := (fun _ => ⟨W.heap.size, U6, hsz, by rw [D8, hf, if_neg Bool.false_ne_true]; exact heap_alloc_new W _⟩), o7 := (fun h => D5.trans (I.o7 (D7.symm.trans h))), o8 := (fun h => by rw [D8, hf] at h; cases h) }⟩
   ·
    skip
    have DO : ∀ n, 7 ≠ n -> (d'.setIfInBounds 7 true).getD n false = d'.getD n false := fun n h => getD_set_ne false h
    have D7 : (d'.setIfInBounds 7 true).getD 7 false = true := setB_sameC hun
    have D0 := DO 0 (by decide)
    have D1 := DO 1 (by decide)
    have D2 := DO 2 (by decide)
    have D3 := DO 3 (by decide)
    have D4 := DO 4 (by decide)
    have D5 := DO 5 (by decide)
    have D6 := DO 6 (by decide)
    have D8 := DO 8 (by decide)
    have e20 := I.o0 (hall ⟨0, .data⟩ (by simp) rfl)
    have hf := getB_fC hun
    obtain ⟨B, eB, hlo, hB⟩ := I.o5 (hall ⟨5, .data⟩ (by simp) rfl)
    rw [hf, if_neg Bool.false_ne_true] at hB
    refine wpOp_step rfl (fun K hK => ?_)
    refine if_wanted (by rfl) ?_
    refine wp_store_row 145 (.tmp 5) (.tmp 20) rfl B #[.func (.func 115) #[] #[], .func (.func 116) #[] #[], .func (.func 117) #[] #[]] (by show us 5 = _; exact eB) (by show us 20 = _; exact e20) 145 #[.nilFunc, .nilFunc, .nilFunc] hB funSz rfl (by simp [Value.oneCell']) (hK _ _ ⟨us, by simp [frMt, Act.put], ?_⟩)
    exact { u2 := I.u2, u3 := I.u3, bel := below_setRowC I.bel hlo, o0 := (fun h => I.o0 (D0.symm.trans h)), o1 := (fun h => I.o1 (D1.symm.trans h)), o2 := (fun h => I.o2 (D2.symm.trans h)), o3 := (fun h => I.o3 (D3.symm.trans h)), o4 := (fun h => I.o4 (D4.symm.trans h)), o5 := (fun h => ⟨B, eB, hlo, by rw [D7, if_pos rfl]; exact heap_setRow_sameC hB⟩), o6 := (fun h => by obtain ⟨B2, g1, g2, g3⟩ := I.o6 (D6.symm.trans h); exact ⟨B2, g1, g2, by rw [D8, heap_setRow_otherC (fun e => by rw [e, hB] at g3; split at g3 <;> simp at g3)]; exact g3⟩), o7 := (fun _ => D5.trans (hall ⟨5, .data⟩ (by simp) rfl)), o8 := (fun h => D6.trans (I.o8 (D8.symm.trans h))) }
   ·
    skip
    have DO : ∀ n, 8 ≠ n -> (d'.setIfInBounds 8 true).getD n false = d'.getD n false := fun n h => getD_set_ne false h
    have D8 : (d'.setIfInBounds 8 true).getD 8 false = true := setB_sameC hun
    have D0 := DO 0 (by decide)
    have D1 := DO 1 (by decide)
    have D2 := DO 2 (by decide)
    have D3 := DO 3 (by decide)
    have D4 := DO 4 (by decide)
    have D5 := DO 5 (by decide)
    have D6 := DO 6 (by decide)
    have D7 := DO 7 (by decide)
    have e24 := I.o4 (hall ⟨4, .data⟩ (by simp) rfl)
    have hf := getB_fC hun
    obtain ⟨B, eB, hlo, hB⟩ := I.o6 (hall ⟨6, .data⟩ (by simp) rfl)
    rw [hf, if_neg Bool.false_ne_true] at hB
    refine wpOp_step rfl (fun K hK => ?_)
    refine if_wanted (by rfl) ?_
    refine wp_store_row 147 (.tmp 6) (.tmp 24) rfl B #[.bool q.p, .bool q.v, .bool q.r] (by show us 6 = _; exact eB) (by show us 24 = _; exact e24) 147 #[.bool false, .bool false, .bool false] hB bolSz rfl (by simp [Value.oneCell']) (hK _ _ ⟨us, by simp [frMt, Act.put], ?_⟩)
    exact { u2 := I.u2, u3 := I.u3, bel := below_setRowC I.bel hlo, o0 := (fun h => I.o0 (D0.symm.trans h)), o1 := (fun h => I.o1 (D1.symm.trans h)), o2 := (fun h => I.o2 (D2.symm.trans h)), o3 := (fun h => I.o3 (D3.symm.trans h)), o4 := (fun h => I.o4 (D4.symm.trans h)), o5 := (fun h => by obtain ⟨B2, g1, g2, g3⟩ := I.o5 (D5.symm.trans h); exact ⟨B2, g1, g2, by rw [D7, heap_setRow_otherC (fun e => by rw [e, hB] at g3; split at g3 <;> simp at g3)]; exact g3⟩), o6 := (fun h => ⟨B, eB, hlo, by rw [D8, if_pos rfl]; exact heap_setRow_sameC hB⟩), o7 := (fun h => D5.trans (I.o7 (D7.symm.trans h))), o8 := (fun _ => D6.trans (hall ⟨6, .data⟩ (by simp) rfl)) }
  ·
   intro d' a' W hd hall hI
   obtain ⟨us, rfl, I⟩ := hI
   have D : ∀ k, k < 9 -> d'.getD k false = true := fun k hk => by
    have := hall k hk
    have hk2 : k < d'.size := by rw [hd]; exact hk
    simp [hk2] at this ⊢; exact this
   obtain ⟨R5, e5, hRlo5, hRow5⟩ := I.o5 (D 5 (by decide))
   rw [D 7 (by decide), if_pos rfl] at hRow5
   obtain ⟨R6, e6, hRlo6, hRow6⟩ := I.o6 (D 6 (by decide))
   rw [D 8 (by decide), if_pos rfl] at hRow6
   have e2 := I.u2
   have e3 := I.u3
   have bR := I.bel
   clear I D hall hd
   simp only [frMt, e2, e3, e5, e6]
   have hbw := Lib.hid (belowGo HB bR)
   have kc3 := kc.step bR
   have f0 : W.cell? ⟨R5, 0, none⟩ = some (.func (.func 115) #[] #[]) := by rw [cell_of_row _ _ _ _ _ _ hRow5]; rfl
   have d0 := kc3.cells.c0; have d1 := kc3.cells.c1; have d2 := kc3.cells.c2; have d3 := kc3.cells.c3; have d4 := kc3.cells.c4; have d5 := kc3.cells.c5; have d6 := kc3.cells.c6
   have HR5 := Lib.hid hRow5
   have HR6 := Lib.hid hRow6
   clear f0 hRow5 hRow6 kc3
   go_wp2_with fail
   refine (HO.out _).mono ?_
   rintro e w4 ⟨rfl, b4⟩
   have r5 := (b4.block _ (lt_some HR5.out)).trans HR5.out
   have r6 := (b4.block _ (lt_some HR6.out)).trans HR6.out
   have hbb := Lib.hid (belowGo hbw.out b4)
   have F0 : w4.cell? ⟨R5, 0, none⟩ = some (.func (.func 115) #[] #[]) := by rw [cell_of_row _ _ _ _ _ _ r5]; rfl
   have F1 : w4.cell? ⟨R5, 1, none⟩ = some (.func (.func 116) #[] #[]) := by rw [cell_of_row _ _ _ _ _ _ r5]; rfl
   have F2 : w4.cell? ⟨R5, 2, none⟩ = some (.func (.func 117) #[] #[]) := by rw [cell_of_row _ _ _ _ _ _ r5]; rfl
   have hC0 : w4.cell? ⟨R6, 0, none⟩ = some (.bool q.p) := by rw [cell_of_row _ _ _ _ _ _ r6]; rfl
   have hC1 : w4.cell? ⟨R6, 1, none⟩ = some (.bool q.v) := by rw [cell_of_row _ _ _ _ _ _ r6]; rfl
   have hC2 : w4.cell? ⟨R6, 2, none⟩ = some (.bool q.r) := by rw [cell_of_row _ _ _ _ _ _ r6]; rfl
   clear r5 r6 b4 d0 d1 d2 d3 d4 d5 d6 HR5 HR6 hbw bR kc HO
   go_wp2_with fail
   go_loop [27] (fun i => ∃ k : Nat, k <= 3 /\ i = .int .i64 k /\ Hid (metTo p q k = true)) (fun i => 3 - (intOf i).toNat)
   case atStart => exact ⟨0, Nat.zero_le _, rfl, Lib.hid rfl⟩
   case round =>
    obtain ⟨k, hk, rfl, hok⟩ := hrel
    have i0 : ∀ w, (Instr.index 115 (.agg #[.int .i64 p.p, .int .i64 p.v, .int .i64 p.r]) (.int .i64 0)).run Tryz.prog w = .ok (.int .i64 p.p) w := fun _ => by kernel_rfl
    have i1 : ∀ w, (Instr.index 115 (.agg #[.int .i64 p.p, .int .i64 p.v, .int .i64 p.r]) (.int .i64 1)).run Tryz.prog w = .ok (.int .i64 p.v) w := fun _ => by kernel_rfl
    have i2 : ∀ w, (Instr.index 115 (.agg #[.int .i64 p.p, .int .i64 p.v, .int .i64 p.r]) (.int .i64 2)).run Tryz.prog w = .ok (.int .i64 p.r) w := fun _ => by kernel_rfl
    have HN := Lib.hid (@met_no p q k)
    have HS := Lib.hid (met_succ p q k)
    have H3 := Lib.hid (met_3 p q)
    rcases (by omega : k = 0 ∨ k = 1 ∨ k = 2 ∨ k = 3) with rfl | rfl | rfl | rfl
    ·
     obtain ⟨b, hbt⟩ : ∃ b, q.p = b := ⟨_, rfl⟩
     rw [hbt] at hC0
     have ST : Hid (meetB p.p b = true -> metTo p q 1 = true) := Lib.hid fun h => by rw [HS.out, hok.out]; show (true && meetB p.p q.p) = true; rw [hbt, h]; rfl
     have SN : Hid (meetB p.p b = false -> metB p q = false) := Lib.hid fun h => HN.out (by omega) (by show meetB p.p q.p = false; rw [hbt]; exact h)
     have J0 : ∀ z, p.p = z -> ∀ w, (Instr.index 115 (.agg #[.int .i64 p.p, .int .i64 p.v, .int .i64 p.r]) (.int .i64 0)).run Tryz.prog w = .ok (.int .i64 z) w := fun z e w => by rw [<- e]; exact i0 w
     clear HN HS H3 hbt i0 i1 i2
     rcases hn0 with hz | hz | hz
     all_goals
      have j0 := J0 _ hz
      rw [hz] at ST SN
      cases b
      all_goals
       clear hz J0
       go_wp2_with (first
        | (go_at_call 115; refine (test1_i _ _).mono ?_; rintro e w' ⟨rfl, rfl⟩)
        | (go_at_call 116; refine (test2_i _ _).mono ?_; rintro e w' ⟨rfl, rfl⟩)
        | (go_at_call 117; refine (test3_i _ _).mono ?_; rintro e w' ⟨rfl, rfl⟩))
       first
        | (have EK := Lib.hid (ST.out rfl)
           go_round
           case rel => exact ⟨1, by omega, rfl, EK⟩
           case measure => simp [intOf])
        | (have EN := Lib.hid (SN.out rfl)
           go_ret
           exact ⟨by rw [E.out, EN.out] <;> rfl, hbb.out⟩)
    ·
     obtain ⟨b, hbt⟩ : ∃ b, q.v = b := ⟨_, rfl⟩
     rw [hbt] at hC1
     have ST : Hid (meetB p.v b = true -> metTo p q 2 = true) := Lib.hid fun h => by rw [HS.out, hok.out]; show (true && meetB p.v q.v) = true; rw [hbt, h]; rfl
     have SN : Hid (meetB p.v b = false -> metB p q = false) := Lib.hid fun h => HN.out (by omega) (by show meetB p.v q.v = false; rw [hbt]; exact h)
     have J1 : ∀ z, p.v = z -> ∀ w, (Instr.index 115 (.agg #[.int .i64 p.p, .int .i64 p.v, .int .i64 p.r]) (.int .i64 1)).run Tryz.prog w = .ok (.int .i64 z) w := fun z e w => by rw [<- e]; exact i1 w
     clear HN HS H3 hbt i0 i1 i2
     rcases hn1 with hz | hz | hz
     all_goals
      have j1 := J1 _ hz
      rw [hz] at ST SN
      cases b
      all_goals
       clear hz J1
       go_wp2_with (first
        | (go_at_call 115; refine (test1_i _ _).mono ?_; rintro e w' ⟨rfl, rfl⟩)
        | (go_at_call 116; refine (test2_i _ _).mono ?_; rintro e w' ⟨rfl, rfl⟩)
        | (go_at_call 117; refine (test3_i _ _).mono ?_; rintro e w' ⟨rfl, rfl⟩))
       first
        | (have EK := Lib.hid (ST.out rfl)
           go_round
           case rel => exact ⟨2, by omega, rfl, EK⟩
           case measure => simp [intOf])
        | (have EN := Lib.hid (SN.out rfl)
           go_ret
           exact ⟨by rw [E.out, EN.out] <;> rfl, hbb.out⟩)
    ·
     obtain ⟨b, hbt⟩ : ∃ b, q.r = b := ⟨_, rfl⟩
     rw [hbt] at hC2
     have ST : Hid (meetB p.r b = true -> metTo p q 3 = true) := Lib.hid fun h => by rw [HS.out, hok.out]; show (true && meetB p.r q.r) = true; rw [hbt, h]; rfl
     have SN : Hid (meetB p.r b = false -> metB p q = false) := Lib.hid fun h => HN.out (by omega) (by show meetB p.r q.r = false; rw [hbt]; exact h)
     have J2 : ∀ z, p.r = z -> ∀ w, (Instr.index 115 (.agg #[.int .i64 p.p, .int .i64 p.v, .int .i64 p.r]) (.int .i64 2)).run Tryz.prog w = .ok (.int .i64 z) w := fun z e w => by rw [<- e]; exact i2 w
     clear HN HS H3 hbt i0 i1 i2
     rcases hn2 with hz | hz | hz
     all_goals
      have j2 := J2 _ hz
      rw [hz] at ST SN
      cases b
      all_goals
       clear hz J2
       go_wp2_with (first
        | (go_at_call 115; refine (test1_i _ _).mono ?_; rintro e w' ⟨rfl, rfl⟩)
        | (go_at_call 116; refine (test2_i _ _).mono ?_; rintro e w' ⟨rfl, rfl⟩)
        | (go_at_call 117; refine (test3_i _ _).mono ?_; rintro e w' ⟨rfl, rfl⟩))
       first
        | (have EK := Lib.hid (ST.out rfl)
           go_round
           case rel => exact ⟨3, by omega, rfl, EK⟩
           case measure => simp [intOf])
        | (have EN := Lib.hid (SN.out rfl)
           go_ret
           exact ⟨by rw [E.out, EN.out] <;> rfl, hbb.out⟩)
    ·
     have EK : Hid (metB p q = true) := Lib.hid (H3.out.symm.trans hok.out)
     clear HN HS H3
     go_wp2_with fail
     go_ret
     exact ⟨by rw [E.out, EK.out] <;> rfl, hbb.out⟩
 ·
  clear hy
  go_enter Tryz.func101, Tryz.ntmps101
  go_wp2_with fail
  rw [<- hwq]
  refine region_inv (by kernel_rfl) (by kernel_rfl) (fun d' a' W => ∃ us, a' = frMt us /\ InvMt (.pointer (some ⟨w.heap.size, 0, none⟩)) (.pointer (some ⟨w.heap.size + 1, 0, none⟩)) q wq d' us W) ?_ ?_ ?_
  ·
   refine ⟨_, frMt_of, ?_⟩
   have Z : ∀ k, (Array.replicate 9 false).getD k false = false := fun k => by
    rcases Nat.lt_or_ge k 9 with h | h
    ·
     simp [h]
    ·
     simp [Array.getElem?_eq_none, h]
   have Zn : ∀ {k : Nat} {p : Prop}, (Array.replicate 9 false).getD k false = true -> p := fun {k p} h => by rw [Z k] at h; cases h
   exact { u2 := rfl, u3 := rfl, bel := (Below.refl _ _).drew, o0 := Zn, o1 := Zn, o2 := Zn, o3 := Zn, o4 := Zn, o5 := Zn, o6 := Zn, o7 := Zn, o8 := Zn }
  ·
   intro i d' a' W hi hI
   obtain ⟨hun, oi, hoi, hall⟩ := mem_ready.1 hi
   have hlt : i < 9 := (Array.getElem?_eq_some_iff.1 hoi).1
   obtain ⟨us, rfl, I⟩ := hI
   have hbel := I.bel
   have hsz : wq.heap.size <= W.heap.size := hbel.size
   have e2 := I.u2
   have e3 := I.u3
   have m0 := (I.bel.cell (p := ⟨w.heap.size + 1, 0, none⟩) hg).trans n0
   have m1 := (I.bel.cell (p := ⟨w.heap.size + 1, 1, none⟩) hg).trans n1
   have m2 := (I.bel.cell (p := ⟨w.heap.size + 1, 2, none⟩) hg).trans n2
   have m3 := (I.bel.cell (p := ⟨w.heap.size + 1, 3, none⟩) hg).trans n3
   have m4 := (I.bel.cell (p := ⟨w.heap.size + 1, 4, none⟩) hg).trans n4
   have m5 := (I.bel.cell (p := ⟨w.heap.size + 1, 5, none⟩) hg).trans n5
   have m6 := (I.bel.cell (p := ⟨w.heap.size + 1, 6, none⟩) hg).trans n6
   rcases (by omega : i = 0 ∨ i = 1 ∨ i = 2 ∨ i = 3 ∨ i = 4 ∨ i = 5 ∨ i = 6 ∨ i = 7 ∨ i = 8) with rfl | rfl | rfl | rfl | rfl | rfl | rfl | rfl | rfl
   all_goals
    obtain rfl := Option.some.inj hoi
    clear hoi hlt hi
   ·
    skip
    have DO : ∀ n, 0 ≠ n -> (d'.setIfInBounds 0 true).getD n false = d'.getD n false := fun n h => getD_set_ne false h
    have D0 : (d'.setIfInBounds 0 true).getD 0 false = true := setB_sameC hun
    have D1 := DO 1 (by decide)
    have D2 := DO 2 (by decide)
    have D3 := DO 3 (by decide)
    have D4 := DO 4 (by decide)
    have D5 := DO 5 (by decide)
    have D6 := DO 6 (by decide)
    have D7 := DO 7 (by decide)
    have D8 := DO 8 (by decide)
    have UO : ∀ n, n ≠ 20 -> updC us 20 (.agg #[.func (.func 115) #[] #[], .func (.func 116) #[] #[], .func (.func 117) #[] #[]]) n = us n := fun n h => updC_other h
    have U20 : updC us 20 (.agg #[.func (.func 115) #[] #[], .func (.func 116) #[] #[], .func (.func 117) #[] #[]]) 20 = (.agg #[.func (.func 115) #[] #[], .func (.func 116) #[] #[], .func (.func 117) #[] #[]]) := updC_same _ _ _
    have U2 := UO 2 (by decide)
    have U3 := UO 3 (by decide)
    have U5 := UO 5 (by decide)
    have U6 := UO 6 (by decide)
    have U21 := UO 21 (by decide)
    have U22 := UO 22 (by decide)
    have U23 := UO 23 (by decide)
    have U24 := UO 24 (by decide)
    refine wpOp_step rfl (fun K hK => ?_)
    simp only [frMt, e2, e3]
    go_simp
    go_wp2_with (go_at_call 110; refine (tests_i W).mono ?_; rintro e w2 ⟨rfl, hb2⟩)
    exact ⟨updC us 20 (.agg #[.func (.func 115) #[] #[], .func (.func 116) #[] #[], .func (.func 117) #[] #[]]), by simp [frMt, updC, e2, e3], { u2 := (U2.trans I.u2), u3 := (U3.trans I.u3), bel := (I.bel.trans (hb2.mono hsz)), o0 := (fun _ => U20), o1 := (cO U21 I.o1 D1), o2 := (cO U22 I.o2 D2), o3 := (cO U23 I.o3 D3), o4 := (cO U24 I.o4 D4), o5 := (fun h => by rw [U5, D7]; obtain ⟨B2, g1, g2, g3⟩ := I.o5 (D5.symm.trans h); exact ⟨B2, g1, g2, (hb2.block B2 (lt_some g3)).trans g3⟩), o6 := (fun h => by rw [U6, D8]; obtain ⟨B2, g1, g2, g3⟩ := I.o6 (D6.symm.trans h); exact ⟨B2, g1, g2, (hb2.block B2 (lt_some g3)).trans g3⟩), o7 := (fun h => D5.trans (I.o7 (D7.symm.trans h))), o8 := (fun h => D6.trans (I.o8 (D8.symm.trans h))) }⟩
   ·
    skip
    have DO : ∀ n, 1 ≠ n -> (d'.setIfInBounds 1 true).getD n false = d'.getD n false := fun n h => getD_set_ne false h
    have D1 : (d'.setIfInBounds 1 true).getD 1 false = true := setB_sameC hun
    have D0 := DO 0 (by decide)
    have D2 := DO 2 (by decide)
    have D3 := DO 3 (by decide)
    have D4 := DO 4 (by decide)
    have D5 := DO 5 (by decide)
    have D6 := DO 6 (by decide)
    have D7 := DO 7 (by decide)
    have D8 := DO 8 (by decide)
    have UO : ∀ n, n ≠ 21 -> updC us 21 (.agg #[.int .i64 q.d, .int .i64 q.k, .string ⟨q.c.toArray⟩, .int .i64 q.a, .bool q.p, .bool q.v, .bool q.r]) n = us n := fun n h => updC_other h
    have U21 : updC us 21 (.agg #[.int .i64 q.d, .int .i64 q.k, .string ⟨q.c.toArray⟩, .int .i64 q.a, .bool q.p, .bool q.v, .bool q.r]) 21 = (.agg #[.int .i64 q.d, .int .i64 q.k, .string ⟨q.c.toArray⟩, .int .i64 q.a, .bool q.p, .bool q.v, .bool q.r]) := updC_same _ _ _
    have U2 := UO 2 (by decide)
    have U3 := UO 3 (by decide)
    have U5 := UO 5 (by decide)
    have U6 := UO 6 (by decide)
    have U20 := UO 20 (by decide)
    have U22 := UO 22 (by decide)
    have U23 := UO 23 (by decide)
    have U24 := UO 24 (by decide)
    refine wpOp_step rfl (fun K hK => ?_)
    simp only [frMt, e2, e3]
    go_simp
    refine hK _ _ ⟨updC us 21 (.agg #[.int .i64 q.d, .int .i64 q.k, .string ⟨q.c.toArray⟩, .int .i64 q.a, .bool q.p, .bool q.v, .bool q.r]), by simp [frMt, updC, e2, e3], { u2 := (U2.trans I.u2), u3 := (U3.trans I.u3), bel := (I.bel), o0 := (cO U20 I.o0 D0), o1 := (fun _ => U21), o2 := (cO U22 I.o2 D2), o3 := (cO U23 I.o3 D3), o4 := (cO U24 I.o4 D4), o5 := (fun h => by rw [U5, D7]; obtain ⟨B2, g1, g2, g3⟩ := I.o5 (D5.symm.trans h); exact ⟨B2, g1, g2, g3⟩), o6 := (fun h => by rw [U6, D8]; obtain ⟨B2, g1, g2, g3⟩ := I.o6 (D6.symm.trans h); exact ⟨B2, g1, g2, g3⟩), o7 := (fun h => D5.trans (I.o7 (D7.symm.trans h))), o8 := (fun h => D6.trans (I.o8 (D8.symm.trans h))) }⟩
   ·
    skip
    have DO : ∀ n, 2 ≠ n -> (d'.setIfInBounds 2 true).getD n false = d'.getD n false := fun n h => getD_set_ne false h
    have D2 : (d'.setIfInBounds 2 true).getD 2 false = true := setB_sameC hun
    have D0 := DO 0 (by decide)
    have D1 := DO 1 (by decide)
    have D3 := DO 3 (by decide)
    have D4 := DO 4 (by decide)
    have D5 := DO 5 (by decide)
    have D6 := DO 6 (by decide)
    have D7 := DO 7 (by decide)
    have D8 := DO 8 (by decide)
    have e21 := I.o1 (hall ⟨1, .data⟩ (by simp) rfl)
    have UO : ∀ n, n ≠ 22 -> updC us 22 (.agg #[.int .i64 q.d, .int .i64 q.k, .string ⟨q.c.toArray⟩, .int .i64 q.a, .bool q.p, .bool q.v, .bool q.r]) n = us n := fun n h => updC_other h
    have U22 : updC us 22 (.agg #[.int .i64 q.d, .int .i64 q.k, .string ⟨q.c.toArray⟩, .int .i64 q.a, .bool q.p, .bool q.v, .bool q.r]) 22 = (.agg #[.int .i64 q.d, .int .i64 q.k, .string ⟨q.c.toArray⟩, .int .i64 q.a, .bool q.p, .bool q.v, .bool q.r]) := updC_same _ _ _
    have U2 := UO 2 (by decide)
    have U3 := UO 3 (by decide)
    have U5 := UO 5 (by decide)
    have U6 := UO 6 (by decide)
    have U20 := UO 20 (by decide)
    have U21 := UO 21 (by decide)
    have U23 := UO 23 (by decide)
    have U24 := UO 24 (by decide)
    refine wpOp_step rfl (fun K hK => ?_)
    simp only [frMt, e2, e3, e21]
    go_simp
    go_wp2_with (go_at_call 111; refine (told_iC q W).mono ?_; rintro e w2 ⟨rfl, hb2⟩)
    exact ⟨updC us 22 (.agg #[.int .i64 q.d, .int .i64 q.k, .string ⟨q.c.toArray⟩, .int .i64 q.a, .bool q.p, .bool q.v, .bool q.r]), by simp [frMt, updC, e2, e3, e21], { u2 := (U2.trans I.u2), u3 := (U3.trans I.u3), bel := (I.bel.trans (hb2.mono hsz)), o0 := (cO U20 I.o0 D0), o1 := (cO U21 I.o1 D1), o2 := (fun _ => U22), o3 := (cO U23 I.o3 D3), o4 := (cO U24 I.o4 D4), o5 := (fun h => by rw [U5, D7]; obtain ⟨B2, g1, g2, g3⟩ := I.o5 (D5.symm.trans h); exact ⟨B2, g1, g2, (hb2.block B2 (lt_some g3)).trans g3⟩), o6 := (fun h => by rw [U6, D8]; obtain ⟨B2, g1, g2, g3⟩ := I.o6 (D6.symm.trans h); exact ⟨B2, g1, g2, (hb2.block B2 (lt_some g3)).trans g3⟩), o7 := (fun h => D5.trans (I.o7 (D7.symm.trans h))), o8 := (fun h => D6.trans (I.o8 (D8.symm.trans h))) }⟩
   ·
    skip
    have DO : ∀ n, 3 ≠ n -> (d'.setIfInBounds 3 true).getD n false = d'.getD n false := fun n h => getD_set_ne false h
    have D3 : (d'.setIfInBounds 3 true).getD 3 false = true := setB_sameC hun
    have D0 := DO 0 (by decide)
    have D1 := DO 1 (by decide)
    have D2 := DO 2 (by decide)
    have D4 := DO 4 (by decide)
    have D5 := DO 5 (by decide)
    have D6 := DO 6 (by decide)
    have D7 := DO 7 (by decide)
    have D8 := DO 8 (by decide)
    have e22 := I.o2 (hall ⟨2, .data⟩ (by simp) rfl)
    have UO : ∀ n, n ≠ 23 -> updC us 23 (.agg #[.bool q.p, .bool q.v, .bool q.r]) n = us n := fun n h => updC_other h
    have U23 : updC us 23 (.agg #[.bool q.p, .bool q.v, .bool q.r]) 23 = (.agg #[.bool q.p, .bool q.v, .bool q.r]) := updC_same _ _ _
    have U2 := UO 2 (by decide)
    have U3 := UO 3 (by decide)
    have U5 := UO 5 (by decide)
    have U6 := UO 6 (by decide)
    have U20 := UO 20 (by decide)
    have U21 := UO 21 (by decide)
    have U22 := UO 22 (by decide)
    have U24 := UO 24 (by decide)
    have f4 : ∀ w, (Instr.field 151 (.agg #[.int .i64 q.d, .int .i64 q.k, .string ⟨q.c.toArray⟩, .int .i64 q.a, .bool q.p, .bool q.v, .bool q.r]) 4).run Tryz.prog w = .ok (.agg #[.bool q.p, .bool q.v, .bool q.r]) w := fun _ => by kernel_rfl
    refine wpOp_step rfl (fun K hK => ?_)
    simp only [frMt, e2, e3, e22]
    go_simp
    refine hK _ _ ⟨updC us 23 (.agg #[.bool q.p, .bool q.v, .bool q.r]), by simp [frMt, updC, e2, e3, e22], { u2 := (U2.trans I.u2), u3 := (U3.trans I.u3), bel := (I.bel), o0 := (cO U20 I.o0 D0), o1 := (cO U21 I.o1 D1), o2 := (cO U22 I.o2 D2), o3 := (fun _ => U23), o4 := (cO U24 I.o4 D4), o5 := (fun h => by rw [U5, D7]; obtain ⟨B2, g1, g2, g3⟩ := I.o5 (D5.symm.trans h); exact ⟨B2, g1, g2, g3⟩), o6 := (fun h => by rw [U6, D8]; obtain ⟨B2, g1, g2, g3⟩ := I.o6 (D6.symm.trans h); exact ⟨B2, g1, g2, g3⟩), o7 := (fun h => D5.trans (I.o7 (D7.symm.trans h))), o8 := (fun h => D6.trans (I.o8 (D8.symm.trans h))) }⟩
   ·
    skip
    have DO : ∀ n, 4 ≠ n -> (d'.setIfInBounds 4 true).getD n false = d'.getD n false := fun n h => getD_set_ne false h
    have D4 : (d'.setIfInBounds 4 true).getD 4 false = true := setB_sameC hun
    have D0 := DO 0 (by decide)
    have D1 := DO 1 (by decide)
    have D2 := DO 2 (by decide)
    have D3 := DO 3 (by decide)
    have D5 := DO 5 (by decide)
    have D6 := DO 6 (by decide)
    have D7 := DO 7 (by decide)
    have D8 := DO 8 (by decide)
    have e23 := I.o3 (hall ⟨3, .data⟩ (by simp) rfl)
    have UO : ∀ n, n ≠ 24 -> updC us 24 (.agg #[.bool q.p, .bool q.v, .bool q.r]) n = us n := fun n h => updC_other h
    have U24 : updC us 24 (.agg #[.bool q.p, .bool q.v, .bool q.r]) 24 = (.agg #[.bool q.p, .bool q.v, .bool q.r]) := updC_same _ _ _
    have U2 := UO 2 (by decide)
    have U3 := UO 3 (by decide)
    have U5 := UO 5 (by decide)
    have U6 := UO 6 (by decide)
    have U20 := UO 20 (by decide)
    have U21 := UO 21 (by decide)
    have U22 := UO 22 (by decide)
    have U23 := UO 23 (by decide)
    refine wpOp_step rfl (fun K hK => ?_)
    simp only [frMt, e2, e3, e23]
    go_simp
    go_wp2_with (go_at_call 112; refine (inord_i q W).mono ?_; rintro e w2 ⟨rfl, hb2⟩)
    exact ⟨updC us 24 (.agg #[.bool q.p, .bool q.v, .bool q.r]), by simp [frMt, updC, e2, e3, e23], { u2 := (U2.trans I.u2), u3 := (U3.trans I.u3), bel := (I.bel.trans (hb2.mono hsz)), o0 := (cO U20 I.o0 D0), o1 := (cO U21 I.o1 D1), o2 := (cO U22 I.o2 D2), o3 := (cO U23 I.o3 D3), o4 := (fun _ => U24), o5 := (fun h => by rw [U5, D7]; obtain ⟨B2, g1, g2, g3⟩ := I.o5 (D5.symm.trans h); exact ⟨B2, g1, g2, (hb2.block B2 (lt_some g3)).trans g3⟩), o6 := (fun h => by rw [U6, D8]; obtain ⟨B2, g1, g2, g3⟩ := I.o6 (D6.symm.trans h); exact ⟨B2, g1, g2, (hb2.block B2 (lt_some g3)).trans g3⟩), o7 := (fun h => D5.trans (I.o7 (D7.symm.trans h))), o8 := (fun h => D6.trans (I.o8 (D8.symm.trans h))) }⟩
   ·
    skip
    have DO : ∀ n, 5 ≠ n -> (d'.setIfInBounds 5 true).getD n false = d'.getD n false := fun n h => getD_set_ne false h
    have D5 : (d'.setIfInBounds 5 true).getD 5 false = true := setB_sameC hun
    have D0 := DO 0 (by decide)
    have D1 := DO 1 (by decide)
    have D2 := DO 2 (by decide)
    have D3 := DO 3 (by decide)
    have D4 := DO 4 (by decide)
    have D6 := DO 6 (by decide)
    have D7 := DO 7 (by decide)
    have D8 := DO 8 (by decide)
    have UO : ∀ n, n ≠ 5 -> updC us 5 (.pointer (some ⟨W.heap.size, 0, none⟩)) n = us n := fun n h => updC_other h
    have U5 : updC us 5 (.pointer (some ⟨W.heap.size, 0, none⟩)) 5 = (.pointer (some ⟨W.heap.size, 0, none⟩)) := updC_same _ _ _
    have U2 := UO 2 (by decide)
    have U3 := UO 3 (by decide)
    have U6 := UO 6 (by decide)
    have U20 := UO 20 (by decide)
    have U21 := UO 21 (by decide)
    have U22 := UO 22 (by decide)
    have U23 := UO 23 (by decide)
    have U24 := UO 24 (by decide)
    have hf : d'.getD 7 false = false := by
     cases h : d'.getD 7 false with
     | false => rfl
     | true => have h2 := getD_ft (I.o7 h); rw [hun] at h2; cases h2
    refine wpOp_step rfl (fun K hK => ?_)
    simp only [frMt, e2, e3]
    go_simp
    refine hK _ _ ⟨updC us 5 (.pointer (some ⟨W.heap.size, 0, none⟩)), by simp [frMt, updC, e2, e3], { u2 := (U2.trans I.u2), u3 := (U3.trans I.u3), bel := (I.bel.alloc hsz _), o0 := (cO U20 I.o0 D0), o1 := (cO U21 I.o1 D1), o2 := (cO U22 I.o2 D2), o3 := (cO U23 I.o3 D3), o4 := (cO U24 I.o4 D4), o5 := (fun _ => ⟨W.heap.size, U5, hsz, by rw [D7, hf, if_neg Bool.false_ne_true]; exact heap_alloc_new W _⟩), o6 := (fun h => by rw [U6, D8]; obtain ⟨B2, g1, g2, g3⟩ := I.o6 (D6.symm.trans h); exact ⟨B2, g1, g2, (heap_alloc_old W _ (lt_some g3)).trans g3⟩), o7 := (fun h => by rw [D7, hf] at h; cases h), o8 := (fun h => D6.trans (I.o8 (D8.symm.trans h))) }⟩
   ·
    skip
    have DO : ∀ n, 6 ≠ n -> (d'.setIfInBounds 6 true).getD n false = d'.getD n false := fun n h => getD_set_ne false h
    have D6 : (d'.setIfInBounds 6 true).getD 6 false = true := setB_sameC hun
    have D0 := DO 0 (by decide)
    have D1 := DO 1 (by decide)
    have D2 := DO 2 (by decide)
    have D3 := DO 3 (by decide)
    have D4 := DO 4 (by decide)
    have D5 := DO 5 (by decide)
    have D7 := DO 7 (by decide)
    have D8 := DO 8 (by decide)
    have UO : ∀ n, n ≠ 6 -> updC us 6 (.pointer (some ⟨W.heap.size, 0, none⟩)) n = us n := fun n h => updC_other h
    have U6 : updC us 6 (.pointer (some ⟨W.heap.size, 0, none⟩)) 6 = (.pointer (some ⟨W.heap.size, 0, none⟩)) := updC_same _ _ _
    have U2 := UO 2 (by decide)
    have U3 := UO 3 (by decide)
    have U5 := UO 5 (by decide)
    have U20 := UO 20 (by decide)
    have U21 := UO 21 (by decide)
    have U22 := UO 22 (by decide)
    have U23 := UO 23 (by decide)
    have U24 := UO 24 (by decide)
    have hf : d'.getD 8 false = false := by
     cases h : d'.getD 8 false with
     | false => rfl
     | true => have h2 := getD_ft (I.o8 h); rw [hun] at h2; cases h2
    refine wpOp_step rfl (fun K hK => ?_)
    simp only [frMt, e2, e3]
    go_simp
    refine hK _ _ ⟨updC us 6 (.pointer (some ⟨W.heap.size, 0, none⟩)), by simp [frMt, updC, e2, e3], { u2 := (U2.trans I.u2), u3 := (U3.trans I.u3), bel := (I.bel.alloc hsz _), o0 := (cO U20 I.o0 D0), o1 := (cO U21 I.o1 D1), o2 := (cO U22 I.o2 D2), o3 := (cO U23 I.o3 D3), o4 := (cO U24 I.o4 D4), o5 := (fun h => by rw [U5, D7]; obtain ⟨B2, g1, g2, g3⟩ := I.o5 (D5.symm.trans h); exact ⟨B2, g1, g2, (heap_alloc_old W _ (lt_some g3)).trans g3⟩), o6 := (fun _ => ⟨W.heap.size, U6, hsz, by rw [D8, hf, if_neg Bool.false_ne_true]; exact heap_alloc_new W _⟩), o7 := (fun h => D5.trans (I.o7 (D7.symm.trans h))), o8 := (fun h => by rw [D8, hf] at h; cases h) }⟩
   ·
    skip
    have DO : ∀ n, 7 ≠ n -> (d'.setIfInBounds 7 true).getD n false = d'.getD n false := fun n h => getD_set_ne false h
    have D7 : (d'.setIfInBounds 7 true).getD 7 false = true := setB_sameC hun
    have D0 := DO 0 (by decide)
    have D1 := DO 1 (by decide)
    have D2 := DO 2 (by decide)
    have D3 := DO 3 (by decide)
    have D4 := DO 4 (by decide)
    have D5 := DO 5 (by decide)
    have D6 := DO 6 (by decide)
    have D8 := DO 8 (by decide)
    have e20 := I.o0 (hall ⟨0, .data⟩ (by simp) rfl)
    have hf := getB_fC hun
    obtain ⟨B, eB, hlo, hB⟩ := I.o5 (hall ⟨5, .data⟩ (by simp) rfl)
    rw [hf, if_neg Bool.false_ne_true] at hB
    refine wpOp_step rfl (fun K hK => ?_)
    refine if_wanted (by rfl) ?_
    refine wp_store_row 145 (.tmp 5) (.tmp 20) rfl B #[.func (.func 115) #[] #[], .func (.func 116) #[] #[], .func (.func 117) #[] #[]] (by show us 5 = _; exact eB) (by show us 20 = _; exact e20) 145 #[.nilFunc, .nilFunc, .nilFunc] hB funSz rfl (by simp [Value.oneCell']) (hK _ _ ⟨us, by simp [frMt, Act.put], ?_⟩)
    exact { u2 := I.u2, u3 := I.u3, bel := below_setRowC I.bel hlo, o0 := (fun h => I.o0 (D0.symm.trans h)), o1 := (fun h => I.o1 (D1.symm.trans h)), o2 := (fun h => I.o2 (D2.symm.trans h)), o3 := (fun h => I.o3 (D3.symm.trans h)), o4 := (fun h => I.o4 (D4.symm.trans h)), o5 := (fun h => ⟨B, eB, hlo, by rw [D7, if_pos rfl]; exact heap_setRow_sameC hB⟩), o6 := (fun h => by obtain ⟨B2, g1, g2, g3⟩ := I.o6 (D6.symm.trans h); exact ⟨B2, g1, g2, by rw [D8, heap_setRow_otherC (fun e => by rw [e, hB] at g3; split at g3 <;> simp at g3)]; exact g3⟩), o7 := (fun _ => D5.trans (hall ⟨5, .data⟩ (by simp) rfl)), o8 := (fun h => D6.trans (I.o8 (D8.symm.trans h))) }
   ·
    skip
    have DO : ∀ n, 8 ≠ n -> (d'.setIfInBounds 8 true).getD n false = d'.getD n false := fun n h => getD_set_ne false h
    have D8 : (d'.setIfInBounds 8 true).getD 8 false = true := setB_sameC hun
    have D0 := DO 0 (by decide)
    have D1 := DO 1 (by decide)
    have D2 := DO 2 (by decide)
    have D3 := DO 3 (by decide)
    have D4 := DO 4 (by decide)
    have D5 := DO 5 (by decide)
    have D6 := DO 6 (by decide)
    have D7 := DO 7 (by decide)
    have e24 := I.o4 (hall ⟨4, .data⟩ (by simp) rfl)
    have hf := getB_fC hun
    obtain ⟨B, eB, hlo, hB⟩ := I.o6 (hall ⟨6, .data⟩ (by simp) rfl)
    rw [hf, if_neg Bool.false_ne_true] at hB
    refine wpOp_step rfl (fun K hK => ?_)
    refine if_wanted (by rfl) ?_
    refine wp_store_row 147 (.tmp 6) (.tmp 24) rfl B #[.bool q.p, .bool q.v, .bool q.r] (by show us 6 = _; exact eB) (by show us 24 = _; exact e24) 147 #[.bool false, .bool false, .bool false] hB bolSz rfl (by simp [Value.oneCell']) (hK _ _ ⟨us, by simp [frMt, Act.put], ?_⟩)
    exact { u2 := I.u2, u3 := I.u3, bel := below_setRowC I.bel hlo, o0 := (fun h => I.o0 (D0.symm.trans h)), o1 := (fun h => I.o1 (D1.symm.trans h)), o2 := (fun h => I.o2 (D2.symm.trans h)), o3 := (fun h => I.o3 (D3.symm.trans h)), o4 := (fun h => I.o4 (D4.symm.trans h)), o5 := (fun h => by obtain ⟨B2, g1, g2, g3⟩ := I.o5 (D5.symm.trans h); exact ⟨B2, g1, g2, by rw [D7, heap_setRow_otherC (fun e => by rw [e, hB] at g3; split at g3 <;> simp at g3)]; exact g3⟩), o6 := (fun h => ⟨B, eB, hlo, by rw [D8, if_pos rfl]; exact heap_setRow_sameC hB⟩), o7 := (fun h => D5.trans (I.o7 (D7.symm.trans h))), o8 := (fun _ => D6.trans (hall ⟨6, .data⟩ (by simp) rfl)) }
  ·
   intro d' a' W hd hall hI
   obtain ⟨us, rfl, I⟩ := hI
   have D : ∀ k, k < 9 -> d'.getD k false = true := fun k hk => by
    have := hall k hk
    have hk2 : k < d'.size := by rw [hd]; exact hk
    simp [hk2] at this ⊢; exact this
   obtain ⟨R5, e5, hRlo5, hRow5⟩ := I.o5 (D 5 (by decide))
   rw [D 7 (by decide), if_pos rfl] at hRow5
   obtain ⟨R6, e6, hRlo6, hRow6⟩ := I.o6 (D 6 (by decide))
   rw [D 8 (by decide), if_pos rfl] at hRow6
   have e2 := I.u2
   have e3 := I.u3
   have bR := I.bel
   clear I D hall hd
   simp only [frMt, e2, e3, e5, e6]
   have hbw := Lib.hid (belowGo HB bR)
   have kc3 := kc.step bR
   have f0 : W.cell? ⟨R5, 0, none⟩ = some (.func (.func 115) #[] #[]) := by rw [cell_of_row _ _ _ _ _ _ hRow5]; rfl
   have d0 := kc3.cells.c0; have d1 := kc3.cells.c1; have d2 := kc3.cells.c2; have d3 := kc3.cells.c3; have d4 := kc3.cells.c4; have d5 := kc3.cells.c5; have d6 := kc3.cells.c6
   have HR5 := Lib.hid hRow5
   have HR6 := Lib.hid hRow6
   clear f0 hRow5 hRow6 kc3
   go_wp2_with fail
   refine (HO.out _).mono ?_
   rintro e w4 ⟨rfl, b4⟩
   have r5 := (b4.block _ (lt_some HR5.out)).trans HR5.out
   have r6 := (b4.block _ (lt_some HR6.out)).trans HR6.out
   have hbb := Lib.hid (belowGo hbw.out b4)
   have F0 : w4.cell? ⟨R5, 0, none⟩ = some (.func (.func 115) #[] #[]) := by rw [cell_of_row _ _ _ _ _ _ r5]; rfl
   have F1 : w4.cell? ⟨R5, 1, none⟩ = some (.func (.func 116) #[] #[]) := by rw [cell_of_row _ _ _ _ _ _ r5]; rfl
   have F2 : w4.cell? ⟨R5, 2, none⟩ = some (.func (.func 117) #[] #[]) := by rw [cell_of_row _ _ _ _ _ _ r5]; rfl
   have hC0 : w4.cell? ⟨R6, 0, none⟩ = some (.bool q.p) := by rw [cell_of_row _ _ _ _ _ _ r6]; rfl
   have hC1 : w4.cell? ⟨R6, 1, none⟩ = some (.bool q.v) := by rw [cell_of_row _ _ _ _ _ _ r6]; rfl
   have hC2 : w4.cell? ⟨R6, 2, none⟩ = some (.bool q.r) := by rw [cell_of_row _ _ _ _ _ _ r6]; rfl
   clear r5 r6 b4 d0 d1 d2 d3 d4 d5 d6 HR5 HR6 hbw bR kc HO
   go_wp2_with fail
   go_loop [27] (fun i => ∃ k : Nat, k <= 3 /\ i = .int .i64 k /\ Hid (metTo p q k = true)) (fun i => 3 - (intOf i).toNat)
   case atStart => exact ⟨0, Nat.zero_le _, rfl, Lib.hid rfl⟩
   case round =>
    obtain ⟨k, hk, rfl, hok⟩ := hrel
    have i0 : ∀ w, (Instr.index 115 (.agg #[.int .i64 p.p, .int .i64 p.v, .int .i64 p.r]) (.int .i64 0)).run Tryz.prog w = .ok (.int .i64 p.p) w := fun _ => by kernel_rfl
    have i1 : ∀ w, (Instr.index 115 (.agg #[.int .i64 p.p, .int .i64 p.v, .int .i64 p.r]) (.int .i64 1)).run Tryz.prog w = .ok (.int .i64 p.v) w := fun _ => by kernel_rfl
    have i2 : ∀ w, (Instr.index 115 (.agg #[.int .i64 p.p, .int .i64 p.v, .int .i64 p.r]) (.int .i64 2)).run Tryz.prog w = .ok (.int .i64 p.r) w := fun _ => by kernel_rfl
    have HN := Lib.hid (@met_no p q k)
    have HS := Lib.hid (met_succ p q k)
    have H3 := Lib.hid (met_3 p q)
    rcases (by omega : k = 0 ∨ k = 1 ∨ k = 2 ∨ k = 3) with rfl | rfl | rfl | rfl
    ·
     obtain ⟨b, hbt⟩ : ∃ b, q.p = b := ⟨_, rfl⟩
     rw [hbt] at hC0
     have ST : Hid (meetB p.p b = true -> metTo p q 1 = true) := Lib.hid fun h => by rw [HS.out, hok.out]; show (true && meetB p.p q.p) = true; rw [hbt, h]; rfl
     have SN : Hid (meetB p.p b = false -> metB p q = false) := Lib.hid fun h => HN.out (by omega) (by show meetB p.p q.p = false; rw [hbt]; exact h)
     have J0 : ∀ z, p.p = z -> ∀ w, (Instr.index 115 (.agg #[.int .i64 p.p, .int .i64 p.v, .int .i64 p.r]) (.int .i64 0)).run Tryz.prog w = .ok (.int .i64 z) w := fun z e w => by rw [<- e]; exact i0 w
     clear HN HS H3 hbt i0 i1 i2
     rcases hn0 with hz | hz | hz
     all_goals
      have j0 := J0 _ hz
      rw [hz] at ST SN
      cases b
      all_goals
       clear hz J0
       go_wp2_with (first
        | (go_at_call 115; refine (test1_i _ _).mono ?_; rintro e w' ⟨rfl, rfl⟩)
        | (go_at_call 116; refine (test2_i _ _).mono ?_; rintro e w' ⟨rfl, rfl⟩)
        | (go_at_call 117; refine (test3_i _ _).mono ?_; rintro e w' ⟨rfl, rfl⟩))
       first
        | (have EK := Lib.hid (ST.out rfl)
           go_round
           case rel => exact ⟨1, by omega, rfl, EK⟩
           case measure => simp [intOf])
        | (have EN := Lib.hid (SN.out rfl)
           go_ret
           exact ⟨by rw [E.out, EN.out] <;> rfl, hbb.out⟩)
    ·
     obtain ⟨b, hbt⟩ : ∃ b, q.v = b := ⟨_, rfl⟩
     rw [hbt] at hC1
     have ST : Hid (meetB p.v b = true -> metTo p q 2 = true) := Lib.hid fun h => by rw [HS.out, hok.out]; show (true && meetB p.v q.v) = true; rw [hbt, h]; rfl
     have SN : Hid (meetB p.v b = false -> metB p q = false) := Lib.hid fun h => HN.out (by omega) (by show meetB p.v q.v = false; rw [hbt]; exact h)
     have J1 : ∀ z, p.v = z -> ∀ w, (Instr.index 115 (.agg #[.int .i64 p.p, .int .i64 p.v, .int .i64 p.r]) (.int .i64 1)).run Tryz.prog w = .ok (.int .i64 z) w := fun z e w => by rw [<- e]; exact i1 w
     clear HN HS H3 hbt i0 i1 i2
     rcases hn1 with hz | hz | hz
     all_goals
      have j1 := J1 _ hz
      rw [hz] at ST SN
      cases b
      all_goals
       clear hz J1
       go_wp2_with (first
        | (go_at_call 115; refine (test1_i _ _).mono ?_; rintro e w' ⟨rfl, rfl⟩)
        | (go_at_call 116; refine (test2_i _ _).mono ?_; rintro e w' ⟨rfl, rfl⟩)
        | (go_at_call 117; refine (test3_i _ _).mono ?_; rintro e w' ⟨rfl, rfl⟩))
       first
        | (have EK := Lib.hid (ST.out rfl)
           go_round
           case rel => exact ⟨2, by omega, rfl, EK⟩
           case measure => simp [intOf])
        | (have EN := Lib.hid (SN.out rfl)
           go_ret
           exact ⟨by rw [E.out, EN.out] <;> rfl, hbb.out⟩)
    ·
     obtain ⟨b, hbt⟩ : ∃ b, q.r = b := ⟨_, rfl⟩
     rw [hbt] at hC2
     have ST : Hid (meetB p.r b = true -> metTo p q 3 = true) := Lib.hid fun h => by rw [HS.out, hok.out]; show (true && meetB p.r q.r) = true; rw [hbt, h]; rfl
     have SN : Hid (meetB p.r b = false -> metB p q = false) := Lib.hid fun h => HN.out (by omega) (by show meetB p.r q.r = false; rw [hbt]; exact h)
     have J2 : ∀ z, p.r = z -> ∀ w, (Instr.index 115 (.agg #[.int .i64 p.p, .int .i64 p.v, .int .i64 p.r]) (.int .i64 2)).run Tryz.prog w = .ok (.int .i64 z) w := fun z e w => by rw [<- e]; exact i2 w
     clear HN HS H3 hbt i0 i1 i2
     rcases hn2 with hz | hz | hz
     all_goals
      have j2 := J2 _ hz
      rw [hz] at ST SN
      cases b
      all_goals
       clear hz J2
       go_wp2_with (first
        | (go_at_call 115; refine (test1_i _ _).mono ?_; rintro e w' ⟨rfl, rfl⟩)
        | (go_at_call 116; refine (test2_i _ _).mono ?_; rintro e w' ⟨rfl, rfl⟩)
        | (go_at_call 117; refine (test3_i _ _).mono ?_; rintro e w' ⟨rfl, rfl⟩))
       first
        | (have EK := Lib.hid (ST.out rfl)
           go_round
           case rel => exact ⟨3, by omega, rfl, EK⟩
           case measure => simp [intOf])
        | (have EN := Lib.hid (SN.out rfl)
           go_ret
           exact ⟨by rw [E.out, EN.out] <;> rfl, hbb.out⟩)
    ·
     have EK : Hid (metB p q = true) := Lib.hid (H3.out.symm.trans hok.out)
     clear HN HS H3
     go_wp2_with fail
     go_ret
     exact ⟨by rw [E.out, EK.out] <;> rfl, hbb.out⟩
end Go.Proofs.YtjcklmhgjdmjoaaGreat
