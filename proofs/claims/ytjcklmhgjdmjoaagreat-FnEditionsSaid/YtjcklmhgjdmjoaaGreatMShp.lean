import Derived.Test.YtjcklmhgjdmjoaaGreatMClo
import Derived.Test.YtjcklmhgjdmjoaaGreatMEvt
import Derived.Test.YtjcklmhgjdmjoaaGreatMRate
import Derived.Test.YtjcklmhgjdmjoaaGreatMDif
namespace Go.Proofs.YtjcklmhgjdmjoaaGreat
open Go.ChangeShapes Go.WideShapes Go.ChangeAt Go.RowKit
set_option linter.unusedVariables false
def shapeAt (i : Nat) : Evt := ⟨0, ((i / 8 : Nat) : Int), [], 0, i / 4 % 2 == 1, i / 2 % 2 == 1, i % 2 == 1⟩
def shp (n : Nat) : List Evt := (List.range n).map shapeAt
theorem shp_len (n : Nat) : (shp n).length = n := by simp [shp]
theorem shp_succ (n : Nat) : shp (n + 1) = shp n ++ [shapeAt n] := by simp [shp, List.range_succ]
theorem shape_eq (k a b c : Nat) (ha : a < 2) (hb : b < 2) (hc : c < 2) : shapeAt (k * 8 + a * 4 + b * 2 + c) = ⟨0, (k : Int), [], 0, a == 1, b == 1, c == 1⟩ := by
 unfold shapeAt
 rw [show (k * 8 + a * 4 + b * 2 + c) / 8 = k by omega, show (k * 8 + a * 4 + b * 2 + c) / 4 % 2 = a by omega, show (k * 8 + a * 4 + b * 2 + c) / 2 % 2 = b by omega, show (k * 8 + a * 4 + b * 2 + c) % 2 = c by omega]
structure Shp (w : World) (n : Nat) (v : Value) (W : World) : Prop where
 own : W.ownsRow w.heap.size 30 7 v n ((shp n).flatMap Evt.cells)
 blk : W.heap[w.heap.size + 1]? = some (.cells #[.bool false, .bool true] 94 (0, 0))
 sep : v.ownBlock ≠ some (w.heap.size + 1)
 bel : Below w.heap.size w W
theorem twoSz : (Tryz.prog.info? 94).map (·.size) = some 2 := by kernel_rfl
theorem Shp.push {w W w' : World} {n : Nat} {v v' : Value} (h : Shp w n v W) (ho : w'.ownsRow w.heap.size 30 7 v' (n + 1) ((shp n).flatMap Evt.cells ++ Evt.cells (shapeAt n))) (hg : W.grownBy w' v.ownBlock) (hk : v'.ownBlock = v.ownBlock ∨ ∃ k, W.heap.size <= k /\ v'.ownBlock = some k) : Shp w (n + 1) v' w' := by
 have hl := lt_some h.blk
 refine ⟨?_, ?_, ?_, ?_⟩
 ·
  rw [shp_succ, List.flatMap_append]; simpa using ho
 ·
  rw [<- h.blk]; exact hg.block _ hl (fun e => h.sep e.symm)
 ·
  rcases hk with hk | ⟨k, h1, h2⟩
  ·
   rw [hk]; exact h.sep
  ·
   rw [h2]; intro e; injection e with e; omega
 ·
  exact h.bel.grown hg (h.bel.size) (fun k hk => (h.own.lt k hk).1)
theorem idx_two (a : Nat) (ha : a < 2) (w : World) : (Instr.index 94 (.agg #[.bool false, .bool true]) (.int .i64 (a : Int))).run Tryz.prog w = .ok (.bool (a == 1)) w := by
 rcases (by omega : a = 0 ∨ a = 1) with rfl | rfl
 ·
  kernel_rfl
 ·
  kernel_rfl
set_option maxRecDepth 100000 in
set_option maxHeartbeats 8000000 in
theorem shapes_i (w : World) : Calls Tryz.prog 35 #[] w (NewEvts w (shp 56)) := by
 obtain ⟨i0, hi, hz0, hz1, hz2⟩ := info_parts evtInfo
 have o1 := heap_alloc2_new w (.cells #[] 30) (.cells #[.bool false, .bool false] 94)
 have B := belowGo (below_alloc w (.cells #[] 30)) (below_alloc _ (.cells #[.bool false, .bool false] 94))
 have hs0 : Shp w 0 (.slice (some ⟨w.heap.size, 0, none⟩) 0 0) (((w.alloc (.cells #[] 30)).alloc (.cells #[.bool false, .bool false] 94)).setRow (w.heap.size + 1) #[.bool false, .bool true]) := by
  refine ⟨?_, heap_setRow_sameC o1, by simp [Value.ownBlock], below_setRowC B (Nat.le_succ _)⟩
  have := (World.ownsRow_made w (e := 30) (size := 7) (base := w.heap.size) #[] 0 (Nat.le_refl _) (by decide) (by simp)).alloc (.cells #[.bool false, .bool false] 94)
  rcases this with ⟨h1, h2⟩
  refine ⟨h1, ?_⟩
  rcases h2 with h2 | ⟨g, cap, cur, e, hb, hg, r⟩
  ·
   exact .inl h2
  ·
   refine .inr ⟨g, cap, cur, e, hb, ?_, r⟩
   injection e with e; injection e with e; injection e with e
   rw [heap_setRow_otherC (by omega)]; exact hg
 have HS0 := Lib.hid hs0
 have HSE := Lib.hid shape_eq
 clear B hs0
 go_enter Tryz.func35, Tryz.ntmps35
 go_wp2_with (refine wpList_store_row rfl 94 (.tmp 2) (.tmp 11) rfl (w.heap.size + 1) #[.bool false, .bool true] rfl rfl 94 #[.bool false, .bool false] o1 twoSz rfl (by simp [Value.oneCell']) ?_)
 clear o1
 go_loopw [1, 12] (fun v i wr => ∃ k : Nat, k <= 7 /\ i = .int .i64 (k : Int) /\ Hid (Shp w (k * 8) v wr)) (fun _ i _ => 7 - (intOf i).toNat)
 case atStart => exact ⟨0, by omega, rfl, HS0⟩
 case round =>
  clear HS0
  obtain ⟨k, hk, rfl, HS⟩ := hrel
  by_cases hlt : k < 7
  ·
   have hbox := HS.out.blk
   go_wp2_with (refine wpList_load_row rfl 94 (.tmp 2) rfl (w.heap.size + 1) rfl 94 #[.bool false, .bool true] (0, 0) _ hbox Tryz.underlying94 rfl twoSz ?_)
   clear hbox
   obtain ⟨wA, hwA⟩ : ∃ x, x = wr := ⟨_, rfl⟩
   subst hwA
   go_loopw [1, 16] (fun v i wr => ∃ a : Nat, a <= 2 /\ i = .int .i64 (a : Int) /\ Hid (Shp w (k * 8 + a * 4) v wr)) (fun _ i _ => 2 - (intOf i).toNat)
   case atStart => exact ⟨0, by omega, rfl, HS⟩
   case round =>
    clear HS
    obtain ⟨a, ha, rfl, HS⟩ := hrel
    by_cases hla : a < 2
    ·
     have hbox := HS.out.blk
     have ia := idx_two a hla
     go_wp2_with (refine wpList_load_row rfl 94 (.tmp 2) rfl (w.heap.size + 1) rfl 94 #[.bool false, .bool true] (0, 0) _ hbox Tryz.underlying94 rfl twoSz ?_)
     clear hbox ia
     obtain ⟨wB, hwB⟩ : ∃ x, x = wr := ⟨_, rfl⟩
     subst hwB
     go_loopw [1, 20] (fun v i wr => ∃ b : Nat, b <= 2 /\ i = .int .i64 (b : Int) /\ Hid (Shp w (k * 8 + a * 4 + b * 2) v wr)) (fun _ i _ => 2 - (intOf i).toNat)
     case atStart => exact ⟨0, by omega, rfl, HS⟩
     case round =>
      clear HS
      obtain ⟨b, hb, rfl, HS⟩ := hrel
      by_cases hlb : b < 2
      ·
       have hbox := HS.out.blk
       have ib := idx_two b hlb
       go_wp2_with (refine wpList_load_row rfl 94 (.tmp 2) rfl (w.heap.size + 1) rfl 94 #[.bool false, .bool true] (0, 0) _ hbox Tryz.underlying94 rfl twoSz ?_)
       clear hbox ib
       obtain ⟨wC, hwC⟩ : ∃ x, x = wr := ⟨_, rfl⟩
       subst hwC
       go_loopw [1, 24] (fun v i wr => ∃ c : Nat, c <= 2 /\ i = .int .i64 (c : Int) /\ Hid (Shp w (k * 8 + a * 4 + b * 2 + c) v wr)) (fun _ i _ => 2 - (intOf i).toNat)
       case atStart => exact ⟨0, by omega, rfl, HS⟩
       case round =>
        clear HS
        obtain ⟨c, hc, rfl, HS⟩ := hrel
        by_cases hlc : c < 2
        ·
         have ic := idx_two c hlc
         have hown := HS.out.own
         have hsz := HS.out.bel.size
         have HP := Lib.hid (fun v' w' => HS.out.push (v' := v') (w' := w'))
         have HE := Lib.hid (HSE.out k a b c hla hlb hlc)
         obtain ⟨O, q, rfl⟩ := own_form hown
         go_wp2_with (at_builtin; refine wpList_push2 _ rfl (.tmp 27) (.tmp 33) 65 rfl w.heap.size 30 i0 _ 7 48 Tryz.underlying65 hi hz0 hz1 hz2 rfl (by decide) _ (k * 8 + a * 4 + b * 2 + c) _ rfl hown (Evt.cells ⟨0, (k : Int), [], 0, a == 1, b == 1, c == 1⟩) rfl (by simp [Evt.cells, Value.oneCell']) rfl (by unfold maxLen; omega) (by omega) hsz ?_; intro v' w' hown' hg' hk')
         go_roundw
         case rel => exact ⟨c + 1, by omega, by go_num, Lib.hid (HP.out _ _ (by rw [HE.out]; exact hown') hg' hk')⟩
         case measure => simp [intOf]; omega
        ·
         obtain rfl : c = 2 := by omega
         go_wp2_with fail
         go_roundw
         case rel => exact ⟨b + 1, by omega, by go_num, by rw [show k * 8 + a * 4 + (b + 1) * 2 = k * 8 + a * 4 + b * 2 + 2 by omega]; exact HS⟩
         case measure => simp [intOf]; omega
      ·
       obtain rfl : b = 2 := by omega
       go_wp2_with fail
       go_roundw
       case rel => exact ⟨a + 1, by omega, by go_num, by rw [show k * 8 + (a + 1) * 4 = k * 8 + a * 4 + 2 * 2 by omega]; exact HS⟩
       case measure => simp [intOf]; omega
    ·
     obtain rfl : a = 2 := by omega
     go_wp2_with fail
     go_roundw
     case rel => exact ⟨k + 1, by omega, by go_num, by rw [show (k + 1) * 8 = k * 8 + 2 * 4 by omega]; exact HS⟩
     case measure => simp [intOf]; omega
  ·
   obtain rfl : k = 7 := by omega
   have hown := HS.out.own
   obtain ⟨O, q, rfl⟩ := own_form hown
   clear hown
   go_wp2_with fail
   go_ret
   exact ⟨O, q, by rw [shp_len] <;> rfl, by rw [shp_len]; exact HS.out.own, HS.out.bel⟩
end Go.Proofs.YtjcklmhgjdmjoaaGreat

namespace Go.Proofs.YtjcklmhgjdmjoaaGreat
open Go.ChangeShapes Go.WideShapes Go.ChangeAt Go.RowKit
set_option linter.unusedVariables false
def srchD (a b : List Cls) : List Evt -> Evt × Int
 | [] => (evtZ, 4)
 | e :: l => if (resC a e != resC b e) = true then (e, 0) else srchD a b l
theorem srchD_yes {a b : List Cls} {e : Evt} {l : List Evt} (h : (resC a e != resC b e) = true) : srchD a b (e :: l) = (e, 0) := by unfold srchD; rw [if_pos h]
theorem srchD_no {a b : List Cls} {e : Evt} {l : List Evt} (h : (resC a e != resC b e) = false) : srchD a b (e :: l) = srchD a b l := by rw [srchD, if_neg (by rw [h]; decide)]
theorem srchD_map (a b : List Cls) (f : Nat -> Evt) : ∀ l : List Nat, srchD a b (l.map f) = match l.find? (fun i => resC a (f i) != resC b (f i)) with | some i => (f i, 0) | none => (evtZ, 4)
 | [] => rfl
 | i :: l => by
  rw [List.map_cons, List.find?_cons]
  cases h : (resC a (f i) != resC b (f i)) with
  | true => exact srchD_yes h
  | false => rw [srchD_no h]; exact srchD_map a b f l
theorem shape_evt (i : Nat) : shapeAt i = evtD (i / 8) (i % 8) := by
 have h1 : (((i % 8 : Nat) : Int) / 4 == 1) = (i / 4 % 2 == 1) := by
  have : ((i % 8 : Nat) : Int) / 4 = ((i / 4 % 2 : Nat) : Int) := by omega
  rw [this, Bool.eq_iff_iff]; simp only [beq_iff_eq]; omega
 have h2 : (((i % 8 : Nat) : Int) / 2 % 2 == 1) = (i / 2 % 2 == 1) := by
  have : ((i % 8 : Nat) : Int) / 2 % 2 = ((i / 2 % 2 : Nat) : Int) := by omega
  rw [this, Bool.eq_iff_iff]; simp only [beq_iff_eq]; omega
 have h3 : (((i % 8 : Nat) : Int) % 2 == 1) = (i % 2 == 1) := by
  have : ((i % 8 : Nat) : Int) % 2 = ((i % 2 : Nat) : Int) := by omega
  rw [this, Bool.eq_iff_iff]; simp only [beq_iff_eq]; omega
 unfold shapeAt evtD
 rw [h1, h2, h3]
theorem srchD_all (a b : List Cls) : srchD a b (shp 56) = if (difE a b).2 = true then ((difE a b).1, 0) else (evtZ, 4) := by
 have h : (fun i => resC a (shapeAt i) != resC b (shapeAt i)) = neqD a b := by
  funext i; rw [shape_evt i]; rfl
 unfold shp
 rw [srchD_map, h]
 unfold difE difI
 cases (List.range 56).find? (neqD a b) with
 | none => rfl
 | some i => simp [shape_evt]
theorem fdR_srch {ps qs : List Cls} (h : rbB ps = true) (h1 : rbB qs = true) : fdR ps qs = srchD ps qs (shp 56) := by
 rw [srchD_all]
 rcases Bool.eq_false_or_eq_true (difE ps qs).2 with h2 | h2
 ·
  rw [fdR_ok h h1 h2, if_pos h2]
 ·
  rw [fdR_none h h1 h2, if_neg (by rw [h2]; decide)]
theorem sdR_fd {ps qs : List Cls} (h : rbB ps = true) (h1 : rbB qs = true) : (fdR ps qs).2 ≠ 1 /\ sdR ps qs = ((fdR ps qs).2 == 4, 0) := by
 rcases Bool.eq_false_or_eq_true (difE ps qs).2 with h2 | h2
 ·
  rw [fdR_ok h h1 h2, sdR_ok h h1, h2]; exact ⟨by simp, rfl⟩
 ·
  rw [fdR_none h h1 h2, sdR_ok h h1, h2]; exact ⟨by simp, rfl⟩
end Go.Proofs.YtjcklmhgjdmjoaaGreat

