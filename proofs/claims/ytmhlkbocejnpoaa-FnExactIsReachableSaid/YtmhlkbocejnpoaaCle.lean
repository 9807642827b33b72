/- impl.isTaken, shapes, IsReachable. (by gen_cle.py) -/
import Derived.Test.YtmhlkbocejnpoaaCld
import Derived.Test.YtmhlkbocejnpoaaClq
import Derived.Test.YtmhlkbocejnpoaaEvtf
import Derived.Test.YtmhlkbocejnpoaaPush
namespace Go.Proofs.Ytmhlkbocejnpoaa
open Go.ChangeShapes Go.WideShapes Go.ChangeAt Go.RowKit
set_option linter.unusedVariables false

/-! ### what is taken -/
theorem chain_ge {ps : List Cls} (h : RB ps) (e : Evt) : ∀ (n k : Nat) (x : Int), k < ps.length → x ∈ chainC ps e n k → (k : Int) ≤ x
  | 0, k, x, hk, hx => by simp [chainC] at hx
  | n + 1, k, x, hk, hx => by
    have hf := h.first hk e
    have hge := first_ge ps k e
    have hp : ps[firstC ps k e]? = some ps[firstC ps k e] := List.getElem?_eq_getElem hf
    rcases Bool.eq_false_or_eq_true (ps[firstC ps k e].e == 3) with he | he
    · rw [chain_go hp he, List.mem_cons] at hx
      rcases hx with hx | hx
      · omega
      · have hto := h.to _ _ hp (by simpa using he)
        have hbd := (fndIC_bd ps ps[firstC ps k e].t).2
        have := chain_ge h e n (fndIC ps ps[firstC ps k e].t).toNat x (by omega) hx
        omega
    · rw [chain_stop hp he, List.mem_singleton] at hx
      omega
theorem take_stop {ps : List Cls} {e : Evt} {n k : Nat} {p : Cls} {x : Int} (hp : ps[firstC ps k e]? = some p) (h : (p.e == 3) = false) : (chainC ps e (n + 1) k).contains x = ((firstC ps k e : Int) == x) := by
  rw [chain_stop hp h]; simp only [List.contains_cons, List.contains_nil, Bool.or_false]; exact Bool.beq_comm
theorem take_behind {ps : List Cls} (hr : RB ps) {e : Evt} {n k : Nat} {x : Int} (hk : k < ps.length) (h : x ≤ (firstC ps k e : Int)) : (chainC ps e (n + 1) k).contains x = ((firstC ps k e : Int) == x) := by
  have hf := hr.first hk e
  have hp : ps[firstC ps k e]? = some ps[firstC ps k e] := List.getElem?_eq_getElem hf
  rcases Bool.eq_false_or_eq_true (ps[firstC ps k e].e == 3) with he | he
  · rw [chain_go hp he, List.contains_cons]
    have hto := hr.to _ _ hp (by simpa using he)
    have hbd := (fndIC_bd ps ps[firstC ps k e].t).2
    have hn : (chainC ps e n (fndIC ps ps[firstC ps k e].t).toNat).contains x = false := by
      rw [Bool.eq_false_iff]
      intro hc
      have := chain_ge hr e n (fndIC ps ps[firstC ps k e].t).toNat x (by omega) (by simpa using hc)
      omega
    rw [hn, Bool.or_false]; exact Bool.beq_comm
  · exact take_stop hp he
theorem take_go {ps : List Cls} {e : Evt} {n k m : Nat} {p : Cls} {x : Int} (hp : ps[firstC ps k e]? = some p) (h : (p.e == 3) = true) (hm : fndIC ps p.t = (m : Int)) (hx : (firstC ps k e : Int) < x) : (chainC ps e (n + 1) k).contains x = (chainC ps e n m).contains x := by
  rw [chain_go hp h, List.contains_cons, hm]
  have : (x == (firstC ps k e : Int)) = false := beq_eq_false_iff_ne.2 (by omega)
  rw [this, Bool.false_or]; rfl
theorem placeM_0 (A : Option Addr) (c : Nat) (ps : List Cls) (q : Evt) (w : World) (h : CTbl w A ps) (hrb : RB ps) (hc : ps.length ≤ c) :
    Calls Try.prog 44 #[.slice A ps.length c, .int .i64 0, .agg #[.int .i64 q.d, .int .i64 q.k, .string ⟨q.c.toArray⟩, .int .i64 q.a, .bool q.p, .bool q.v, .bool q.r]] w (Gives w (.int .i64 (firstC ps 0 q : Int))) := placeM_i A c 0 ps q w h hrb (Nat.lt_of_lt_of_le (by decide) hrb.lo) hc
set_option maxRecDepth 100000 in
set_option maxHeartbeats 8000000 in
theorem taken_i (A : Option Addr) (c pl : Nat) (ps : List Cls) (q : Evt) (w : World) (h : CTbl w A ps) (hrb : RB ps) (hc : ps.length ≤ c) (hpl : pl < ps.length) :
    Calls Try.prog 50 #[.slice A ps.length c, .int .i64 (pl : Int), .agg #[.int .i64 q.d, .int .i64 q.k, .string ⟨q.c.toArray⟩, .int .i64 q.a, .bool q.p, .bool q.v, .bool q.r]] w (Gives w (.bool ((chainL ps q).contains (pl : Int)))) := by
  have HT := Lib.hid h
  have HB := Lib.hid hrb
  have h12 := hrb.hi
  have ke := KeepE.new w q
  have H0 := Lib.hid (fun W (hb : Below w.heap.size w W) => placeM_0 A c ps q W (h.below hb) hrb hc)
  have HM := Lib.hid (fun k (hk : k < ps.length) W (hb : Below w.heap.size w W) => placeM_i A c k ps q W (h.below hb) hrb hk hc)
  have HP := Lib.hid (fun s W (hb : Below w.heap.size w W) => place_iC A c ps s W (h.row.below hb) (by omega))
  have EL : Hid (chainL ps q = chainC ps q 13 0) := Lib.hid rfl
  have hf0 := hrb.first (k := 0) (by omega) q
  clear h hrb
  obtain ⟨j0, hj0⟩ : ∃ j, j = firstC ps 0 q := ⟨_, rfl⟩
  rw [← hj0] at H0 hf0
  have HJ0 := Lib.hid hj0
  clear hj0
  go_enter Try.func50, Try.ntmps50
  have c0 := ke.cells.c0; have c1 := ke.cells.c1; have c2 := ke.cells.c2; have c3 := ke.cells.c3; have c4 := ke.cells.c4; have c5 := ke.cells.c5; have c6 := ke.cells.c6
  go_wp2_with fail
  refine (H0.out _ ke.bel).mono ?_
  rintro e w1 ⟨rfl, b1⟩
  replace ke := ke.step b1
  clear c0 c1 c2 c3 c4 c5 c6 b1
  go_wp2_with fail
  go_loopw [7] (fun i wr => ∃ n k j : Nat, i = .int .i64 (j : Int) ∧ j < ps.length ∧ k ≤ j ∧ 13 ≤ n + k ∧ Hid (j = firstC ps k q) ∧ Hid ((chainL ps q).contains (pl : Int) = (chainC ps q n k).contains (pl : Int)) ∧ KeepE w q wr) (fun i _ => ps.length - (intOf i).toNat)
  case atStart => exact ⟨13, 0, j0, rfl, hf0, Nat.zero_le _, by omega, HJ0, Lib.hid (by rw [EL.out]), ke⟩
  case round =>
    clear ke H0 HJ0 EL hf0
    obtain ⟨n, k, j, rfl, hj, hkj, hn, hjj, hc0, ke⟩ := hrel
    obtain ⟨n, rfl⟩ : ∃ m, n = m + 1 := ⟨n - 1, by omega⟩
    obtain ⟨b, off, p, rfl, hl, hp, h4⟩ := (HT.out.below ke.bel).row.at hj
    have hp2 : Hid (ps[firstC ps k q]? = some p) := Lib.hid (by rw [← hjj.out]; exact hp.out)
    by_cases hlt : j < pl
    · rcases Bool.eq_false_or_eq_true (p.e == 3) with he | he
      · have hto := HB.out.to j p hp.out (by simpa using he)
        have hbd := (fndIC_bd ps p.t).2
        obtain ⟨m, hm⟩ : ∃ m : Nat, fndIC ps p.t = (m : Int) := ⟨(fndIC ps p.t).toNat, by omega⟩
        have hmp : m < ps.length := by omega
        have hjm : j < m := by omega
        have EC : Hid ((chainL ps q).contains (pl : Int) = (chainC ps q n m).contains (pl : Int)) := Lib.hid (by rw [hc0.out]; exact take_go hp2.out he hm (by rw [← hjj.out]; omega))
        obtain ⟨j2, hj2⟩ : ∃ j2, j2 = firstC ps m q := ⟨_, rfl⟩
        have hj2l : j2 < ps.length := by rw [hj2]; exact HB.out.first hmp q
        have hmj2 : m ≤ j2 := by rw [hj2]; exact first_ge ps m q
        have QM := Lib.hid (fun z : Sub (Bel wr) => (HM.out m hmp z.w (belowGo ke.bel z.h)).mono fun e w' h => (⟨by rw [hj2]; exact h.1, ⟨w', Bel.step z h.2⟩, rfl⟩ : e = .returned (.int .i64 (j2 : Int)) ∧ ∃ z2 : Sub (Bel wr), w' = z2.w))
        have QP := Lib.hid (fun z : Sub (Bel wr) => (HP.out p.t z.w (belowGo ke.bel z.h)).mono fun e w' h => (⟨by rw [← hm]; exact h.1, ⟨w', Bel.step z h.2⟩, rfl⟩ : e = .returned (.int .i64 (m : Int)) ∧ ∃ z2 : Sub (Bel wr), w' = z2.w))
        have HJ2 := Lib.hid hj2
        have HK := Lib.hid (fun z : Sub (Bel wr) => ke.step z.h)
        have q6 : ∀ z : Sub (Bel wr), z.w.cell? ⟨b, off + j * 7 + 6, none⟩ = some (.string ⟨p.t.toArray⟩) := fun z => (h4.below hl z.h).c6
        have c5 := h4.c5
        have r0 : ∀ z : Sub (Bel wr), z.w.cell? ⟨w.heap.size, 0, none⟩ = some (.int .i64 q.d) := fun z => (ke.step z.h).cells.c0
        have r1 : ∀ z : Sub (Bel wr), z.w.cell? ⟨w.heap.size, 1, none⟩ = some (.int .i64 q.k) := fun z => (ke.step z.h).cells.c1
        have r2 : ∀ z : Sub (Bel wr), z.w.cell? ⟨w.heap.size, 2, none⟩ = some (.string ⟨q.c.toArray⟩) := fun z => (ke.step z.h).cells.c2
        have r3 : ∀ z : Sub (Bel wr), z.w.cell? ⟨w.heap.size, 3, none⟩ = some (.int .i64 q.a) := fun z => (ke.step z.h).cells.c3
        have r4 : ∀ z : Sub (Bel wr), z.w.cell? ⟨w.heap.size, 4, none⟩ = some (.bool q.p) := fun z => (ke.step z.h).cells.c4
        have r5 : ∀ z : Sub (Bel wr), z.w.cell? ⟨w.heap.size, 5, none⟩ = some (.bool q.v) := fun z => (ke.step z.h).cells.c5
        have r6 : ∀ z : Sub (Bel wr), z.w.cell? ⟨w.heap.size, 6, none⟩ = some (.bool q.r) := fun z => (ke.step z.h).cells.c6
        clear hc0 hp hp2 hjj hto hbd hm hj2 h4 ke
        go_wp2_with fail
        refine region_held (Bel wr) (by kernel_rfl) (by kernel_rfl) (Bel.drew wr) ?_
        repeat (go_big_quiet_step ((first | rfl | (go_at_call 36; exact QP.out _) | (go_at_call 44; exact QM.out _))))
        refine wpQuiet_nil ?_
        rintro _ ⟨y, rfl⟩
        go_wp2_with fail
        go_roundw
        case rel => exact ⟨n, m, j2, rfl, hj2l, hmj2, by omega, HJ2, EC, HK.out y⟩
        case measure => simp [intOf]; omega
      · have E : Hid ((chainL ps q).contains (pl : Int) = ((j : Int) == (pl : Int))) := Lib.hid (by rw [hc0.out, take_stop hp2.out he, ← hjj.out])
        have c5 := h4.c5
        have hbw := Lib.hid ke.bel
        clear hc0 hp hp2 hjj h4 ke HM HP
        go_wp2_with fail
        go_ret
        exact ⟨by rw [E.out] <;> rfl, hbw.out⟩
    · have E : Hid ((chainL ps q).contains (pl : Int) = ((j : Int) == (pl : Int))) := Lib.hid (by rw [hc0.out, take_behind HB.out (by omega) (by rw [← hjj.out]; omega), ← hjj.out])
      have hbw := Lib.hid ke.bel
      have z0 : decide ((j : Int) < (pl : Int)) = false := decide_eq_false (by omega)
      clear hc0 hp hp2 hjj h4 ke HM HP
      go_wp2_with fail
      go_ret
      exact ⟨by rw [E.out] <;> rfl, hbw.out⟩
/-! ### all shapes of events -/
def shapeAt (i : Nat) : Evt := ⟨0, ((i / 8 : Nat) : Int), [], 0, i / 4 % 2 == 1, i / 2 % 2 == 1, i % 2 == 1⟩
def shp (n : Nat) : List Evt := (List.range n).map shapeAt
theorem shp_len (n : Nat) : (shp n).length = n := by simp [shp]
theorem shp_succ (n : Nat) : shp (n + 1) = shp n ++ [shapeAt n] := by simp [shp, List.range_succ]
theorem shape_eq (k a b c : Nat) (ha : a < 2) (hb : b < 2) (hc : c < 2) : shapeAt (k * 8 + a * 4 + b * 2 + c) = ⟨0, (k : Int), [], 0, a == 1, b == 1, c == 1⟩ := by
  unfold shapeAt
  rw [show (k * 8 + a * 4 + b * 2 + c) / 8 = k by omega, show (k * 8 + a * 4 + b * 2 + c) / 4 % 2 = a by omega, show (k * 8 + a * 4 + b * 2 + c) / 2 % 2 = b by omega, show (k * 8 + a * 4 + b * 2 + c) % 2 = c by omega]
/-- The list as far as it is laid, the two values beside it. -/
structure Shp (w : World) (n : Nat) (v : Value) (W : World) : Prop where
  own : W.ownsRow w.heap.size 41 7 v n ((shp n).flatMap Evt.cells)
  blk : W.heap[w.heap.size + 1]? = some (.cells #[.bool false, .bool true] 85 (0, 0))
  sep : v.ownBlock ≠ some (w.heap.size + 1)
  bel : Below w.heap.size w W
theorem twoSz : (Try.prog.info? 85).map (·.size) = some 2 := by kernel_rfl
theorem Shp.push {w W w' : World} {n : Nat} {v v' : Value} (h : Shp w n v W) (ho : w'.ownsRow w.heap.size 41 7 v' (n + 1) ((shp n).flatMap Evt.cells ++ Evt.cells (shapeAt n))) (hg : W.grownBy w' v.ownBlock) (hk : v'.ownBlock = v.ownBlock ∨ ∃ k, W.heap.size ≤ k ∧ v'.ownBlock = some k) : Shp w (n + 1) v' w' := by
  have hl := lt_some h.blk
  refine ⟨?_, ?_, ?_, ?_⟩
  · rw [shp_succ, List.flatMap_append]; simpa using ho
  · rw [← h.blk]; exact hg.block _ hl (fun e => h.sep e.symm)
  · rcases hk with hk | ⟨k, h1, h2⟩
    · rw [hk]; exact h.sep
    · rw [h2]; intro e; injection e with e; omega
  · exact h.bel.grown hg (h.bel.size) (fun k hk => (h.own.lt k hk).1)
theorem idx_two (a : Nat) (ha : a < 2) (w : World) : (Instr.index 85 (.agg #[.bool false, .bool true]) (.int .i64 (a : Int))).run Try.prog w = .ok (.bool (a == 1)) w := by
  rcases (by omega : a = 0 ∨ a = 1) with rfl | rfl
  · kernel_rfl
  · kernel_rfl
set_option maxRecDepth 100000 in
set_option maxHeartbeats 8000000 in
theorem shapes_i (w : World) : Calls Try.prog 48 #[] w (NewEvts w (shp 56)) := by
  obtain ⟨i0, hi, hz0, hz1, hz2⟩ := info_parts evtInfo
  have o1 := heap_alloc2_new w (.cells #[] 41) (.cells #[.bool false, .bool false] 85)
  have B := belowGo (below_alloc w (.cells #[] 41)) (below_alloc _ (.cells #[.bool false, .bool false] 85))
  have hs0 : Shp w 0 (.slice (some ⟨w.heap.size, 0, none⟩) 0 0) (((w.alloc (.cells #[] 41)).alloc (.cells #[.bool false, .bool false] 85)).setRow (w.heap.size + 1) #[.bool false, .bool true]) := by
    refine ⟨?_, heap_setRow_sameC o1, by simp [Value.ownBlock], below_setRowC B (Nat.le_succ _)⟩
    have := (World.ownsRow_made w (e := 41) (size := 7) (base := w.heap.size) #[] 0 (Nat.le_refl _) (by decide) (by simp)).alloc (.cells #[.bool false, .bool false] 85)
    rcases this with ⟨h1, h2⟩
    refine ⟨h1, ?_⟩
    rcases h2 with h2 | ⟨g, cap, cur, e, hb, hg, r⟩
    · exact .inl h2
    · refine .inr ⟨g, cap, cur, e, hb, ?_, r⟩
      injection e with e; injection e with e; injection e with e
      rw [heap_setRow_otherC (by omega)]; exact hg
  have HS0 := Lib.hid hs0
  have HSE := Lib.hid shape_eq
  clear B hs0
  go_enter Try.func48, Try.ntmps48
  go_wp2_with (refine wpList_store_row rfl 85 (.tmp 2) (.tmp 11) rfl (w.heap.size + 1) #[.bool false, .bool true] rfl rfl 85 #[.bool false, .bool false] o1 twoSz rfl (by simp [Value.oneCell']) ?_)
  clear o1
  go_loopw [1, 12] (fun v i wr => ∃ k : Nat, k ≤ 7 ∧ i = .int .i64 (k : Int) ∧ Hid (Shp w (k * 8) v wr)) (fun _ i _ => 7 - (intOf i).toNat)
  case atStart => exact ⟨0, by omega, rfl, HS0⟩
  case round =>
    clear HS0
    obtain ⟨k, hk, rfl, HS⟩ := hrel
    by_cases hlt : k < 7
    · have hbox := HS.out.blk
      go_wp2_with (refine wpList_load_row rfl 85 (.tmp 2) rfl (w.heap.size + 1) rfl 85 #[.bool false, .bool true] (0, 0) _ hbox Try.underlying85 rfl twoSz ?_)
      clear hbox
      obtain ⟨wA, hwA⟩ : ∃ x, x = wr := ⟨_, rfl⟩
      subst hwA
      go_loopw [1, 16] (fun v i wr => ∃ a : Nat, a ≤ 2 ∧ i = .int .i64 (a : Int) ∧ Hid (Shp w (k * 8 + a * 4) v wr)) (fun _ i _ => 2 - (intOf i).toNat)
      case atStart => exact ⟨0, by omega, rfl, HS⟩
      case round =>
        clear HS
        obtain ⟨a, ha, rfl, HS⟩ := hrel
        by_cases hla : a < 2
        · have hbox := HS.out.blk
          have ia := idx_two a hla
          go_wp2_with (refine wpList_load_row rfl 85 (.tmp 2) rfl (w.heap.size + 1) rfl 85 #[.bool false, .bool true] (0, 0) _ hbox Try.underlying85 rfl twoSz ?_)
          clear hbox ia
          obtain ⟨wB, hwB⟩ : ∃ x, x = wr := ⟨_, rfl⟩
          subst hwB
          go_loopw [1, 20] (fun v i wr => ∃ b : Nat, b ≤ 2 ∧ i = .int .i64 (b : Int) ∧ Hid (Shp w (k * 8 + a * 4 + b * 2) v wr)) (fun _ i _ => 2 - (intOf i).toNat)
          case atStart => exact ⟨0, by omega, rfl, HS⟩
          case round =>
            clear HS
            obtain ⟨b, hb, rfl, HS⟩ := hrel
            by_cases hlb : b < 2
            · have hbox := HS.out.blk
              have ib := idx_two b hlb
              go_wp2_with (refine wpList_load_row rfl 85 (.tmp 2) rfl (w.heap.size + 1) rfl 85 #[.bool false, .bool true] (0, 0) _ hbox Try.underlying85 rfl twoSz ?_)
              clear hbox ib
              obtain ⟨wC, hwC⟩ : ∃ x, x = wr := ⟨_, rfl⟩
              subst hwC
              go_loopw [1, 24] (fun v i wr => ∃ c : Nat, c ≤ 2 ∧ i = .int .i64 (c : Int) ∧ Hid (Shp w (k * 8 + a * 4 + b * 2 + c) v wr)) (fun _ i _ => 2 - (intOf i).toNat)
              case atStart => exact ⟨0, by omega, rfl, HS⟩
              case round =>
                clear HS
                obtain ⟨c, hc, rfl, HS⟩ := hrel
                by_cases hlc : c < 2
                · have ic := idx_two c hlc
                  have hown := HS.out.own
                  have hsz := HS.out.bel.size
                  have HP := Lib.hid (fun v' w' => HS.out.push (v' := v') (w' := w'))
                  have HE := Lib.hid (HSE.out k a b c hla hlb hlc)
                  obtain ⟨O, q, rfl⟩ := own_form hown
                  go_wp2_with (at_builtin; refine wpList_push2 _ rfl (.tmp 27) (.tmp 33) 65 rfl w.heap.size 41 i0 _ 7 48 Try.underlying65 hi hz0 hz1 hz2 rfl (by decide) _ (k * 8 + a * 4 + b * 2 + c) _ rfl hown (Evt.cells ⟨0, (k : Int), [], 0, a == 1, b == 1, c == 1⟩) rfl (by simp [Evt.cells, Value.oneCell']) rfl (by unfold maxLen; omega) (by omega) hsz ?_; intro v' w' hown' hg' hk')
                  go_roundw
                  case rel => exact ⟨c + 1, by omega, by go_num, Lib.hid (HP.out _ _ (by rw [HE.out]; exact hown') hg' hk')⟩
                  case measure => simp [intOf]; omega
                · obtain rfl : c = 2 := by omega
                  go_wp2_with fail
                  go_roundw
                  case rel => exact ⟨b + 1, by omega, by go_num, by rw [show k * 8 + a * 4 + (b + 1) * 2 = k * 8 + a * 4 + b * 2 + 2 by omega]; exact HS⟩
                  case measure => simp [intOf]; omega
            · obtain rfl : b = 2 := by omega
              go_wp2_with fail
              go_roundw
              case rel => exact ⟨a + 1, by omega, by go_num, by rw [show k * 8 + (a + 1) * 4 = k * 8 + a * 4 + 2 * 2 by omega]; exact HS⟩
              case measure => simp [intOf]; omega
        · obtain rfl : a = 2 := by omega
          go_wp2_with fail
          go_roundw
          case rel => exact ⟨k + 1, by omega, by go_num, by rw [show (k + 1) * 8 = k * 8 + 2 * 4 by omega]; exact HS⟩
          case measure => simp [intOf]; omega
    · obtain rfl : k = 7 := by omega
      have hown := HS.out.own
      obtain ⟨O, q, rfl⟩ := own_form hown
      clear hown
      go_wp2_with fail
      go_ret
      exact ⟨O, q, by rw [shp_len] <;> rfl, by rw [shp_len]; exact HS.out.own, HS.out.bel⟩
/-! ### IsReachable -/
theorem clo_taken (q : Evt) (A : Option Addr) (c pl : Nat) (ps : List Cls) (g0 g1 : Nat) (w : World) (h : CTbl w A ps) (hrb : RB ps) (hc : ps.length ≤ c) (hpl : pl < ps.length)
    (hc0 : w.cell? ⟨g0, 0, none⟩ = some (.slice A ps.length c)) (hg0 : g0 < w.heap.size) (hc1 : w.cell? ⟨g1, 0, none⟩ = some (.int .i64 (pl : Int))) (hg1 : g1 < w.heap.size) :
    Calls Try.prog 49 #[.agg #[.int .i64 q.d, .int .i64 q.k, .string ⟨q.c.toArray⟩, .int .i64 q.a, .bool q.p, .bool q.v, .bool q.r], .pointer (some ⟨g0, 0, none⟩), .pointer (some ⟨g1, 0, none⟩)] w (Gives w (.bool ((chainL ps q).contains (pl : Int)))) := by
  have ke := KeepE.new w q
  have d0 := (ke.bel.cell (p := ⟨g0, 0, none⟩) hg0).trans hc0
  have d1 := (ke.bel.cell (p := ⟨g1, 0, none⟩) hg1).trans hc1
  have HT := Lib.hid (taken_i A c pl ps q _ (h.below ke.bel) hrb hc hpl)
  have HB := Lib.hid ke.bel
  clear h hrb ke
  generalize (chainL ps q).contains (pl : Int) = b at *
  go_enter Try.func49, Try.ntmps49
  go_wp2_with fail
  refine HT.out.mono ?_
  rintro e w1 ⟨rfl, b1⟩
  go_wp2_with fail
  go_ret
  exact ⟨rfl, belowGo HB.out b1⟩
set_option maxHeartbeats 2000000 in
theorem idxTake (f : Evt → Bool) (A : Option Addr) (c : Nat) (ps : List Evt) (g0 g1 : Nat) (w : World) (hR : EvtR w A ps) (hn : ps.length ≤ 1000000000)
    (hf : ∀ (p : Evt) (W : World), p ∈ ps → Below w.heap.size w W → Calls Try.prog 49 #[.agg #[.int .i64 p.d, .int .i64 p.k, .string ⟨p.c.toArray⟩, .int .i64 p.a, .bool p.p, .bool p.v, .bool p.r], .pointer (some ⟨g0, 0, none⟩), .pointer (some ⟨g1, 0, none⟩)] W (Gives W (.bool (f p)))) :
    Calls Try.prog 64 #[.slice A ps.length c, .func (.func 49) #[] #[.pointer (some ⟨g0, 0, none⟩), .pointer (some ⟨g1, 0, none⟩)]] w (Gives w (.int .i64 (idxI f ps))) := by
  have HF := Lib.hid hf
  clear hf
  go_enter Try.func64, Try.ntmps64
  go_wp2_with fail
  go_loopw [8] (fun i wr => ∃ k : Nat, k ≤ ps.length ∧ i = .int .i64 k ∧ Hid (∀ (j : Nat) (q : Evt), j < k → ps[j]? = some q → f q = false) ∧ Below w.heap.size w wr) (fun i _ => ps.length - (intOf i).toNat)
  case atStart => exact ⟨0, Nat.zero_le _, rfl, Lib.hid fun j q hj => by omega, Below.refl _ _⟩
  case round =>
    obtain ⟨k, hk, rfl, hno, hb⟩ := hrel
    by_cases hlt : k < ps.length
    · obtain ⟨b, off, p, rfl, hl, hp, h4⟩ := (hR.below hb).at hlt
      have c0 := h4.c0; have c1 := h4.c1; have c2 := h4.c2; have c3 := h4.c3; have c4 := h4.c4; have c5 := h4.c5; have c6 := h4.c6
      have HC := Lib.hid (HF.out p wr (List.mem_of_getElem? hp.out) hb)
      obtain ⟨B, hB⟩ : ∃ B, f p = B := ⟨_, rfl⟩
      rw [hB] at HC
      cases B
      · have HN : Hid (∀ (j : Nat) (q : Evt), j < k + 1 → ps[j]? = some q → f q = false) := Lib.hid fun j q hj hq => by
          rcases Nat.lt_or_ge j k with h1 | h1
          · exact hno.out j q h1 hq
          · obtain rfl : j = k := by omega
            rw [hp.out] at hq; rw [← Option.some.inj hq]; exact hB
        clear hp hno h4 hR HF hB
        go_wp2_with fail
        refine HC.out.mono ?_
        rintro e w1 ⟨rfl, b1⟩
        go_wp2_with fail
        go_roundw
        case rel => exact ⟨k + 1, by omega, by go_num, HN, belowGo hb b1⟩
        case measure => simp [intOf]; omega
      · have E : Hid (idxI f ps = (k : Int)) := Lib.hid (idxI_some hp.out hB hno.out)
        clear hp hno h4 hR HF hB
        go_wp2_with fail
        refine HC.out.mono ?_
        rintro e w1 ⟨rfl, b1⟩
        go_wp2_with fail
        go_ret
        exact ⟨by rw [E.out] <;> rfl, belowGo hb b1⟩
    · have E : Hid (idxI f ps = -1) := Lib.hid (idxI_none fun j q hq => hno.out j q (by have := (List.getElem?_eq_some_iff.1 hq).1; omega) hq)
      clear hno hR HF
      go_wp2_with fail
      go_ret
      exact ⟨by rw [E.out] <;> rfl, hb⟩
theorem idxI_any {T : Type} (f : T → Bool) (ps : List T) : decide (0 ≤ idxI f ps) = ps.any f := by
  unfold idxI
  cases h : ps.findIdx? f with
  | none =>
    rw [List.findIdx?_eq_none_iff] at h
    have : ps.any f = false := by rw [List.any_eq_false]; intro x hx; rw [h x hx]; exact Bool.false_ne_true
    rw [this]; decide
  | some k =>
    obtain ⟨hl, hk, _⟩ := List.findIdx?_eq_some_iff_getElem.1 h
    have : ps.any f = true := by rw [List.any_eq_true]; exact ⟨_, List.getElem_mem hl, hk⟩
    rw [this]; simp
theorem idxI_neg {T : Type} (f : T → Bool) (ps : List T) : idxI f ps = -1 ∨ ∃ k : Nat, idxI f ps = (k : Int) ∧ k < ps.length := by
  unfold idxI
  cases h : ps.findIdx? f with
  | none => exact .inl rfl
  | some k => exact .inr ⟨k, rfl, (List.findIdx?_eq_some_iff_getElem.1 h).1⟩
theorem contE_i (f : Evt → Bool) (A : Option Addr) (c : Nat) (ps : List Evt) (v : Value) (b : Bool) (w : World) (hb : decide (0 ≤ idxI f ps) = b)
    (h : Calls Try.prog 64 #[.slice A ps.length c, v] w (Gives w (.int .i64 (idxI f ps)))) :
    Calls Try.prog 47 #[.slice A ps.length c, v] w (Gives w (.bool b)) := by
  have HI := Lib.hid h
  clear h
  generalize idxI f ps = r at *
  go_enter Try.func47, Try.ntmps47
  go_wp2_with fail
  refine HI.out.mono ?_
  rintro e w1 ⟨rfl, b1⟩
  go_wp2_with fail
  go_ret
  exact ⟨by rw [← hb] <;> rfl, b1⟩
theorem shape_bits : ∀ i, i < 56 → shapeAt i = evtC (i / 8) (i / 4 % 2 + 2 * (i / 2 % 2) + 4 * (i % 2)) := by decide
theorem bits_shape : ∀ k, k < 7 → ∀ j, j < 8 → evtC k j = shapeAt (k * 8 + j % 2 * 4 + j / 2 % 2 * 2 + j / 4) := by decide
theorem any_shp (ps : List Cls) (n : Int) : (shp 56).any (fun e => (chainL ps e).contains n) = anyHit ps n 7 := by
  rw [Bool.eq_iff_iff]
  unfold shp
  rw [List.any_map, List.any_eq_true]
  constructor
  · rintro ⟨i, hi, h⟩
    rw [List.mem_range] at hi
    refine any_hit (k := i / 8) (j := i / 4 % 2 + 2 * (i / 2 % 2) + 4 * (i % 2)) (by omega) (by omega) ?_
    unfold hitC
    rw [← shape_bits i hi]; exact h
  · intro h
    unfold anyHit rowHit at h
    rw [List.any_eq_true] at h
    obtain ⟨k, hk, h⟩ := h
    rw [List.any_eq_true] at h
    obtain ⟨j, hj, h⟩ := h
    rw [List.mem_range] at hk hj
    refine ⟨k * 8 + j % 2 * 4 + j / 2 % 2 * 2 + j / 4, List.mem_range.2 (by omega), ?_⟩
    unfold hitC at h
    rw [bits_shape k hk j hj] at h; exact h
set_option maxRecDepth 100000 in
set_option maxHeartbeats 4000000 in
theorem ir_i (A : Option Addr) (c : Nat) (ps : List Cls) (s : List UInt8) (w : World) (h : CTblC w A c ps) :
    Calls Try.prog 27 #[.slice A ps.length c, .string ⟨s.toArray⟩] w (Gives w (.tuple #[.bool (irR ps s).1, .int .i64 (irR ps s).2])) := by
  have hcap := h.cap
  replace h := h.tbl
  have b0 := below_alloc w (.cells #[.slice A ps.length c] 32)
  have o0 := heap_alloc_new w (.cells #[.slice A ps.length c] 32)
  have HF := Lib.hid (fc_i A c ps s _ (h.below b0))
  have hn := h.len
  have HT := Lib.hid (fun W (hb : Below w.heap.size w W) => h.below hb)
  have HB := Lib.hid b0
  clear h
  rcases Bool.eq_false_or_eq_true (rbB ps) with hr | hr
  · by_cases hf : fndIC ps s < 0
    · have E := Lib.hid (irR_none hr hf)
      rw [fcR_none hr hf] at HF
      clear hr hf b0 o0
      go_enter Try.func27, Try.ntmps27
      go_wp2_with fail
      refine HF.out.mono ?_
      rintro e w1 ⟨rfl, b1⟩
      have t1 := Lib.hid (belowGo (belowGo HB.out b1) (below_alloc w1 (.cells #[.int .i64 0] 2)))
      go_wp2_with fail
      go_ret2
      exact ⟨by rw [E.out] <;> rfl, t1.out⟩
    · have E := Lib.hid (irR_ok hr hf)
      rw [fcR_ok hr hf] at HF
      have hbd := (fndIC_bd ps s).2
      have HA := Lib.hid (fun n => any_shp ps n)
      obtain ⟨pl, hpl⟩ : ∃ pl : Nat, fndIC ps s = (pl : Int) := ⟨(fndIC ps s).toNat, by omega⟩
      rw [hpl] at HF E hbd
      have hplt : pl < ps.length := by omega
      have hrb := Lib.hid (rb_of hr)
      clear hr hf hpl hbd
      go_enter Try.func27, Try.ntmps27
      go_wp2_with fail
      refine HF.out.mono ?_
      rintro e w1 ⟨rfl, b1⟩
      have b2 := below_alloc w1 (.cells #[.int .i64 (pl : Int)] 2)
      have o2 := heap_alloc_new w1 (.cells #[.int .i64 (pl : Int)] 2)
      have o1 := (b2.block _ (lt_some ((b1.block _ (lt_some o0)).trans o0))).trans ((b1.block _ (lt_some o0)).trans o0)
      have t2 := Lib.hid (belowGo (belowGo HB.out b1) b2)
      have HO1 := Lib.hid o1
      have HO2 := Lib.hid o2
      clear b1 b2 o0 o1 o2 b0 HF
      go_wp2_with fail
      refine (shapes_i _).mono ?_
      rintro e w3 ⟨B, d, rfl, oe, b3⟩
      have k1 := (b3.block _ (lt_some HO1.out)).trans HO1.out
      have k2 := (b3.block _ (lt_some HO2.out)).trans HO2.out
      have t3 := belowGo t2.out b3
      have HI := idxTake (fun e => (chainL ps e).contains (pl : Int)) B d (shp 56) w.heap.size w1.heap.size w3 oe.row (by rw [shp_len]; omega)
        (fun p W _ hb => clo_taken p A c pl ps w.heap.size w1.heap.size W (HT.out W (belowGo t3 hb)) hrb.out hcap hplt
          (by rw [cell_of_row _ _ _ _ _ _ ((hb.block _ (lt_some k1)).trans k1)]; rfl) (Nat.lt_of_lt_of_le (lt_some k1) hb.size)
          (by rw [cell_of_row _ _ _ _ _ _ ((hb.block _ (lt_some k2)).trans k2)]; rfl) (Nat.lt_of_lt_of_le (lt_some k2) hb.size))
      have HC := Lib.hid (contE_i _ B d (shp 56) _ _ w3 ((idxI_any _ _).trans (HA.out _)) HI)
      rw [shp_len] at HC
      generalize anyHit ps (pl : Int) 7 = v at *
      clear HI k1 k2 HO1 HO2 oe b3 t2 HA
      go_wp2_with fail
      refine HC.out.mono ?_
      rintro e w4 ⟨rfl, b4⟩
      go_wp2_with fail
      go_ret2
      exact ⟨by rw [E.out] <;> rfl, belowGo t3 b4⟩
  · have E := Lib.hid (@irR_no ps s hr)
    rw [fcR_no hr] at HF
    clear hr b0 o0
    go_enter Try.func27, Try.ntmps27
    go_wp2_with fail
    refine HF.out.mono ?_
    rintro e w1 ⟨rfl, b1⟩
    have t1 := Lib.hid (belowGo (belowGo HB.out b1) (below_alloc w1 (.cells #[.int .i64 0] 2)))
    go_wp2_with fail
    go_ret2
    exact ⟨by rw [E.out] <;> rfl, t1.out⟩
end Go.Proofs.Ytmhlkbocejnpoaa
