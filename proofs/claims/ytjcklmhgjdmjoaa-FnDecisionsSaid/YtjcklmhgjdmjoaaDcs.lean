/- spec.l11Decide: a decision out of its chain. -/
import Derived.Test.YtjcklmhgjdmjoaaDec
import Derived.Test.YtjcklmhgjdmjoaaMRate
namespace Go.Proofs.Ytjcklmhgjdmjoaa
open Go.ChangeShapes Go.WideShapes Go.ChangeAt Go.RowKit
set_option linter.unusedVariables false

/-- A decision of the call's own. -/
def NewDec (w : World) (x : Dcn) (e : Ending) (w' : World) : Prop :=
  ∃ A c, e = .returned (.agg #[.int .i64 x.y, .slice A x.cs.length c]) ∧ Ost w' w.heap.size A x.cs.length c x.cs ∧ Below w.heap.size w w'
/-- The result's box is written. -/
theorem dbox_done {W : World} {k : Nat} {a b : Value} {t : TypeId} (h : W.heap[k]? = some (.cells #[a, b] t (0, 0))) (u v : Value) :
    ∃ W', ((W.setCell ⟨k, 0, none⟩ u).setCell ⟨k, 1, none⟩ v) = W' ∧ W'.cell? ⟨k, 0, none⟩ = some u ∧ W'.cell? ⟨k, 1, none⟩ = some v ∧ (∀ M, M ≤ k → Below M W W') ∧
      ∀ (base : Nat) (A : Option Addr) (n c : Nat) (ws : List (List UInt8)), k < base → Ost W base A n c ws → Ost W' base A n c ws := by
  have h1 : (W.setCell ⟨k, 0, none⟩ u).heap[k]? = some (.cells #[u, b] t (0, 0)) := by simp [World.setCell, Array.getElem?_modify, h]
  have h2 : ((W.setCell ⟨k, 0, none⟩ u).setCell ⟨k, 1, none⟩ v).heap[k]? = some (.cells #[u, v] t (0, 0)) := by
    generalize W.setCell ⟨k, 0, none⟩ u = W1 at h1 ⊢
    simp [World.setCell, Array.getElem?_modify, h1]
  exact ⟨_, rfl, by rw [cell_of_row _ _ _ _ _ _ h2]; rfl, by rw [cell_of_row _ _ _ _ _ _ h2]; rfl, fun M hM => ((Below.refl M W).setCell hM _).setCell hM _, fun base A n c ws hk ho => ownsRow_setCell_below (ownsRow_setCell_below ho (a := ⟨k, 0, none⟩) hk _) (a := ⟨k, 1, none⟩) hk _⟩
set_option maxRecDepth 100000 in
set_option maxHeartbeats 8000000 in
theorem dec_s (A : Option Addr) (c : Nat) (ps : List Cls) (q : Evt) (w : World) (h : CTbl w A ps) (hrb : RB ps) :
    Calls Try.prog 73 #[.slice A ps.length c, .agg #[.int .i64 q.d, .int .i64 q.k, .string ⟨q.c.toArray⟩, .int .i64 q.a, .bool q.p, .bool q.v, .bool q.r]] w (NewDec w (decE ps q)) := by
  obtain ⟨i0, hi, hz0, hz1, hz2⟩ := info_parts strInfo
  have h12 := hrb.hi
  have h1 := hrb.lo
  have ke := KeepE.new w q
  have bz := below_alloc (w.alloc (.cells #[.int .i64 q.d, .int .i64 q.k, .string ⟨q.c.toArray⟩, .int .i64 q.a, .bool q.p, .bool q.v, .bool q.r] 26)) (.cells #[.int .i64 0, .slice none 0 0] 31)
  have rz := heap_alloc_new (w.alloc (.cells #[.int .i64 q.d, .int .i64 q.k, .string ⟨q.c.toArray⟩, .int .i64 q.a, .bool q.p, .bool q.v, .bool q.r] 26)) (.cells #[.int .i64 0, .slice none 0 0] 31)
  have k1 := ke.step bz
  have hs0 : (w.alloc (.cells #[.int .i64 q.d, .int .i64 q.k, .string ⟨q.c.toArray⟩, .int .i64 q.a, .bool q.p, .bool q.v, .bool q.r] 26)).heap.size = w.heap.size + 1 := by simp
  rw [hs0] at rz
  obtain ⟨wz, hwz⟩ : ∃ x, (w.alloc (.cells #[.int .i64 q.d, .int .i64 q.k, .string ⟨q.c.toArray⟩, .int .i64 q.a, .bool q.p, .bool q.v, .bool q.r] 26)).alloc (.cells #[.int .i64 0, .slice none 0 0] 31) = x := ⟨_, rfl⟩
  rw [hwz] at rz k1
  have HC := Lib.hid (chain_s A c ps q wz (h.below k1.bel) hrb)
  have HT := Lib.hid (fun W (b : Below w.heap.size w W) => h.below b)
  have HAt := Lib.hid (fun i hi => @chainL_at ps hrb q i hi)
  have HLN := Lib.hid (chainL_pos hrb q)
  obtain ⟨xs, j, p, e1, e2, e3⟩ := chain_last hrb q 13 0 (by omega) (by omega)
  have hj := (List.getElem?_eq_some_iff.1 e2).1
  have ER := Lib.hid (resC_of e1 e2)
  have EL : Hid (chainL ps q = xs ++ [(j : Int)]) := Lib.hid e1
  have EP : Hid (ps[j]? = some p) := Lib.hid e2
  have c0 := k1.cells.c0; have c1 := k1.cells.c1; have c2 := k1.cells.c2; have c3 := k1.cells.c3; have c4 := k1.cells.c4; have c5 := k1.cells.c5; have c6 := k1.cells.c6
  have HB1 := Lib.hid k1.bel
  have RZ := Lib.hid rz
  clear h hrb ke bz rz k1 e1 e2 e3 hs0
  go_enter Try.func73, Try.ntmps73
  go_wp2_with fail
  try rw [hwz]
  refine HC.out.mono ?_
  rintro e w1 ⟨C, cc, rfl, o1, b1⟩
  have hb1 := belowGo HB1.out b1
  have rz1 : w1.heap[w.heap.size + 1]? = _ := (b1.block _ (lt_some RZ.out)).trans RZ.out
  have CH := Lib.hid (fun W (b : Below w1.heap.size w1 W) => o1.ir.below b)
  have TB := Lib.hid (fun W (b : Below w1.heap.size w1 W) => (HT.out W (belowGo hb1 b)).row)
  have RZ1 := Lib.hid (fun W (b : Below w1.heap.size w1 W) => show W.heap[w.heap.size + 1]? = _ from (b.block _ (lt_some rz1)).trans rz1)
  have HBW := Lib.hid (fun W (b : Below w1.heap.size w1 W) => belowGo hb1 b)
  have HLT := Lib.hid (lt_some rz1)
  clear c0 c1 c2 c3 c4 c5 c6 HC b1 o1 hb1 rz1 RZ HB1 hwz
  have M0 : Ost (w1.alloc (.cells #[] 9)) w1.heap.size (some ⟨w1.heap.size, 0, none⟩) 0 0 [] := World.ownsRow_made w1 #[] 0 (Nat.le_refl _) (by decide) (by simp)
  go_wp2_with fail
  go_loopw [6, 7] (fun v i wr => ∃ (k : Nat) (B : Option Addr) (d : Nat), k ≤ (chainL ps q).length ∧ i = .int .i64 k ∧ v = .slice B k d ∧ Ost wr w1.heap.size B k d ((decL ps q).take k) ∧ Below w1.heap.size w1 wr) (fun _ i _ => (chainL ps q).length - (intOf i).toNat)
  case atStart => exact ⟨0, _, 0, Nat.zero_le _, rfl, rfl, by simpa using M0, below_alloc _ _⟩
  case round =>
    clear M0
    obtain ⟨k, B, d, hk, rfl, rfl, hown, hb⟩ := hrel
    have hL13 := HLN.out.2
    by_cases hlt : k < (chainL ps q).length
    · obtain ⟨j2, p2, f1, f2, f3, f4, f5⟩ := HAt.out k hlt
      obtain ⟨g, o, x, hC, hcx, hx⟩ := (CH.out wr hb).at (k := k) hlt
      have hx2 : x = (j2 : Int) := by have a := hx.out; rw [f1] at a; exact (Option.some.inj a).symm
      subst hx2
      obtain ⟨b, off, p3, hA, hl, hp, h4⟩ := (TB.out wr hb).at f4
      obtain rfl : p2 = p3 := by have a := hp.out; rw [f2] at a; exact Option.some.inj a
      subst hA hC
      have c0 := h4.c0
      have hsz := hb.size
      have ET : Hid ((decL ps q).take (k + 1) = (decL ps q).take k ++ [p2.c]) := Lib.hid (snoc_of f3)
      clear h4 hp hx f1 f2 f3 f5
      unfold Ost at hown
      go_wp2_with (at_builtin; refine wpList_push _ rfl (.tmp 18) (.tmp 27) 29 rfl w1.heap.size 9 i0 _ 1 16 Try.underlying29 hi hz0 hz1 hz2 rfl (by decide) (.slice B k d) k _ rfl hown [.string ⟨p2.c.toArray⟩] rfl (by simp [Value.oneCell']) rfl (by unfold maxLen; omega) (by omega) hsz ?_; intro v' w' hown' hb')
      obtain ⟨B', d', rfl⟩ := own_form hown'
      go_roundw
      case rel => exact ⟨k + 1, B', d', by omega, by go_num, rfl, by rw [ET.out]; unfold Ost; rw [List.map_append]; simpa [encStr] using hown', hb.trans hb'⟩
      case measure => simp [intOf]; omega
    · obtain rfl : k = (chainL ps q).length := by omega
      have hlL : (chainL ps q).length = xs.length + 1 := by rw [EL.out]; simp
      obtain ⟨g, o, x, hC, hcx, hx⟩ := (CH.out wr hb).at (k := xs.length) (by rw [hlL]; omega)
      have hx2 : x = (j : Int) := by have a := hx.out; rw [EL.out] at a; simpa using a.symm
      subst hx2
      obtain ⟨b, off, p3, hA, hl, hp, h4⟩ := (TB.out wr hb).at hj
      obtain rfl : p = p3 := by have a := hp.out; rw [EP.out] at a; exact Option.some.inj a
      subst hA hC
      have c5 := h4.c5
      have rz := RZ1.out wr hb
      have z0 : wr.cell? ⟨w.heap.size + 1, 0, none⟩ = some (.int .i64 0) := by rw [cell_of_row _ _ _ _ _ _ rz]; rfl
      have z1 : wr.cell? ⟨w.heap.size + 1, 1, none⟩ = some (.slice none 0 0) := by rw [cell_of_row _ _ _ _ _ _ rz]; rfl
      have f0 := frozen_of_row wr _ 0 _ _ rz
      have f1 := frozen_of_row wr _ 1 _ _ rz
      have HD := Lib.hid (dbox_done rz (.int .i64 p.e) (.slice B (xs.length + 1) d))
      have HO := Lib.hid hown
      have EM := Lib.hid (HBW.out wr hb)
      have hxl : xs.length ≤ 12 := by omega
      clear h4 hp hx rz hown hb
      rw [hlL] at *
      clear hlL
      go_wp2_with fail
      obtain ⟨W', hW, y0, y1, hbw, hoo⟩ := HD.out
      rw [hW]
      refine bodyPost_ret (v := .agg #[.int .i64 p.e, .slice B (xs.length + 1) d]) (by simp [results, Try.results73, go_sem, y0, y1]) rfl ?_
      have EQ : decE ps q = ⟨p.e, decL ps q⟩ := by unfold decE; rw [ER.out]
      have hq : (decL ps q).length = xs.length + 1 := by rw [decL_len, EL.out]; simp
      rw [EQ]
      refine ⟨B, d, by simp only [hq], ?_, EM.out.trans (hbw _ (by omega))⟩
      have h5 := HO.out
      rw [List.take_of_length_le (by omega)] at h5
      simp only [hq]
      exact (hoo _ _ _ _ _ HLT.out h5).mono (by have := HLT.out; omega)
end Go.Proofs.Ytjcklmhgjdmjoaa
