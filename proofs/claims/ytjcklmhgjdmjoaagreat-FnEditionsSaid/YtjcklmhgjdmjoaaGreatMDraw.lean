import Derived.Test.YtjcklmhgjdmjoaaGreatBase
import Derived.RegionTactic
import Derived.ChangeAlike
import Derived.Test.YtjcklmhgjdmjoaaGreatRin
import Derived.Test.YtjcklmhgjdmjoaaGreatMClm
import Derived.Maps.AppendAt
import Derived.Test.YtjcklmhgjdmjoaaGreatMCls
import Derived.Laws.ResultCell
namespace Go.Proofs.YtjcklmhgjdmjoaaGreat
open Go.ChangeShapes Go.WideShapes Go.ChangeAt Go.RowKit
set_option linter.unusedVariables false
theorem Rw.keepC {w w' : World} {A : Option Addr} {bs : List Int} {B : Nat} (h : Rw w A (bs.map (Value.int .u8))) (hA : bs ≠ [] -> Bd A B) (hb : Below B w w') : Rw w' A (bs.map (Value.int .u8)) := by
 by_cases h0 : bs = []
 ·
  subst h0; intro hp; simp at hp
 ·
  exact h.keepB (hA h0) hb
theorem ne_nil {bs : List Int} {k : Nat} (h : k < bs.length) : bs ≠ [] := by rintro rfl; simp at h
def Src (w : World) (base g : Nat) (A : Option Addr) (c : Nat) (bs : List Int) : Prop :=
 base <= g /\ Rw w A (bs.map (Value.int .u8)) /\ (bs ≠ [] -> Bd A base) /\ (∀ b ∈ bs, 0 <= b /\ b <= 255) /\ bs.length <= 4096 /\
 ∃ (p : Nat) (s : Int), w.heap[g]? = some (.cells #[.slice A bs.length c, .int .i64 p, .int .i64 s] 102 (0, 0)) /\ p <= bs.length /\ 0 <= s /\ s <= 2147483646
section
variable {w w' : World} {base g : Nat} {A : Option Addr} {c : Nat} {bs : List Int}
theorem Src.lt (h : Src w base g A c bs) : g < w.heap.size := by
 obtain ⟨_, _, _, _, _, p, s, hg, _⟩ := h
 rcases Nat.lt_or_ge g w.heap.size with hlt | hge
 ·
  exact hlt
 ·
  rw [Array.getElem?_eq_none hge] at hg; cases hg
theorem Src.drewN (h : Src w base g A c bs) (n : Nat) : Src (w.drewN n) base g A c bs := h
theorem Src.keep (h : Src w base g A c bs) (hb : Below (g + 1) w w') : Src w' base g A c bs := by
 have hl := h.lt
 obtain ⟨h1, h2, h3, h4, h5, p, s, hg, h6⟩ := h
 refine ⟨h1, h2.keepC h3 (hb.mono (by omega)), h3, h4, h5, p, s, ?_, h6⟩
 rw [hb.block g (by omega)]; exact hg
theorem Src.below (h : Src w base g A c bs) (hb : Below w.heap.size w w') : Src w' base g A c bs := h.keep (hb.mono (by have := h.lt; omega))
theorem Src.write (h : Src w base g A c bs) {j : Nat} {u : Value} (p : Nat) (s : Int) (hp : p <= bs.length) (h0 : 0 <= s) (h1 : s <= 2147483646)
  (hw : (w.setCell ⟨g, j, none⟩ u).heap[g]? = some (.cells #[.slice A bs.length c, .int .i64 p, .int .i64 s] 102 (0, 0))) :
  Src (w.setCell ⟨g, j, none⟩ u) base g A c bs /\ w.grownBy (w.setCell ⟨g, j, none⟩ u) (some g) := by
 obtain ⟨g1, g2, g3, g4, g5, _⟩ := h
 refine ⟨⟨g1, g2.keepC g3 ?_, g3, g4, g5, p, s, hw, hp, h0, h1⟩, ⟨rfl, rfl, rfl, by simp, fun k _ hk => heap_setCell_other w ⟨g, j, none⟩ k u (fun e => hk (by simp [e]))⟩⟩
 exact (Below.refl _ _).setCell (by simpa using g1) _
end
theorem grown_drewN {w w' : World} {row : Option Nat} (h : w.grownBy w' row) (n : Nat) : w.grownBy (w'.drewN n) row := ⟨h.os, h.tape, h.output, h.size, h.block⟩
def Drew (w : World) (base g : Nat) (A : Option Addr) (c : Nat) (bs : List Int) (lo hi : Int) (e : Ending) (w' : World) : Prop :=
 ∃ r : Int, e = .returned (.int .i64 r) /\ lo <= r /\ r <= hi /\ Src w' base g A c bs /\ w.grownBy w' (some g)
theorem mod_in {x n : Int} (hn : 1 < n) : 0 <= x % n /\ x % n <= n - 1 := ⟨Int.emod_nonneg _ (by omega), by have := Int.emod_lt_of_pos x (by omega : 0 < n); omega⟩
set_option maxHeartbeats 1000000 in
theorem next_any (g : Nat) (n : Int) (base : Nat) (A : Option Addr) (c : Nat) (bs : List Int) (w : World) (h : Src w base g A c bs) (hn : n <= 9000000000000000000) :
  Calls Tryz.prog 55 #[.pointer (some ⟨g, 0, none⟩), .int .i64 n] w (Drew w base g A c bs 0 (max (n - 1) 0)) := by
 by_cases h1 : n <= 1
 ·
  go_enter Tryz.func55, Tryz.ntmps55
  go_wp2_with fail
  go_ret
  exact ⟨0, rfl, by omega, by omega, h, World.grownBy.refl _ _⟩
 ·
  have H := Lib.hid h
  obtain ⟨_, hA, _, hbs, hbl, p, s, hg, hp, s0, s1⟩ := h
  have c0 := cell_of_row w g 0 _ _ _ hg
  have c1 := cell_of_row w g 1 _ _ _ hg
  have c2 := cell_of_row w g 2 _ _ _ hg
  have f1 := frozen_of_row w g 1 _ _ hg
  have f2 := frozen_of_row w g 2 _ _ hg
  simp only [List.getElem?_toArray, List.getElem?_cons_zero, List.getElem?_cons_succ] at c0 c1 c2
  have HS := Lib.hid (H.out.write (j := 2) (u := .int .i64 ((s * 48271 + 29) % 2147483647)) p ((s * 48271 + 29) % 2147483647) hp (by omega) (by omega) (by rw [heap_setCell_same w g 2 _ _ _ hg]; rfl))
  have m0 : 0 <= (s * 48271 + 29) % 2147483647 := by omega
  have m1 : (s * 48271 + 29) % 2147483647 <= 2147483646 := by omega
  have h2g : Hid ((w.setCell ⟨g, 2, none⟩ (.int .i64 ((s * 48271 + 29) % 2147483647))).heap[g]? = some (.cells #[.slice A bs.length c, .int .i64 p, .int .i64 ((s * 48271 + 29) % 2147483647)] 102 (0, 0))) := Lib.hid (by rw [heap_setCell_same w g 2 _ _ _ hg]; rfl)
  clear hg
  by_cases hlt : p < bs.length
  ·
   obtain ⟨b, off, rfl, hbl2, hcell⟩ := hA (by simp; omega)
   have hbg : b < g := Nat.lt_of_lt_of_le (H.out.2.2.1 (ne_nil hlt) _ rfl) H.out.1
   have hbne : b ≠ g := by omega
   have hx := hcell p (.int .u8 bs[p]) (by simp [hlt])
   have hxb := hbs bs[p] (List.getElem_mem hlt)
   generalize bs[p] = x at hx hxb
   obtain ⟨x0, x1⟩ := hxb
   have hd : decide ((p : Int) < (bs.length : Int)) = true := by simp; omega
   clear hcell hbs
   have HS2 : Hid (∀ a, Src (((w.setCell ⟨g, 2, none⟩ (.int .i64 ((s * 48271 + 29) % 2147483647))).drewN a).setCell ⟨g, 1, none⟩ (.int .i64 ((p : Int) + 1))) base g (some ⟨b, off, none⟩) c bs /\
     w.grownBy (((w.setCell ⟨g, 2, none⟩ (.int .i64 ((s * 48271 + 29) % 2147483647))).drewN a).setCell ⟨g, 1, none⟩ (.int .i64 ((p : Int) + 1))) (some g)) := Lib.hid (fun a => by
    have h3 := (HS.out.1.drewN a).write (j := 1) (u := .int .i64 ((p : Int) + 1)) (p + 1) ((s * 48271 + 29) % 2147483647) (by omega) (by omega) (by omega) (by rw [heap_setCell_same ((w.setCell ⟨g, 2, none⟩ (.int .i64 ((s * 48271 + 29) % 2147483647))).drewN a) g 1 _ _ _ h2g.out]; simp)
    exact ⟨h3.1, (grown_drewN HS.out.2 a).trans h3.2⟩)
   by_cases h2 : n <= 256
   ·
    by_cases h3 : ((p : Int) + 1) % 2 = 0
    ·
     have h3' : (((p : Int) + 1) % 2 == 0) = true := by simpa using h3
     clear h3
     go_enter Tryz.func55, Tryz.ntmps55
     go_wp2_with fail
     go_quiet (fail)
     go_wp2_with fail
     go_quiet (fail)
     go_wp2_with fail
     go_quiet (fail)
     go_wp2_with fail
     go_ret
     exact ⟨_, rfl, (mod_in (by omega)).1, Int.le_trans (mod_in (by omega)).2 (by omega), (HS2.out _).1.drewN _, grown_drewN (HS2.out _).2 _⟩
    ·
     have h3' : (((p : Int) + 1) % 2 == 0) = false := by simpa using h3
     clear h3
     go_enter Tryz.func55, Tryz.ntmps55
     go_wp2_with fail
     go_quiet (fail)
     go_wp2_with fail
     go_quiet (fail)
     go_wp2_with fail
     go_ret
     exact ⟨_, rfl, (mod_in (by omega)).1, Int.le_trans (mod_in (by omega)).2 (by omega), (HS2.out _).1, (HS2.out _).2⟩
   ·
    go_enter Tryz.func55, Tryz.ntmps55
    go_wp2_with fail
    go_quiet (fail)
    go_wp2_with fail
    go_quiet (fail)
    go_wp2_with fail
    go_ret
    exact ⟨_, rfl, (mod_in (by omega)).1, Int.le_trans (mod_in (by omega)).2 (by omega), (HS2.out _).1, (HS2.out _).2⟩
  ·
   have hd : decide ((p : Int) < (bs.length : Int)) = false := by simp; omega
   obtain ⟨r0, r1⟩ := mod_in (x := (s * 48271 + 29) % 2147483647 / 31) (n := n) (by omega)
   go_enter Tryz.func55, Tryz.ntmps55
   go_wp2_with fail
   go_quiet (fail)
   go_wp2_with fail
   go_ret
   exact ⟨_, rfl, r0, by omega, HS.out.1.drewN _, grown_drewN HS.out.2 _⟩
def NewSrc (w : World) (A : Option Addr) (c : Nat) (bs : List Int) (e : Ending) (w' : World) : Prop :=
 ∃ g, e = .returned (.pointer (some ⟨g, 0, none⟩)) /\ Src w' w.heap.size g A c bs /\ Below w.heap.size w w'
set_option maxHeartbeats 1000000 in
theorem from_any (A : Option Addr) (c : Nat) (bs : List Int) (w : World) (hA : Rw w A (bs.map (Value.int .u8))) (hB : bs ≠ [] -> Bd A w.heap.size) (hbs : ∀ b ∈ bs, 0 <= b /\ b <= 255) (hl : bs.length <= 4096) :
  Calls Tryz.prog 42 #[.slice A bs.length c] w (NewSrc w A c bs) := by
 have H0 : Hid (Src (w.alloc (Obj.cells #[.slice A bs.length c, .int .i64 0, .int .i64 41017] 102)) w.heap.size w.heap.size A c bs) := Lib.hid
  ⟨Nat.le_refl _, hA.below ((Below.refl _ _).alloc (Nat.le_refl _) _), hB, hbs, hl, 0, 41017, heap_alloc_new _ _, by omega, by omega, by omega⟩
 go_enter Tryz.func42, Tryz.ntmps42
 go_wp2_with fail
 go_loopw [4] (fun i wr => ∃ k : Nat, k <= bs.length /\ k <= 64 /\ i = .int .i64 k /\ Src wr w.heap.size w.heap.size A c bs /\ Below w.heap.size w wr) (fun i _ => bs.length - (intOf i).toNat)
 case atStart => exact ⟨0, Nat.zero_le _, by omega, rfl, H0.out, (Below.refl _ _).alloc (Nat.le_refl _) _⟩
 case round =>
  obtain ⟨k, hk, hk2, rfl, hsrc, hb⟩ := hrel
  by_cases hlt : k < bs.length
  ·
   by_cases hlt2 : k < 64
   ·
    have H := Lib.hid hsrc
    obtain ⟨_, hA2, _, _, _, p, s, hg, hp, s0, s1⟩ := hsrc
    obtain ⟨b, off, rfl, hbl2, hcell⟩ := hA2 (by simp; omega)
    have c2 := cell_of_row wr w.heap.size 2 _ _ _ hg
    have f2 := frozen_of_row wr w.heap.size 2 _ _ hg
    simp only [List.getElem?_toArray, List.getElem?_cons_zero, List.getElem?_cons_succ] at c2
    have hx := hcell k (.int .u8 bs[k]) (by simp [hlt])
    have hxb := hbs bs[k] (List.getElem_mem hlt)
    generalize bs[k] = x at hx hxb
    obtain ⟨x0, x1⟩ := hxb
    have HS := Lib.hid (H.out.write (j := 2) (u := .int .i64 ((s * 67 + x) % 2147483647)) p ((s * 67 + x) % 2147483647) hp (by omega) (by omega) (by rw [heap_setCell_same wr w.heap.size 2 _ _ _ hg]; rfl))
    clear hA hB hbs hcell hg hA2
    go_wp2_with fail
    go_region
    go_wp2_with fail
    go_roundw
    case rel => exact ⟨k + 1, by omega, by omega, by go_num, HS.out.1.drewN 1, (hb.grown HS.out.2 hb.size (by simp)).drew⟩
    case measure => simp [intOf]; omega
   ·
    have hd : decide ((k : Int) < 64) = false := by simp; omega
    go_wp2_with fail
    go_ret
    exact ⟨_, rfl, hsrc, hb⟩
  ·
   go_wp2_with fail
   go_ret
   exact ⟨_, rfl, hsrc, hb⟩
theorem drew_chain {w w1 w2 : World} {g : Nat} (h : w.grownBy w1 (some g)) (k : w1.grownBy w2 (some g)) : w.grownBy w2 (some g) := h.trans k
theorem grown_alloc {w w1 : World} {g : Nat} (h : w.grownBy w1 (some g)) (o : Obj) : w.grownBy (w1.alloc o) (some g) := h.trans (World.grownBy_alloc w1 o _)
theorem Src.alloc {w : World} {base g : Nat} {A : Option Addr} {c : Nat} {bs : List Int} (h : Src w base g A c bs) (o : Obj) : Src (w.alloc o) base g A c bs :=
 h.below ((Below.refl _ _).alloc (Nat.le_refl _) _)
theorem pick_any (g : Nat) (B : Option Addr) (d n : Nat) (xs : List Int) (lo hi : Int) (base : Nat) (A : Option Addr) (c : Nat) (bs : List Int) (w : World) (h : Src w base g A c bs) (hx : Ir w B xs) (hn : xs.length = n)
  (hne : ∀ a, B = some a -> a.block ≠ g) (h0 : 0 < n) (h1 : n <= 1000) (hb : ∀ x ∈ xs, lo <= x /\ x <= hi) :
  Calls Tryz.prog 67 #[.pointer (some ⟨g, 0, none⟩), .slice B n d] w (Drew w base g A c bs lo hi) := by
 subst hn
 go_enter Tryz.func67, Tryz.ntmps67
 go_wp2_with fail
 refine (next_any g _ base A c bs _ h (by omega)).mono ?_
 rintro e w1 ⟨r, rfl, r0, r1, hs1, hg1⟩
 obtain ⟨k, rfl⟩ := Int.eq_ofNat_of_zero_le r0
 have hk : k < xs.length := by omega
 obtain ⟨b, off, x, rfl, hc, hxk⟩ := Ir.at (Rw.grown hx hg1 hne) hk
 go_wp2_with fail
 go_ret
 have hxb := hb x (List.mem_of_getElem? hxk.out)
 exact ⟨x, rfl, hxb.1, hxb.2, hs1, hg1⟩
theorem pick_new (g : Nat) (n : Nat) (xs : List Int) (lo hi : Int) (base : Nat) (A : Option Addr) (c : Nat) (bs : List Int) (w : World) (h : Src w base g A c bs) (hn : xs.length = n) (h0 : 0 < n) (h1 : n <= 1000)
  (hb : ∀ x ∈ xs, lo <= x /\ x <= hi) :
  Calls Tryz.prog 67 #[.pointer (some ⟨g, 0, none⟩), .slice (some ⟨w.heap.size, 0, none⟩) n n] (w.alloc (.cells (xs.map (Value.int .i64)).toArray 2)) (Drew w base g A c bs lo hi) := by
 refine (pick_any g _ n n xs lo hi base A c bs _ (h.alloc _) (Rw.new w _ _ _) hn (by rintro a ⟨rfl⟩; have := h.lt; show w.heap.size ≠ g; omega) h0 h1 hb).mono ?_
 rintro e w' ⟨r, rfl, r0, r1, hs, hg⟩
 exact ⟨r, rfl, r0, r1, hs, (World.grownBy_alloc w _ _).trans hg⟩
theorem grown_below {w wr w' : World} {g : Nat} (h : w.grownBy wr (some g)) (hb : Below w.heap.size wr w') : w.grownBy w' (some g) :=
 ⟨hb.os.trans h.os, hb.tape.trans h.tape, hb.output.trans h.output, Nat.le_trans h.size hb.size, fun k hk hn => (hb.block k hk).trans (h.block k hk hn)⟩
theorem keepG {w w' : World} {g k : Nat} {o : Obj} (hg : w.grownBy w' (some g)) (h : w.heap[k]? = some o) (hne : k ≠ g) : w'.heap[k]? = some o :=
 (hg.block k (by
  rcases Nat.lt_or_ge k w.heap.size with hlt | hge
  ·
   exact hlt
  ·
   rw [Array.getElem?_eq_none hge] at h; cases h) (by simpa using hne)).trans h
def Code0 (w : World) (A : Option Addr) (bs : List Int) : Prop := Rw w A (bs.map (Value.int .u8)) /\ (bs ≠ [] -> Bd A w.heap.size) /\ (∀ b ∈ bs, 0 <= b /\ b <= 255) /\ bs.length <= 4096
theorem Code0.below {w w' : World} {A : Option Addr} {bs : List Int} (h : Code0 w A bs) (hb : Below w.heap.size w w') : Code0 w' A bs :=
 ⟨h.1.below hb, fun hn => (h.2.1 hn).mono hb.size, h.2.2⟩
theorem code_from (A : Option Addr) (c : Nat) (bs : List Int) (w : World) (h : Code0 w A bs) : Calls Tryz.prog 42 #[.slice A bs.length c] w (NewSrc w A c bs) :=
 from_any A c bs w h.1 h.2.1 h.2.2.1 h.2.2.2
theorem src_below {w w1 w2 : World} {g : Nat} (h : Below w.heap.size w w1) (hg : w1.grownBy w2 (some g)) (hl : w.heap.size <= g) : Below w.heap.size w w2 :=
 h.grown hg h.size (by simpa using hl)
end Go.Proofs.YtjcklmhgjdmjoaaGreat

namespace Go.Proofs.YtjcklmhgjdmjoaaGreat
open Go.ChangeShapes Go.WideShapes Go.ChangeAt Go.RowKit
set_option linter.unusedVariables false
section
variable {P : Program} {ops : Array Oper} {Q : Exit -> Act -> World -> Prop}
def ClosedD (ops : Array Oper) (d : Array Bool) : Prop := ∀ j o, ops[j]? = some o -> d.getD j false = true -> ∀ e ∈ o.after, Region.binds .any e = true -> d.getD e.on false = true
theorem getD_keep {d : Array Bool} {i n : Nat} (h : d.getD n false = true) : (d.setIfInBounds i true).getD n false = true := by
 by_cases e : i = n
 ·
  subst e
  have hi : i < d.size := by
   rcases Nat.lt_or_ge i d.size with h2 | h2
   ·
    exact h2
   ·
    simp [Array.getElem?_eq_none h2] at h
  simp [hi]
 ·
  rw [getD_set_ne false e]; exact h
theorem region_inv2 {id : Nat} {a : Act} {w : World} (hm : P.follows .mixedOrders = true) (hb : backB ops = true) (Inv : Array Bool -> Act -> World -> Prop) (h0 : Inv (Array.replicate ops.size false) a w.drew)
  (hstep : ∀ i d a w, i ∈ Region.ready .any ops d -> ClosedD ops d -> Inv d a w -> wpOp P ops Q i (fun a' w' => Inv (d.setIfInBounds i true) a' w') a w)
  (hend : ∀ d a w, d.size = ops.size -> (∀ i, i < ops.size -> d.getD i true = true) -> Inv d a w -> Q .normal a w) : (Code.region id ops true).wp P Q a w := by
 refine region_inv hm hb (fun d a w => ClosedD ops d /\ Inv d a w) ⟨?_, h0⟩ ?_ (fun d a w hs ha hI => hend d a w hs ha hI.2)
 ·
  intro j o ho hd
  exfalso
  rcases Nat.lt_or_ge j ops.size with h | h
  ·
   simp [h] at hd
  ·
   simp [Array.getElem?_eq_none, h] at hd
 ·
  intro i d a w hi hI
  refine wpOp_mono (fun a' w' h => ⟨?_, h⟩) (hstep i d a w hi hI.1 hI.2)
  obtain ⟨hun, oi, hoi, hall⟩ := mem_ready.1 hi
  intro j o ho hd e he hbd
  by_cases hij : i = j
  ·
   subst hij
   rw [hoi] at ho
   obtain rfl := Option.some.inj ho
   exact getD_keep (hall e he hbd)
  ·
   rw [getD_set_ne false hij] at hd
   exact getD_keep (hI.1 j o ho hd e he hbd)
theorem undoneF {d : Array Bool} {i : Nat} (h : d.getD i true = false) : d.getD i false = false := by
 cases h2 : d.getD i false with
 | false => rfl
 | true => have := getD_ft h2; rw [h] at this; cases this
theorem ClosedD.back {d : Array Bool} (h : ClosedD ops d) (j : Nat) (o : Oper) (e : Edge) (ho : ops[j]? = some o) (he : e ∈ o.after) (hb : Region.binds .any e = true) (hd : d.getD e.on false = false) : d.getD j false = false := by
 cases h2 : d.getD j false with
 | false => rfl
 | true => have := h j o ho h2 e he hb; rw [hd] at this; cases this
end
end Go.Proofs.YtjcklmhgjdmjoaaGreat

namespace Go.Proofs.YtjcklmhgjdmjoaaGreat
open Go.ChangeShapes Go.WideShapes Go.ChangeAt Go.RowKit
set_option linter.unusedVariables false
def RowAC (lo : Nat) (v : Value) (L : List Cls) (W : World) : Prop := ∃ O q, v = .slice O L.length q /\ ClsO W lo O L.length q L
theorem run_append_nilC9 {P : Program} (w : World) (t ty e : TypeId) (i : TypeInfo) (ht : P.underlying t = some (.slice e)) (hi : P.info? e = some i) (O : Option Addr) (n q c : Nat) (h : n <= q) :
  (Builtin.append_ #[t, t] ty #[.slice O n q, .slice none 0 c]).run P w = .ok (.slice O n q) w := by
 cases O <;> simp [Builtin.append_, run_underlying ht, sizeOf, typeInfo, hi, Builtin.lenOf, h, run_firstCells_none, storeCells]
theorem own_roomC {w : World} {base : Nat} {e : TypeId} {size n q : Nat} {O : Option Addr} {xs : List Value} (h : w.ownsRow base e size (.slice O n q) n xs) : n <= q := by
 rcases h.2 with ⟨h1, h2⟩ | ⟨g, cap, cur, h1, _, _, h4, _⟩
 ·
  omega
 ·
  injection h1 with _ _ h3; omega
set_option maxRecDepth 100000 in
theorem run_append_clsD (W : World) (ty : TypeId) (lo : Nat) (v : Value) (L : List Cls) (hrow : RowAC lo v L W) (A : Option Addr) (c : Nat) (l : List Cls) (hR : ClsR W A l) (hA : A = none ∨ ∃ b off, A = some ⟨b, off, none⟩) (h63 : L.length + l.length <= 1000) (hbase : lo <= W.heap.size) :
  ∃ v' W', (Builtin.append_ #[24, 24] ty #[v, .slice A l.length c]).run Tryz.prog W = .ok v' W' /\ RowAC lo v' (L ++ l) W' /\ Below lo W W' /\ W.grownBy W' v.ownBlock /\ (v'.ownBlock = v.ownBlock ∨ v'.ownBlock = some W.heap.size) := by
 obtain ⟨i0, hi, hz0, hz1, hz2⟩ := info_parts clsInfo
 obtain ⟨O, q, rfl, hown⟩ := hrow
 rcases hA with rfl | ⟨b, off, rfl⟩
 ·
  have hl : l = [] := by
   cases l with
   | nil => rfl
   | cons y l => obtain ⟨_, _, _, e, _⟩ := hR.at (k := 0) (by simp); cases e
  subst hl
  have hr := run_append_nilC9 (P := Tryz.prog) W 24 ty 47 i0 Tryz.underlying24 hi O L.length q c (own_roomC hown)
  exact ⟨_, _, hr, ⟨O, q, by simp, by simpa using hown⟩, Below.refl _ _, World.grownBy.refl _ _, .inl rfl⟩
 ·
  obtain ⟨v', w', hr, h2, h3, h4, h5⟩ := run_append_own_at (P := Tryz.prog) W lo 24 ty 47 i0 _ 7 72 Tryz.underlying24 hi hz0 hz1 hz2 rfl (by decide) _ L.length _ hown ⟨b, off, none⟩ l.length c (l.flatMap Cls.cells) (flat_len Cls.cells 7 (fun _ => rfl) l)
   (fun j u hu => by
    have hp : 0 < (l.flatMap Cls.cells).length := by have := (List.getElem?_eq_some_iff.1 hu).1; omega
    obtain ⟨b', off', e, _, hc⟩ := hR hp
    simp only [Option.some.injEq, Addr.mk.injEq, and_true] at e
    obtain ⟨rfl, rfl⟩ := e
    rw [show ((⟨b, off, none⟩ : Addr).add j) = ⟨b, off + j, none⟩ from by unfold Addr.add; split <;> simp_all]
    exact hc j u hu)
   (fun u hu => by
    obtain ⟨y, _, hy⟩ := List.mem_flatMap.1 hu
    unfold Cls.cells at hy
    simp only [List.mem_cons, List.not_mem_nil, or_false] at hy
    rcases hy with rfl | rfl | rfl | rfl | rfl | rfl | rfl <;> simp [Value.oneCell'])
   (by unfold maxLen; omega) (by omega) hbase
  obtain ⟨O', q', rfl⟩ := own_form h2
  refine ⟨_, _, hr, ⟨O', q', by rw [List.length_append], ?_⟩, (Below.refl lo W).grown h3 hbase (fun k hk => (World.ownsRow.lt hown k hk).1), h3, h5⟩
  unfold ClsO
  rw [List.length_append, List.flatMap_append]
  exact h2
theorem wpOp_append_clsD {ops : Array Oper} {Q : Exit -> Act -> World -> Prop} {i : Nat} {o : Oper} {K : Act -> World -> Prop} {a : Act} {W : World} (hoi : ops[i]? = some o) (hgd : o.guard = none) (s y : Operand)
  (ho : o.op = .call { callee := .builtin .append, args := #[s, y], argTypes := #[24, 24] }) (lo : Nat) (v : Value) (L : List Cls) (hs : a.eval s = v) (hrow : RowAC lo v L W)
  (A : Option Addr) (c : Nat) (l : List Cls) (hy : a.eval y = .slice A l.length c) (hR : ClsR W A l) (hA : A = none ∨ ∃ b off, A = some ⟨b, off, none⟩) (h63 : L.length + l.length <= 1000) (hbase : lo <= W.heap.size)
  (h : ∀ v' W', RowAC lo v' (L ++ l) W' -> Below lo W W' -> W.grownBy W' v.ownBlock -> (v'.ownBlock = v.ownBlock ∨ v'.ownBlock = some W.heap.size) -> K (a.put o.dst v') W') : wpOp Tryz.prog ops Q i K a W := by
 refine wpOp_step hoi fun K' hK => ?_
 rw [if_pos (by simp only [Region.wanted, hgd])]
 obtain ⟨v', W', hr, h1, h2, h3, h4⟩ := run_append_clsD W o.type lo v L hrow A c l hR hA h63 hbase
 unfold Oper.wp execOp
 simp only [ho, resolve, invoke, builtin, Sem.run_bind, Sem.run_pure, Result.andThen_ok, List.map_toArray, List.map_cons, List.map_nil, hs, hy, hr]
 exact hK _ _ (h v' W' h1 h2 h3 h4)
structure Cel7 (W : World) (g : Nat) (v0 v1 v2 v3 v4 v5 v6 : Value) : Prop where
 c0 : W.cell? ⟨g, 0, none⟩ = some v0
 c1 : W.cell? ⟨g, 1, none⟩ = some v1
 c2 : W.cell? ⟨g, 2, none⟩ = some v2
 c3 : W.cell? ⟨g, 3, none⟩ = some v3
 c4 : W.cell? ⟨g, 4, none⟩ = some v4
 c5 : W.cell? ⟨g, 5, none⟩ = some v5
 c6 : W.cell? ⟨g, 6, none⟩ = some v6
 f0 : W.frozen? ⟨g, 0, none⟩ = false
 f1 : W.frozen? ⟨g, 1, none⟩ = false
 f2 : W.frozen? ⟨g, 2, none⟩ = false
 f3 : W.frozen? ⟨g, 3, none⟩ = false
 f4 : W.frozen? ⟨g, 4, none⟩ = false
 f5 : W.frozen? ⟨g, 5, none⟩ = false
 f6 : W.frozen? ⟨g, 6, none⟩ = false
theorem cel7 {W : World} {g : Nat} {v0 v1 v2 v3 v4 v5 v6 : Value} {t : TypeId} (h : W.heap[g]? = some (.cells #[v0, v1, v2, v3, v4, v5, v6] t (0, 0))) : Cel7 W g v0 v1 v2 v3 v4 v5 v6 :=
 ⟨by rw [cell_of_row _ _ _ _ _ _ h]; rfl, by rw [cell_of_row _ _ _ _ _ _ h]; rfl, by rw [cell_of_row _ _ _ _ _ _ h]; rfl, by rw [cell_of_row _ _ _ _ _ _ h]; rfl, by rw [cell_of_row _ _ _ _ _ _ h]; rfl, by rw [cell_of_row _ _ _ _ _ _ h]; rfl, by rw [cell_of_row _ _ _ _ _ _ h]; rfl, frozen_of_row W _ 0 _ _ h, frozen_of_row W _ 1 _ _ h, frozen_of_row W _ 2 _ _ h, frozen_of_row W _ 3 _ _ h, frozen_of_row W _ 4 _ _ h, frozen_of_row W _ 5 _ _ h, frozen_of_row W _ 6 _ _ h⟩
theorem done7 {w1 : World} {g : Nat} {v0 v1 v2 v3 v4 v5 v6 : Value} {t : TypeId} (hrow : w1.heap[g]? = some (.cells #[v0, v1, v2, v3, v4, v5, v6] t (0, 0))) (a b c d e f h : Value) :
  ∃ W, (((((((w1.setCell ⟨g, 0, none⟩ a).setCell ⟨g, 1, none⟩ b).setCell ⟨g, 2, none⟩ c).setCell ⟨g, 3, none⟩ d).setCell ⟨g, 4, none⟩ e).setCell ⟨g, 5, none⟩ f).setCell ⟨g, 6, none⟩ h) = W /\ W.heap[g]? = some (.cells #[a, b, c, d, e, f, h] t (0, 0)) /\ ∀ (B : Nat) (w : World), B <= g -> Below B w w1 -> Below B w W := by
 have h1 : (w1.setCell ⟨g, 0, none⟩ a).heap[g]? = some (.cells #[a, v1, v2, v3, v4, v5, v6] t (0, 0)) := by rw [heap_setCell_same _ _ _ _ _ _ hrow]; rfl
 have h2 : ((w1.setCell ⟨g, 0, none⟩ a).setCell ⟨g, 1, none⟩ b).heap[g]? = some (.cells #[a, b, v2, v3, v4, v5, v6] t (0, 0)) := by rw [heap_setCell_same _ _ _ _ _ _ h1]; rfl
 have h3 : (((w1.setCell ⟨g, 0, none⟩ a).setCell ⟨g, 1, none⟩ b).setCell ⟨g, 2, none⟩ c).heap[g]? = some (.cells #[a, b, c, v3, v4, v5, v6] t (0, 0)) := by rw [heap_setCell_same _ _ _ _ _ _ h2]; rfl
 have h4 : ((((w1.setCell ⟨g, 0, none⟩ a).setCell ⟨g, 1, none⟩ b).setCell ⟨g, 2, none⟩ c).setCell ⟨g, 3, none⟩ d).heap[g]? = some (.cells #[a, b, c, d, v4, v5, v6] t (0, 0)) := by rw [heap_setCell_same _ _ _ _ _ _ h3]; rfl
 have h5 : (((((w1.setCell ⟨g, 0, none⟩ a).setCell ⟨g, 1, none⟩ b).setCell ⟨g, 2, none⟩ c).setCell ⟨g, 3, none⟩ d).setCell ⟨g, 4, none⟩ e).heap[g]? = some (.cells #[a, b, c, d, e, v5, v6] t (0, 0)) := by rw [heap_setCell_same _ _ _ _ _ _ h4]; rfl
 have h6 : ((((((w1.setCell ⟨g, 0, none⟩ a).setCell ⟨g, 1, none⟩ b).setCell ⟨g, 2, none⟩ c).setCell ⟨g, 3, none⟩ d).setCell ⟨g, 4, none⟩ e).setCell ⟨g, 5, none⟩ f).heap[g]? = some (.cells #[a, b, c, d, e, f, v6] t (0, 0)) := by rw [heap_setCell_same _ _ _ _ _ _ h5]; rfl
 have h7 : (((((((w1.setCell ⟨g, 0, none⟩ a).setCell ⟨g, 1, none⟩ b).setCell ⟨g, 2, none⟩ c).setCell ⟨g, 3, none⟩ d).setCell ⟨g, 4, none⟩ e).setCell ⟨g, 5, none⟩ f).setCell ⟨g, 6, none⟩ h).heap[g]? = some (.cells #[a, b, c, d, e, f, h] t (0, 0)) := by rw [heap_setCell_same _ _ _ _ _ _ h6]; rfl
 refine ⟨_, rfl, h7, fun B w hB hb => ((((((hb.setCell (by simpa using hB) _).setCell (by simpa using hB) _).setCell (by simpa using hB) _).setCell (by simpa using hB) _).setCell (by simpa using hB) _).setCell (by simpa using hB) _).setCell (by simpa using hB) _⟩
def updB (us : Nat -> Value) (j : Nat) (v : Value) : Nat -> Value := fun n => if n = j then v else us n
theorem updB_same (us : Nat -> Value) (j : Nat) (v : Value) : updB us j v j = v := by unfold updB; rw [if_pos rfl]
theorem updB_other {us : Nat -> Value} {j n : Nat} {v : Value} (h : n ≠ j) : updB us j v n = us n := by unfold updB; rw [if_neg h]
theorem setB_same {d : Array Bool} {i : Nat} (h : d.getD i true = false) : (d.setIfInBounds i true).getD i false = true := by
 have hi : i < d.size := by
  rcases Nat.lt_or_ge i d.size with h2 | h2
  ·
   exact h2
  ·
   simp [Array.getElem?_eq_none h2] at h
 simp [hi]
theorem own_srcC {w w' : World} {W : Nat} {e : TypeId} {g n size : Nat} {v : Value} {xs : List Value} (h : w.ownsRow W e size v n xs) (hg : w.grownBy w' (some g)) (hW : g < W) : w'.ownsRow W e size v n xs := by
 refine World.ownsRow.kept h hg ?_
 cases hv : v.ownBlock with
 | none => exact .inl rfl
 | some k => right; intro e; have := (h.lt k hv).1; injection e with e; omega
theorem clsR_row {W : World} {B : Nat} {q : Cls} (h : W.heap[B]? = some (.cells #[.string ⟨q.c.toArray⟩, .int .i64 q.k, .int .i64 q.p, .int .i64 q.v, .int .i64 q.r, .int .i64 q.e, .string ⟨q.t.toArray⟩] 47 (0, 0))) : ClsR W (some ⟨B, 0, none⟩) [q] := fun _ =>
 ⟨B, 0, rfl, lt_some h, fun j v hj => by
  rw [cell_of_row _ _ _ _ _ _ h, Nat.zero_add]
  simpa [Cls.cells] using hj⟩
theorem rw_row {W : World} {B : Nat} {vs : List Value} {t : TypeId} (h : W.heap[B]? = some (.cells vs.toArray t (0, 0))) : Rw W (some ⟨B, 0, none⟩) vs := fun _ =>
 ⟨B, 0, rfl, lt_some h, fun j v hj => by
  rw [cell_of_row _ _ _ _ _ _ h, Nat.zero_add]
  simpa using hj⟩
def codesC12 : List (List UInt8) := [[97, 108, 98, 97], [98, 111, 114, 111], [99, 97, 112, 101], [100, 111, 114, 97], [101, 108, 105, 110], [97, 108, 98, 97], [98, 111, 114, 111], [99, 97, 112, 101], [100, 111, 114, 97], [], [65, 108, 98, 97], [116, 111, 111, 108, 111, 110, 103]]
def codesC6 : List (List UInt8) := [[97, 97], [98, 98], [99, 99], [100, 100], [101, 101], [102, 102]]
def strC (s : List UInt8) : Value := .string ⟨s.toArray⟩
theorem text_atC {ts : List (List UInt8)} {n : Nat} (h : ∀ s ∈ ts, s.length <= n) {k : Nat} (hk : k < ts.length) : ∃ s : List UInt8, s.length <= n /\ (ts.map strC)[k]? = some (.string ⟨s.toArray⟩) :=
 ⟨ts[k], h _ (List.getElem_mem hk), by simp [hk, strC]⟩
theorem cell_code {W : World} {B k : Nat} {t : TypeId} {v : Value} {ts : List (List UInt8)} (h : W.heap[B]? = some (.cells (ts.map strC).toArray t (0, 0))) (hv : (ts.map strC)[k]? = some v) : W.cell? ⟨B, k, none⟩ = some v := by
 rw [cell_of_row _ _ _ _ _ _ h]; simpa using hv
theorem code_anyC (g : Nat) (base : Nat) (A : Option Addr) (c : Nat) (bs : List Int) (w : World) (h : Src w base g A c bs) :
  Calls Tryz.prog 73 #[.pointer (some ⟨g, 0, none⟩)] w (fun e w' => ∃ s : List UInt8, e = .returned (.string ⟨s.toArray⟩) /\ s.length <= 7 /\ Src w' base g A c bs /\ w.grownBy w' (some g)) := by
 have hgl := h.lt
 have hrow : (w.alloc (.cells (codesC12.map strC).toArray 9)).heap[w.heap.size]? = some (.cells (codesC12.map strC).toArray 9 (0, 0)) := heap_alloc_new w _
 go_enter Tryz.func73, Tryz.ntmps73
 go_wp2_with fail
 refine (next_any g _ base A c bs _ (h.alloc _) (by omega)).mono ?_
 rintro e w1 ⟨r, rfl, r0, r1, h1, g1⟩
 obtain ⟨k, rfl⟩ := Int.eq_ofNat_of_zero_le r0
 have hk : k < 12 := by omega
 obtain ⟨s, hs, hv⟩ := text_atC (ts := codesC12) (n := 7) (by decide) (k := k) hk
 have hcell := cell_code (keepG g1 hrow (by omega)) hv
 clear hrow hv
 go_wp2_with fail
 go_ret
 exact ⟨s, rfl, hs, h1, (World.grownBy_alloc _ _ _).trans g1⟩
def Dcv (q : Cls) : Prop := q.c.length <= 7 /\ q.t.length <= 7 /\ (-1 <= q.k /\ q.k <= 6) /\ (0 <= q.p /\ q.p <= 2) /\ (0 <= q.v /\ q.v <= 2) /\ (0 <= q.r /\ q.r <= 2) /\ (0 <= q.e /\ q.e <= 3)
theorem snoc_dcv {ps : List Cls} {x : Cls} (h : ∀ p ∈ ps, Dcv p) (hx : Dcv x) : ∀ p ∈ ps ++ [x], Dcv p := by
 intro p hp
 rcases List.mem_append.1 hp with h2 | h2
 ·
  exact h p h2
 ·
  rw [List.mem_singleton.1 h2]; exact hx
theorem put_src {W wq : World} {base g C : Nat} {A : Option Addr} {c : Nat} {bs : List Int} (hs : Src W base g A c bs) (hG : wq.grownBy W (some g)) (hgC : g < C) (hwC : wq.heap.size <= C) (j : Nat) (u : Value) :
  Src (W.setCell ⟨C, j, none⟩ u) base g A c bs /\ wq.grownBy (W.setCell ⟨C, j, none⟩ u) (some g) :=
 ⟨hs.keep ((Below.refl _ _).setCell (p := ⟨C, j, none⟩) hgC _), grown_below hG ((Below.refl _ _).setCell (p := ⟨C, j, none⟩) hwC _)⟩
end Go.Proofs.YtjcklmhgjdmjoaaGreat

