/- The source of drawn numbers: whatever it holds, what it gives lies in its range, and it writes into its own block alone. -/
import Derived.Test.YtmhlkbocejnpoaaDoorBase
import Derived.RegionTactic
import Derived.ChangeAlike
namespace Go.Proofs.YtmhlkbocejnpoaaDoor
open Go.ChangeShapes Go.WideShapes Go.ChangeAt Go.RowKit
set_option linter.unusedVariables false

theorem Rw.keepC {w w' : World} {A : Option Addr} {bs : List Int} {B : Nat} (h : Rw w A (bs.map (Value.int .u8))) (hA : bs ≠ [] → Bd A B) (hb : Below B w w') : Rw w' A (bs.map (Value.int .u8)) := by
  by_cases h0 : bs = []
  · subst h0; intro hp; simp at hp
  · exact h.keepB (hA h0) hb
theorem ne_nil {bs : List Int} {k : Nat} (h : k < bs.length) : bs ≠ [] := by rintro rfl; simp at h
/-- A source in block g, whose code lies below 'base'. -/
def Src (w : World) (base g : Nat) (A : Option Addr) (c : Nat) (bs : List Int) : Prop :=
  base ≤ g ∧ Rw w A (bs.map (Value.int .u8)) ∧ (bs ≠ [] → Bd A base) ∧ (∀ b ∈ bs, 0 ≤ b ∧ b ≤ 255) ∧ bs.length ≤ 4096 ∧
  ∃ (p : Nat) (s : Int), w.heap[g]? = some (.cells #[.slice A bs.length c, .int .i64 p, .int .i64 s] 66 (0, 0)) ∧ p ≤ bs.length ∧ 0 ≤ s ∧ s ≤ 2147483646

section
variable {w w' : World} {base g : Nat} {A : Option Addr} {c : Nat} {bs : List Int}
theorem Src.lt (h : Src w base g A c bs) : g < w.heap.size := by
  obtain ⟨_, _, _, _, _, p, s, hg, _⟩ := h
  rcases Nat.lt_or_ge g w.heap.size with hlt | hge
  · exact hlt
  · rw [Array.getElem?_eq_none hge] at hg; cases hg
theorem Src.drewN (h : Src w base g A c bs) (n : Nat) : Src (w.drewN n) base g A c bs := h
theorem Src.keep (h : Src w base g A c bs) (hb : Below (g + 1) w w') : Src w' base g A c bs := by
  have hl := h.lt
  obtain ⟨h1, h2, h3, h4, h5, p, s, hg, h6⟩ := h
  refine ⟨h1, h2.keepC h3 (hb.mono (by omega)), h3, h4, h5, p, s, ?_, h6⟩
  rw [hb.block g (by omega)]; exact hg
theorem Src.below (h : Src w base g A c bs) (hb : Below w.heap.size w w') : Src w' base g A c bs := h.keep (hb.mono (by have := h.lt; omega))
theorem Src.write (h : Src w base g A c bs) {j : Nat} {u : Value} (p : Nat) (s : Int) (hp : p ≤ bs.length) (h0 : 0 ≤ s) (h1 : s ≤ 2147483646)
    (hw : (w.setCell ⟨g, j, none⟩ u).heap[g]? = some (.cells #[.slice A bs.length c, .int .i64 p, .int .i64 s] 66 (0, 0))) :
    Src (w.setCell ⟨g, j, none⟩ u) base g A c bs ∧ w.grownBy (w.setCell ⟨g, j, none⟩ u) (some g) := by
  obtain ⟨g1, g2, g3, g4, g5, _⟩ := h
  refine ⟨⟨g1, g2.keepC g3 ?_, g3, g4, g5, p, s, hw, hp, h0, h1⟩, ⟨rfl, rfl, rfl, by simp, fun k _ hk => heap_setCell_other w ⟨g, j, none⟩ k u (fun e => hk (by simp [e]))⟩⟩
  exact (Below.refl _ _).setCell (by simpa using g1) _
end

theorem grown_drewN {w w' : World} {row : Option Nat} (h : w.grownBy w' row) (n : Nat) : w.grownBy (w'.drewN n) row := ⟨h.os, h.tape, h.output, h.size, h.block⟩

/-- What a draw leaves: a number in its range; the source goes on; nothing else is written. -/
def Drew (w : World) (base g : Nat) (A : Option Addr) (c : Nat) (bs : List Int) (lo hi : Int) (e : Ending) (w' : World) : Prop :=
  ∃ r : Int, e = .returned (.int .i64 r) ∧ lo ≤ r ∧ r ≤ hi ∧ Src w' base g A c bs ∧ w.grownBy w' (some g)

theorem mod_in {x n : Int} (hn : 1 < n) : 0 ≤ x % n ∧ x % n ≤ n - 1 := ⟨Int.emod_nonneg _ (by omega), by have := Int.emod_lt_of_pos x (by omega : 0 < n); omega⟩

set_option maxHeartbeats 1000000 in
theorem next_any (g : Nat) (n : Int) (base : Nat) (A : Option Addr) (c : Nat) (bs : List Int) (w : World) (h : Src w base g A c bs) (hn : n ≤ 9000000000000000000) :
    Calls Tryd.prog 26 #[.pointer (some ⟨g, 0, none⟩), .int .i64 n] w (Drew w base g A c bs 0 (max (n - 1) 0)) := by
  by_cases h1 : n ≤ 1
  · go_enter Tryd.func26, Tryd.ntmps26
    go_wp2_with fail
    go_ret
    exact ⟨0, rfl, by omega, by omega, h, World.grownBy.refl _ _⟩
  · have H := Lib.hid h
    obtain ⟨_, hA, _, hbs, hbl, p, s, hg, hp, s0, s1⟩ := h
    have c0 := cell_of_row w g 0 _ _ _ hg
    have c1 := cell_of_row w g 1 _ _ _ hg
    have c2 := cell_of_row w g 2 _ _ _ hg
    have f1 := frozen_of_row w g 1 _ _ hg
    have f2 := frozen_of_row w g 2 _ _ hg
    simp only [List.getElem?_toArray, List.getElem?_cons_zero, List.getElem?_cons_succ] at c0 c1 c2
    have HS := Lib.hid (H.out.write (j := 2) (u := .int .i64 ((s * 48271 + 29) % 2147483647)) p ((s * 48271 + 29) % 2147483647) hp (by omega) (by omega) (by rw [heap_setCell_same w g 2 _ _ _ hg]; rfl))
    have m0 : 0 ≤ (s * 48271 + 29) % 2147483647 := by omega
    have m1 : (s * 48271 + 29) % 2147483647 ≤ 2147483646 := by omega
    have h2g : Hid ((w.setCell ⟨g, 2, none⟩ (.int .i64 ((s * 48271 + 29) % 2147483647))).heap[g]? = some (.cells #[.slice A bs.length c, .int .i64 p, .int .i64 ((s * 48271 + 29) % 2147483647)] 66 (0, 0))) := Lib.hid (by rw [heap_setCell_same w g 2 _ _ _ hg]; rfl)
    clear hg
    by_cases hlt : p < bs.length
    · obtain ⟨b, off, rfl, hbl2, hcell⟩ := hA (by simp; omega)
      have hbg : b < g := Nat.lt_of_lt_of_le (H.out.2.2.1 (ne_nil hlt) _ rfl) H.out.1
      have hbne : b ≠ g := by omega
      have hx := hcell p (.int .u8 bs[p]) (by simp [hlt])
      have hxb := hbs bs[p] (List.getElem_mem hlt)
      generalize bs[p] = x at hx hxb
      obtain ⟨x0, x1⟩ := hxb
      have hd : decide ((p : Int) < (bs.length : Int)) = true := by simp; omega
      clear hcell hbs
      have HS2 : Hid (∀ a, Src (((w.setCell ⟨g, 2, none⟩ (.int .i64 ((s * 48271 + 29) % 2147483647))).drewN a).setCell ⟨g, 1, none⟩ (.int .i64 ((p : Int) + 1))) base g (some ⟨b, off, none⟩) c bs ∧
          w.grownBy (((w.setCell ⟨g, 2, none⟩ (.int .i64 ((s * 48271 + 29) % 2147483647))).drewN a).setCell ⟨g, 1, none⟩ (.int .i64 ((p : Int) + 1))) (some g)) := Lib.hid (fun a => by
        have h3 := (HS.out.1.drewN a).write (j := 1) (u := .int .i64 ((p : Int) + 1)) (p + 1) ((s * 48271 + 29) % 2147483647) (by omega) (by omega) (by omega) (by rw [heap_setCell_same ((w.setCell ⟨g, 2, none⟩ (.int .i64 ((s * 48271 + 29) % 2147483647))).drewN a) g 1 _ _ _ h2g.out]; simp)
        exact ⟨h3.1, (grown_drewN HS.out.2 a).trans h3.2⟩)
      by_cases h2 : n ≤ 256
      · by_cases h3 : ((p : Int) + 1) % 2 = 0
        · have h3' : (((p : Int) + 1) % 2 == 0) = true := by simpa using h3
          clear h3
          go_enter Tryd.func26, Tryd.ntmps26
          go_wp2_with fail
          go_quiet (fail)
          go_wp2_with fail
          go_quiet (fail)
          go_wp2_with fail
          go_quiet (fail)
          go_wp2_with fail
          go_ret
          exact ⟨_, rfl, (mod_in (by omega)).1, Int.le_trans (mod_in (by omega)).2 (by omega), (HS2.out _).1.drewN _, grown_drewN (HS2.out _).2 _⟩
        · have h3' : (((p : Int) + 1) % 2 == 0) = false := by simpa using h3
          clear h3
          go_enter Tryd.func26, Tryd.ntmps26
          go_wp2_with fail
          go_quiet (fail)
          go_wp2_with fail
          go_quiet (fail)
          go_wp2_with fail
          go_ret
          exact ⟨_, rfl, (mod_in (by omega)).1, Int.le_trans (mod_in (by omega)).2 (by omega), (HS2.out _).1, (HS2.out _).2⟩
      · go_enter Tryd.func26, Tryd.ntmps26
        go_wp2_with fail
        go_quiet (fail)
        go_wp2_with fail
        go_quiet (fail)
        go_wp2_with fail
        go_ret
        exact ⟨_, rfl, (mod_in (by omega)).1, Int.le_trans (mod_in (by omega)).2 (by omega), (HS2.out _).1, (HS2.out _).2⟩
    · have hd : decide ((p : Int) < (bs.length : Int)) = false := by simp; omega
      obtain ⟨r0, r1⟩ := mod_in (x := (s * 48271 + 29) % 2147483647 / 31) (n := n) (by omega)
      go_enter Tryd.func26, Tryd.ntmps26
      go_wp2_with fail
      go_quiet (fail)
      go_wp2_with fail
      go_ret
      exact ⟨_, rfl, r0, by omega, HS.out.1.drewN _, grown_drewN HS.out.2 _⟩

def NewSrc (w : World) (A : Option Addr) (c : Nat) (bs : List Int) (e : Ending) (w' : World) : Prop :=
  ∃ g, e = .returned (.pointer (some ⟨g, 0, none⟩)) ∧ Src w' w.heap.size g A c bs ∧ Below w.heap.size w w'

set_option maxHeartbeats 1000000 in
theorem from_any (A : Option Addr) (c : Nat) (bs : List Int) (w : World) (hA : Rw w A (bs.map (Value.int .u8))) (hB : bs ≠ [] → Bd A w.heap.size) (hbs : ∀ b ∈ bs, 0 ≤ b ∧ b ≤ 255) (hl : bs.length ≤ 4096) :
    Calls Tryd.prog 18 #[.slice A bs.length c] w (NewSrc w A c bs) := by
  have H0 : Hid (Src (w.alloc (Obj.cells #[.slice A bs.length c, .int .i64 0, .int .i64 41017] 66)) w.heap.size w.heap.size A c bs) := Lib.hid
    ⟨Nat.le_refl _, hA.below ((Below.refl _ _).alloc (Nat.le_refl _) _), hB, hbs, hl, 0, 41017, heap_alloc_new _ _, by omega, by omega, by omega⟩
  go_enter Tryd.func18, Tryd.ntmps18
  go_wp2_with fail
  go_loopw [4] (fun i wr => ∃ k : Nat, k ≤ bs.length ∧ k ≤ 64 ∧ i = .int .i64 k ∧ Src wr w.heap.size w.heap.size A c bs ∧ Below w.heap.size w wr) (fun i _ => bs.length - (intOf i).toNat)
  case atStart => exact ⟨0, Nat.zero_le _, by omega, rfl, H0.out, (Below.refl _ _).alloc (Nat.le_refl _) _⟩
  case round =>
    obtain ⟨k, hk, hk2, rfl, hsrc, hb⟩ := hrel
    by_cases hlt : k < bs.length
    · by_cases hlt2 : k < 64
      · have H := Lib.hid hsrc
        obtain ⟨_, hA2, _, _, _, p, s, hg, hp, s0, s1⟩ := hsrc
        obtain ⟨b, off, rfl, hbl2, hcell⟩ := hA2 (by simp; omega)
        have c2 := cell_of_row wr w.heap.size 2 _ _ _ hg
        have f2 := frozen_of_row wr w.heap.size 2 _ _ hg
        simp only [List.getElem?_toArray, List.getElem?_cons_zero, List.getElem?_cons_succ] at c2
        have hx := hcell k (.int .u8 bs[k]) (by simp [hlt])
        have hxb := hbs bs[k] (List.getElem_mem hlt)
        generalize bs[k] = x at hx hxb
        obtain ⟨x0, x1⟩ := hxb
        have HS := Lib.hid (H.out.write (j := 2) (u := .int .i64 ((s * 67 + x) % 2147483647)) p ((s * 67 + x) % 2147483647) hp (by omega) (by omega) (by rw [heap_setCell_same wr w.heap.size 2 _ _ _ hg]; rfl))
        clear hA hB hbs hcell hg hA2
        go_wp2_with fail
        go_region
        go_wp2_with fail
        go_roundw
        case rel => exact ⟨k + 1, by omega, by omega, by go_num, HS.out.1.drewN 1, (hb.grown HS.out.2 hb.size (by simp)).drew⟩
        case measure => simp [intOf]; omega
      · have hd : decide ((k : Int) < 64) = false := by simp; omega
        go_wp2_with fail
        go_ret
        exact ⟨_, rfl, hsrc, hb⟩
    · go_wp2_with fail
      go_ret
      exact ⟨_, rfl, hsrc, hb⟩

theorem drew_chain {w w1 w2 : World} {g : Nat} (h : w.grownBy w1 (some g)) (k : w1.grownBy w2 (some g)) : w.grownBy w2 (some g) := h.trans k
theorem grown_alloc {w w1 : World} {g : Nat} (h : w.grownBy w1 (some g)) (o : Obj) : w.grownBy (w1.alloc o) (some g) := h.trans (World.grownBy_alloc w1 o _)
theorem Src.alloc {w : World} {base g : Nat} {A : Option Addr} {c : Nat} {bs : List Int} (h : Src w base g A c bs) (o : Obj) : Src (w.alloc o) base g A c bs :=
  h.below ((Below.refl _ _).alloc (Nat.le_refl _) _)
/-- Pick: one of the numbers. -/
theorem pick_any (g : Nat) (B : Option Addr) (d n : Nat) (xs : List Int) (lo hi : Int) (base : Nat) (A : Option Addr) (c : Nat) (bs : List Int) (w : World) (h : Src w base g A c bs) (hx : Ir w B xs) (hn : xs.length = n)
    (hne : ∀ a, B = some a → a.block ≠ g) (h0 : 0 < n) (h1 : n ≤ 1000) (hb : ∀ x ∈ xs, lo ≤ x ∧ x ≤ hi) :
    Calls Tryd.prog 40 #[.pointer (some ⟨g, 0, none⟩), .slice B n d] w (Drew w base g A c bs lo hi) := by
  subst hn
  go_enter Tryd.func40, Tryd.ntmps40
  go_wp2_with fail
  refine (next_any g _ base A c bs _ h (by omega)).mono ?_
  rintro e w1 ⟨r, rfl, r0, r1, hs1, hg1⟩
  obtain ⟨k, rfl⟩ := Int.eq_ofNat_of_zero_le r0
  have hk : k < xs.length := by omega
  obtain ⟨b, off, x, rfl, hc, hxk⟩ := Ir.at (Rw.grown hx hg1 hne) hk
  go_wp2_with fail
  go_ret
  have hxb := hb x (List.mem_of_getElem? hxk.out)
  exact ⟨x, rfl, hxb.1, hxb.2, hs1, hg1⟩

/-- Pick from numbers that the call has just laid. -/
theorem pick_new (g : Nat) (n : Nat) (xs : List Int) (lo hi : Int) (base : Nat) (A : Option Addr) (c : Nat) (bs : List Int) (w : World) (h : Src w base g A c bs) (hn : xs.length = n) (h0 : 0 < n) (h1 : n ≤ 1000)
    (hb : ∀ x ∈ xs, lo ≤ x ∧ x ≤ hi) :
    Calls Tryd.prog 40 #[.pointer (some ⟨g, 0, none⟩), .slice (some ⟨w.heap.size, 0, none⟩) n n] (w.alloc (.cells (xs.map (Value.int .i64)).toArray 2)) (Drew w base g A c bs lo hi) := by
  refine (pick_any g _ n n xs lo hi base A c bs _ (h.alloc _) (Rw.new w _ _ _) hn (by rintro a ⟨rfl⟩; have := h.lt; show w.heap.size ≠ g; omega) h0 h1 hb).mono ?_
  rintro e w' ⟨r, rfl, r0, r1, hs, hg⟩
  exact ⟨r, rfl, r0, r1, hs, (World.grownBy_alloc w _ _).trans hg⟩

theorem grown_below {w wr w' : World} {g : Nat} (h : w.grownBy wr (some g)) (hb : Below w.heap.size wr w') : w.grownBy w' (some g) :=
  ⟨hb.os.trans h.os, hb.tape.trans h.tape, hb.output.trans h.output, Nat.le_trans h.size hb.size, fun k hk hn => (hb.block k hk).trans (h.block k hk hn)⟩

theorem keepG {w w' : World} {g k : Nat} {o : Obj} (hg : w.grownBy w' (some g)) (h : w.heap[k]? = some o) (hne : k ≠ g) : w'.heap[k]? = some o :=
  (hg.block k (by
    rcases Nat.lt_or_ge k w.heap.size with hlt | hge
    · exact hlt
    · rw [Array.getElem?_eq_none hge] at h; cases h) (by simpa using hne)).trans h
/-- The code of a law: bytes, not many. -/
def Code0 (w : World) (A : Option Addr) (bs : List Int) : Prop := Rw w A (bs.map (Value.int .u8)) ∧ (bs ≠ [] → Bd A w.heap.size) ∧ (∀ b ∈ bs, 0 ≤ b ∧ b ≤ 255) ∧ bs.length ≤ 4096
theorem Code0.below {w w' : World} {A : Option Addr} {bs : List Int} (h : Code0 w A bs) (hb : Below w.heap.size w w') : Code0 w' A bs :=
  ⟨h.1.below hb, fun hn => (h.2.1 hn).mono hb.size, h.2.2⟩
theorem code_from (A : Option Addr) (c : Nat) (bs : List Int) (w : World) (h : Code0 w A bs) : Calls Tryd.prog 18 #[.slice A bs.length c] w (NewSrc w A c bs) :=
  from_any A c bs w h.1 h.2.1 h.2.2.1 h.2.2.2
theorem src_below {w w1 w2 : World} {g : Nat} (h : Below w.heap.size w w1) (hg : w1.grownBy w2 (some g)) (hl : w.heap.size ≤ g) : Below w.heap.size w w2 :=
  h.grown hg h.size (by simpa using hl)

end Go.Proofs.YtmhlkbocejnpoaaDoor
