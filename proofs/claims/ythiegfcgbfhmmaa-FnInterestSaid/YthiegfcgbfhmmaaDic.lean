/- laws.roll, (*dice).below: numbers that follow from a code. -/
import Derived.Test.YthiegfcgbfhmmaaDraw
import Derived.Shelf.Bits.Mul64
namespace Go.Proofs.Ythiegfcgbfhmmaa
open Go.ChangeShapes Go.WideShapes Go.ChangeAt Go.RowKit
set_option linter.unusedVariables false

/-- Dice in block g, whose code lies below 'base'. -/
def Dic (w : World) (base g : Nat) (A : Option Addr) (c : Nat) (bs : List Int) : Prop :=
  base ≤ g ∧ Rw w A (bs.map (Value.int .u8)) ∧ (bs ≠ [] → Bd A base) ∧ (∀ b ∈ bs, 0 ≤ b ∧ b ≤ 255) ∧ bs.length ≤ 4096 ∧
  ∃ (p : Nat) (s : Int), w.heap[g]? = some (.cells #[.slice A bs.length c, .int .i64 p, .int .u64 s] 72 (0, 0)) ∧ p ≤ bs.length ∧ 0 ≤ s ∧ s ≤ 18446744073709551615
theorem Dic.write {w : World} {base g : Nat} {A : Option Addr} {c : Nat} {bs : List Int} (h : Dic w base g A c bs) {j : Nat} {u : Value} (p : Nat) (s : Int) (hp : p ≤ bs.length) (h0 : 0 ≤ s) (h1 : s ≤ 18446744073709551615)
    (hw : (w.setCell ⟨g, j, none⟩ u).heap[g]? = some (.cells #[.slice A bs.length c, .int .i64 p, .int .u64 s] 72 (0, 0))) :
    Dic (w.setCell ⟨g, j, none⟩ u) base g A c bs ∧ w.grownBy (w.setCell ⟨g, j, none⟩ u) (some g) := by
  obtain ⟨g1, g2, g3, g4, g5, _⟩ := h
  refine ⟨⟨g1, g2.keepC g3 ?_, g3, g4, g5, p, s, hw, hp, h0, h1⟩, ⟨rfl, rfl, rfl, by simp, fun k _ hk => heap_setCell_other w ⟨g, j, none⟩ k u (fun e => hk (by simp [e]))⟩⟩
  exact (Below.refl _ _).setCell (by simpa using g1) _
theorem Dic.drewN {w : World} {base g : Nat} {A : Option Addr} {c : Nat} {bs : List Int} (h : Dic w base g A c bs) (n : Nat) : Dic (w.drewN n) base g A c bs := h
def NewDic (w : World) (A : Option Addr) (c : Nat) (bs : List Int) (e : Ending) (w' : World) : Prop :=
  ∃ g, e = .returned (.pointer (some ⟨g, 0, none⟩)) ∧ Dic w' w.heap.size g A c bs ∧ Below w.heap.size w w'
theorem wrapU (x : Int) : 0 ≤ IntKind.u64.wrap x ∧ IntKind.u64.wrap x ≤ 18446744073709551615 := by
  have h : IntKind.u64.wrap x = x % 18446744073709551616 := rfl
  rw [h]; omega

set_option maxHeartbeats 1000000 in
theorem roll_any (A : Option Addr) (c : Nat) (bs : List Int) (seed : Int) (w : World) (h : Code0 w A bs) (s0 : 0 ≤ seed) (s1 : seed ≤ 1000000) :
    Calls Try.prog 22 #[.slice A bs.length c, .int .u64 seed] w (NewDic w A c bs) := by
  obtain ⟨hA, hB, hbs, hl⟩ := h
  have H0 : Hid (Dic (w.alloc (Obj.cells #[.slice A bs.length c, .int .i64 0, .int .u64 (seed * 7919 + bs.length)] 72)) w.heap.size w.heap.size A c bs) := Lib.hid
    ⟨Nat.le_refl _, hA.below ((Below.refl _ _).alloc (Nat.le_refl _) _), hB, hbs, hl, 0, _, heap_alloc_new _ _, by omega, by omega, by omega⟩
  go_enter Try.func22, Try.ntmps22
  go_wp2_with fail
  go_loopw [6] (fun i wr => ∃ k : Nat, k ≤ bs.length ∧ i = .int .i64 k ∧ Dic wr w.heap.size w.heap.size A c bs ∧ Below w.heap.size w wr) (fun i _ => bs.length - (intOf i).toNat)
  case atStart => exact ⟨0, Nat.zero_le _, rfl, H0.out, (Below.refl _ _).alloc (Nat.le_refl _) _⟩
  case round =>
    obtain ⟨k, hk, rfl, hsrc, hb⟩ := hrel
    by_cases hlt : k < bs.length
    · have H := Lib.hid hsrc
      obtain ⟨_, hA2, _, _, _, p, s, hg, hp, s0, s1⟩ := hsrc
      obtain ⟨b, off, rfl, hbl2, hcell⟩ := hA2 (by simp; omega)
      have c2 := cell_of_row wr w.heap.size 2 _ _ _ hg
      have f2 := frozen_of_row wr w.heap.size 2 _ _ hg
      simp only [List.getElem?_toArray, List.getElem?_cons_zero, List.getElem?_cons_succ] at c2
      have hx := hcell k (.int .u8 bs[k]) (by simp [hlt])
      have hxb := hbs bs[k] (List.getElem_mem hlt)
      generalize bs[k] = x at hx hxb
      obtain ⟨x0, x1⟩ := hxb
      have HS := Lib.hid (H.out.write (j := 2) (u := .int .u64 (IntKind.u64.wrap (IntKind.u64.wrap (IntKind.u64.wrap (s * 1099511628211) + x) + 3))) p _ hp (wrapU _).1 (wrapU _).2 (by rw [heap_setCell_same wr w.heap.size 2 _ _ _ hg]; rfl))
      clear hA hB hbs hcell hA2 hg
      go_wp2_with fail
      go_region
      go_wp2_with fail
      go_roundw
      case rel => exact ⟨k + 1, by omega, by go_num, HS.out.1.drewN 1, (hb.grown HS.out.2 hb.size (by simp)).drew⟩
      case measure => simp [intOf]; omega
    · go_wp2_with fail
      go_ret
      exact ⟨_, rfl, hsrc, hb⟩

theorem mask24 (x : Int) (h0 : 0 ≤ x) (h1 : x ≤ 18446744073709551615) : 0 ≤ bits .and .u64 x 16777215 ∧ bits .and .u64 x 16777215 ≤ 16777215 := by
  obtain ⟨a, rfl⟩ := Int.eq_ofNat_of_zero_le h0
  have h := bits_and_u64_nat a 16777215 (by omega) (by omega)
  have e : a &&& 16777215 = a % 16777216 := Nat.and_two_pow_sub_one_eq_mod a 24
  rw [e] at h
  have h' : bits .and .u64 (a : Int) 16777215 = ((a % 16777216 : Nat) : Int) := h
  rw [h']
  omega
/-- What a throw leaves: a number below n. -/
def Threw (w : World) (base g : Nat) (A : Option Addr) (c : Nat) (bs : List Int) (n : Int) (e : Ending) (w' : World) : Prop :=
  ∃ r : Int, e = .returned (.int .i64 r) ∧ 0 ≤ r ∧ r < n ∧ Dic w' base g A c bs ∧ w.grownBy w' (some g)
set_option maxHeartbeats 1000000 in
theorem below_any (g : Nat) (n : Int) (base : Nat) (A : Option Addr) (c : Nat) (bs : List Int) (w : World) (h : Dic w base g A c bs) (hn0 : 1 ≤ n) (hn : n ≤ 1000000000) :
    Calls Try.prog 23 #[.pointer (some ⟨g, 0, none⟩), .int .i64 n] w (Threw w base g A c bs n) := by
  have H := Lib.hid h
  obtain ⟨_, hA, _, hbs, hbl, p, s, hg, hp, s0, s1⟩ := h
  have c0 := cell_of_row w g 0 _ _ _ hg
  have c1 := cell_of_row w g 1 _ _ _ hg
  have c2 := cell_of_row w g 2 _ _ _ hg
  have f1 := frozen_of_row w g 1 _ _ hg
  have f2 := frozen_of_row w g 2 _ _ hg
  simp only [List.getElem?_toArray, List.getElem?_cons_zero, List.getElem?_cons_succ] at c0 c1 c2
  obtain ⟨V, hV⟩ : ∃ V, V = IntKind.u64.wrap (IntKind.u64.wrap (s * 6364136223846793005) + 1442695040888963407) := ⟨_, rfl⟩
  have v0 : 0 ≤ V ∧ V ≤ 18446744073709551615 := by rw [hV]; exact wrapU _
  obtain ⟨T0, T1⟩ := mask24 (V / 8589934592) (by omega) (by omega)
  have HS := Lib.hid (H.out.write (j := 2) (u := .int .u64 V) p V hp v0.1 v0.2 (by rw [heap_setCell_same w g 2 _ _ _ hg]; rfl))
  have h2g : Hid ((w.setCell ⟨g, 2, none⟩ (.int .u64 V)).heap[g]? = some (.cells #[.slice A bs.length c, .int .i64 p, .int .u64 V] 72 (0, 0))) := Lib.hid (by rw [heap_setCell_same w g 2 _ _ _ hg]; rfl)
  generalize hT : bits .and .u64 (V / 8589934592) 16777215 = T at *
  rw [hV] at hT
  clear hg
  by_cases hlt : p < bs.length
  · obtain ⟨b, off, rfl, hbl2, hcell⟩ := hA (by simp; omega)
    have hbg : b < g := Nat.lt_of_lt_of_le (H.out.2.2.1 (ne_nil hlt) _ rfl) H.out.1
    have hbne : b ≠ g := by omega
    have hx := hcell p (.int .u8 bs[p]) (by simp [hlt])
    have hxb := hbs bs[p] (List.getElem_mem hlt)
    generalize bs[p] = x at hx hxb
    obtain ⟨x0, x1⟩ := hxb
    have hd : decide ((p : Int) < (bs.length : Int)) = true := by simp; omega
    have HS2 : Hid (∀ a, Dic (((w.setCell ⟨g, 2, none⟩ (.int .u64 V)).drewN a).setCell ⟨g, 1, none⟩ (.int .i64 ((p : Int) + 1))) base g (some ⟨b, off, none⟩) c bs ∧
        w.grownBy (((w.setCell ⟨g, 2, none⟩ (.int .u64 V)).drewN a).setCell ⟨g, 1, none⟩ (.int .i64 ((p : Int) + 1))) (some g)) := Lib.hid (fun a => by
      have hv := HS.out.1.2.2.2.2.2
      have h3 := (HS.out.1.drewN a).write (j := 1) (u := .int .i64 ((p : Int) + 1)) (p + 1) V (by omega) v0.1 v0.2 (by rw [heap_setCell_same ((w.setCell ⟨g, 2, none⟩ (.int .u64 V)).drewN a) g 1 _ _ _ h2g.out]; simp)
      exact ⟨h3.1, (grown_drewN HS.out.2 a).trans h3.2⟩)
    have hmod : 0 ≤ (T + x) % n ∧ (T + x) % n < n := ⟨Int.emod_nonneg _ (by omega), Int.emod_lt_of_pos _ (by omega)⟩
    have hmod0 := hmod.1; have hmod1 := hmod.2
    clear hcell hbs hmod v0
    go_enter Try.func23, Try.ntmps23
    go_wp2_with fail
    rw [← hV]
    clear hT hV
    go_quiet (fail)
    go_wp2_with fail
    go_quiet (fail)
    go_wp2_with fail
    go_ret
    exact ⟨_, rfl, hmod0, hmod1, (HS2.out _).1, (HS2.out _).2⟩
  · have hd : decide ((p : Int) < (bs.length : Int)) = false := by simp; omega
    have hmod : 0 ≤ T % n ∧ T % n < n := ⟨Int.emod_nonneg _ (by omega), Int.emod_lt_of_pos _ (by omega)⟩
    have hmod0 := hmod.1; have hmod1 := hmod.2
    clear hmod v0
    go_enter Try.func23, Try.ntmps23
    go_wp2_with fail
    rw [← hV]
    clear hT hV
    go_quiet (fail)
    go_wp2_with fail
    go_ret
    exact ⟨_, rfl, hmod0, hmod1, HS.out.1.drewN _, grown_drewN HS.out.2 _⟩
end Go.Proofs.Ythiegfcgbfhmmaa
