/- Drawn dates. -/
import Derived.Test.YtpnkjpfhmiaffaaDoorDraw
import Derived.Test.YtpnkjpfhmiaffaaDoorDofs
namespace Go.Proofs.YtpnkjpfhmiaffaaDoor
open Go.ChangeShapes Go.WideShapes Go.ChangeAt Go.RowKit
set_option linter.unusedVariables false

theorem cells6 {w : World} {g : Nat} {a b c : Value} {t : TypeId} (h : w.heap[g]? = some (.cells #[a, b, c] t (0, 0))) :
    w.cell? ⟨g, 0, none⟩ = some a ∧ w.cell? ⟨g, 1, none⟩ = some b ∧ w.cell? ⟨g, 2, none⟩ = some c ∧
    w.frozen? ⟨g, 0, none⟩ = false ∧ w.frozen? ⟨g, 1, none⟩ = false ∧ w.frozen? ⟨g, 2, none⟩ = false := (keep6 (Below.refl _ _) h).2
def DrewD (w : World) (base g : Nat) (A : Option Addr) (c : Nat) (bs : List Int) (e : Ending) (w' : World) : Prop :=
  ∃ y m d : Int, e = .returned (.agg #[.int .i64 y, .int .i64 m, .int .i64 d]) ∧ Src w' base g A c bs ∧ w.grownBy w' (some g)
def DrewOk (w : World) (base g : Nat) (A : Option Addr) (c : Nat) (bs : List Int) (e : Ending) (w' : World) : Prop :=
  ∃ y m d : Int, e = .returned (.agg #[.int .i64 y, .int .i64 m, .int .i64 d]) ∧ okd y m d ∧ Src w' base g A c bs ∧ w.grownBy w' (some g)

theorem valid_any (g : Nat) (base : Nat) (A : Option Addr) (c : Nat) (bs : List Int) (w : World) (h : Src w base g A c bs) :
    Calls Tryd.prog 46 #[.pointer (some ⟨g, 0, none⟩)] w (DrewOk w base g A c bs) := by
  have h0 := heap_alloc_new w (.cells #[.int .i64 0, .int .i64 0, .int .i64 0] 31)
  have hl := h.lt
  have hne : w.heap.size ≠ g := by omega
  have G0 := World.grownBy_alloc w (.cells #[.int .i64 0, .int .i64 0, .int .i64 0] 31) (some g)
  have S0 := h.alloc (.cells #[.int .i64 0, .int .i64 0, .int .i64 0] 31)
  go_enter Tryd.func46, Tryd.ntmps46
  go_wp2_with fail
  refine (next_any g _ base A c bs _ S0 (by omega)).mono ?_
  rintro e w1 ⟨r1, rfl, a1, b1, s1, g1⟩
  have h1 := keepG g1 h0 hne
  have G1 := G0.trans g1
  clear h0 G0 g1 S0
  go_wp2_with fail
  refine (next_any g _ base A c bs _ s1 (by omega)).mono ?_
  rintro e w2 ⟨r2, rfl, a2, b2, s2, g2⟩
  have h2 := keepG g2 h1 hne
  have G2 := G1.trans g2
  clear h1 G1 g2
  go_wp2_with fail
  refine (pick_new g 2 [r1, 18000 + r2] 0 36524 base A c bs w2 s2 rfl (by omega) (by omega) ?_).mono ?_
  · intro x hx
    simp only [List.mem_cons, List.not_mem_nil, or_false] at hx
    omega
  rintro e w3 ⟨r3, rfl, a3, b3, s3, g3⟩
  have h3 := keepG g3 h2 hne
  have G3 := G2.trans g3
  clear h2 G2 g3
  go_wp2_with fail
  refine (date_s r3 _ a3 b3).mono ?_
  rintro e w4 ⟨y, m, d, rfl, ho, hn, b4⟩
  obtain ⟨p4, c0, c1, c2, f0, f1, f2⟩ := keep6 b4 h3
  go_wp2_with fail
  obtain ⟨W, hW, e0, e1, e2, bW⟩ := done3 p4 (.int .i64 y) (.int .i64 m) (.int .i64 d)
  rw [hW]
  have b5 := bW w.heap.size w3 (Nat.le_refl _) (b4.mono G3.size)
  have SW := s3.keep (b5.mono (by omega))
  have GW := grown_below G3 b5
  clear hW h3 p4 c0 c1 c2 f0 f1 f2 bW b4 s1 s2 s3 G3 b5
  exact bodyPost_ret (v := .agg #[.int .i64 y, .int .i64 m, .int .i64 d]) (by simp [results, Tryd.results46, go_sem, e0, e1, e2]) rfl ⟨y, m, d, rfl, ho, SW, GW⟩

set_option maxHeartbeats 1000000 in
theorem date_any (g : Nat) (base : Nat) (A : Option Addr) (c : Nat) (bs : List Int) (w : World) (h : Src w base g A c bs) :
    Calls Tryd.prog 39 #[.pointer (some ⟨g, 0, none⟩)] w (DrewD w base g A c bs) := by
  have h0 := heap_alloc_new w (.cells #[.int .i64 0, .int .i64 0, .int .i64 0] 31)
  have hl := h.lt
  have hne : w.heap.size ≠ g := by omega
  have G0 := World.grownBy_alloc w (.cells #[.int .i64 0, .int .i64 0, .int .i64 0] 31) (some g)
  have S0 := h.alloc (.cells #[.int .i64 0, .int .i64 0, .int .i64 0] 31)
  go_enter Tryd.func39, Tryd.ntmps39
  go_wp2_with fail
  refine (valid_any g base A c bs _ S0).mono ?_
  rintro e w1 ⟨y, m, d, rfl, ho, s1, g1⟩
  have h1 := keepG g1 h0 hne
  have G0' := G0.trans g1
  have G1 : w.heap.size ≤ w1.heap.size := G0'.size
  have hlt1 := lt_of_some h1
  have hne1 : w1.heap.size ≠ g := by omega
  have k1 := heap_alloc_new w1 (.cells #[.int .i64 y, .int .i64 m, .int .i64 d] 31)
  have h1' := (Below.heap_alloc w1 (.cells #[.int .i64 y, .int .i64 m, .int .i64 d] 31) _ hlt1).trans h1
  have G1' := G0'.trans (World.grownBy_alloc w1 (.cells #[.int .i64 y, .int .i64 m, .int .i64 d] 31) (some g))
  have S1' := s1.alloc (.cells #[.int .i64 y, .int .i64 m, .int .i64 d] 31)
  clear h0 G0 g1 S0 h1 G0' h ho
  go_wp2_with fail
  refine (next_any g _ base A c bs _ S1' (by omega)).mono ?_
  rintro e w2 ⟨r2, rfl, a2, b2, s2, g2⟩
  have h2 := keepG g2 h1' hne
  have k2 := keepG g2 k1 hne1
  have G2 := G1'.trans g2
  clear h1' k1 G1' g2 S1'
  rcases (by omega : r2 = 0 ∨ r2 = 1 ∨ r2 = 2 ∨ 2 < r2) with rfl | rfl | rfl | hr
  · skip
    go_wp2_with fail
    refine (pick_new g 6 [0, 28, 29, 30, 31, 32] (0) (32) base A c bs w2 s2 rfl (by omega) (by omega) ?_).mono ?_
    · intro x hx
      simp only [List.mem_cons, List.not_mem_nil, or_false] at hx
      omega
    rintro e w3 ⟨r3, rfl, a3, b3, s3, g3⟩
    have h3 := keepG g3 h2 hne
    have k3 := keepG g3 k2 hne1
    have G3 := G2.trans g3
    clear h2 G2 g3 k2
    obtain ⟨c0, c1, c2, f0, f1, f2⟩ := cells6 h3
    obtain ⟨d0, d1, d2, g0, g1, g2⟩ := cells6 k3
    have z4 : (w3.setCell ⟨w1.heap.size, 2, none⟩ (.int .i64 r3)).heap[w.heap.size]? = _ := (Below.heap_setCell _ _ _ _ (by show w.heap.size ≠ w1.heap.size; omega)).trans h3
    go_wp2_with fail
    obtain ⟨W, hW, e0, e1, e2, bW⟩ := done3 z4 (.int .i64 y) (.int .i64 m) (.int .i64 r3)
    rw [hW]
    have b5 := bW w.heap.size w3 (Nat.le_refl _) ((Below.refl _ _).setCell (by simpa using G1) _)
    have SW := s3.keep (b5.mono (by omega))
    have GW := grown_below G3 b5
    clear hW h3 k3 z4 c0 c1 c2 f0 f1 f2 d0 d1 d2 g0 g1 g2 bW s1 s2 s3 G3 b5
    exact bodyPost_ret (v := .agg #[.int .i64 y, .int .i64 m, .int .i64 r3]) (by simp [results, Tryd.results39, go_sem, e0, e1, e2]) rfl ⟨y, m, r3, rfl, SW, GW⟩
  · skip
    go_wp2_with fail
    refine (pick_new g 3 [0, 2, 13] (0) (13) base A c bs w2 s2 rfl (by omega) (by omega) ?_).mono ?_
    · intro x hx
      simp only [List.mem_cons, List.not_mem_nil, or_false] at hx
      omega
    rintro e w3 ⟨r3, rfl, a3, b3, s3, g3⟩
    have h3 := keepG g3 h2 hne
    have k3 := keepG g3 k2 hne1
    have G3 := G2.trans g3
    clear h2 G2 g3 k2
    obtain ⟨c0, c1, c2, f0, f1, f2⟩ := cells6 h3
    obtain ⟨d0, d1, d2, g0, g1, g2⟩ := cells6 k3
    have z4 : (w3.setCell ⟨w1.heap.size, 1, none⟩ (.int .i64 r3)).heap[w.heap.size]? = _ := (Below.heap_setCell _ _ _ _ (by show w.heap.size ≠ w1.heap.size; omega)).trans h3
    go_wp2_with fail
    obtain ⟨W, hW, e0, e1, e2, bW⟩ := done3 z4 (.int .i64 y) (.int .i64 r3) (.int .i64 d)
    rw [hW]
    have b5 := bW w.heap.size w3 (Nat.le_refl _) ((Below.refl _ _).setCell (by simpa using G1) _)
    have SW := s3.keep (b5.mono (by omega))
    have GW := grown_below G3 b5
    clear hW h3 k3 z4 c0 c1 c2 f0 f1 f2 d0 d1 d2 g0 g1 g2 bW s1 s2 s3 G3 b5
    exact bodyPost_ret (v := .agg #[.int .i64 y, .int .i64 r3, .int .i64 d]) (by simp [results, Tryd.results39, go_sem, e0, e1, e2]) rfl ⟨y, r3, d, rfl, SW, GW⟩
  · skip
    go_wp2_with fail
    refine (pick_new g 4 [1969, 1970, 2069, 2070] (1969) (2070) base A c bs w2 s2 rfl (by omega) (by omega) ?_).mono ?_
    · intro x hx
      simp only [List.mem_cons, List.not_mem_nil, or_false] at hx
      omega
    rintro e w3 ⟨r3, rfl, a3, b3, s3, g3⟩
    have h3 := keepG g3 h2 hne
    have k3 := keepG g3 k2 hne1
    have G3 := G2.trans g3
    clear h2 G2 g3 k2
    obtain ⟨c0, c1, c2, f0, f1, f2⟩ := cells6 h3
    obtain ⟨d0, d1, d2, g0, g1, g2⟩ := cells6 k3
    have z4 : (w3.setCell ⟨w1.heap.size, 0, none⟩ (.int .i64 r3)).heap[w.heap.size]? = _ := (Below.heap_setCell _ _ _ _ (by show w.heap.size ≠ w1.heap.size; omega)).trans h3
    go_wp2_with fail
    obtain ⟨W, hW, e0, e1, e2, bW⟩ := done3 z4 (.int .i64 r3) (.int .i64 m) (.int .i64 d)
    rw [hW]
    have b5 := bW w.heap.size w3 (Nat.le_refl _) ((Below.refl _ _).setCell (by simpa using G1) _)
    have SW := s3.keep (b5.mono (by omega))
    have GW := grown_below G3 b5
    clear hW h3 k3 z4 c0 c1 c2 f0 f1 f2 d0 d1 d2 g0 g1 g2 bW s1 s2 s3 G3 b5
    exact bodyPost_ret (v := .agg #[.int .i64 r3, .int .i64 m, .int .i64 d]) (by simp [results, Tryd.results39, go_sem, e0, e1, e2]) rfl ⟨r3, m, d, rfl, SW, GW⟩
  · have e0 : (r2 == 0) = false := beq_eq_false_iff_ne.2 (by omega)
    have e1 : (r2 == 1) = false := beq_eq_false_iff_ne.2 (by omega)
    have e2 : (r2 == 2) = false := beq_eq_false_iff_ne.2 (by omega)
    obtain ⟨c0, c1, c2, f0, f1, f2⟩ := cells6 h2
    obtain ⟨d0, d1, d2, g0, g1, g2⟩ := cells6 k2
    go_wp2_with fail
    obtain ⟨W, hW, e0, e1, e2, bW⟩ := done3 h2 (.int .i64 y) (.int .i64 m) (.int .i64 d)
    rw [hW]
    have b5 := bW w.heap.size w2 (Nat.le_refl _) (Below.refl _ _)
    have SW := s2.keep (b5.mono (by omega))
    have GW := grown_below G2 b5
    clear hW h2 k2 c0 c1 c2 f0 f1 f2 d0 d1 d2 g0 g1 g2 bW s1 s2 G2 b5
    exact bodyPost_ret (v := .agg #[.int .i64 y, .int .i64 m, .int .i64 d]) (by simp [results, Tryd.results39, go_sem, e0, e1, e2]) rfl ⟨y, m, d, rfl, SW, GW⟩
end Go.Proofs.YtpnkjpfhmiaffaaDoor
