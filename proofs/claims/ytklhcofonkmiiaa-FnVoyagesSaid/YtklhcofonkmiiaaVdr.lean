/- The draws of chapter 7: ports, voyages. -/
import Derived.Test.YtklhcofonkmiiaaVoy
import Derived.Test.YtklhcofonkmiiaaDrawm
import Derived.Test.YtklhcofonkmiiaaPush
namespace Go.Proofs.Ytklhcofonkmiiaa
open Go.ChangeShapes Go.WideShapes Go.ChangeAt Go.RowKit
set_option linter.unusedVariables false

theorem own_srcV {w w' : World} {W : Nat} {e : TypeId} {g n size : Nat} {v : Value} {xs : List Value} (h : w.ownsRow W e size v n xs) (hg : w.grownBy w' (some g)) (hW : g < W) : w'.ownsRow W e size v n xs := by
  refine World.ownsRow.kept h hg ?_
  cases hv : v.ownBlock with
  | none => exact .inl rfl
  | some k => right; intro e; have := (h.lt k hv).1; injection e with e; omega
def tV12 : List (List UInt8) := [[97, 108, 98, 97], [98, 111, 114, 111], [99, 97, 112, 101], [100, 111, 114, 97], [101, 108, 105, 110], [97, 108, 98, 97], [98, 111, 114, 111], [99, 97, 112, 101], [100, 111, 114, 97], [], [65, 108, 98, 97], [116, 111, 111, 108, 111, 110, 103]]
def tV5 : List (List UInt8) := [[111, 115, 108, 111], [121, 111, 114, 107], [108, 105, 109, 97], [99, 97, 100, 105, 122], [98, 101, 114, 103, 101, 110]]
def strPt (s : List UInt8) : Value := .string ⟨s.toArray⟩
def DrewV (w : World) (base g : Nat) (A : Option Addr) (c : Nat) (bs : List Int) (e : Ending) (w' : World) : Prop :=
  ∃ s : List UInt8, e = .returned (.string ⟨s.toArray⟩) ∧ s.length ≤ 7 ∧ Src w' base g A c bs ∧ w.grownBy w' (some g)
theorem code7_any (g : Nat) (base : Nat) (A : Option Addr) (c : Nat) (bs : List Int) (w : World) (h : Src w base g A c bs) :
    Calls Try.prog 60 #[.pointer (some ⟨g, 0, none⟩)] w (DrewV w base g A c bs) := by
  have hgl := h.lt
  have hrow : (w.alloc (.cells (tV12.map strPt).toArray 9)).heap[w.heap.size]? = some (.cells (tV12.map strPt).toArray 9 (0, 0)) := heap_alloc_new w _
  go_enter Try.func60, Try.ntmps60
  go_wp2_with fail
  refine (next_any g _ base A c bs _ (h.alloc _) (by omega)).mono ?_
  rintro e w1 ⟨r, rfl, r0, r1, h1, g1⟩
  obtain ⟨k, rfl⟩ := Int.eq_ofNat_of_zero_le r0
  have hk : k < 12 := by omega
  obtain ⟨s, hs, hv⟩ : ∃ s : List UInt8, s.length ≤ 7 ∧ (tV12.map strPt)[k]? = some (.string ⟨s.toArray⟩) :=
    ⟨tV12[k]'(show k < tV12.length from hk), (show ∀ s ∈ tV12, s.length ≤ 7 by decide) _ (List.getElem_mem _), by simp [show k < tV12.length from hk, strPt]⟩
  have hB := keepG g1 hrow (by omega)
  have hcell : w1.cell? ⟨w.heap.size, k, none⟩ = some (.string ⟨s.toArray⟩) := by rw [cell_of_row _ _ _ _ _ _ hB]; simpa using hv
  clear hB hrow hv
  go_wp2_with fail
  go_ret
  exact ⟨s, rfl, hs, h1, (World.grownBy_alloc _ _ _).trans g1⟩
theorem vday_any (g : Nat) (base : Nat) (A : Option Addr) (c : Nat) (bs : List Int) (w : World) (h : Src w base g A c bs) :
    Calls Try.prog 61 #[.pointer (some ⟨g, 0, none⟩)] w (Drew w base g A c bs (-1) 36525) := by
  go_enter Try.func61, Try.ntmps61
  go_wp2_with fail
  refine (next_any g _ base A c bs _ h (by omega)).mono ?_
  rintro e w1 ⟨r1, rfl, a1, b1, h1, g1⟩
  go_wp2_with fail
  refine (next_any g _ base A c bs _ h1 (by omega)).mono ?_
  rintro e w2 ⟨r2, rfl, a2, b2, h2, g2⟩
  go_wp2_with fail
  refine (next_any g _ base A c bs _ h2 (by omega)).mono ?_
  rintro e w3 ⟨r3, rfl, a3, b3, h3, g3⟩
  go_wp2_with fail
  refine (next_any g _ base A c bs _ h3 (by omega)).mono ?_
  rintro e w4 ⟨r4, rfl, a4, b4, h4, g4⟩
  go_wp2_with fail
  refine (pick_new g 8 [r1, 18000 + r2, 0, 36524, 36525, -1, 18000 + r3, 18000 + r4] (-1) 36525 base A c bs w4 h4 rfl (by omega) (by omega) ?_).mono ?_
  · intro x hx
    simp only [List.mem_cons, List.not_mem_nil, or_false] at hx
    omega
  rintro e w7 ⟨r7, rfl, a7, b7, h7, g7⟩
  go_wp2_with fail
  go_ret
  exact ⟨r7, rfl, a7, b7, h7, (((g1.trans g2).trans g3).trans g4).trans g7⟩
/-- A stop that a valid voyage is drawn of; any drawn stop. -/
def Svv (p : Sto) : Prop := p.ok = true ∧ p.p.length ≤ 7
def Svk (p : Sto) : Prop := p.p.length ≤ 7 ∧ (-100 ≤ p.i ∧ p.i ≤ 100000) ∧ (-100 ≤ p.o ∧ p.o ≤ 100000)
theorem Svv.k {p : Sto} (h : Svv p) : Svk p := by
  obtain ⟨_, a, b, _⟩ := sok h.1
  exact ⟨h.2, by omega, by omega⟩
theorem mk_ok {s : List UInt8} {i o : Int} (hp : pcode s = true) (h0 : 0 ≤ i) (h1 : i ≤ o) (h2 : o ≤ 36524) : Sto.ok ⟨s, i, o⟩ = true := by
  unfold Sto.ok inr
  simp only [hp, Bool.true_and, Bool.and_eq_true, decide_eq_true_eq]
  omega
theorem snoc_svv {P : Sto → Prop} {ps : List Sto} {x : Sto} (h : ∀ p ∈ ps, P p) (hx : P x) : ∀ p ∈ ps ++ [x], P p := by
  intro p hp
  rcases List.mem_append.1 hp with h2 | h2
  · exact h p h2
  · rw [List.mem_singleton.1 h2]; exact hx
def NewVV (w : World) (base g : Nat) (A : Option Addr) (c : Nat) (bs : List Int) (e : Ending) (w' : World) : Prop :=
  ∃ B d ps, e = .returned (.slice B (List.length ps) d) ∧ 1 ≤ ps.length ∧ ps.length ≤ 5 ∧ StoO w' w.heap.size B ps.length d ps ∧ (∀ p ∈ ps, Svv p) ∧ Src w' base g A c bs ∧ w.grownBy w' (some g)
set_option maxRecDepth 100000 in
set_option maxHeartbeats 4000000 in
theorem valid_v (g : Nat) (base : Nat) (A : Option Addr) (c : Nat) (bs : List Int) (w : World) (h : Src w base g A c bs) :
    Calls Try.prog 59 #[.pointer (some ⟨g, 0, none⟩)] w (NewVV w base g A c bs) := by
  obtain ⟨i0, hi, hz0, hz1, hz2⟩ := info_parts stoInfo
  have hgl := h.lt
  have H0 : (w.alloc (Obj.cells #[] 35)).ownsRow w.heap.size 35 3 (.slice (some ⟨w.heap.size, 0, none⟩) 0 0) 0 [] := World.ownsRow_made w #[] 0 (Nat.le_refl _) (by decide) (by simp)
  go_enter Try.func59, Try.ntmps59
  go_wp2_with fail
  refine (next_any g _ base A c bs _ (h.alloc _) (by omega)).mono ?_
  rintro e w1 ⟨r1, rfl, a1, b1, h1, g1⟩
  have H1 := own_srcV H0 g1 hgl
  have G1 : w.grownBy w1 (some g) := (World.grownBy_alloc w _ _).trans g1
  clear H0 g1
  go_wp2_with fail
  refine (next_any g _ base A c bs _ h1 (by omega)).mono ?_
  rintro e w2 ⟨r2, rfl, a2, b2, h2, g2⟩
  have H2 := own_srcV H1 g2 hgl
  have G2 := G1.trans g2
  clear H1 g2 G1 h1
  go_wp2_with fail
  go_loopw [3, 4, 5] (fun v dy n wr => ∃ (k D : Int) (ys : List Sto), n = .int .i64 k ∧ dy = .int .i64 D ∧ 0 ≤ D ∧ D ≤ 20020 + 20 * ys.length ∧ 0 ≤ k ∧ 1 ≤ ys.length + k ∧ ys.length + k ≤ 5 ∧ Hid (∀ p ∈ ys, Svv p) ∧ wr.ownsRow w.heap.size 35 3 v ys.length (ys.flatMap Sto.cells) ∧ Src wr base g A c bs ∧ w.grownBy wr (some g)) (fun _ _ n _ => (intOf n).toNat)
  case atStart => exact ⟨1 + r2, 20000 + r1, [], rfl, rfl, by omega, by simp; omega, by omega, by simp; omega, by simp; omega, Lib.hid (by simp), H2, h2, G2⟩
  case round =>
    obtain ⟨k, D, ys, rfl, rfl, D0, D1, k0, kl0, kl, hok, hown, hs, hg⟩ := hrel
    clear H2 h2 G2 h
    by_cases hk : 0 < k
    · obtain ⟨B, d, rfl⟩ := own_form hown
      go_wp2_with fail
      refine (next_any g _ base A c bs _ hs (by omega)).mono ?_
      rintro e w3 ⟨r3, rfl, a3, b3, h3, g3⟩
      have hown3 := own_srcV hown g3 hgl
      have G3 := hg.trans g3
      clear hown hs hg g3
      have hrow : (w3.alloc (.cells (tV5.map strPt).toArray 9)).heap[w3.heap.size]? = some (.cells (tV5.map strPt).toArray 9 (0, 0)) := heap_alloc_new w3 _
      have hown4 := hown3.alloc (.cells (tV5.map strPt).toArray 9)
      have h3a := h3.alloc (.cells (tV5.map strPt).toArray 9)
      have G3a := grown_alloc G3 (.cells (tV5.map strPt).toArray 9)
      have h3g : w3.heap.size ≠ g := by have := h3.lt; omega
      clear hown3 h3 G3
      go_wp2_with fail
      refine (next_any g _ base A c bs _ h3a (by omega)).mono ?_
      rintro e w4 ⟨r4, rfl, a4, b4, h4, g4⟩
      have hown5 := own_srcV hown4 g4 hgl
      have G4 := G3a.trans g4
      obtain ⟨m, rfl⟩ := Int.eq_ofNat_of_zero_le a4
      have hm : m < 5 := by omega
      obtain ⟨s, ⟨hsl, hpc⟩, hv⟩ : ∃ s : List UInt8, (s.length ≤ 7 ∧ pcode s = true) ∧ (tV5.map strPt)[m]? = some (.string ⟨s.toArray⟩) :=
        ⟨tV5[m]'(show m < tV5.length from hm), (show ∀ s ∈ tV5, s.length ≤ 7 ∧ pcode s = true by decide) _ (List.getElem_mem _), by simp [show m < tV5.length from hm, strPt]⟩
      have hcell : w4.cell? ⟨w3.heap.size, m, none⟩ = some (.string ⟨s.toArray⟩) := by rw [cell_of_row _ _ _ _ _ _ (keepG g4 hrow h3g)]; simpa using hv
      have HP := Lib.hid (show Svv ⟨s, D, D + r3⟩ from ⟨mk_ok hpc D0 (by omega) (by omega), hsl⟩)
      clear hown4 h3a G3a g4 hv hpc hrow
      go_wp2_with (at_builtin; refine wpList_push _ rfl (.tmp 20) (.tmp 31) 24 rfl w.heap.size 35 i0 _ 3 32 Try.underlying24 hi hz0 hz1 hz2 rfl (by decide) _ ys.length _ rfl hown5 [.string ⟨s.toArray⟩, .int .i64 D, .int .i64 (D + r3)] rfl (by simp [Value.oneCell']) rfl (by unfold maxLen; omega) (by omega) G4.size ?_; intro v' w' hown' hb')
      have h5 := h4.keep (hb'.mono (by omega))
      have G5 := grown_below G4 hb'
      refine (next_any g _ base A c bs _ h5 (by omega)).mono ?_
      rintro e w6 ⟨r6, rfl, a6, b6, h6, g6⟩
      have hown6 := own_srcV hown' g6 hgl
      have G6 := G5.trans g6
      clear hown' h5 G5 g6 hown5 h4 G4
      obtain ⟨B', d', rfl⟩ := own_form hown6
      go_wp2_with fail
      go_roundw
      case rel => exact ⟨k - 1, D + r3 + 1 + r6, ys ++ [⟨s, D, D + r3⟩], rfl, rfl, by omega, by simp; omega, by omega, by simp; omega, by simp; omega, Lib.hid (snoc_svv hok.out HP.out), by simpa [Sto.cells] using hown6, h6, G6⟩
      case measure => simp [intOf]; omega
    · obtain ⟨B, d, rfl⟩ := own_form hown
      have hk0 : k = 0 := by omega
      subst hk0
      go_wp2_with fail
      go_ret
      exact ⟨B, d, ys, rfl, by omega, by omega, hown, hok.out, hs, hg⟩
end Go.Proofs.Ytklhcofonkmiiaa
