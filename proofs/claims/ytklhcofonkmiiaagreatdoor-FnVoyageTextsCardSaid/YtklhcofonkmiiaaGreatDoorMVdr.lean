import Derived.Test.YtklhcofonkmiiaaGreatDoorMSto
import Derived.Test.YtklhcofonkmiiaaGreatDoorMDraw
import Derived.Test.YtklhcofonkmiiaaGreatDoorPush
import Derived.Test.YtklhcofonkmiiaaGreatDoorRin
/- The draws of chapter 7: ports, voyages. -/
namespace Go.Proofs.YtklhcofonkmiiaaGreatDoor
open Go.ChangeShapes Go.WideShapes Go.ChangeAt Go.RowKit
set_option linter.unusedVariables false

theorem own_srcV {w w' : World} {W : Nat} {e : TypeId} {g n size : Nat} {v : Value} {xs : List Value} (h : w.ownsRow W e size v n xs) (hg : w.grownBy w' (some g)) (hW : g < W) : w'.ownsRow W e size v n xs := by
  refine World.ownsRow.kept h hg ?_
  cases hv : v.ownBlock with
  | none => exact .inl rfl
  | some k => right; intro e; have := (h.lt k hv).1; injection e with e; omega
def tV12 : List (List UInt8) := [[97, 108, 98, 97], [98, 111, 114, 111], [99, 97, 112, 101], [100, 111, 114, 97], [101, 108, 105, 110], [97, 108, 98, 97], [98, 111, 114, 111], [99, 97, 112, 101], [100, 111, 114, 97], [], [65, 108, 98, 97], [116, 111, 111, 108, 111, 110, 103]]
def tV5 : List (List UInt8) := [[111, 115, 108, 111], [121, 111, 114, 107], [108, 105, 109, 97], [99, 97, 100, 105, 122], [98, 101, 114, 103, 101, 110]]
def strPt (s : List UInt8) : Value := .string ⟨s.toArray⟩
def DrewV (w : World) (base g : Nat) (A : Option Addr) (c : Nat) (bs : List Int) (e : Ending) (w' : World) : Prop :=
  ∃ s : List UInt8, e = .returned (.string ⟨s.toArray⟩) ∧ s.length ≤ 7 ∧ Src w' base g A c bs ∧ w.grownBy w' (some g)
theorem code7_any (g : Nat) (base : Nat) (A : Option Addr) (c : Nat) (bs : List Int) (w : World) (h : Src w base g A c bs) :
    Calls Tryz.prog 34 #[.pointer (some ⟨g, 0, none⟩)] w (DrewV w base g A c bs) := by
  have hgl := h.lt
  have hrow : (w.alloc (.cells (tV12.map strPt).toArray 9)).heap[w.heap.size]? = some (.cells (tV12.map strPt).toArray 9 (0, 0)) := heap_alloc_new w _
  go_enter Tryz.func34, Tryz.ntmps34
  go_wp2_with fail
  refine (next_any g _ base A c bs _ (h.alloc _) (by omega)).mono ?_
  rintro e w1 ⟨r, rfl, r0, r1, h1, g1⟩
  obtain ⟨k, rfl⟩ := Int.eq_ofNat_of_zero_le r0
  have hk : k < 12 := by omega
  obtain ⟨s, hs, hv⟩ : ∃ s : List UInt8, s.length ≤ 7 ∧ (tV12.map strPt)[k]? = some (.string ⟨s.toArray⟩) :=
    ⟨tV12[k]'(show k < tV12.length from hk), (show ∀ s ∈ tV12, s.length ≤ 7 by decide) _ (List.getElem_mem _), by simp [show k < tV12.length from hk, strPt]⟩
  have hB := keepG g1 hrow (by omega)
  have hcell : w1.cell? ⟨w.heap.size, k, none⟩ = some (.string ⟨s.toArray⟩) := by rw [cell_of_row _ _ _ _ _ _ hB]; simpa using hv
  clear hB hrow hv
  go_wp2_with fail
  go_ret
  exact ⟨s, rfl, hs, h1, (World.grownBy_alloc _ _ _).trans g1⟩
theorem vday_any (g : Nat) (base : Nat) (A : Option Addr) (c : Nat) (bs : List Int) (w : World) (h : Src w base g A c bs) :
    Calls Tryz.prog 36 #[.pointer (some ⟨g, 0, none⟩)] w (Drew w base g A c bs (-1) 36525) := by
  go_enter Tryz.func36, Tryz.ntmps36
  go_wp2_with fail
  refine (next_any g _ base A c bs _ h (by omega)).mono ?_
  rintro e w1 ⟨r1, rfl, a1, b1, h1, g1⟩
  go_wp2_with fail
  refine (next_any g _ base A c bs _ h1 (by omega)).mono ?_
  rintro e w2 ⟨r2, rfl, a2, b2, h2, g2⟩
  go_wp2_with fail
  refine (next_any g _ base A c bs _ h2 (by omega)).mono ?_
  rintro e w3 ⟨r3, rfl, a3, b3, h3, g3⟩
  go_wp2_with fail
  refine (next_any g _ base A c bs _ h3 (by omega)).mono ?_
  rintro e w4 ⟨r4, rfl, a4, b4, h4, g4⟩
  go_wp2_with fail
  refine (pick_new g 8 [r1, 18000 + r2, 0, 36524, 36525, -1, 18000 + r3, 18000 + r4] (-1) 36525 base A c bs w4 h4 rfl (by omega) (by omega) ?_).mono ?_
  · intro x hx
    simp only [List.mem_cons, List.not_mem_nil, or_false] at hx
    omega
  rintro e w7 ⟨r7, rfl, a7, b7, h7, g7⟩
  go_wp2_with fail
  go_ret
  exact ⟨r7, rfl, a7, b7, h7, (((g1.trans g2).trans g3).trans g4).trans g7⟩
/-- A stop that a valid voyage is drawn of; any drawn stop. -/
def Svv (p : Sto) : Prop := p.ok = true ∧ p.p.length ≤ 7
def Svk (p : Sto) : Prop := p.p.length ≤ 7 ∧ (-100 ≤ p.i ∧ p.i ≤ 100000) ∧ (-100 ≤ p.o ∧ p.o ≤ 100000)
theorem Svv.k {p : Sto} (h : Svv p) : Svk p := by
  obtain ⟨_, a, b, _⟩ := sok h.1
  exact ⟨h.2, by omega, by omega⟩
theorem mk_ok {s : List UInt8} {i o : Int} (hp : pcode s = true) (h0 : 0 ≤ i) (h1 : i ≤ o) (h2 : o ≤ 36524) : Sto.ok ⟨s, i, o⟩ = true := by
  unfold Sto.ok inr
  simp only [hp, Bool.true_and, Bool.and_eq_true, decide_eq_true_eq]
  omega
theorem snoc_svv {P : Sto → Prop} {ps : List Sto} {x : Sto} (h : ∀ p ∈ ps, P p) (hx : P x) : ∀ p ∈ ps ++ [x], P p := by
  intro p hp
  rcases List.mem_append.1 hp with h2 | h2
  · exact h p h2
  · rw [List.mem_singleton.1 h2]; exact hx
def NewVV (w : World) (base g : Nat) (A : Option Addr) (c : Nat) (bs : List Int) (e : Ending) (w' : World) : Prop :=
  ∃ B d ps, e = .returned (.slice B (List.length ps) d) ∧ 1 ≤ ps.length ∧ ps.length ≤ 5 ∧ StoO w' w.heap.size B ps.length d ps ∧ (∀ p ∈ ps, Svv p) ∧ Src w' base g A c bs ∧ w.grownBy w' (some g)
set_option maxRecDepth 100000 in
set_option maxHeartbeats 4000000 in
theorem valid_v (g : Nat) (base : Nat) (A : Option Addr) (c : Nat) (bs : List Int) (w : World) (h : Src w base g A c bs) :
    Calls Tryz.prog 23 #[.pointer (some ⟨g, 0, none⟩)] w (NewVV w base g A c bs) := by
  obtain ⟨i0, hi, hz0, hz1, hz2⟩ := info_parts stoInfo
  have hgl := h.lt
  have H0 : (w.alloc (Obj.cells #[] 40)).ownsRow w.heap.size 40 3 (.slice (some ⟨w.heap.size, 0, none⟩) 0 0) 0 [] := World.ownsRow_made w #[] 0 (Nat.le_refl _) (by decide) (by simp)
  go_enter Tryz.func23, Tryz.ntmps23
  go_wp2_with fail
  refine (next_any g _ base A c bs _ (h.alloc _) (by omega)).mono ?_
  rintro e w1 ⟨r1, rfl, a1, b1, h1, g1⟩
  have H1 := own_srcV H0 g1 hgl
  have G1 : w.grownBy w1 (some g) := (World.grownBy_alloc w _ _).trans g1
  clear H0 g1
  go_wp2_with fail
  refine (next_any g _ base A c bs _ h1 (by omega)).mono ?_
  rintro e w2 ⟨r2, rfl, a2, b2, h2, g2⟩
  have H2 := own_srcV H1 g2 hgl
  have G2 := G1.trans g2
  clear H1 g2 G1 h1
  go_wp2_with fail
  go_loopw [3, 4, 5] (fun v dy n wr => ∃ (k D : Int) (ys : List Sto), n = .int .i64 k ∧ dy = .int .i64 D ∧ 0 ≤ D ∧ D ≤ 20020 + 20 * ys.length ∧ 0 ≤ k ∧ 1 ≤ ys.length + k ∧ ys.length + k ≤ 5 ∧ Hid (∀ p ∈ ys, Svv p) ∧ wr.ownsRow w.heap.size 40 3 v ys.length (ys.flatMap Sto.cells) ∧ Src wr base g A c bs ∧ w.grownBy wr (some g)) (fun _ _ n _ => (intOf n).toNat)
  case atStart => exact ⟨1 + r2, 20000 + r1, [], rfl, rfl, by omega, by simp; omega, by omega, by simp; omega, by simp; omega, Lib.hid (by simp), H2, h2, G2⟩
  case round =>
    obtain ⟨k, D, ys, rfl, rfl, D0, D1, k0, kl0, kl, hok, hown, hs, hg⟩ := hrel
    clear H2 h2 G2 h
    by_cases hk : 0 < k
    · obtain ⟨B, d, rfl⟩ := own_form hown
      go_wp2_with fail
      refine (next_any g _ base A c bs _ hs (by omega)).mono ?_
      rintro e w3 ⟨r3, rfl, a3, b3, h3, g3⟩
      have hown3 := own_srcV hown g3 hgl
      have G3 := hg.trans g3
      clear hown hs hg g3
      have hrow : (w3.alloc (.cells (tV5.map strPt).toArray 9)).heap[w3.heap.size]? = some (.cells (tV5.map strPt).toArray 9 (0, 0)) := heap_alloc_new w3 _
      have hown4 := hown3.alloc (.cells (tV5.map strPt).toArray 9)
      have h3a := h3.alloc (.cells (tV5.map strPt).toArray 9)
      have G3a := grown_alloc G3 (.cells (tV5.map strPt).toArray 9)
      have h3g : w3.heap.size ≠ g := by have := h3.lt; omega
      clear hown3 h3 G3
      go_wp2_with fail
      refine (next_any g _ base A c bs _ h3a (by omega)).mono ?_
      rintro e w4 ⟨r4, rfl, a4, b4, h4, g4⟩
      have hown5 := own_srcV hown4 g4 hgl
      have G4 := G3a.trans g4
      obtain ⟨m, rfl⟩ := Int.eq_ofNat_of_zero_le a4
      have hm : m < 5 := by omega
      obtain ⟨s, ⟨hsl, hpc⟩, hv⟩ : ∃ s : List UInt8, (s.length ≤ 7 ∧ pcode s = true) ∧ (tV5.map strPt)[m]? = some (.string ⟨s.toArray⟩) :=
        ⟨tV5[m]'(show m < tV5.length from hm), (show ∀ s ∈ tV5, s.length ≤ 7 ∧ pcode s = true by decide) _ (List.getElem_mem _), by simp [show m < tV5.length from hm, strPt]⟩
      have hcell : w4.cell? ⟨w3.heap.size, m, none⟩ = some (.string ⟨s.toArray⟩) := by rw [cell_of_row _ _ _ _ _ _ (keepG g4 hrow h3g)]; simpa using hv
      have HP := Lib.hid (show Svv ⟨s, D, D + r3⟩ from ⟨mk_ok hpc D0 (by omega) (by omega), hsl⟩)
      clear hown4 h3a G3a g4 hv hpc hrow
      go_wp2_with (at_builtin; refine wpList_push _ rfl (.tmp 20) (.tmp 31) 24 rfl w.heap.size 40 i0 _ 3 32 Tryz.underlying24 hi hz0 hz1 hz2 rfl (by decide) _ ys.length _ rfl hown5 [.string ⟨s.toArray⟩, .int .i64 D, .int .i64 (D + r3)] rfl (by simp [Value.oneCell']) rfl (by unfold maxLen; omega) (by omega) G4.size ?_; intro v' w' hown' hb')
      have h5 := h4.keep (hb'.mono (by omega))
      have G5 := grown_below G4 hb'
      refine (next_any g _ base A c bs _ h5 (by omega)).mono ?_
      rintro e w6 ⟨r6, rfl, a6, b6, h6, g6⟩
      have hown6 := own_srcV hown' g6 hgl
      have G6 := G5.trans g6
      clear hown' h5 G5 g6 hown5 h4 G4
      obtain ⟨B', d', rfl⟩ := own_form hown6
      go_wp2_with fail
      go_roundw
      case rel => exact ⟨k - 1, D + r3 + 1 + r6, ys ++ [⟨s, D, D + r3⟩], rfl, rfl, by omega, by simp; omega, by omega, by simp; omega, by simp; omega, Lib.hid (snoc_svv hok.out HP.out), by simpa [Sto.cells] using hown6, h6, G6⟩
      case measure => simp [intOf]; omega
    · obtain ⟨B, d, rfl⟩ := own_form hown
      have hk0 : k = 0 := by omega
      subst hk0
      go_wp2_with fail
      go_ret
      exact ⟨B, d, ys, rfl, by omega, by omega, hown, hok.out, hs, hg⟩
end Go.Proofs.YtklhcofonkmiiaaGreatDoor

/- spec.l07Draw: a voyage or another list is drawn. (by gen_vdd.py) -/
namespace Go.Proofs.YtklhcofonkmiiaaGreatDoor
open Go.ChangeShapes Go.WideShapes Go.ChangeAt Go.RowKit
set_option linter.unusedVariables false

theorem flat_setD {ps : List Sto} {k : Nat} {x y : Sto} {j : Nat} {u : Value} (hx : ps[k]? = some x) (hy : y.cells = x.cells.set j u) (hj : j < 3) : (ps.set k y).flatMap Sto.cells = (ps.flatMap Sto.cells).set (k * 3 + j) u := by
  induction ps generalizing k with
  | nil => simp at hx
  | cons p ps ih =>
    cases k with
    | zero =>
      simp only [List.getElem?_cons_zero, Option.some.injEq] at hx
      subst hx
      rw [List.set_cons_zero, List.flatMap_cons, List.flatMap_cons, hy, Nat.zero_mul, Nat.zero_add, List.set_append, if_pos (by show j < 3; exact hj)]
    | succ k =>
      simp only [List.getElem?_cons_succ] at hx
      have e : (k + 1) * 3 + j = p.cells.length + (k * 3 + j) := by show _ = 3 + (k * 3 + j); omega
      rw [List.set_cons_succ, List.flatMap_cons, List.flatMap_cons, ih hx, e, List.set_append, if_neg (by omega), Nat.add_sub_cancel_left]
theorem set_svk {P : Sto → Prop} {ps : List Sto} {k : Nat} {y : Sto} (h : ∀ p ∈ ps, P p) (hy : P y) : ∀ p ∈ ps.set k y, P p := fun p hp => by
  rcases List.mem_or_eq_of_mem_set hp with h1 | h1
  · exact h p h1
  · rw [h1]; exact hy
theorem own_someV {w : World} {base n q : Nat} {O : Option Addr} {L : List Sto} (h : StoO w base O n q L) (hn : 0 < n) : ∃ g, O = some ⟨g, 0, none⟩ := by
  rcases h.2 with ⟨_, h2⟩ | ⟨g, cap, cur, h1, _⟩
  · omega
  · injection h1 with h1 _ _; exact ⟨g, h1⟩
theorem own_noneV {w : World} {base n q : Nat} {O : Option Addr} {L : List Sto} (h : StoO w base O n q L) : StoO w base O 0 q [] := by
  refine ⟨by simp, ?_⟩
  rcases h.2 with ⟨h1, h2⟩ | ⟨g, cap, cur, h1, h2, h3, h4, h5, h6, _⟩
  · left; injection h1 with a b c; exact ⟨by rw [a, c], rfl⟩
  · right; injection h1 with a b c; subst a c
    exact ⟨g, q, cur, rfl, h2, h3, Nat.zero_le _, h5, h6, by simp⟩
def VDr (w : World) (lo : Nat) (B : Option Addr) (d : Nat) (ps : List Sto) : Prop := ps.length ≤ 11 ∧ StoO w lo B ps.length d ps ∧ ∀ p ∈ ps, Svk p
/-- A drawn element is changed in one cell. -/
theorem set_drawnV {w W : World} {base g b d k : Nat} {A : Option Addr} {c : Nat} {bs : List Int} {ps : List Sto} {x y : Sto} {j : Nat} {u : Value} (ho : StoO W w.heap.size (some ⟨b, 0, none⟩) ps.length d ps) (hs : Src W base g A c bs) (hG : w.grownBy W (some g)) (hgl : g < w.heap.size)
    (hx : ps[k]? = some x) (hy : y.cells = x.cells.set j u) (hj : j < 3) (hok : ∀ p ∈ ps, Svk p) (hyk : Svk y) (h11 : ps.length ≤ 11) :
    VDr (W.setCell ⟨b, k * 3 + j, none⟩ u) w.heap.size (some ⟨b, 0, none⟩) d (ps.set k y) ∧ (ps.set k y).length = ps.length ∧ Src (W.setCell ⟨b, k * 3 + j, none⟩ u) base g A c bs ∧ w.grownBy (W.setCell ⟨b, k * 3 + j, none⟩ u) (some g) := by
  have hb := (ho.lt b rfl).1
  have hst := (ho.stored (k * 3 + j) u).1
  rw [← flat_setD hx hy hj] at hst
  refine ⟨⟨by rw [List.length_set]; exact h11, by rw [List.length_set]; exact hst, set_svk hok hyk⟩, List.length_set, hs.keep ((Below.refl _ _).setCell (p := ⟨b, k * 3 + j, none⟩) (by show g + 1 ≤ b; omega) _), grown_below hG ((Below.refl _ _).setCell (p := ⟨b, k * 3 + j, none⟩) hb _)⟩
def NewVD (w : World) (base g : Nat) (A : Option Addr) (c : Nat) (bs : List Int) (e : Ending) (w' : World) : Prop :=
  ∃ B d ps, e = .returned (.slice B (List.length ps) d) ∧ VDr w' w.heap.size B d ps ∧ Src w' base g A c bs ∧ w.grownBy w' (some g)
/-! ### the drawn region -/
def updD (us : Nat → Value) (j : Nat) (v : Value) : Nat → Value := fun n => if n = j then v else us n
def frD (us : Nat → Value) : Act := { tmps := #[us 0, us 1, us 2, us 3, us 4, us 5, us 6, us 7, us 8, us 9, us 10, us 11, us 12, us 13, us 14, us 15, us 16, us 17, us 18, us 19, us 20, us 21, us 22, us 23, us 24, us 25, us 26, us 27, us 28, us 29, us 30, us 31, us 32, us 33, us 34, us 35, us 36, us 37, us 38, us 39, us 40, us 41, us 42, us 43, us 44, us 45, us 46, us 47, us 48, us 49, us 50, us 51, us 52, us 53, us 54, us 55, us 56, us 57, us 58, us 59, us 60, us 61, us 62, us 63, us 64, us 65, us 66, us 67, us 68, us 69, us 70, us 71, us 72], defers := [] }
theorem frD_of {x0 x1 x2 x3 x4 x5 x6 x7 x8 x9 x10 x11 x12 x13 x14 x15 x16 x17 x18 x19 x20 x21 x22 x23 x24 x25 x26 x27 x28 x29 x30 x31 x32 x33 x34 x35 x36 x37 x38 x39 x40 x41 x42 x43 x44 x45 x46 x47 x48 x49 x50 x51 x52 x53 x54 x55 x56 x57 x58 x59 x60 x61 x62 x63 x64 x65 x66 x67 x68 x69 x70 x71 x72 : Value} : ({ tmps := #[x0, x1, x2, x3, x4, x5, x6, x7, x8, x9, x10, x11, x12, x13, x14, x15, x16, x17, x18, x19, x20, x21, x22, x23, x24, x25, x26, x27, x28, x29, x30, x31, x32, x33, x34, x35, x36, x37, x38, x39, x40, x41, x42, x43, x44, x45, x46, x47, x48, x49, x50, x51, x52, x53, x54, x55, x56, x57, x58, x59, x60, x61, x62, x63, x64, x65, x66, x67, x68, x69, x70, x71, x72], defers := [] } : Act) = frD (fun k => #[x0, x1, x2, x3, x4, x5, x6, x7, x8, x9, x10, x11, x12, x13, x14, x15, x16, x17, x18, x19, x20, x21, x22, x23, x24, x25, x26, x27, x28, x29, x30, x31, x32, x33, x34, x35, x36, x37, x38, x39, x40, x41, x42, x43, x44, x45, x46, x47, x48, x49, x50, x51, x52, x53, x54, x55, x56, x57, x58, x59, x60, x61, x62, x63, x64, x65, x66, x67, x68, x69, x70, x71, x72].getD k undef) := rfl
def GoodD (g b k n d : Nat) (o : Int) (j : Nat) (v : Value) (W : World) : Prop :=
  match j with
  | 0 => v = .slice (some ⟨b, 0, none⟩) n d
  | 1 => v = .int .i64 (k : Int)
  | 2 => v = .slice (some ⟨b, 0, none⟩) n d
  | 3 => v = .int .i64 (k : Int)
  | 4 => v = .pointer (some ⟨b, k * 3, none⟩)
  | 5 => v = .pointer (some ⟨b, k * 3 + 2, none⟩)
  | 6 => v = .int .i64 o
  | 7 => v = .pointer (some ⟨g, 0, none⟩)
  | 8 => ∃ C, v = .slice (some ⟨C, 0, none⟩) 3 3 ∧ W.heap[C]? = some (.cells #[.int .i64 (-1), .int .i64 (-9), .int .i64 20] 2 (0, 0)) ∧ C ≠ g
  | 9 => ∃ r : Int, v = .int .i64 r ∧ -9 ≤ r ∧ r ≤ 20
  | 10 => ∃ r : Int, v = .int .i64 (o + r) ∧ -9 ≤ r ∧ r ≤ 20
  | 11 => v = .pointer (some ⟨b, k * 3, none⟩)
  | _ => v = .pointer (some ⟨b, k * 3 + 2, none⟩)
theorem GoodD.mono {g b k n d j : Nat} {o : Int} {v : Value} {W W' : World} (h : GoodD g b k n d o j v W) (hg : W.grownBy W' (some g)) : GoodD g b k n d o j v W' := by
  unfold GoodD at *
  split at h
  all_goals first
    | exact h
    | (obtain ⟨C, e, h1, h2⟩ := h
       exact ⟨C, e, keepG hg h1 h2, h2⟩)
theorem goodD_set {g b k n d j : Nat} {o : Int} {dd : Array Bool} {us : Nat → Value} {v : Value} {W W' : World} (hj : j < 13) (h : ∀ i, i < 13 → dd.getD i false = true → GoodD g b k n d o i (us (i + 24)) W) (hg : W.grownBy W' (some g)) (hn : GoodD g b k n d o j v W') :
    ∀ i, i < 13 → (dd.setIfInBounds j true).getD i false = true → GoodD g b k n d o i (updD us (j + 24) v (i + 24)) W' := by
  intro i hi hd
  by_cases e : j = i
  · subst e; unfold updD; rw [if_pos rfl]; exact hn
  · rw [getD_set_ne false e] at hd
    unfold updD
    rw [if_neg (by omega)]
    exact (h i hi hd).mono hg
structure FixD (g b k n d : Nat) (us : Nat → Value) : Prop where
  u0 : us 0 = .pointer (some ⟨g, 0, none⟩)
  u3 : us 3 = .slice (some ⟨b, 0, none⟩) n d
  u4 : us 4 = .int .i64 (k : Int)
theorem FixD.upd {g b k n d : Nat} {us : Nat → Value} (h : FixD g b k n d us) {j : Nat} (hj : 24 ≤ j) (v : Value) : FixD g b k n d (updD us j v) :=
  ⟨by unfold updD; rw [if_neg (by omega)]; exact h.u0, by unfold updD; rw [if_neg (by omega)]; exact h.u3, by unfold updD; rw [if_neg (by omega)]; exact h.u4⟩
theorem getD_repD (n k : Nat) : (Array.replicate n false).getD k false = false := by
  rcases Nat.lt_or_ge k n with h | h
  · simp [h]
  · simp [Array.getElem?_eq_none, h]
theorem getD_setD {d : Array Bool} {i : Nat} (h : d.getD i true = false) : (d.setIfInBounds i true).getD i false = true := by
  rcases Nat.lt_or_ge i d.size with h1 | h1
  · simp [h1]
  · simp [Array.getElem?_eq_none h1] at h
theorem getD_ftD {d : Array Bool} {i : Nat} (h : d.getD i false = true) : d.getD i true = true := by
  rcases Nat.lt_or_ge i d.size with h1 | h1
  · simp [h1] at h ⊢; exact h
  · simp [Array.getElem?_eq_none h1] at h ⊢
/-- The condition. -/
def RInvD (w : World) (base g : Nat) (A : Option Addr) (c : Nat) (bs : List Int) (b k d : Nat) (ps : List Sto) (o : Int) (dd : Array Bool) (a : Act) (W : World) : Prop :=
  ∃ us, a = frD us ∧ FixD g b k ps.length d us ∧
    ((dd.getD 13 false = false ∧ (dd.getD 12 false = true → dd.getD 11 false = true) ∧ StoO W w.heap.size (some ⟨b, 0, none⟩) ps.length d ps ∧ Src W base g A c bs ∧ w.grownBy W (some g) ∧ ∀ j, j < 13 → dd.getD j false = true → GoodD g b k ps.length d o j (us (j + 24)) W) ∨
     ((∀ j, j < 14 → dd.getD j true = true) ∧ NewVD w base g A c bs (.returned (.slice (some ⟨b, 0, none⟩) ps.length d)) W))
theorem intsD {W : World} {C : Nat} (h : W.heap[C]? = some (.cells #[.int .i64 (-1), .int .i64 (-9), .int .i64 20] 2 (0, 0))) : Ir W (some ⟨C, 0, none⟩) [-1, -9, 20] := fun _ =>
  ⟨C, 0, rfl, lt_some h, fun j v hj => by
    rw [Nat.zero_add, cell_of_row _ _ _ _ _ _ h]
    simpa using hj⟩
def lnV : Value → Nat
  | .slice _ n _ => n
  | _ => 0
set_option maxRecDepth 100000 in
set_option maxHeartbeats 8000000 in
theorem draw_v (g : Nat) (base : Nat) (A : Option Addr) (c : Nat) (bs : List Int) (w : World) (h : Src w base g A c bs) :
    Calls Tryz.prog 17 #[.pointer (some ⟨g, 0, none⟩)] w (NewVD w base g A c bs) := by
  obtain ⟨i0, hi, hz0, hz1, hz2⟩ := info_parts stoInfo
  have hgl := h.lt
  go_enter Tryz.func17, Tryz.ntmps17
  go_wp2_with fail
  refine (valid_v g base A c bs _ h).mono ?_
  rintro e w1 ⟨B, d, ps, rfl, hp0, hp5, o1, hokv, s1, g1⟩
  have HV := Lib.hid hokv
  have HOK := Lib.hid (fun p hp => (hokv p hp).k)
  clear h hokv
  go_wp2_with fail
  refine (next_any g _ base A c bs _ s1 (by omega)).mono ?_
  rintro e w2 ⟨kz, rfl, ka, kb, s2, g2⟩
  obtain ⟨k, rfl⟩ := Int.eq_ofNat_of_zero_le ka
  have hk : k < ps.length := by omega
  have o2 : StoO w2 w.heap.size B ps.length d ps := own_srcV o1 g2 hgl
  have G2 := g1.trans g2
  clear o1 s1 g1 g2
  go_wp2_with fail
  refine (next_any g _ base A c bs _ s2 (by omega)).mono ?_
  rintro e w3 ⟨r, rfl, ra, rb, s3, g3⟩
  have o3 : StoO w3 w.heap.size B ps.length d ps := own_srcV o2 g3 hgl
  have G3 := G2.trans g3
  clear o2 s2 G2 g3 kb
  obtain ⟨b, rfl⟩ := own_someV o3 hp0
  obtain ⟨x, hx⟩ : ∃ x, ps[k]? = some x := ⟨_, List.getElem?_eq_getElem hk⟩
  have hxk := HOK.out x (List.mem_of_getElem? hx)
  have hxv := sok (HV.out x (List.mem_of_getElem? hx)).1
  have HX := Lib.hid hx
  have hkj : ∀ j, j < 3 → k * 3 + j < ps.length * 3 := fun j hj => by omega
  have HO9 := Lib.hid (fun p hp => sok (HV.out p hp).1)
  clear hx HV
  rcases (by omega : r = 0 ∨ r = 1 ∨ r = 2 ∨ r = 3 ∨ r = 4 ∨ 4 < r) with rfl | rfl | rfl | rfl | rfl | hr
  · clear hxv
    go_wp2_with fail
    refine (code7_any g base A c bs _ s3).mono ?_
    rintro e w4 ⟨s, rfl, sl, s4, g4⟩
    have o4 : StoO w4 w.heap.size (some ⟨b, 0, none⟩) ps.length d ps := own_srcV o3 g4 hgl
    have HD := Lib.hid (set_drawnV (j := 0) (u := .string ⟨s.toArray⟩) (y := { x with p := s }) o4 s4 (G3.trans g4) hgl HX.out rfl (by decide) HOK.out ⟨sl, hxk.2.1, hxk.2.2⟩ (by omega))
    have c0 : w4.cell? ⟨b, k * 3, none⟩ = some (.string ⟨x.p.toArray⟩) := (o4.cellAt (k * 3 + 0) (hkj 0 (by decide))).trans (flat_at Sto.cells 3 (fun _ => rfl) ps k 0 _ HX.out (by decide))
    have f0 : w4.frozen? ⟨b, k * 3, none⟩ = false := o4.frozenAt (k * 3 + 0)
    clear o3 s3 G3 g4 o4 s4 hkj
    go_wp2_with fail
    go_ret
    obtain ⟨p1, p2, p3, p4⟩ := HD.out
    exact ⟨some ⟨b, 0, none⟩, d, _, p2 ▸ rfl, p1, p3, p4⟩
  · have HX2 := Lib.hid hxv
    go_wp2_with fail
    refine region_inv (by kernel_rfl) (by kernel_rfl) (RInvD w base g A c bs b k d ps x.o) ?_ ?_ ?_
    · exact ⟨_, frD_of, ⟨rfl, rfl, rfl⟩, .inl ⟨getD_repD _ _, fun h9 => (by rw [getD_repD] at h9; cases h9), o3, s3, grown_drewN G3 1, fun j hj hd => by rw [getD_repD] at hd; cases hd⟩⟩
    · clear o3 s3 G3
      intro j dd a W hj hI
      obtain ⟨hun, oi, hoi, hall⟩ := mem_ready.1 hj
      have hj14 : j < 14 := (Array.getElem?_eq_some_iff.1 hoi).1
      obtain ⟨us, rfl, hF, ⟨hd13, h11, hown, hs, hG, hI⟩ | ⟨hI, _⟩⟩ := hI
      · have e0 := hF.u0
        have e3 := hF.u3
        have e4 := hF.u4
        rcases (by omega : j = 0 ∨ j = 1 ∨ j = 2 ∨ j = 3 ∨ j = 4 ∨ j = 5 ∨ j = 6 ∨ j = 7 ∨ j = 8 ∨ j = 9 ∨ j = 10 ∨ j = 11 ∨ j = 12 ∨ j = 13) with rfl | rfl | rfl | rfl | rfl | rfl | rfl | rfl | rfl | rfl | rfl | rfl | rfl | rfl
        all_goals
          obtain rfl := Option.some.inj hoi
          clear hoi hj14 hj
        · skip
          refine wpOp_step rfl (fun K hK => ?_)
          simp only [frD, e0, e3, e4]
          go_simp
          refine hK _ _ ⟨updD us 24 (.slice (some ⟨b, 0, none⟩) ps.length d), by simp [frD, updD, e0, e3, e4], hF.upd (by decide) _, .inl ⟨(getD_set_ne false (by decide)).trans hd13, fun h9 => (getD_set_ne false (by decide)).trans (h11 ((getD_set_ne false (by decide)).symm.trans h9)), hown, hs, hG, goodD_set (j := 0) (by decide) hI (World.grownBy.refl _ _) rfl⟩⟩
        · skip
          refine wpOp_step rfl (fun K hK => ?_)
          simp only [frD, e0, e3, e4]
          go_simp
          refine hK _ _ ⟨updD us 25 (.int .i64 (k : Int)), by simp [frD, updD, e0, e3, e4], hF.upd (by decide) _, .inl ⟨(getD_set_ne false (by decide)).trans hd13, fun h9 => (getD_set_ne false (by decide)).trans (h11 ((getD_set_ne false (by decide)).symm.trans h9)), hown, hs, hG, goodD_set (j := 1) (by decide) hI (World.grownBy.refl _ _) rfl⟩⟩
        · skip
          refine wpOp_step rfl (fun K hK => ?_)
          simp only [frD, e0, e3, e4]
          go_simp
          refine hK _ _ ⟨updD us 26 (.slice (some ⟨b, 0, none⟩) ps.length d), by simp [frD, updD, e0, e3, e4], hF.upd (by decide) _, .inl ⟨(getD_set_ne false (by decide)).trans hd13, fun h9 => (getD_set_ne false (by decide)).trans (h11 ((getD_set_ne false (by decide)).symm.trans h9)), hown, hs, hG, goodD_set (j := 2) (by decide) hI (World.grownBy.refl _ _) rfl⟩⟩
        · skip
          refine wpOp_step rfl (fun K hK => ?_)
          simp only [frD, e0, e3, e4]
          go_simp
          refine hK _ _ ⟨updD us 27 (.int .i64 (k : Int)), by simp [frD, updD, e0, e3, e4], hF.upd (by decide) _, .inl ⟨(getD_set_ne false (by decide)).trans hd13, fun h9 => (getD_set_ne false (by decide)).trans (h11 ((getD_set_ne false (by decide)).symm.trans h9)), hown, hs, hG, goodD_set (j := 3) (by decide) hI (World.grownBy.refl _ _) rfl⟩⟩
        · skip
          have e26 : us 26 = .slice (some ⟨b, 0, none⟩) ps.length d := hI 2 (by decide) (hall ⟨2, .data⟩ (by simp) rfl)
          have e27 : us 27 = .int .i64 (k : Int) := hI 3 (by decide) (hall ⟨3, .data⟩ (by simp) rfl)
          refine wpOp_step rfl (fun K hK => ?_)
          simp only [frD, e0, e3, e4, e26, e27]
          go_simp
          try (rw [if_pos (by omega)]; go_simp)
          refine hK _ _ ⟨updD us 28 (.pointer (some ⟨b, k * 3, none⟩)), by simp [frD, updD, e0, e3, e4, e26, e27], hF.upd (by decide) _, .inl ⟨(getD_set_ne false (by decide)).trans hd13, fun h9 => (getD_set_ne false (by decide)).trans (h11 ((getD_set_ne false (by decide)).symm.trans h9)), hown, hs, hG, goodD_set (j := 4) (by decide) hI (World.grownBy.refl _ _) rfl⟩⟩
        · skip
          have e28 : us 28 = .pointer (some ⟨b, k * 3, none⟩) := hI 4 (by decide) (hall ⟨4, .data⟩ (by simp) rfl)
          refine wpOp_step rfl (fun K hK => ?_)
          simp only [frD, e0, e3, e4, e28]
          go_simp
          refine hK _ _ ⟨updD us 29 (.pointer (some ⟨b, k * 3 + 2, none⟩)), by simp [frD, updD, e0, e3, e4, e28], hF.upd (by decide) _, .inl ⟨(getD_set_ne false (by decide)).trans hd13, fun h9 => (getD_set_ne false (by decide)).trans (h11 ((getD_set_ne false (by decide)).symm.trans h9)), hown, hs, hG, goodD_set (j := 5) (by decide) hI (World.grownBy.refl _ _) rfl⟩⟩
        · skip
          have e29 : us 29 = .pointer (some ⟨b, k * 3 + 2, none⟩) := hI 5 (by decide) (hall ⟨5, .data⟩ (by simp) rfl)
          have hcell : W.cell? ⟨b, k * 3 + 2, none⟩ = some (.int .i64 x.o) := by
            rw [hown.cellAt (k * 3 + 2) (hkj 2 (by decide))]
            exact flat_at Sto.cells 3 (fun _ => rfl) ps k 2 _ HX.out (by decide)
          refine wpOp_step rfl (fun K hK => ?_)
          simp only [frD, e0, e3, e4, e29]
          go_simp
          refine hK _ _ ⟨updD us 30 (.int .i64 x.o), by simp [frD, updD, e0, e3, e4, e29], hF.upd (by decide) _, .inl ⟨(getD_set_ne false (by decide)).trans hd13, fun h9 => (getD_set_ne false (by decide)).trans (h11 ((getD_set_ne false (by decide)).symm.trans h9)), hown, hs, hG, goodD_set (j := 6) (by decide) hI (World.grownBy.refl _ _) rfl⟩⟩
        · skip
          refine wpOp_step rfl (fun K hK => ?_)
          simp only [frD, e0, e3, e4]
          go_simp
          refine hK _ _ ⟨updD us 31 (.pointer (some ⟨g, 0, none⟩)), by simp [frD, updD, e0, e3, e4], hF.upd (by decide) _, .inl ⟨(getD_set_ne false (by decide)).trans hd13, fun h9 => (getD_set_ne false (by decide)).trans (h11 ((getD_set_ne false (by decide)).symm.trans h9)), hown, hs, hG, goodD_set (j := 7) (by decide) hI (World.grownBy.refl _ _) rfl⟩⟩
        · skip
          refine wpOp_step rfl (fun K hK => ?_)
          simp only [frD, e0, e3, e4]
          go_simp
          refine hK _ _ ⟨updD us 32 (.slice (some ⟨W.heap.size, 0, none⟩) 3 3), by simp [frD, updD, e0, e3, e4], hF.upd (by decide) _, .inl ⟨(getD_set_ne false (by decide)).trans hd13, fun h9 => (getD_set_ne false (by decide)).trans (h11 ((getD_set_ne false (by decide)).symm.trans h9)), World.ownsRow.alloc hown _, (hs.alloc _), (grown_alloc hG _), goodD_set (j := 8) (by decide) hI (World.grownBy_alloc _ _ _) ⟨_, rfl, heap_alloc_new W _, by have := hs.lt; omega⟩⟩⟩
        · skip
          have e31 : us 31 = .pointer (some ⟨g, 0, none⟩) := hI 7 (by decide) (hall ⟨7, .data⟩ (by simp) rfl)
          obtain ⟨C, e32, hC, hCg⟩ : ∃ C, us 32 = .slice (some ⟨C, 0, none⟩) 3 3 ∧ W.heap[C]? = some (.cells #[.int .i64 (-1), .int .i64 (-9), .int .i64 20] 2 (0, 0)) ∧ C ≠ g := hI 8 (by decide) (hall ⟨8, .data⟩ (by simp) rfl)
          have HP := Lib.hid (pick_any g (some ⟨C, 0, none⟩) 3 3 [-1, -9, 20] (-9) 20 base A c bs W hs (intsD hC) rfl (by rintro a ⟨rfl⟩; exact hCg) (by decide) (by decide) (by intro y hy; simp only [List.mem_cons, List.not_mem_nil, or_false] at hy; omega))
          refine wpOp_step rfl (fun K hK => ?_)
          simp only [frD, e0, e3, e4, e31, e32]
          go_simp
          go_wp2_with (go_at_call 35; refine HP.out.mono ?_; rintro e W2 ⟨r, rfl, r0, r1, hs2, hg2⟩)
          exact ⟨updD us 33 (.int .i64 r), by simp [frD, updD, e0, e3, e4, e31, e32], hF.upd (by decide) _, .inl ⟨(getD_set_ne false (by decide)).trans hd13, fun h9 => (getD_set_ne false (by decide)).trans (h11 ((getD_set_ne false (by decide)).symm.trans h9)), (own_srcV hown hg2 hgl), hs2, (hG.trans hg2), goodD_set (j := 9) (by decide) hI hg2 ⟨r, rfl, r0, r1⟩⟩⟩
        · skip
          have e30 : us 30 = .int .i64 x.o := hI 6 (by decide) (hall ⟨6, .data⟩ (by simp) rfl)
          obtain ⟨r, e33, r0, r1⟩ : ∃ r : Int, us 33 = .int .i64 r ∧ -9 ≤ r ∧ r ≤ 20 := hI 9 (by decide) (hall ⟨9, .data⟩ (by simp) rfl)
          have hwr : IntKind.i64.wrap (x.o + r) = x.o + r := IntWalk.i64_in _ (by omega)
          refine wpOp_step rfl (fun K hK => ?_)
          simp only [frD, e0, e3, e4, e30, e33]
          go_simp
          try (rw [if_pos (by omega)]; go_simp)
          refine hK _ _ ⟨updD us 34 (.int .i64 (x.o + r)), by simp [frD, updD, hwr, e0, e3, e4, e30, e33], hF.upd (by decide) _, .inl ⟨(getD_set_ne false (by decide)).trans hd13, fun h9 => (getD_set_ne false (by decide)).trans (h11 ((getD_set_ne false (by decide)).symm.trans h9)), hown, hs, hG, goodD_set (j := 10) (by decide) hI (World.grownBy.refl _ _) ⟨r, rfl, r0, r1⟩⟩⟩
        · skip
          have e24 : us 24 = .slice (some ⟨b, 0, none⟩) ps.length d := hI 0 (by decide) (hall ⟨0, .data⟩ (by simp) rfl)
          have e25 : us 25 = .int .i64 (k : Int) := hI 1 (by decide) (hall ⟨1, .data⟩ (by simp) rfl)
          refine wpOp_step rfl (fun K hK => ?_)
          simp only [frD, e0, e3, e4, e24, e25]
          go_simp
          try (rw [if_pos (by omega)]; go_simp)
          refine hK _ _ ⟨updD us 35 (.pointer (some ⟨b, k * 3, none⟩)), by simp [frD, updD, e0, e3, e4, e24, e25], hF.upd (by decide) _, .inl ⟨(getD_set_ne false (by decide)).trans hd13, fun _ => getD_setD hun, hown, hs, hG, goodD_set (j := 11) (by decide) hI (World.grownBy.refl _ _) rfl⟩⟩
        · skip
          have e35 : us 35 = .pointer (some ⟨b, k * 3, none⟩) := hI 11 (by decide) (hall ⟨11, .data⟩ (by simp) rfl)
          refine wpOp_step rfl (fun K hK => ?_)
          simp only [frD, e0, e3, e4, e35]
          go_simp
          refine hK _ _ ⟨updD us 36 (.pointer (some ⟨b, k * 3 + 2, none⟩)), by simp [frD, updD, e0, e3, e4, e35], hF.upd (by decide) _, .inl ⟨(getD_set_ne false (by decide)).trans hd13, fun _ => (getD_set_ne false (by decide)).trans (hall ⟨11, .data⟩ (by simp) rfl), hown, hs, hG, goodD_set (j := 12) (by decide) hI (World.grownBy.refl _ _) rfl⟩⟩
        · have e36 : us 36 = .pointer (some ⟨b, k * 3 + 2, none⟩) := hI 12 (by decide) (hall ⟨12, .data⟩ (by simp) rfl)
          obtain ⟨r, e34, r0, r1⟩ : ∃ r : Int, us 34 = .int .i64 (x.o + r) ∧ -9 ≤ r ∧ r ≤ 20 := hI 10 (by decide) (hall ⟨10, .data⟩ (by simp) rfl)
          have hD11 : dd.getD 11 false = true := h11 (hall ⟨12, .data⟩ (by simp) rfl)
          have hall2 : ∀ j, j < 14 → (dd.setIfInBounds 13 true).getD j true = true := by
            intro j hj
            rcases (by omega : j = 0 ∨ j = 1 ∨ j = 2 ∨ j = 3 ∨ j = 4 ∨ j = 5 ∨ j = 6 ∨ j = 7 ∨ j = 8 ∨ j = 9 ∨ j = 10 ∨ j = 11 ∨ j = 12 ∨ j = 13) with rfl | rfl | rfl | rfl | rfl | rfl | rfl | rfl | rfl | rfl | rfl | rfl | rfl | rfl
            · exact (getD_set_ne true (by decide)).trans (getD_ftD (hall ⟨0, .phase⟩ (by simp) rfl))
            · exact (getD_set_ne true (by decide)).trans (getD_ftD (hall ⟨1, .phase⟩ (by simp) rfl))
            · exact (getD_set_ne true (by decide)).trans (getD_ftD (hall ⟨2, .phase⟩ (by simp) rfl))
            · exact (getD_set_ne true (by decide)).trans (getD_ftD (hall ⟨3, .phase⟩ (by simp) rfl))
            · exact (getD_set_ne true (by decide)).trans (getD_ftD (hall ⟨4, .phase⟩ (by simp) rfl))
            · exact (getD_set_ne true (by decide)).trans (getD_ftD (hall ⟨5, .phase⟩ (by simp) rfl))
            · exact (getD_set_ne true (by decide)).trans (getD_ftD (hall ⟨6, .phase⟩ (by simp) rfl))
            · exact (getD_set_ne true (by decide)).trans (getD_ftD (hall ⟨7, .phase⟩ (by simp) rfl))
            · exact (getD_set_ne true (by decide)).trans (getD_ftD (hall ⟨8, .phase⟩ (by simp) rfl))
            · exact (getD_set_ne true (by decide)).trans (getD_ftD (hall ⟨9, .phase⟩ (by simp) rfl))
            · exact (getD_set_ne true (by decide)).trans (getD_ftD (hall ⟨10, .phase⟩ (by simp) rfl))
            · exact (getD_set_ne true (by decide)).trans (getD_ftD hD11)
            · exact (getD_set_ne true (by decide)).trans (getD_ftD (hall ⟨12, .data⟩ (by simp) rfl))
            · by_cases hz : 13 < dd.size <;> simp [hz]
          obtain ⟨p1, p2, p3, p4⟩ := set_drawnV (j := 2) (u := .int .i64 (x.o + r)) (y := { x with o := x.o + r }) hown hs hG hgl HX.out rfl (by decide) HOK.out ⟨hxk.1, hxk.2.1, by show -100 ≤ x.o + r; omega, by show x.o + r ≤ 100000; omega⟩ (by omega)
          have c0 : W.cell? ⟨b, k * 3 + 2, none⟩ = some (.int .i64 x.o) := by
            rw [hown.cellAt (k * 3 + 2) (hkj 2 (by decide))]
            exact flat_at Sto.cells 3 (fun _ => rfl) ps k 2 _ HX.out (by decide)
          have f0 : W.frozen? ⟨b, k * 3 + 2, none⟩ = false := hown.frozenAt (k * 3 + 2)
          refine wpOp_step rfl (fun K hK => ?_)
          simp only [frD, e34, e36]
          clear hall
          go_simp
          refine hK _ _ ⟨us, by simp [frD, e0, e3, e4, e34, e36], hF, .inr ⟨hall2, some ⟨b, 0, none⟩, d, _, p2 ▸ rfl, p1, p3, p4⟩⟩
      · have := hI j hj14
        rw [hun] at this; cases this
    · rintro dd a W hsz2 hall ⟨us, rfl, hF, ⟨hd13, _⟩ | ⟨_, hD⟩⟩
      · exfalso
        have h9 := hall 13 (by simp)
        have : 13 < dd.size := by rw [hsz2]; simp
        simp [this] at hd13 h9
        rw [hd13] at h9; cases h9
      · have e3 := hF.u3
        have HD := Lib.hid hD
        clear hall hsz2 hD o3 s3 G3 hF
        simp only [frD, e3]
        go_wp2_with fail
        go_ret
        exact HD.out
  · clear hxv
    go_wp2_with fail
    refine (vday_any g base A c bs _ s3).mono ?_
    rintro e w4 ⟨y, rfl, ya, yb, s4, g4⟩
    have o4 : StoO w4 w.heap.size (some ⟨b, 0, none⟩) ps.length d ps := own_srcV o3 g4 hgl
    have HD := Lib.hid (set_drawnV (j := 1) (u := .int .i64 y) (y := { x with i := y }) o4 s4 (G3.trans g4) hgl HX.out rfl (by decide) HOK.out ⟨hxk.1, ⟨by show -100 ≤ y; omega, by show y ≤ 100000; omega⟩, hxk.2.2⟩ (by omega))
    have c0 : w4.cell? ⟨b, k * 3 + 1, none⟩ = some (.int .i64 x.i) := (o4.cellAt (k * 3 + 1) (hkj 1 (by decide))).trans (flat_at Sto.cells 3 (fun _ => rfl) ps k 1 _ HX.out (by decide))
    have f0 : w4.frozen? ⟨b, k * 3 + 1, none⟩ = false := o4.frozenAt (k * 3 + 1)
    clear o3 s3 G3 g4 o4 s4 hkj
    go_wp2_with fail
    go_ret
    obtain ⟨p1, p2, p3, p4⟩ := HD.out
    exact ⟨some ⟨b, 0, none⟩, d, _, p2 ▸ rfl, p1, p3, p4⟩
  · clear hxv hkj HX hxk
    have HN := Lib.hid (own_noneV o3)
    go_wp2_with fail
    go_ret
    exact ⟨some ⟨b, 0, none⟩, d, [], rfl, ⟨by simp, HN.out, by simp⟩, s3, G3⟩
  · clear hxv hkj HX hxk
    obtain ⟨m, hm⟩ : ∃ m, ps.length = m + 1 := ⟨ps.length - 1, by omega⟩
    have HL : Hid (∀ p ∈ ps, p.p.length ≤ 7 ∧ (-100 ≤ p.i ∧ p.i ≤ 90000 + 2 * m) ∧ (-100 ≤ p.o ∧ p.o ≤ 90000 + 2 * m)) := Lib.hid (fun p hp => by
      have a := HOK.out p hp
      obtain ⟨_, b1, b2, _⟩ := HO9.out p hp
      exact ⟨a.1, by omega, by omega⟩)
    have HM := Lib.hid hm
    have hm4 : m ≤ 4 := by omega
    have o5 : StoO w3 w.heap.size (some ⟨b, 0, none⟩) (m + 1) d ps := hm ▸ o3
    clear o3 HOK HO9 hk
    rw [hm]
    clear hm hp0 hp5
    go_wp2_with fail
    go_loopw [3] (fun v wr => ∃ (m : Nat) (B : Option Addr) (d : Nat) (ps : List Sto), Hid (ps.length = m + 1) ∧ v = .slice B (m + 1) d ∧ m ≤ 10 ∧ StoO wr w.heap.size B (m + 1) d ps ∧ Hid (∀ p ∈ ps, p.p.length ≤ 7 ∧ (-100 ≤ p.i ∧ p.i ≤ 90000 + 2 * m) ∧ (-100 ≤ p.o ∧ p.o ≤ 90000 + 2 * m)) ∧ Src wr base g A c bs ∧ w.grownBy wr (some g)) (fun v _ => 12 - lnV v)
    case atStart => exact ⟨m, _, d, ps, HM, rfl, by omega, o5, HL, s3, G3⟩
    case round =>
      clear o5 HL HM s3 G3 hm4
      obtain ⟨m, B, d, ps, hm, rfl, m10, hown, hok, hs, hg⟩ := hrel
      go_wp2_with fail
      refine (next_any g _ base A c bs _ hs (by omega)).mono ?_
      rintro e w4 ⟨r3, rfl, a3, b3, h3, g3⟩
      have o4 : StoO w4 w.heap.size B (m + 1) d ps := own_srcV hown g3 hgl
      have G4 := hg.trans g3
      clear hown hg g3 hs
      by_cases hc : (m : Int) + 1 < 10 + r3
      · obtain ⟨b', off, q, rfl, hl, hq, h4⟩ := (StoO.row o4).at (show m < ps.length by rw [hm.out]; omega)
        have hqk := hok.out q (List.mem_of_getElem? hq.out)
        obtain ⟨_, _, hq0, hq1⟩ := hqk
        have c2 := h4.c2
        clear hq h4
        go_wp2_with (at_builtin; refine wpList_push _ rfl (.tmp 64) (.tmp 70) 24 rfl w.heap.size 40 i0 _ 3 32 Tryz.underlying24 hi hz0 hz1 hz2 rfl (by decide) (.slice (some ⟨b', off, none⟩) (m + 1) d) (m + 1) _ rfl o4 [.string ⟨#[108, 105, 109, 97]⟩, .int .i64 (q.o + 1), .int .i64 (q.o + 2)] rfl (by simp [Value.oneCell']) rfl (by unfold maxLen; omega) (by omega) G4.size ?_; intro v' w' hown' hb')
        obtain ⟨B', d', rfl⟩ := own_form hown'
        go_wp2_with fail
        go_roundw
        case rel => exact ⟨m + 1, B', d', ps ++ [⟨[108, 105, 109, 97], q.o + 1, q.o + 2⟩], Lib.hid (by simp [hm.out]), rfl, by omega, by simpa [StoO, Sto.cells] using hown', Lib.hid (snoc_svv (fun p hp => by have a := hok.out p hp; exact ⟨a.1, by omega, by omega⟩) ⟨by simp, ⟨by show -100 ≤ q.o + 1; omega, by show q.o + 1 ≤ _; omega⟩, ⟨by show -100 ≤ q.o + 2; omega, by show q.o + 2 ≤ _; omega⟩⟩), h3.keep (hb'.mono (by omega)), grown_below G4 hb'⟩
        case measure => simp [lnV]; omega
      · have HM := hm.out
        have o6 : StoO w4 w.heap.size B ps.length d ps := by rw [HM]; exact o4
        have HN := Lib.hid (And.intro HM o6)
        clear HM o6 o4
        go_wp2_with fail
        go_ret
        exact ⟨B, d, ps, by rw [HN.out.1] <;> rfl, ⟨by rw [HN.out.1]; omega, HN.out.2, fun p hp => by have a := hok.out p hp; exact ⟨a.1, by omega, by omega⟩⟩, h3, G4⟩
  · have n0 : (r == 0) = false := beq_eq_false_iff_ne.2 (by omega)
    have n1 : (r == 1) = false := beq_eq_false_iff_ne.2 (by omega)
    have n2 : (r == 2) = false := beq_eq_false_iff_ne.2 (by omega)
    have n3 : (r == 3) = false := beq_eq_false_iff_ne.2 (by omega)
    have n4 : (r == 4) = false := beq_eq_false_iff_ne.2 (by omega)
    have hok := HOK.out
    clear HX HOK
    go_wp2_with fail
    go_ret
    exact ⟨some ⟨b, 0, none⟩, d, ps, rfl, ⟨by omega, o3, hok⟩, s3, G3⟩
end Go.Proofs.YtklhcofonkmiiaaGreatDoor

