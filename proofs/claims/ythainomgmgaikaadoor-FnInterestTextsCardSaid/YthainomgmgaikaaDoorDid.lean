/- spec.l06Draw: a manifest or another list is drawn. (by gen_did.py) -/
import Derived.Test.YthainomgmgaikaaDoorDib
namespace Go.Proofs.YthainomgmgaikaaDoor
open Go.ChangeShapes Go.WideShapes Go.ChangeAt Go.RowKit
set_option linter.unusedVariables false

theorem str_appI (a b : List UInt8) : (⟨a.toArray⟩ : ByteArray) ++ (⟨b.toArray⟩ : ByteArray) = ⟨(a ++ b).toArray⟩ := ByteArray.mk_append_mk ..
def alphI : List UInt8 := [97, 98, 99, 100, 101, 102, 103, 104, 105, 106, 107, 108]
theorem zcodeI (k : Nat) : ∃ s : List UInt8, s.length ≤ 2 ∧ (⟨#[122]⟩ : ByteArray) ++ (⟨alphI.toArray⟩ : ByteArray).extract k (k + 1) = ⟨s.toArray⟩ := by
  refine ⟨122 :: (alphI.drop k).take 1, by rw [List.length_cons, List.length_take]; omega, ?_⟩
  have e : (⟨alphI.toArray⟩ : ByteArray).extract k (k + 1) = ⟨((alphI.drop k).take 1).toArray⟩ := by
    apply ByteArray.ext
    simp [ByteArray.data_extract, List.extract_eq_take_drop, show k + 1 - k = 1 by omega]
  rw [e, show (⟨#[122]⟩ : ByteArray) = ⟨[122].toArray⟩ from rfl, str_appI]; simp
theorem flat_set_j {ps : List Ist} {k : Nat} {x y : Ist} {j : Nat} {u : Value} (hx : ps[k]? = some x) (hy : y.cells = x.cells.set j u) (hj : j < 5) : (ps.set k y).flatMap Ist.cells = (ps.flatMap Ist.cells).set (k * 5 + j) u := by
  induction ps generalizing k with
  | nil => simp at hx
  | cons p ps ih =>
    cases k with
    | zero =>
      simp only [List.getElem?_cons_zero, Option.some.injEq] at hx
      subst hx
      rw [List.set_cons_zero, List.flatMap_cons, List.flatMap_cons, hy, Nat.zero_mul, Nat.zero_add, List.set_append, if_pos (by show j < 5; exact hj)]
    | succ k =>
      simp only [List.getElem?_cons_succ] at hx
      have e : (k + 1) * 5 + j = p.cells.length + (k * 5 + j) := by show _ = 5 + (k * 5 + j); omega
      rw [List.set_cons_succ, List.flatMap_cons, List.flatMap_cons, ih hx, e, List.set_append, if_neg (by omega), Nat.add_sub_cancel_left]
theorem set_iok {ps : List Ist} {k : Nat} {y : Ist} (h : ∀ p ∈ ps, Iok p) (hy : Iok y) : ∀ p ∈ ps.set k y, Iok p := fun p hp => by
  rcases List.mem_or_eq_of_mem_set hp with h1 | h1
  · exact h p h1
  · rw [h1]; exact hy
theorem own_someI {w : World} {base n q : Nat} {O : Option Addr} {L : List Ist} (h : IstO w base O n q L) (hn : 0 < n) : ∃ g, O = some ⟨g, 0, none⟩ := by
  rcases h.2 with ⟨_, h2⟩ | ⟨g, cap, cur, h1, _⟩
  · omega
  · injection h1 with h1 _ _; exact ⟨g, h1⟩
/-- A drawn element is changed in one cell. -/
theorem set_drawn {w W : World} {base g b d k : Nat} {A : Option Addr} {c : Nat} {bs : List Int} {ps : List Ist} {x y : Ist} {j : Nat} {u : Value} (ho : IstO W w.heap.size (some ⟨b, 0, none⟩) ps.length d ps) (hs : Src W base g A c bs) (hG : w.grownBy W (some g)) (hgl : g < w.heap.size)
    (hx : ps[k]? = some x) (hy : y.cells = x.cells.set j u) (hj : j < 5) (hok : ∀ p ∈ ps, Iok p) (hyk : Iok y) (h0 : 0 < ps.length) (h40 : ps.length ≤ 40) :
    IDr (W.setCell ⟨b, k * 5 + j, none⟩ u) w.heap.size (some ⟨b, 0, none⟩) d (ps.set k y) ∧ (ps.set k y).length = ps.length ∧ Src (W.setCell ⟨b, k * 5 + j, none⟩ u) base g A c bs ∧ w.grownBy (W.setCell ⟨b, k * 5 + j, none⟩ u) (some g) := by
  have hb := (ho.lt b rfl).1
  have hst := (ho.stored (k * 5 + j) u).1
  rw [← flat_set_j hx hy hj] at hst
  refine ⟨⟨by rw [List.length_set]; exact h0, by rw [List.length_set]; exact h40, by rw [List.length_set]; exact hst, set_iok hok hyk⟩, List.length_set, hs.keep ((Below.refl _ _).setCell (p := ⟨b, k * 5 + j, none⟩) (by show g + 1 ≤ b; omega) _), grown_below hG ((Below.refl _ _).setCell (p := ⟨b, k * 5 + j, none⟩) hb _)⟩
def NewID (w : World) (base g : Nat) (A : Option Addr) (c : Nat) (bs : List Int) (e : Ending) (w' : World) : Prop :=
  ∃ B d ps, e = .returned (.slice B (List.length ps) d) ∧ IDr w' w.heap.size B d ps ∧ Src w' base g A c bs ∧ w.grownBy w' (some g)
set_option maxRecDepth 100000 in
set_option maxHeartbeats 8000000 in
theorem draw_id (g : Nat) (base : Nat) (A : Option Addr) (c : Nat) (bs : List Int) (w : World) (h : Src w base g A c bs) :
    Calls Tryd.prog 37 #[.pointer (some ⟨g, 0, none⟩)] w (NewID w base g A c bs) := by
  obtain ⟨i0, hi, hz0, hz1, hz2⟩ := info_parts istInfo
  have hgl := h.lt
  go_enter Tryd.func37, Tryd.ntmps37
  go_wp2_with fail
  refine (valid_any g base A c bs _ h).mono ?_
  rintro e w1 ⟨B, d, ps, rfl, hp7, ⟨hp0, hp40, o1, hok⟩, s1, g1, _⟩
  have HOK := Lib.hid hok
  clear h hok hp40
  go_wp2_with fail
  refine (next_any g _ base A c bs _ s1 (by omega)).mono ?_
  rintro e w2 ⟨kz, rfl, ka, kb, s2, g2⟩
  obtain ⟨k, rfl⟩ := Int.eq_ofNat_of_zero_le ka
  have hk : k < ps.length := by omega
  have o2 := own_srcI o1 g2 hgl
  have G2 := g1.trans g2
  clear o1 s1 g1 g2
  go_wp2_with fail
  refine (next_any g _ base A c bs _ s2 (by omega)).mono ?_
  rintro e w3 ⟨r, rfl, ra, rb, s3, g3⟩
  have o3 : IstO w3 w.heap.size B ps.length d ps := own_srcI o2 g3 hgl
  have G3 := G2.trans g3
  clear o2 s2 G2 g3 kb
  obtain ⟨b, rfl⟩ := own_someI o3 hp0
  obtain ⟨x, hx⟩ : ∃ x, ps[k]? = some x := ⟨_, List.getElem?_eq_getElem hk⟩
  have hxk := HOK.out x (List.mem_of_getElem? hx)
  have HX := Lib.hid hx
  have hkj : ∀ j, j < 5 → k * 5 + j < ps.length * 5 := fun j hj => by omega
  clear hx
  rcases (by omega : r = 0 ∨ r = 1 ∨ r = 2 ∨ r = 3 ∨ r = 4 ∨ 4 < r) with rfl | rfl | rfl | rfl | rfl | hr
  · go_wp2_with fail
    refine (next_any g 6 base A c bs _ s3 (by omega)).mono ?_
    rintro e w4 ⟨y, rfl, ya, yb, s4, g4⟩
    have o4 : IstO w4 w.heap.size (some ⟨b, 0, none⟩) ps.length d ps := own_srcI o3 g4 hgl
    have HD := Lib.hid (set_drawn (j := 1) (u := .int .i64 (y - 1)) (y := { x with k := y - 1 }) o4 s4 (G3.trans g4) hgl HX.out rfl (by decide) HOK.out hxk hp0 (by omega))
    have c0 : w4.cell? ⟨b, k * 5 + 1, none⟩ = some (.int .i64 x.k) := by
      rw [o4.cellAt (k * 5 + 1) (hkj 1 (by decide))]
      exact flat_at Ist.cells 5 (fun _ => rfl) ps k 1 _ HX.out (by decide)
    have f0 := o4.frozenAt (k * 5 + 1)
    clear o3 s3 G3 g4 o4 s4 hkj
    go_wp2_with fail
    go_ret
    obtain ⟨p1, p2, p3, p4⟩ := HD.out
    exact ⟨some ⟨b, 0, none⟩, d, _, p2 ▸ rfl, p1, p3, p4⟩
  · go_wp2_with fail
    refine (amount_any g base A c bs _ s3).mono ?_
    rintro e w4 ⟨y, rfl, ya, yb, s4, g4⟩
    have o4 : IstO w4 w.heap.size (some ⟨b, 0, none⟩) ps.length d ps := own_srcI o3 g4 hgl
    have HD := Lib.hid (set_drawn (j := 3) (u := .int .i64 y) (y := { x with v := y }) o4 s4 (G3.trans g4) hgl HX.out rfl (by decide) HOK.out ⟨hxk.1, hxk.2.1, ya, yb⟩ hp0 (by omega))
    have c0 : w4.cell? ⟨b, k * 5 + 3, none⟩ = some (.int .i64 x.v) := by
      rw [o4.cellAt (k * 5 + 3) (hkj 3 (by decide))]
      exact flat_at Ist.cells 5 (fun _ => rfl) ps k 3 _ HX.out (by decide)
    have f0 := o4.frozenAt (k * 5 + 3)
    clear o3 s3 G3 g4 o4 s4 hkj
    go_wp2_with fail
    go_ret
    obtain ⟨p1, p2, p3, p4⟩ := HD.out
    exact ⟨some ⟨b, 0, none⟩, d, _, p2 ▸ rfl, p1, p3, p4⟩
  · have hc := (IstO.row o3).at hk
    obtain ⟨b', off, q, e, hl, hq, hq4⟩ := hc
    obtain rfl : x = q := by have h1 := HX.out; have h2 := hq.out; rw [h1] at h2; exact Option.some.inj h2
    simp only [Option.some.injEq, Addr.mk.injEq, and_true] at e
    obtain ⟨rfl, rfl⟩ := e
    have c0 := hq4.c0; have c1 := hq4.c1; have c2 := hq4.c2; have c3 := hq4.c3; have c4 := hq4.c4
    simp only [Nat.zero_add] at c0 c1 c2 c3 c4
    have HO := Lib.hid o3
    have HG := Lib.hid G3
    have HS := Lib.hid s3
    clear hq hq4 hkj o3 G3 s3
    go_wp2_with (at_builtin; refine wpList_push _ rfl (.tmp 33) (.tmp 38) 47 rfl w.heap.size 25 i0 _ 5 56 Tryd.underlying47 hi hz0 hz1 hz2 rfl (by decide) (.slice (some ⟨b, 0, none⟩) ps.length d) ps.length _ rfl HO.out [.string ⟨x.c.toArray⟩, .int .i64 x.k, .string ⟨x.o.toArray⟩, .int .i64 x.v, .int .i64 x.a] rfl (by simp [Value.oneCell']) rfl (by unfold maxLen; omega) (by omega) HG.out.size ?_; intro v' w' hown' hb')
    go_ret
    obtain ⟨B', d', rfl⟩ := own_form hown'
    exact ⟨B', d', ps ++ [x], by simp, ⟨by simp, by simp; omega, by simpa [IstO, Ist.cells] using hown', snoc_iok HOK.out hxk⟩, HS.out.keep (hb'.mono (by omega)), grown_below HG.out hb'⟩
  · go_wp2_with fail
    refine (code12_any g base A c bs _ s3).mono ?_
    rintro e w4 ⟨s, rfl, sl, s4, g4⟩
    have o4 : IstO w4 w.heap.size (some ⟨b, 0, none⟩) ps.length d ps := own_srcI o3 g4 hgl
    have HD := Lib.hid (set_drawn (j := 2) (u := .string ⟨s.toArray⟩) (y := { x with o := s }) o4 s4 (G3.trans g4) hgl HX.out rfl (by decide) HOK.out ⟨hxk.1, sl, hxk.2.2⟩ hp0 (by omega))
    have c0 : w4.cell? ⟨b, k * 5 + 2, none⟩ = some (.string ⟨x.o.toArray⟩) := by
      rw [o4.cellAt (k * 5 + 2) (hkj 2 (by decide))]
      exact flat_at Ist.cells 5 (fun _ => rfl) ps k 2 _ HX.out (by decide)
    have f0 := o4.frozenAt (k * 5 + 2)
    clear o3 s3 G3 g4 o4 s4 hkj
    go_wp2_with fail
    go_ret
    obtain ⟨p1, p2, p3, p4⟩ := HD.out
    exact ⟨some ⟨b, 0, none⟩, d, _, p2 ▸ rfl, p1, p3, p4⟩
  · go_wp2_with fail
    go_loopw [3, 5] (fun v n wr => ∃ (k : Nat) (B : Option Addr) (d : Nat) (ps : List Ist), n = .int .i64 k ∧ v = .slice B ps.length d ∧ k ≤ 12 ∧ 0 < ps.length ∧ ps.length ≤ 7 + k ∧ IstO wr w.heap.size B ps.length d ps ∧ Hid (∀ p ∈ ps, Iok p) ∧ Src wr base g A c bs ∧ w.grownBy wr (some g)) (fun _ n _ => (12 - intOf n).toNat)
    case atStart => exact ⟨0, _, _, ps, rfl, rfl, by omega, hp0, by omega, o3, HOK, s3, G3⟩
    case round =>
      clear o3 HOK s3 G3 hp7 hp0 hk HX hxk hkj ka
      obtain ⟨k, B, d, ps, rfl, rfl, k1, hp0, kl, hown, ht, hs, hg⟩ := hrel
      go_wp2_with fail
      refine (next_any g _ base A c bs _ hs (by omega)).mono ?_
      rintro e w3 ⟨r3, rfl, a3, b3, h3, g3⟩
      have o3 : IstO w3 w.heap.size B ps.length d ps := own_srcI hown g3 hgl
      have G3 := hg.trans g3
      clear hown hg g3 hs
      by_cases hc : (ps.length : Int) < 10 + r3 ∧ (k : Int) < 12
      · obtain ⟨hc1, hc2⟩ := hc
        obtain ⟨s, hsl, hse⟩ := zcodeI k
        have HSE := Lib.hid hse
        clear hse
        have z0 : (⟨#[97, 98, 99, 100, 101, 102, 103, 104, 105, 106, 107, 108]⟩ : ByteArray).size = 12 := rfl
        have q1 : (k : Int) ≤ (k : Int) + 1 ∧ (k : Int) + 1 ≤ 12 := by omega
        have q4 : ((k : Int) + 1).toNat = k + 1 := by omega
        go_wp2_with (at_builtin; refine wpList_push _ rfl (.tmp 62) (.tmp 69) 47 rfl w.heap.size 25 i0 _ 5 56 Tryd.underlying47 hi hz0 hz1 hz2 rfl (by decide) (.slice B ps.length d) ps.length _ rfl o3 [.string ((⟨#[122]⟩ : ByteArray) ++ (⟨alphI.toArray⟩ : ByteArray).extract k (k + 1)), .int .i64 3, .string ⟨#[97, 108, 98, 97]⟩, .int .i64 100, .int .i64 0] rfl (by simp [Value.oneCell']) rfl (by unfold maxLen; omega) (by omega) G3.size ?_; intro v' w' hown' hb')
        rw [HSE.out] at hown'
        obtain ⟨B', d', rfl⟩ := own_form hown'
        go_wp2_with fail
        go_roundw
        case rel => exact ⟨k + 1, B', d', ps ++ [⟨s, 3, [97, 108, 98, 97], 100, 0⟩], by go_num, by simp, by omega, by simp, by simp; omega, by simpa [IstO, Ist.cells] using hown', Lib.hid (snoc_iok ht.out ⟨by simp; omega, by simp, by simp, by simp⟩), h3.keep (hb'.mono (by omega)), grown_below G3 hb'⟩
        case measure => simp [intOf]; omega
      · by_cases hc1 : (ps.length : Int) < 10 + r3
        · have hc2 : ¬ (k : Int) < 12 := fun h => hc ⟨hc1, h⟩
          clear hc
          go_wp2_with fail
          go_ret
          exact ⟨B, d, ps, rfl, ⟨hp0, by omega, o3, ht.out⟩, h3, G3⟩
        · clear hc
          go_wp2_with fail
          go_ret
          exact ⟨B, d, ps, rfl, ⟨hp0, by omega, o3, ht.out⟩, h3, G3⟩
  · have n0 : (r == 0) = false := beq_eq_false_iff_ne.2 (by omega)
    have n1 : (r == 1) = false := beq_eq_false_iff_ne.2 (by omega)
    have n2 : (r == 2) = false := beq_eq_false_iff_ne.2 (by omega)
    have n3 : (r == 3) = false := beq_eq_false_iff_ne.2 (by omega)
    have n4 : (r == 4) = false := beq_eq_false_iff_ne.2 (by omega)
    have hok := HOK.out
    clear HX HOK
    go_wp2_with fail
    go_ret
    exact ⟨some ⟨b, 0, none⟩, d, ps, rfl, ⟨hp0, by omega, o3, hok⟩, s3, G3⟩
end Go.Proofs.YthainomgmgaikaaDoor
