/- A drawn register: spec.l05Draw. -/
import Derived.Test.YtjgagiigpijaiaaDoorDpa
import Derived.Test.YtjgagiigpijaiaaDoorAdpi
namespace Go.Proofs.YtjgagiigpijaiaaDoor
open Go.ChangeShapes Go.WideShapes Go.ChangeAt Go.RowKit
set_option linter.unusedVariables false

theorem own_srcP {w w' : World} {base g n : Nat} {e : TypeId} {k : Nat} {v : Value} {xs : List Value} (h : w.ownsRow base e k v n xs) (hg : w.grownBy w' (some g)) (hl : g < base) : w'.ownsRow base e k v n xs := by
  refine World.ownsRow.kept h hg ?_
  cases hv : v.ownBlock with
  | none => exact .inl rfl
  | some k => right; intro e; have := (h.lt k hv).1; injection e with e; omega
/-- Short texts. -/
def Dq (p : Pty) : Prop := p.c.length ≤ 7 ∧ p.a.length ≤ 7
theorem Dq.sz {p : Pty} (h : Dq p) : p.sz ≤ 1048576 := by unfold Dq at h; unfold Pty.sz; omega
theorem Dok.dq {p : Pty} (h : Dok p) : Dq p := ⟨h.1, h.2.1⟩
/-- A drawn register, in a box of its own not below lo. -/
def PDr (w : World) (lo : Nat) (B : Option Addr) (d : Nat) (ps : List Pty) : Prop := ps.length ≤ 40 ∧ PtyO w lo B ps.length d ps ∧ ∀ p ∈ ps, Dq p
theorem PDr.tblC {w : World} {lo d : Nat} {B : Option Addr} {ps : List Pty} (h : PDr w lo B d ps) : PTblC w B d ps := ptblC_of h.2.1 (fun p hp => (h.2.2 p hp).sz) (by have := h.1; omega)
theorem PDr.tbl {w : World} {lo d : Nat} {B : Option Addr} {ps : List Pty} (h : PDr w lo B d ps) : PTbl w B ps := h.tblC.tbl
theorem PDr.below {w w' : World} {lo d : Nat} {B : Option Addr} {ps : List Pty} (h : PDr w lo B d ps) (hb : Below w.heap.size w w') : PDr w' lo B d ps := ⟨h.1, h.2.1.below hb, h.2.2⟩
theorem PDr.src {w w' : World} {lo d g : Nat} {B : Option Addr} {ps : List Pty} (h : PDr w lo B d ps) (hg : w.grownBy w' (some g)) (hl : g < lo) : PDr w' lo B d ps := ⟨h.1, own_srcP h.2.1 hg hl, h.2.2⟩
theorem PDr.low {w : World} {lo lo' d : Nat} {B : Option Addr} {ps : List Pty} (h : PDr w lo B d ps) (hl : lo' ≤ lo) : PDr w lo' B d ps := ⟨h.1, h.2.1.mono hl, h.2.2⟩
def NewPD (w : World) (base g : Nat) (A : Option Addr) (c : Nat) (bs : List Int) (e : Ending) (w' : World) : Prop :=
  ∃ B d ps, e = .returned (.slice B (List.length ps) d) ∧ PDr w' w.heap.size B d ps ∧ Src w' base g A c bs ∧ w.grownBy w' (some g)
theorem addPR_txt {ps : List Pty} {x : Pty} (h : ∀ p ∈ ps, Dq p) (hx : Dq x) : ∀ p ∈ (addPR ps x).1, Dq p := by
  unfold addPR
  split
  · split
    · intro p hp
      rcases addP_mem hp with rfl | hp
      · exact hx
      · exact h p hp
    · intro p hp; cases hp
  · intro p hp; cases hp
theorem addPR_code (ps : List Pty) (x : Pty) : (addPR ps x).2 = 0 ∨ (addPR ps x).2 = 5 ∨ (addPR ps x).2 = 1 := by
  unfold addPR
  split
  · split
    · exact .inl rfl
    · exact .inr (.inl rfl)
  · exact .inr (.inr rfl)
theorem snoc_dq {ps : List Pty} {x : Pty} (h : ∀ p ∈ ps, Dq p) (hx : Dq x) : ∀ p ∈ ps ++ [x], Dq p := by
  intro p hp
  rcases List.mem_append.1 hp with h2 | h2
  · exact h p h2
  · simp at h2; subst h2; exact hx
def alph : List UInt8 := [97, 98, 99, 100, 101, 102, 103, 104, 105, 106, 107, 108, 109, 110, 111, 112, 113, 114, 115, 116]
theorem zcode (k : Nat) : ∃ s : List UInt8, s.length ≤ 2 ∧ (⟨#[122]⟩ : ByteArray) ++ (⟨alph.toArray⟩ : ByteArray).extract k (k + 1) = ⟨s.toArray⟩ := by
  refine ⟨122 :: (alph.drop k).take 1, by rw [List.length_cons, List.length_take]; omega, ?_⟩
  rw [str_ext, show k + 1 - k = 1 by omega, show (⟨#[122]⟩ : ByteArray) = ⟨[122].toArray⟩ from rfl, str_app]; simp

set_option maxRecDepth 100000 in
set_option maxHeartbeats 4000000 in
theorem draw_pd (g : Nat) (base : Nat) (A : Option Addr) (c : Nat) (bs : List Int) (w : World) (h : Src w base g A c bs) :
    Calls Tryd.prog 70 #[.pointer (some ⟨g, 0, none⟩)] w (NewPD w base g A c bs) := by
  obtain ⟨i0, hi, hz0, hz1, hz2⟩ := info_parts ptyInfo
  have hgl := h.lt
  have H0 : PtyO (w.alloc (Obj.cells #[] 35)) w.heap.size (some ⟨w.heap.size, 0, none⟩) 0 0 [] := World.ownsRow_made w #[] 0 (Nat.le_refl _) (by decide) (by simp)
  go_enter Tryd.func70, Tryd.ntmps70
  go_wp2_with fail
  refine (next_any g _ base A c bs _ (h.alloc _) (by omega)).mono ?_
  rintro e w1 ⟨r1, rfl, a1, b1, h1, g1⟩
  have H1 : PtyO w1 w.heap.size (some ⟨w.heap.size, 0, none⟩) 0 0 [] := own_srcP H0 g1 hgl
  have G1 : w.grownBy w1 (some g) := (World.grownBy_alloc w _ _).trans g1
  clear H0 g1
  go_wp2_with fail
  go_loopw [3, 4] (fun v n wr => ∃ (k : Int) (B : Option Addr) (d : Nat) (ps : List Pty), n = .int .i64 k ∧ v = .slice B ps.length d ∧ 0 ≤ k ∧ k ≤ 7 ∧ ps.length ≤ 13 ∧ PtyO wr w.heap.size B ps.length d ps ∧ (∀ p ∈ ps, Dq p) ∧ Src wr base g A c bs ∧ w.grownBy wr (some g)) (fun _ n _ => (intOf n).toNat)
  case atStart => exact ⟨r1, _, _, [], rfl, rfl, by omega, by omega, by simp, H1, by simp, h1, G1⟩
  case round =>
    obtain ⟨k, B, d, ps, rfl, rfl, k0, k7, kl, hown, ht, hs, hg⟩ := hrel
    clear H1 h1 G1 h
    by_cases hk : 0 < k
    · go_wp2_with fail
      refine (party_any g base A c bs _ hs).mono ?_
      rintro e w3 ⟨q, rfl, hq, h3, g3⟩
      have hown3 : PtyO w3 w.heap.size B ps.length d ps := own_srcP hown g3 hgl
      have G3 := hg.trans g3
      have hq2 := hq.dq
      have hC : PTblC w3 B d ps := ptblC_of hown3 (fun p hp => (ht p hp).sz) (by omega)
      clear hown hs hg g3 hq
      go_wp2_with fail
      refine (addp_sc B d ps q _ hC hq2.sz).mono ?_
      rintro e w4 ⟨B4, d4, rfl, o4, bl4⟩
      have h4 := h3.below bl4
      have G4 := grown_below G3 (bl4.mono G3.size)
      have hown4 := hown3.below bl4
      have o4' := o4.mono G3.size
      have hL := addPR_13 ps q
      have hc := addPR_code ps q
      have hT := Lib.hid (addPR_txt ht hq2)
      have hT0 := Lib.hid ht
      clear h3 G3 hown3 o4 bl4 ht hC hq2
      generalize addPR ps q = p at *
      obtain ⟨zs, cd⟩ := p
      simp only at hL hc
      rcases hc with rfl | rfl | rfl
      · go_wp2_with fail
        go_roundw
        case rel => exact ⟨k - 1, _, _, zs, rfl, rfl, by omega, by omega, hL, o4', hT.out, h4, G4⟩
        case measure => simp [intOf]; omega
      all_goals
        go_wp2_with fail
        go_roundw
        case rel => exact ⟨k - 1, _, _, ps, rfl, rfl, by omega, by omega, by omega, hown4, hT0.out, h4, G4⟩
        case measure => simp [intOf]; omega
    · have hk0 : k = 0 := by omega
      subst hk0
      have hT := Lib.hid ht
      clear ht
      go_wp2_with fail
      refine (next_any g _ base A c bs _ hs (by omega)).mono ?_
      rintro e w2 ⟨r2, rfl, a2, b2, h2, g2⟩
      have o2 : PtyO w2 w.heap.size B ps.length d ps := own_srcP hown g2 hgl
      have G2 := hg.trans g2
      clear hown g2 hs hg
      rcases (by omega : r2 = 0 ∨ r2 = 1 ∨ 1 < r2) with rfl | rfl | hr
      · go_wp2_with fail
        refine (party_any g base A c bs _ h2).mono ?_
        rintro e w3 ⟨q, rfl, hq, h3, g3⟩
        have o3 : PtyO w3 w.heap.size B ps.length d ps := own_srcP o2 g3 hgl
        have G3 := G2.trans g3
        clear o2 G2 g3 h2
        go_wp2_with (at_builtin; refine wpList_push _ rfl (.tmp 29) (.tmp 32) 26 rfl w.heap.size 35 i0 _ 3 40 Tryd.underlying26 hi hz0 hz1 hz2 rfl (by decide) (.slice B ps.length d) ps.length _ rfl o3 [.string ⟨q.c.toArray⟩, .int .i64 q.k, .string ⟨q.a.toArray⟩] rfl (by simp [Value.oneCell']) rfl (by unfold maxLen; omega) (by omega) G3.size ?_; intro v' w' hown' hb')
        go_ret
        obtain ⟨B', d', rfl⟩ := own_form hown'
        exact ⟨B', d', ps ++ [q], by simp, ⟨by simp; omega, by simpa [PtyO, Pty.cells] using hown', snoc_dq hT.out hq.dq⟩, h3.keep (hb'.mono (by omega)), grown_below G3 hb'⟩
      · go_wp2_with fail
        go_loopw [3, 7] (fun v n wr => ∃ (k : Nat) (B : Option Addr) (d : Nat) (ps : List Pty), n = .int .i64 k ∧ v = .slice B ps.length d ∧ k ≤ 20 ∧ ps.length ≤ 13 + k ∧ PtyO wr w.heap.size B ps.length d ps ∧ Hid (∀ p ∈ ps, Dq p) ∧ Src wr base g A c bs ∧ w.grownBy wr (some g)) (fun _ n _ => (20 - intOf n).toNat)
        case atStart => exact ⟨0, _, _, ps, rfl, rfl, by omega, by omega, o2, hT, h2, G2⟩
        case round =>
          clear o2 hT h2 G2 kl
          obtain ⟨k, B, d, ps, rfl, rfl, k1, kl, hown, ht, hs, hg⟩ := hrel
          go_wp2_with fail
          refine (next_any g _ base A c bs _ hs (by omega)).mono ?_
          rintro e w3 ⟨r3, rfl, a3, b3, h3, g3⟩
          have o3 : PtyO w3 w.heap.size B ps.length d ps := own_srcP hown g3 hgl
          have G3 := hg.trans g3
          clear hown hg g3 hs
          by_cases hc : (ps.length : Int) < 12 + r3 ∧ (k : Int) < 20
          · obtain ⟨hc1, hc2⟩ := hc
            obtain ⟨s, hsl, hse⟩ := zcode k
            have HSE := Lib.hid hse
            clear hse
            have z0 : (⟨#[97, 98, 99, 100, 101, 102, 103, 104, 105, 106, 107, 108, 109, 110, 111, 112, 113, 114, 115, 116]⟩ : ByteArray).size = 20 := rfl
            have q1 : (k : Int) ≤ (k : Int) + 1 ∧ (k : Int) + 1 ≤ 20 := by omega
            have q4 : ((k : Int) + 1).toNat = k + 1 := by omega
            go_wp2_with (at_builtin; refine wpList_push _ rfl (.tmp 48) (.tmp 55) 26 rfl w.heap.size 35 i0 _ 3 40 Tryd.underlying26 hi hz0 hz1 hz2 rfl (by decide) (.slice B ps.length d) ps.length _ rfl o3 [.string ((⟨#[122]⟩ : ByteArray) ++ (⟨alph.toArray⟩ : ByteArray).extract k (k + 1)), .int .i64 0, .string ⟨#[]⟩] rfl (by simp [Value.oneCell']) rfl (by unfold maxLen; omega) (by omega) G3.size ?_; intro v' w' hown' hb')
            rw [HSE.out] at hown'
            obtain ⟨B', d', rfl⟩ := own_form hown'
            go_wp2_with fail
            go_roundw
            case rel => exact ⟨k + 1, B', d', ps ++ [⟨s, 0, []⟩], by go_num, by simp, by omega, by simp; omega, by simpa [PtyO, Pty.cells] using hown', Lib.hid (snoc_dq ht.out ⟨by simp; omega, by simp⟩), h3.keep (hb'.mono (by omega)), grown_below G3 hb'⟩
            case measure => simp [intOf]; omega
          · by_cases hc1 : (ps.length : Int) < 12 + r3
            · have hc2 : ¬ (k : Int) < 20 := fun h => hc ⟨hc1, h⟩
              clear hc
              go_wp2_with fail
              go_ret
              exact ⟨B, d, ps, rfl, ⟨by omega, o3, ht.out⟩, h3, G3⟩
            · clear hc
              go_wp2_with fail
              go_ret
              exact ⟨B, d, ps, rfl, ⟨by omega, o3, ht.out⟩, h3, G3⟩
      · have e0 : (r2 == 0) = false := beq_eq_false_iff_ne.2 (by omega)
        have e1 : (r2 == 1) = false := beq_eq_false_iff_ne.2 (by omega)
        go_wp2_with fail
        go_ret
        exact ⟨B, d, ps, rfl, ⟨by omega, o2, hT.out⟩, h2, G2⟩
end Go.Proofs.YtjgagiigpijaiaaDoor
