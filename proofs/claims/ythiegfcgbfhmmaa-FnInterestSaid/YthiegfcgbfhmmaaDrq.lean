/- The draws of chapter 4: schedules, points, days. -/
import Derived.Test.YthiegfcgbfhmmaaPol
import Derived.Test.YthiegfcgbfhmmaaDrawm
import Derived.Test.YthiegfcgbfhmmaaPush
namespace Go.Proofs.Ythiegfcgbfhmmaa
open Go.ChangeShapes Go.WideShapes Go.ChangeAt Go.RowKit
set_option linter.unusedVariables false

theorem own_srcS {w w' : World} {W : Nat} {e : TypeId} {g n size : Nat} {v : Value} {xs : List Value} (h : w.ownsRow W e size v n xs) (hg : w.grownBy w' (some g)) (hW : g < W) : w'.ownsRow W e size v n xs := by
  refine World.ownsRow.kept h hg ?_
  cases hv : v.ownBlock with
  | none => exact .inl rfl
  | some k => right; intro e; have := (h.lt k hv).1; injection e with e; omega
def NewSt (lo hi : Nat) (w : World) (base g : Nat) (A : Option Addr) (c : Nat) (bs : List Int) (e : Ending) (w' : World) : Prop :=
  ∃ B d ys, e = .returned (.slice B ys.length d) ∧ lo ≤ ys.length ∧ ys.length ≤ hi ∧ Ost w' w.heap.size B ys.length d ys ∧ Src w' base g A c bs ∧ w.grownBy w' (some g)

set_option maxRecDepth 100000 in
set_option maxHeartbeats 2000000 in
theorem valid_st (g : Nat) (base : Nat) (A : Option Addr) (c : Nat) (bs : List Int) (w : World) (h : Src w base g A c bs) :
    Calls Try.prog 68 #[.pointer (some ⟨g, 0, none⟩)] w (NewSt 1 4 w base g A c bs) := by
  obtain ⟨i0, hi, hz0, hz1, hz2⟩ := info_parts stepInfo
  have hgl := h.lt
  have H0 : (w.alloc (Obj.cells #[] 37)).ownsRow w.heap.size 37 2 (.slice (some ⟨w.heap.size, 0, none⟩) 0 0) 0 [] := World.ownsRow_made w #[] 0 (Nat.le_refl _) (by decide) (by simp)
  go_enter Try.func68, Try.ntmps68
  go_wp2_with fail
  refine (next_any g _ base A c bs _ (h.alloc _) (by omega)).mono ?_
  rintro e w1 ⟨r1, rfl, a1, b1, h1, g1⟩
  have H1 := own_srcS H0 g1 hgl
  have G1 : w.grownBy w1 (some g) := (World.grownBy_alloc w _ _).trans g1
  clear H0 g1
  go_wp2_with fail
  refine (next_any g _ base A c bs _ h1 (by omega)).mono ?_
  rintro e w2 ⟨r2, rfl, a2, b2, h2, g2⟩
  have H2 := own_srcS H1 g2 hgl
  have G2 := G1.trans g2
  clear H1 g2 G1 h1
  go_wp2_with fail
  go_loopw [3, 4, 5] (fun v dy n wr => ∃ (k D : Int) (ys : List St), n = .int .i64 k ∧ dy = .int .i64 D ∧ 0 ≤ D ∧ D ≤ 21000 + 300 * ys.length ∧ 0 ≤ k ∧ 1 ≤ ys.length + k ∧ ys.length + k ≤ 4 ∧ wr.ownsRow w.heap.size 37 2 v ys.length (ys.flatMap St.cells) ∧ Src wr base g A c bs ∧ w.grownBy wr (some g)) (fun _ _ n _ => (intOf n).toNat)
  case atStart => exact ⟨1 + r2, 19900 + r1, [], rfl, rfl, by omega, by simp; omega, by omega, by simp; omega, by simp; omega, H2, h2, G2⟩
  case round =>
    obtain ⟨k, D, ys, rfl, rfl, D0, D1, k0, kl0, kl, hown, hs, hg⟩ := hrel
    clear H2 h2 G2 h
    by_cases hk : 0 < k
    · obtain ⟨B, d, rfl⟩ := own_form hown
      go_wp2_with fail
      refine (next_any g _ base A c bs _ hs (by omega)).mono ?_
      rintro e w3 ⟨r3, rfl, a3, b3, h3, g3⟩
      have hown3 := own_srcS hown g3 hgl
      have G3 := hg.trans g3
      clear hown hs hg g3
      go_wp2_with fail
      refine (pick_new g 4 [400, 700, r3, 0] 0 999 base A c bs w3 h3 rfl (by omega) (by omega) (by intro x hx; simp only [List.mem_cons, List.not_mem_nil, or_false] at hx; omega)).mono ?_
      rintro e w4 ⟨r4, rfl, a4, b4, h4, g4⟩
      have hown4 := own_srcS hown3 g4 hgl
      have G4 := G3.trans g4
      clear hown3 h3 G3 g4
      go_wp2_with (at_builtin; refine wpList_push _ rfl (.tmp 17) (.tmp 25) 24 rfl w.heap.size 37 i0 _ 2 16 Try.underlying24 hi hz0 hz1 hz2 rfl (by decide) _ ys.length _ rfl hown4 [.int .i64 D, .int .i64 r4] rfl (by simp [Value.oneCell']) rfl (by unfold maxLen; omega) (by omega) G4.size ?_; intro v' w' hown' hb')
      have h5 := h4.keep (hb'.mono (by omega))
      have G5 := grown_below G4 hb'
      refine (next_any g _ base A c bs _ h5 (by omega)).mono ?_
      rintro e w6 ⟨r6, rfl, a6, b6, h6, g6⟩
      have hown6 := own_srcS hown' g6 hgl
      have G6 := G5.trans g6
      clear hown' h5 G5 g6 hown4 h4 G4
      obtain ⟨B', d', rfl⟩ := own_form hown6
      go_wp2_with fail
      go_roundw
      case rel => exact ⟨k - 1, D + 1 + r6, ys ++ [⟨D, r4⟩], rfl, rfl, by omega, by simp; omega, by omega, by simp; omega, by simp; omega, by simpa [St.cells] using hown6, h6, G6⟩
      case measure => simp [intOf]; omega
    · obtain ⟨B, d, rfl⟩ := own_form hown
      have hk0 : k = 0 := by omega
      subst hk0
      go_wp2_with fail
      go_ret
      exact ⟨B, d, ys, rfl, by omega, by omega, hown, hs, hg⟩

theorem lday_any (g : Nat) (base : Nat) (A : Option Addr) (c : Nat) (bs : List Int) (w : World) (h : Src w base g A c bs) :
    Calls Try.prog 69 #[.pointer (some ⟨g, 0, none⟩)] w (Drew w base g A c bs (-1) 36525) := by
  go_enter Try.func69, Try.ntmps69
  go_wp2_with fail
  refine (next_any g _ base A c bs _ h (by omega)).mono ?_
  rintro e w1 ⟨r1, rfl, a1, b1, h1, g1⟩
  go_wp2_with fail
  refine (next_any g _ base A c bs _ h1 (by omega)).mono ?_
  rintro e w2 ⟨r2, rfl, a2, b2, h2, g2⟩
  go_wp2_with fail
  refine (next_any g _ base A c bs _ h2 (by omega)).mono ?_
  rintro e w3 ⟨r3, rfl, a3, b3, h3, g3⟩
  go_wp2_with fail
  refine (next_any g _ base A c bs _ h3 (by omega)).mono ?_
  rintro e w4 ⟨r4, rfl, a4, b4, h4, g4⟩
  go_wp2_with fail
  refine (pick_new g 8 [r1, 18000 + r2, 0, 36524, 36525, -1, 18000 + r3, 18000 + r4] (-1) 36525 base A c bs w4 h4 rfl (by omega) (by omega) ?_).mono ?_
  · intro x hx
    simp only [List.mem_cons, List.not_mem_nil, or_false] at hx
    omega
  rintro e w7 ⟨r7, rfl, a7, b7, h7, g7⟩
  go_wp2_with fail
  go_ret
  exact ⟨r7, rfl, a7, b7, h7, (((g1.trans g2).trans g3).trans g4).trans g7⟩
theorem sday_any (g : Nat) (base : Nat) (A : Option Addr) (c : Nat) (bs : List Int) (w : World) (h : Src w base g A c bs) :
    Calls Try.prog 42 #[.pointer (some ⟨g, 0, none⟩)] w (Drew w base g A c bs (-1) 36525) := by
  go_enter Try.func42, Try.ntmps42
  go_wp2_with fail
  refine (next_any g _ base A c bs _ h (by omega)).mono ?_
  rintro e w1 ⟨r1, rfl, a1, b1, h1, g1⟩
  go_wp2_with fail
  refine (next_any g _ base A c bs _ h1 (by omega)).mono ?_
  rintro e w2 ⟨r2, rfl, a2, b2, h2, g2⟩
  go_wp2_with fail
  refine (next_any g _ base A c bs _ h2 (by omega)).mono ?_
  rintro e w3 ⟨r3, rfl, a3, b3, h3, g3⟩
  go_wp2_with fail
  refine (lday_any g base A c bs _ h3).mono ?_
  rintro e w4 ⟨r4, rfl, a4, b4, h4, g4⟩
  go_wp2_with fail
  refine (pick_new g 4 [19900 + r1, 19900 + r2, 19900 + r3, r4] (-1) 36525 base A c bs w4 h4 rfl (by omega) (by omega) ?_).mono ?_
  · intro x hx
    simp only [List.mem_cons, List.not_mem_nil, or_false] at hx
    omega
  rintro e w7 ⟨r7, rfl, a7, b7, h7, g7⟩
  go_wp2_with fail
  go_ret
  exact ⟨r7, rfl, a7, b7, h7, (((g1.trans g2).trans g3).trans g4).trans g7⟩
theorem points_any (g : Nat) (base : Nat) (A : Option Addr) (c : Nat) (bs : List Int) (w : World) (h : Src w base g A c bs) :
    Calls Try.prog 49 #[.pointer (some ⟨g, 0, none⟩)] w (Drew w base g A c bs (-1) 10001) := by
  go_enter Try.func49, Try.ntmps49
  go_wp2_with fail
  refine (next_any g _ base A c bs _ h (by omega)).mono ?_
  rintro e w1 ⟨r1, rfl, a1, b1, h1, g1⟩
  go_wp2_with fail
  refine (next_any g _ base A c bs _ h1 (by omega)).mono ?_
  rintro e w2 ⟨r2, rfl, a2, b2, h2, g2⟩
  go_wp2_with fail
  refine (pick_new g 8 [200, 700, r1, 0, 10000, 10001, -1, r2] (-1) 10001 base A c bs w2 h2 rfl (by omega) (by omega) ?_).mono ?_
  · intro x hx
    simp only [List.mem_cons, List.not_mem_nil, or_false] at hx
    omega
  rintro e w7 ⟨r7, rfl, a7, b7, h7, g7⟩
  go_wp2_with fail
  go_ret
  exact ⟨r7, rfl, a7, b7, h7, (g1.trans g2).trans g7⟩
end Go.Proofs.Ythiegfcgbfhmmaa
