/- The draws of chapter 1. -/
import Derived.Test.YtmeglhmlhdaacaaDrawm
import Derived.Test.YtmeglhmlhdaacaaPush
import Derived.Test.YtmeglhmlhdaacaaCopy
namespace Go.Proofs.Ytmeglhmlhdaacaa
open Go.ChangeShapes Go.WideShapes Go.ChangeAt Go.RowKit
set_option linter.unusedVariables false

def vlen : Value → Nat
  | .slice _ n _ => n
  | _ => 0
def InDraw (ys : List Int) : Prop := ∀ y ∈ ys, -1 ≤ y ∧ y ≤ 1000000001
theorem InDraw.snoc {ys : List Int} {y : Int} (h : InDraw ys) (h0 : -1 ≤ y) (h1 : y ≤ 1000000001) : InDraw (ys ++ [y]) := by
  intro z hz
  rcases List.mem_append.1 hz with hz | hz
  · exact h z hz
  · simp at hz; subst hz; exact ⟨h0, h1⟩
def NewDraws (w : World) (base g : Nat) (A : Option Addr) (c : Nat) (bs : List Int) (e : Ending) (w' : World) : Prop :=
  ∃ B d ys, e = .returned (.slice B ys.length d) ∧ ys.length ≤ 14 ∧ InDraw ys ∧ Oi w' w.heap.size B ys.length d ys ∧ Src w' base g A c bs ∧ w.grownBy w' (some g)

/-- What a row of drawn numbers keeps while the source goes on. -/
theorem own_src {w w' : World} {W : Nat} {e : TypeId} {g n : Nat} {v : Value} {xs : List Value} (h : w.ownsRow W e 1 v n xs) (hg : w.grownBy w' (some g)) (hW : g < W) : w'.ownsRow W e 1 v n xs := by
  refine World.ownsRow.kept h hg ?_
  cases hv : v.ownBlock with
  | none => exact .inl rfl
  | some k => right; intro e; have := (h.lt k hv).1; injection e with e; omega
set_option maxRecDepth 100000 in
set_option maxHeartbeats 2000000 in
theorem weights_any (g : Nat) (base : Nat) (A : Option Addr) (c : Nat) (bs : List Int) (w : World) (h : Src w base g A c bs) :
    Calls Try.prog 78 #[.pointer (some ⟨g, 0, none⟩)] w (NewDraws w base g A c bs) := by
  obtain ⟨i0, hi, hz0, hz1, hz2⟩ := info_parts intInfo
  have hgl := h.lt
  have H0 : (w.alloc (Obj.cells #[] 2)).ownsRow w.heap.size 2 1 (.slice (some ⟨w.heap.size, 0, none⟩) 0 0) 0 [] := World.ownsRow_made w #[] 0 (Nat.le_refl _) (by decide) (by simp)
  go_enter Try.func78, Try.ntmps78
  go_wp2_with fail
  refine (next_any g _ base A c bs _ (h.alloc _) (by omega)).mono ?_
  rintro e w1 ⟨r1, rfl, a1, b1, h1, g1⟩
  have H1 := own_src H0 g1 hgl
  have G1 : w.grownBy w1 (some g) := (World.grownBy_alloc w _ _).trans g1
  clear H0 g1
  go_wp2_with fail
  go_loopw [3, 4] (fun v n wr => ∃ (k : Int) (ys : List Int), n = .int .i64 k ∧ 0 ≤ k ∧ ys.length + k ≤ 6 ∧ InDraw ys ∧ wr.ownsRow w.heap.size 2 1 v ys.length (ys.map (Value.int .i64)) ∧ Src wr base g A c bs ∧ w.grownBy wr (some g)) (fun _ n _ => (intOf n).toNat)
  case atStart => exact ⟨r1, [], rfl, a1, by simp; omega, by intro y hy; simp at hy, H1, h1, G1⟩
  case round =>
    obtain ⟨k, ys, rfl, k0, kl, hin, hown, hs, hg⟩ := hrel
    clear H1 h1 G1 h
    by_cases hk : 0 < k
    · obtain ⟨B, d, rfl⟩ := own_form hown
      go_wp2_with (first | (go_at_call 105; refine (good_any g base A c bs _ hs).mono ?_; rintro e w2 ⟨r2, rfl, a2, b2, h2, g2⟩; have hown2 := own_src hown g2 hgl; have G2 := hg.trans g2) | (at_builtin; refine wpList_push _ rfl (.tmp 12) (.tmp 15) 28 rfl w.heap.size 2 i0 _ 1 8 Try.underlying28 hi hz0 hz1 hz2 rfl (by decide) _ ys.length _ rfl hown2 [.int .i64 r2] rfl (by simp [Value.oneCell']) rfl (by unfold maxLen; omega) (by omega) G2.size ?_; intro v' w' hown' hb'))
      go_roundw
      case rel => exact ⟨k - 1, ys ++ [r2], rfl, by omega, by simp; omega, hin.snoc a2 b2, by simpa using hown', h2.keep (hb'.mono (by omega)), grown_below G2 hb'⟩
      case measure => simp [intOf]; omega
    · go_wp2_with fail
      refine (next_any g _ base A c bs _ hs (by omega)).mono ?_
      rintro e w3 ⟨r3, rfl, a3, b3, h3, g3⟩
      have hown3 := own_src hown g3 hgl
      have G3 := hg.trans g3
      obtain ⟨B, d, rfl⟩ := own_form hown
      clear hown hs hg
      rcases (by omega : r3 = 0 ∨ r3 = 1 ∨ r3 = 2 ∨ 2 < r3) with rfl | rfl | rfl | hr
      · go_wp2_with (first | (go_at_call 69; refine (amount_any g base A c bs _ h3).mono ?_; rintro e w4 ⟨r4, rfl, a4, b4, h4, g4⟩; have hown4 := own_src hown3 g4 hgl; have G4 := G3.trans g4) | (at_builtin; refine wpList_push _ rfl (.tmp 21) (.tmp 24) 28 rfl w.heap.size 2 i0 _ 1 8 Try.underlying28 hi hz0 hz1 hz2 rfl (by decide) _ ys.length _ rfl hown4 [.int .i64 r4] rfl (by simp [Value.oneCell']) rfl (by unfold maxLen; omega) (by omega) G4.size ?_; intro v' w' hown' hb'))
        go_ret
        obtain ⟨B', d', rfl⟩ := own_form hown'
        exact ⟨B', d', ys ++ [r4], by simp, by simp; omega, hin.snoc a4 b4, by simpa [Oi] using hown', h4.keep (hb'.mono (by omega)), grown_below G4 hb'⟩
      · go_wp2_with fail
        go_loopw [3] (fun v wr => ∃ ys : List Int, ys.length ≤ 13 ∧ InDraw ys ∧ wr.ownsRow w.heap.size 2 1 v ys.length (ys.map (Value.int .i64)) ∧ Src wr base g A c bs ∧ w.grownBy wr (some g)) (fun v _ => 14 - vlen v)
        case atStart => exact ⟨ys, by omega, hin, hown3, h3, G3⟩
        case round =>
          obtain ⟨zs, zl, zin, hown, hs, hg⟩ := hrel
          clear hown3 h3 G3 hin kl
          obtain ⟨B, d, rfl⟩ := own_form hown
          go_wp2_with fail
          refine (next_any g _ base A c bs _ hs (by omega)).mono ?_
          rintro e w4 ⟨r4, rfl, a4, b4, h4, g4⟩
          have hown4 := own_src hown g4 hgl
          have G4 := hg.trans g4
          clear hown hs hg
          by_cases hlt : (zs.length : Int) < 12 + r4
          · go_wp2_with (at_builtin; refine wpList_push _ rfl (.tmp 34) (.tmp 35) 28 rfl w.heap.size 2 i0 _ 1 8 Try.underlying28 hi hz0 hz1 hz2 rfl (by decide) _ zs.length _ rfl hown4 [.int .i64 1] rfl (by simp [Value.oneCell']) rfl (by unfold maxLen; omega) (by omega) G4.size ?_; intro v' w' hown' hb')
            obtain ⟨B', d', rfl⟩ := own_form hown'
            go_roundw
            case rel => exact ⟨zs ++ [1], by simp; omega, zin.snoc (by omega) (by omega), by simpa using hown', h4.keep (hb'.mono (by omega)), grown_below G4 hb'⟩
            case measure => simp [vlen]; omega
          · go_wp2_with fail
            go_ret
            exact ⟨B, d, zs, rfl, by omega, zin, hown4, h4, G4⟩
      · go_wp2_with fail
        go_ret
        exact ⟨some ⟨w3.heap.size, 0, none⟩, 2, [0, 0], rfl, by simp, by intro y hy; simp at hy; omega, World.ownsRow_lit w3 #[.int .i64 0, .int .i64 0] 2 G3.size (by decide) (by simp), h3.alloc _, G3.trans (World.grownBy_alloc _ _ _)⟩
      · have e0 : (r3 == 0) = false := beq_eq_false_iff_ne.2 (by omega)
        have e1 : (r3 == 1) = false := beq_eq_false_iff_ne.2 (by omega)
        have e2 : (r3 == 2) = false := beq_eq_false_iff_ne.2 (by omega)
        go_wp2_with fail
        go_ret
        exact ⟨B, d, ys, rfl, by omega, hin, hown3, h3, G3⟩

def DrawnInt (w : World) (e : Ending) (w' : World) : Prop := ∃ n : Int, e = .returned (.int .i64 n) ∧ -1000000001 ≤ n ∧ n ≤ 1000000001 ∧ Below w.heap.size w w'
def DrawnInts (w : World) (e : Ending) (w' : World) : Prop :=
  ∃ B d ys, e = .returned (.slice B (List.length ys) d) ∧ ys.length ≤ 15 ∧ InDraw ys ∧ Oi w' w.heap.size B ys.length d ys ∧ Below w.heap.size w w'
def DrawnShare (w : World) (e : Ending) (w' : World) : Prop :=
  ∃ (t : Int) (B : Option Addr) (d : Nat) (ys : List Int), e = .returned (.tuple #[.int .i64 t, .slice B ys.length d]) ∧ (-1 ≤ t ∧ t ≤ 1000000001) ∧ ys.length ≤ 15 ∧ InDraw ys ∧ Oi w' w.heap.size B ys.length d ys ∧ Below w.heap.size w w'

theorem oi_base {w : World} {b b' n c : Nat} {A : Option Addr} {xs : List Int} (h : Oi w b A n c xs) (hb : b' ≤ b) : Oi w b' A n c xs := by
  refine ⟨h.1, ?_⟩
  rcases h.2 with h | ⟨g, cap, cur, h1, h2, h3⟩
  · exact .inl h
  · exact .inr ⟨g, cap, cur, h1, Nat.le_trans hb h2, h3⟩

theorem drawIsAmount (A : Option Addr) (c : Nat) (bs : List Int) (w : World) (h : Code0 w A bs) : Calls Try.prog 25 #[.slice A bs.length c] w (DrawnInt w) := by
  go_enter Try.func25, Try.ntmps25
  go_wp2_with fail
  refine (code_from A c bs _ h).mono ?_
  rintro e w1 ⟨g, rfl, s1, b1⟩
  go_wp2_with fail
  refine (amount_any g _ A c bs _ s1).mono ?_
  rintro e w2 ⟨r, rfl, r0, r1, s2, g2⟩
  go_wp2_with fail
  go_ret
  exact ⟨r, rfl, by omega, by omega, src_below b1 g2 s1.1⟩

theorem drawShareOut (A : Option Addr) (c : Nat) (bs : List Int) (w : World) (h : Code0 w A bs) : Calls Try.prog 74 #[.slice A bs.length c] w (DrawnShare w) := by
  go_enter Try.func74, Try.ntmps74
  go_wp2_with fail
  refine (code_from A c bs _ h).mono ?_
  rintro e w1 ⟨g, rfl, s1, b1⟩
  go_wp2_with fail
  refine (amount_any g _ A c bs _ s1).mono ?_
  rintro e w2 ⟨r, rfl, r0, r1, s2, g2⟩
  have b2 := src_below b1 g2 s1.1
  go_wp2_with fail
  refine (weights_any g _ A c bs _ s2).mono ?_
  rintro e w3 ⟨B, d, ys, rfl, yl, yin, yo, s3, g3⟩
  go_wp2_with fail
  go_ret2
  exact ⟨r, B, d, ys, rfl, ⟨r0, r1⟩, by omega, yin, oi_base yo b2.size, src_below b2 g3 s1.1⟩

theorem drawTakeDown (A : Option Addr) (c : Nat) (bs : List Int) (w : World) (h : Code0 w A bs) : Calls Try.prog 19 #[.slice A bs.length c] w (DrawnShare w) := by
  go_enter Try.func19, Try.ntmps19
  go_wp2_with fail
  refine (drawShareOut A c bs _ h).mono ?_
  rintro e w3 ⟨r, B, d, ys, rfl, hr, yl, yin, yo, b3⟩
  go_wp2_with fail
  go_ret2
  exact ⟨r, B, d, ys, rfl, hr, yl, yin, yo, b3⟩

theorem drawSumAmounts (A : Option Addr) (c : Nat) (bs : List Int) (w : World) (h : Code0 w A bs) : Calls Try.prog 22 #[.slice A bs.length c] w (DrawnInts w) := by
  obtain ⟨i0, hi, hz0, hz1, hz2⟩ := info_parts intInfo
  go_enter Try.func22, Try.ntmps22
  go_wp2_with fail
  refine (code_from A c bs _ h).mono ?_
  rintro e w1 ⟨g, rfl, s1, b1⟩
  go_wp2_with fail
  refine (weights_any g _ A c bs _ s1).mono ?_
  rintro e w2 ⟨B, d, ys, rfl, yl, yin, yo, s2, g2⟩
  have b2 := src_below b1 g2 s1.1
  go_wp2_with fail
  refine (next_any g _ _ A c bs _ s2 (by omega)).mono ?_
  rintro e w3 ⟨r3, rfl, a3, b3', s3, g3⟩
  have b3 := src_below b2 g3 s1.1
  have hown3 : w3.ownsRow w1.heap.size 2 1 (.slice B ys.length d) ys.length (ys.map (Value.int .i64)) := own_src yo g3 s1.lt
  by_cases h0 : r3 = 0
  · subst h0
    go_wp2_with (at_builtin; refine wpList_push _ rfl (.tmp 12) (.tmp 13) 28 rfl w1.heap.size 2 i0 _ 1 8 Try.underlying28 hi hz0 hz1 hz2 rfl (by decide) _ ys.length _ rfl hown3 [.int .i64 1000000000] rfl (by simp [Value.oneCell']) rfl (by unfold maxLen; omega) (by omega) (Nat.le_trans g2.size g3.size) ?_; intro v' w' hown' hb')
    go_ret
    obtain ⟨B', d', rfl⟩ := own_form hown'
    exact ⟨B', d', ys ++ [1000000000], by simp, by simp; omega, yin.snoc (by omega) (by omega), oi_base (b := w1.heap.size) (by simpa [Oi] using hown') b1.size, b3.trans (hb'.mono b1.size)⟩
  · have e0 : (r3 == 0) = false := beq_eq_false_iff_ne.2 (by omega)
    clear h0
    go_wp2_with fail
    go_ret
    exact ⟨B, d, ys, rfl, by omega, yin, oi_base (b := w1.heap.size) hown3 b1.size, b3⟩

def DrawnThree (w : World) (e : Ending) (w' : World) : Prop :=
  ∃ a b c : Int, e = .returned (.tuple #[.int .i64 a, .int .i64 b, .int .i64 c]) ∧ Below w.heap.size w w'

theorem drawProportionOf (A : Option Addr) (c : Nat) (bs : List Int) (w : World) (h : Code0 w A bs) : Calls Try.prog 16 #[.slice A bs.length c] w (DrawnThree w) := by
  go_enter Try.func16, Try.ntmps16
  go_wp2_with fail
  refine (code_from A c bs _ h).mono ?_
  rintro e w1 ⟨g, rfl, s1, b1⟩
  go_wp2_with fail
  refine (amount_any g _ A c bs _ s1).mono ?_
  rintro e w2 ⟨r2, rfl, _, _, s2, g2⟩
  have b2 := src_below b1 g2 s1.1
  go_wp2_with fail
  refine (amount_any g _ A c bs _ s2).mono ?_
  rintro e w3 ⟨r3, rfl, _, _, s3, g3⟩
  have b3 := src_below b2 g3 s1.1
  go_wp2_with fail
  refine (amount_any g _ A c bs _ s3).mono ?_
  rintro e w4 ⟨r4, rfl, a4, c4, s4, g4⟩
  have b4 := src_below b3 g4 s1.1
  go_wp2_with fail
  refine (amount_any g _ A c bs _ s4).mono ?_
  rintro e w5 ⟨r5, rfl, a5, c5, s5, g5⟩
  have b5 := src_below b4 g5 s1.1
  go_wp2_with fail
  refine (pick_new g 7 [r4, r5, 0, 2, 3, 7, 100] (-1) 1000000001 _ A c bs w5 s5 rfl (by omega) (by omega) ?_).mono ?_
  · intro x hx
    simp only [List.mem_cons, List.not_mem_nil, or_false] at hx
    omega
  rintro e w6 ⟨r6, rfl, _, _, s6, g6⟩
  go_wp2_with fail
  go_ret3
  exact ⟨r2, r3, r6, rfl, src_below b5 g6 s1.1⟩
end Go.Proofs.Ytmeglhmlhdaacaa
