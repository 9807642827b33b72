/- The draws of chapter 4: a schedule, rarely another list; the arguments of its functions. -/
import Derived.Test.YthiegfcgbfhmmaaDrq
namespace Go.Proofs.Ythiegfcgbfhmmaa
open Go.ChangeShapes Go.WideShapes Go.ChangeAt Go.RowKit
set_option linter.unusedVariables false

/-- A list of steps that was drawn. -/
def Dst (w : World) (lo : Nat) (B : Option Addr) (d : Nat) (ys : List St) : Prop := ys.length ≤ 5 ∧ ys.length ≤ d ∧ Rs w B ys ∧ ∀ a, B = some a → lo ≤ a.block
theorem Dst.of {w : World} {lo d n : Nat} {B : Option Addr} {ys : List St} (h : Ost w lo B n d ys) (hn : ys.length = n) (hl : ys.length ≤ 5) : Dst w lo B d ys :=
  ⟨hl, hn ▸ h.room, h.rs, fun a e => (h.lt a.block (by rw [e]; rfl)).1⟩
theorem Dst.below {w w' : World} {lo d : Nat} {B : Option Addr} {ys : List St} (h : Dst w lo B d ys) (hb : Below w.heap.size w w') : Dst w' lo B d ys := ⟨h.1, h.2.1, h.2.2.1.below hb, h.2.2.2⟩
theorem Dst.src {w w' : World} {lo d g : Nat} {B : Option Addr} {ys : List St} (h : Dst w lo B d ys) (hg : w.grownBy w' (some g)) (hl : g < lo) : Dst w' lo B d ys :=
  ⟨h.1, h.2.1, Rw.grown h.2.2.1 hg (fun a e => by have := h.2.2.2 a e; omega), h.2.2.2⟩
def NewDs (w : World) (base g : Nat) (A : Option Addr) (c : Nat) (bs : List Int) (e : Ending) (w' : World) : Prop :=
  ∃ B d ys, e = .returned (.slice B ys.length d) ∧ Dst w' w.heap.size B d ys ∧ Src w' base g A c bs ∧ w.grownBy w' (some g)
theorem far_of {wr w' : World} {lo gB n c size : Nat} {e : TypeId} {xs : List Value} (h : wr.ownsRow lo e size (.slice (some ⟨gB, 0, none⟩) n c) n xs) (hg : wr.grownBy w' (some gB)) (hs : lo ≤ wr.heap.size) : Below lo wr w' :=
  (Below.refl _ _).grown hg hs (fun k hk => by cases hk; exact (h.lt gB rfl).1)

set_option maxRecDepth 100000 in
set_option maxHeartbeats 2000000 in
theorem draw_st (g : Nat) (base : Nat) (A : Option Addr) (c : Nat) (bs : List Int) (w : World) (h : Src w base g A c bs) :
    Calls Try.prog 40 #[.pointer (some ⟨g, 0, none⟩)] w (NewDs w base g A c bs) := by
  obtain ⟨i0, hi, hz0, hz1, hz2⟩ := info_parts stepInfo
  have hgl := h.lt
  go_enter Try.func40, Try.ntmps40
  go_wp2_with fail
  refine (valid_st g base A c bs _ h).mono ?_
  rintro e w1 ⟨B, d, ys, rfl, l0, l1, o1, h1, g1⟩
  obtain ⟨gB, hA⟩ : ∃ gB, B = some ⟨gB, 0, none⟩ := by
    rcases o1.2 with ⟨_, h⟩ | ⟨gB, _, _, h, _⟩
    · omega
    · injection h with h; exact ⟨gB, h⟩
  subst hA
  obtain ⟨y, ys, rfl⟩ : ∃ y zs, ys = y :: zs := by
    cases ys with
    | nil => simp at l0
    | cons y zs => exact ⟨y, zs, rfl⟩
  generalize hn : (y :: ys).length = n at *
  rw [List.length_cons] at hn
  go_wp2_with fail
  refine (next_any g _ base A c bs _ h1 (by omega)).mono ?_
  rintro e w2 ⟨r2, rfl, a2, b2, h2, g2⟩
  have o2 := own_srcS o1 g2 hgl
  have G2 := g1.trans g2
  clear o1 g1 g2 h1
  rcases (by omega : r2 = 0 ∨ r2 = 1 ∨ r2 = 2 ∨ r2 = 3 ∨ 3 < r2) with rfl | rfl | rfl | rfl | hr
  · go_wp2_with fail
    refine (pick_new g 3 [-1, 10000, 10001] (-1) 10001 base A c bs w2 h2 rfl (by omega) (by omega) (by intro x hx; simp only [List.mem_cons, List.not_mem_nil, or_false] at hx; omega)).mono ?_
    rintro e w3 ⟨r3, rfl, a3, b3, h3, g3⟩
    have o3 := own_srcS o2 g3 hgl
    have G3 := G2.trans g3
    clear o2 G2 g3 h2
    obtain ⟨v1, k1⟩ := own_at o3 1 (by simp [St.cells])
    have f1 := o3.frozenAt 1
    have HS := Lib.hid (o3.stored 1 (.int .i64 r3))
    have HB := Lib.hid (far_of o3 HS.out.2 G3.size)
    clear o3
    go_wp2_with fail
    go_ret
    exact ⟨some ⟨gB, 0, none⟩, d, ⟨y.day, r3⟩ :: ys, by simp [hn], Dst.of (by have := HS.out.1; simpa [Ost, St.cells] using this) (by simpa using hn) (by simp; omega), h3.keep (HB.out.mono (by omega)), grown_below G3 HB.out⟩
  · obtain ⟨b', off', r', e', _, hr', c0, c1⟩ := (Ost.rs o2 : Rs w2 _ (y :: ys)).at (k := 0) (by simp)
    cases e'
    obtain rfl : y = r' := by simpa using hr'.out
    simp only [Nat.zero_mul, Nat.add_zero, Nat.zero_add] at c0 c1
    clear hr'
    go_wp2_with (at_builtin; refine wpList_push _ rfl (.tmp 18) (.tmp 22) 24 rfl w.heap.size 37 i0 _ 2 16 Try.underlying24 hi hz0 hz1 hz2 rfl (by decide) _ n _ rfl o2 [.int .i64 y.day, .int .i64 y.pts] rfl (by simp [Value.oneCell']) rfl (by unfold maxLen; omega) (by omega) G2.size ?_; intro v' w' hown' hb')
    go_ret
    obtain ⟨B', d', rfl⟩ := own_form hown'
    exact ⟨B', d', y :: ys ++ [y], by simp [← hn], Dst.of (n := n + 1) (by simpa [Ost, St.cells] using hown') (by simp [← hn]) (by simp; omega), h2.keep (hb'.mono (by omega)), grown_below G2 hb'⟩
  · have hr := Dst.of o2 (by simpa using hn) (by simp; omega)
    go_wp2_with fail
    go_ret
    exact ⟨_, _, [], rfl, ⟨by simp, Nat.zero_le _, fun hp => by simp at hp, by first | exact hr.2.2.2 | (rintro a ⟨rfl⟩; exact hr.2.2.2 _ rfl)⟩, h2, G2⟩
  · go_wp2_with fail
    refine (lday_any g base A c bs _ h2).mono ?_
    rintro e w3 ⟨r3, rfl, a3, b3, h3, g3⟩
    have o3 := own_srcS o2 g3 hgl
    have G3 := G2.trans g3
    clear o2 G2 g3 h2
    obtain ⟨v1, k1⟩ := own_at o3 0 (by simp [St.cells])
    have f1 := o3.frozenAt 0
    have HS := Lib.hid (o3.stored 0 (.int .i64 r3))
    have HB := Lib.hid (far_of o3 HS.out.2 G3.size)
    clear o3
    go_wp2_with fail
    go_ret
    exact ⟨some ⟨gB, 0, none⟩, d, ⟨r3, y.pts⟩ :: ys, by simp [hn], Dst.of (by have := HS.out.1; simpa [Ost, St.cells] using this) (by simpa using hn) (by simp; omega), h3.keep (HB.out.mono (by omega)), grown_below G3 HB.out⟩
  · have e0 : (r2 == 0) = false := beq_eq_false_iff_ne.2 (by omega)
    have e1 : (r2 == 1) = false := beq_eq_false_iff_ne.2 (by omega)
    have e2 : (r2 == 2) = false := beq_eq_false_iff_ne.2 (by omega)
    have e3 : (r2 == 3) = false := beq_eq_false_iff_ne.2 (by omega)
    go_wp2_with fail
    go_ret
    exact ⟨some ⟨gB, 0, none⟩, d, y :: ys, by simp [hn], Dst.of o2 (by simpa using hn) (by simp; omega), h2, G2⟩

/-! ### the arguments that are drawn -/
def DrawnIB (w : World) (e : Ending) (w' : World) : Prop :=
  ∃ B d ys a f t, e = .returned (.tuple #[.slice B (List.length ys) d, .int .i64 a, .int .i64 f, .int .i64 t]) ∧ Dst w' w.heap.size B d ys ∧ Below w.heap.size w w'
set_option maxHeartbeats 1000000 in
theorem drawIB (A : Option Addr) (c : Nat) (bs : List Int) (w : World) (h : Code0 w A bs) : Calls Try.prog 11 #[.slice A bs.length c] w (DrawnIB w) := by
  go_enter Try.func11, Try.ntmps11
  go_wp2_with fail
  refine (code_from A c bs _ h).mono ?_
  rintro e w1 ⟨g, rfl, s1, b1⟩
  have hg := s1.lt
  have hg0 := s1.1
  go_wp2_with fail
  refine (draw_st g _ A c bs _ s1).mono ?_
  rintro e w2 ⟨B, d, ys, rfl, d2, s2, g2⟩
  go_wp2_with fail
  refine (amount_any g _ A c bs _ s2).mono ?_
  rintro e w3 ⟨r3, rfl, a3, e3, s3, g3⟩
  go_wp2_with fail
  refine (sday_any g _ A c bs _ s3).mono ?_
  rintro e w4 ⟨r4, rfl, a4, e4, s4, g4⟩
  go_wp2_with fail
  refine (sday_any g _ A c bs _ s4).mono ?_
  rintro e w5 ⟨r5, rfl, a5, e5, s5, g5⟩
  have d5 := ((d2.src g3 hg).src g4 hg).src g5 hg
  have G := ((g2.trans g3).trans g4).trans g5
  go_wp2_with fail
  refine bodyPost_ret (v := .tuple #[.slice B ys.length d, .int .i64 r3, .int .i64 r4, .int .i64 r5]) (by simp [results, Try.results11, go_sem]) rfl ?_
  exact ⟨B, d, ys, r3, r4, r5, rfl, ⟨d5.1, d5.2.1, d5.2.2.1, fun a e => Nat.le_trans b1.size (d5.2.2.2 a e)⟩, src_below b1 G s1.1⟩
end Go.Proofs.Ythiegfcgbfhmmaa
