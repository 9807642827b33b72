/- The draws of FnVoyages. -/
import Derived.Test.YtklhcofonkmiiaaVdd
namespace Go.Proofs.Ytklhcofonkmiiaa
open Go.ChangeShapes Go.WideShapes Go.ChangeAt Go.RowKit
set_option linter.unusedVariables false

theorem VDr.low {w : World} {lo lo' d : Nat} {B : Option Addr} {ps : List Sto} (h : VDr w lo B d ps) (hl : lo' ≤ lo) : VDr w lo' B d ps := ⟨h.1, StoO.mono h.2.1 hl, h.2.2⟩
theorem VDr.src {w w' : World} {lo g d : Nat} {B : Option Addr} {ps : List Sto} (h : VDr w lo B d ps) (hg : w.grownBy w' (some g)) (hl : g < lo) : VDr w' lo B d ps := ⟨h.1, own_srcV h.2.1 hg hl, h.2.2⟩
theorem VDr.below {w w' : World} {lo d : Nat} {B : Option Addr} {ps : List Sto} (h : VDr w lo B d ps) (hb : Below w.heap.size w w') : VDr w' lo B d ps := ⟨h.1, h.2.1.below hb, h.2.2⟩
theorem VDr.tbl {w : World} {lo d : Nat} {B : Option Addr} {ps : List Sto} (h : VDr w lo B d ps) : VTblC w B d ps :=
  vtbl_of h.2.1 (fun p hp => by have := (h.2.2 p hp).1; unfold Sto.sz; omega) (by have := h.1; omega)
theorem dday_any (g : Nat) (base : Nat) (A : Option Addr) (c : Nat) (bs : List Int) (w : World) (h : Src w base g A c bs) :
    Calls Try.prog 41 #[.pointer (some ⟨g, 0, none⟩)] w (Drew w base g A c bs (-1) 36525) := by
  go_enter Try.func41, Try.ntmps41
  go_wp2_with fail
  refine (next_any g _ base A c bs _ h (by omega)).mono ?_
  rintro e w1 ⟨r1, rfl, a1, b1, h1, g1⟩
  go_wp2_with fail
  refine (next_any g _ base A c bs _ h1 (by omega)).mono ?_
  rintro e w2 ⟨r2, rfl, a2, b2, h2, g2⟩
  go_wp2_with fail
  refine (next_any g _ base A c bs _ h2 (by omega)).mono ?_
  rintro e w3 ⟨r3, rfl, a3, b3, h3, g3⟩
  go_wp2_with fail
  refine (vday_any g base A c bs _ h3).mono ?_
  rintro e w4 ⟨r4, rfl, a4, b4, h4, g4⟩
  go_wp2_with fail
  refine (pick_new g 4 [20000 + r1, 20000 + r2, 20000 + r3, r4] (-1) 36525 base A c bs w4 h4 rfl (by omega) (by omega) ?_).mono ?_
  · intro x hx
    simp only [List.mem_cons, List.not_mem_nil, or_false] at hx
    omega
  rintro e w7 ⟨r7, rfl, a7, b7, h7, g7⟩
  go_wp2_with fail
  go_ret
  exact ⟨r7, rfl, a7, b7, h7, (((g1.trans g2).trans g3).trans g4).trans g7⟩
def NewVP (w : World) (e : Ending) (w' : World) : Prop := ∃ B d ps n, e = .returned (.tuple #[.slice B (List.length ps) d, .int .i64 n]) ∧ (-1 ≤ n ∧ n ≤ 36525) ∧ VDr w' w.heap.size B d ps ∧ Below w.heap.size w w'
theorem drawPortOn (A : Option Addr) (c : Nat) (bs : List Int) (w : World) (h : Code0 w A bs) :
    Calls Try.prog 12 #[.slice A bs.length c] w (NewVP w) := by
  go_enter Try.func12, Try.ntmps12
  go_wp2_with fail
  refine (code_from A c bs _ h).mono ?_
  rintro e w1 ⟨g, rfl, s1, b1⟩
  have hg := s1.lt
  go_wp2_with fail
  refine (draw_v g _ A c bs _ s1).mono ?_
  rintro e w2 ⟨B, d, ps, rfl, hv, s2, g2⟩
  go_wp2_with fail
  refine (dday_any g _ A c bs _ s2).mono ?_
  rintro e w3 ⟨n, rfl, n0, n1, s3, g3⟩
  have hb := src_below b1 (g2.trans g3) s1.1
  have hv3 := (hv.src g3 hg).low b1.size
  clear hv
  go_wp2_with fail
  go_ret2
  exact ⟨B, d, ps, n, rfl, ⟨n0, n1⟩, hv3, hb⟩
def NewVA (w : World) (e : Ending) (w' : World) : Prop := ∃ B d ps n m, e = .returned (.tuple #[.slice B (List.length ps) d, .int .i64 n, .int .i64 m]) ∧ (-100 ≤ n ∧ n ≤ 36525) ∧ (-1 ≤ m ∧ m ≤ 36525) ∧ VDr w' w.heap.size B d ps ∧ Below w.heap.size w w'
theorem drawDaysAtSea (A : Option Addr) (c : Nat) (bs : List Int) (w : World) (h : Code0 w A bs) :
    Calls Try.prog 17 #[.slice A bs.length c] w (NewVA w) := by
  go_enter Try.func17, Try.ntmps17
  go_wp2_with fail
  refine (code_from A c bs _ h).mono ?_
  rintro e w1 ⟨g, rfl, s1, b1⟩
  have hg := s1.lt
  go_wp2_with fail
  refine (drawPortOn A c bs _ (h.below b1)).mono ?_
  rintro e w2 ⟨B, d, ps, n, rfl, ⟨n0, n1⟩, hv, b2⟩
  have s2 := s1.below b2
  go_wp2_with fail
  refine (dday_any g _ A c bs _ s2).mono ?_
  rintro e w3 ⟨m, rfl, m0, m1, s3, g3⟩
  have hb := src_below (belowGo b1 b2) g3 s1.1
  have hv3 := (hv.src g3 hg).low b1.size
  clear hv
  go_wp2_with fail
  go_ret3
  exact ⟨B, d, ps, n, m, rfl, ⟨by omega, n1⟩, ⟨m0, m1⟩, hv3, hb⟩
theorem drawLastDay (A : Option Addr) (c : Nat) (bs : List Int) (w : World) (h : Code0 w A bs) :
    Calls Try.prog 26 #[.slice A bs.length c] w (fun e w' => ∃ B d ps, e = .returned (.slice B (List.length ps) d) ∧ VDr w' w.heap.size B d ps ∧ Below w.heap.size w w') := by
  go_enter Try.func26, Try.ntmps26
  go_wp2_with fail
  refine (code_from A c bs _ h).mono ?_
  rintro e w1 ⟨g, rfl, s1, b1⟩
  go_wp2_with fail
  refine (draw_v g _ A c bs _ s1).mono ?_
  rintro e w2 ⟨B, d, ps, rfl, hv, s2, g2⟩
  have hb := src_below b1 g2 s1.1
  have hv2 := hv.low b1.size
  clear hv
  go_wp2_with fail
  go_ret
  exact ⟨B, d, ps, rfl, hv2, hb⟩
theorem drawDelayBy (A : Option Addr) (c : Nat) (bs : List Int) (w : World) (h : Code0 w A bs) :
    Calls Try.prog 23 #[.slice A bs.length c] w (fun e w' => ∃ B d ps n m, e = .returned (.tuple #[.slice B (List.length ps) d, .int .i64 n, .int .i64 m]) ∧ (-100 ≤ n ∧ n ≤ 36525) ∧ (-1 ≤ m ∧ m ≤ 36525) ∧ VDr w' w.heap.size B d ps ∧ Below w.heap.size w w') := by
  go_enter Try.func23, Try.ntmps23
  go_wp2_with fail
  refine (code_from A c bs _ h).mono ?_
  rintro e w1 ⟨g, rfl, s1, b1⟩
  have hg := s1.lt
  go_wp2_with fail
  refine (draw_v g _ A c bs _ s1).mono ?_
  rintro e w2 ⟨B, d, ps, rfl, hv, s2, g2⟩
  have h11 := hv.1
  go_wp2_with fail
  refine (next_any g _ _ A c bs _ s2 (by omega)).mono ?_
  rintro e w3 ⟨r3, rfl, a3, b3, s3, g3⟩
  go_wp2_with fail
  refine (next_any g _ _ A c bs _ s3 (by omega)).mono ?_
  rintro e w4 ⟨r4, rfl, a4, b4, s4, g4⟩
  have q4 : 0 ≤ r4.tdiv 11 ∧ r4.tdiv 11 ≤ 1 := by
    rw [Int.tdiv_eq_ediv_of_nonneg a4]; omega
  generalize hq : r4.tdiv 11 = q at *
  clear hq
  go_wp2_with fail
  refine (next_any g _ _ A c bs _ s4 (by omega)).mono ?_
  rintro e w5 ⟨r5, rfl, a5, b5, s5, g5⟩
  go_wp2_with fail
  refine (next_any g _ _ A c bs _ s5 (by omega)).mono ?_
  rintro e w6 ⟨r6, rfl, a6, b6, s6, g6⟩
  go_wp2_with fail
  refine (pick_new g 6 [0, r5, 1000, 1001, -1, r6] (-1) 36525 _ A c bs w6 s6 rfl (by omega) (by omega) ?_).mono ?_
  · intro x hx
    simp only [List.mem_cons, List.not_mem_nil, or_false] at hx
    omega
  rintro e w7 ⟨r7, rfl, a7, b7, s7, g7⟩
  have G := ((((g3.trans g4).trans g5).trans g6).trans g7)
  have hb := src_below b1 (g2.trans G) s1.1
  have hv3 := (hv.src G hg).low b1.size
  clear hv
  go_wp2_with fail
  go_ret3
  exact ⟨B, d, ps, _, r7, rfl, ⟨by omega, by omega⟩, ⟨a7, b7⟩, hv3, hb⟩
end Go.Proofs.Ytklhcofonkmiiaa
