/- The draws of voyages' texts. -/
import Derived.Test.YtklhcofonkmiiaaGreatDoorMVdr
import Derived.Test.YtklhcofonkmiiaaGreatDoorMVtx
import Derived.Test.YtklhcofonkmiiaaGreatDoorRvt
import Derived.Test.YtklhcofonkmiiaaGreatDoorDrawt
import Derived.Test.YtklhcofonkmiiaaGreatDoorVlp
namespace Go.Proofs.YtklhcofonkmiiaaGreatDoor
open Go.ChangeShapes Go.WideShapes Go.ChangeAt Go.RowKit
set_option linter.unusedVariables false

def NewVT (w : World) (e : Ending) (w' : World) : Prop := ∃ B d ps, e = .returned (.slice B (List.length ps) d) ∧ VDr w' w.heap.size B d ps ∧ Below w.heap.size w w'
theorem VDr.low {w : World} {lo lo' d : Nat} {B : Option Addr} {ps : List Sto} (h : VDr w lo B d ps) (hl : lo' ≤ lo) : VDr w lo' B d ps := ⟨h.1, StoO.mono h.2.1 hl, h.2.2⟩
theorem drawVoyageText (A : Option Addr) (c : Nat) (bs : List Int) (w : World) (h : Code0 w A bs) :
    Calls Tryz.prog 6 #[.slice A bs.length c] w (NewVT w) := by
  go_enter Tryz.func6, Tryz.ntmps6
  go_wp2_with fail
  refine (code_from A c bs _ h).mono ?_
  rintro e w1 ⟨g, rfl, s1, b1⟩
  go_wp2_with fail
  refine (draw_v g _ A c bs _ s1).mono ?_
  rintro e w2 ⟨B, d, ps, rfl, hv, s2, g2⟩
  have hb := src_below b1 g2 s1.1
  have hv2 := hv.low b1.size
  clear hv
  go_wp2_with fail
  go_ret
  exact ⟨B, d, ps, rfl, hv2, hb⟩
set_option maxHeartbeats 1000000 in
theorem drawReadVoyage (A : Option Addr) (c : Nat) (bs : List Int) (w : World) (h : Code0 w A bs) :
    Calls Tryz.prog 9 #[.slice A bs.length c] w (DrawnS w) := by
  go_enter Tryz.func9, Tryz.ntmps9
  go_wp2_with fail
  refine (code_from A c bs _ h).mono ?_
  rintro e w1 ⟨g, rfl, s1, b1⟩
  have hg := s1.lt
  go_wp2_with fail
  refine (valid_v g _ A c bs _ s1).mono ?_
  rintro e w2 ⟨B, d, ps, rfl, hp1, hp5, o2, hov, s2, g2⟩
  have hok := fun p hp => (hov p hp).1
  have HT := Lib.hid (ltextV_s B d ps w2 o2.row hok (by omega))
  have hlt := vtxt_le hok
  have hl2 : (vtxt ps).length ≤ 305 := by omega
  generalize vtxt ps = t at *
  have b3 := src_below b1 g2 s1.1
  clear h o2 hov hok hlt
  go_wp2_with fail
  refine HT.out.mono ?_
  rintro e w4 ⟨rfl, b4⟩
  have s4 := s2.below b4
  have t4 := belowGo b3 b4
  clear HT b4 s2 b3
  go_wp2_with fail
  refine (next_any g _ _ A c bs _ s4 (by omega)).mono ?_
  rintro e w6 ⟨r6, rfl, a6, c6, s6, g6⟩
  have b7 := src_below t4 g6 s1.1
  by_cases h0 : r6 = 0
  · subst h0
    go_wp2_with fail
    refine (damage_any g t (by omega) _ A c bs _ s6).mono ?_
    rintro e w7 ⟨l, rfl, hl7, s7, g7⟩
    go_wp2_with fail
    go_ret
    exact ⟨l, rfl, by omega, src_below b7 g7 s1.1⟩
  · have e0 : (r6 == 0) = false := beq_eq_false_iff_ne.2 h0
    go_wp2_with fail
    go_ret
    exact ⟨t, rfl, by omega, b7⟩
theorem voyT_code (ps : List Sto) : voyB ps = ((voyT ps).2 == 0) := by
  rcases Bool.eq_false_or_eq_true (voyB ps) with g | g
  · rw [voyT_ok g, g]; rfl
  · rw [voyT_no g, g]; rfl
theorem voyT_inv {ps : List Sto} (h : (voyT ps).2 = 0) : rvR (voyT ps).1 = (ps, 0) ∧ (voyT ps).1.length ≤ 1000 := by
  rcases Bool.eq_false_or_eq_true (voyB ps) with g | g
  · rw [voyT_ok g]
    have := vtxt_le (voy_all_ok g)
    have := (voy_iff.1 g).2
    exact ⟨rvR_ok ⟨g, rfl⟩, by show (vtxt ps).length ≤ 1000; omega⟩
  · rw [voyT_no g] at h; cases h
theorem rvR_inv {s : List UInt8} (h : (rvR s).2 = 0) : voyT (rvR s).1 = (s, 0) ∧ ∀ p ∈ (rvR s).1, p.sz ≤ 1048576 := by
  by_cases hv : ∃ ps, FitV s ps
  · obtain ⟨ps, g⟩ := hv
    rw [rvR_ok g]
    refine ⟨by rw [voyT_ok g.1, g.2], fun p hp => ?_⟩
    have h1 := (sok (voy_all_ok g.1 p hp)).1
    have h2 := (pcode_iff.1 h1).1.2
    unfold Sto.sz; omega
  · rw [rvR_no hv] at h; cases h
theorem VDr.tbl {w : World} {lo d : Nat} {B : Option Addr} {ps : List Sto} (h : VDr w lo B d ps) : VTblC w B d ps :=
  vtbl_of h.2.1 (fun p hp => by have := (h.2.2 p hp).1; unfold Sto.sz; omega) (by have := h.1; omega)
end Go.Proofs.YtklhcofonkmiiaaGreatDoor
