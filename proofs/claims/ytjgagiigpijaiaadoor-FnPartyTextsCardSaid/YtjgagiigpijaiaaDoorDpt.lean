/- The draws of FnPartyTexts. -/
import Derived.Test.YtjgagiigpijaiaaDoorDpa
import Derived.Test.YtjgagiigpijaiaaDoorRdp
namespace Go.Proofs.YtjgagiigpijaiaaDoor
open Go.ChangeShapes Go.WideShapes Go.ChangeAt Go.RowKit
set_option linter.unusedVariables false

def DrawnP (w : World) (e : Ending) (w' : World) : Prop := ∃ q : Pty, e = .returned (.agg #[.string ⟨q.c.toArray⟩, .int .i64 q.k, .string ⟨q.a.toArray⟩]) ∧ Dok q ∧ Below w.heap.size w w'
theorem store3 {W : World} {R : Nat} {x0 x1 x2 : Value} (h : W.heap[R]? = some (.cells #[x0, x1, x2] 35 (0, 0))) (a b e : Value) :
    (((W.setCell ⟨R, 0, none⟩ a).setCell ⟨R, 1, none⟩ b).setCell ⟨R, 2, none⟩ e).heap[R]? = some (.cells #[a, b, e] 35 (0, 0)) := by
  have h1 : (W.setCell ⟨R, 0, none⟩ a).heap[R]? = some (.cells #[a, x1, x2] 35 (0, 0)) := by rw [heap_setCell_same W R 0 _ _ _ h]; rfl
  have h2 : ((W.setCell ⟨R, 0, none⟩ a).setCell ⟨R, 1, none⟩ b).heap[R]? = some (.cells #[a, b, x2] 35 (0, 0)) := by rw [heap_setCell_same _ R 1 _ _ _ h1]; rfl
  rw [heap_setCell_same _ R 2 _ _ _ h2]; rfl
set_option maxHeartbeats 1000000 in
theorem drawPartyText (A : Option Addr) (c : Nat) (bs : List Int) (w : World) (h : Code0 w A bs) : Calls Tryd.prog 35 #[.slice A bs.length c] w (DrawnP w) := by
  have h0 := heap_alloc_new w (.cells #[.string ⟨#[]⟩, .int .i64 0, .string ⟨#[]⟩] 35)
  have b0 := below_alloc w (.cells #[.string ⟨#[]⟩, .int .i64 0, .string ⟨#[]⟩] 35)
  have hc := h.below b0
  go_enter Tryd.func35, Tryd.ntmps35
  go_wp2_with fail
  refine (code_from A c bs _ hc).mono ?_
  rintro e w1 ⟨g, rfl, s1, b1⟩
  go_wp2_with fail
  refine (party_any g _ A c bs _ s1).mono ?_
  rintro e w2 ⟨q, rfl, hq, s2, g2⟩
  have b2 := src_below b1 g2 s1.1
  have hR := (b2.block _ (lt_ofs h0)).trans h0
  have b3 := belowGo b0 b2
  obtain ⟨r0, r1, r2, d0, d1, d2⟩ := row3_at hR
  have HE := Lib.hid (store3 hR (.string ⟨q.c.toArray⟩) (.int .i64 q.k) (.string ⟨q.a.toArray⟩))
  have b5 := ((b3.setCell (p := ⟨w.heap.size, 0, none⟩) (Nat.le_refl _) (.string ⟨q.c.toArray⟩)).setCell (p := ⟨w.heap.size, 1, none⟩) (Nat.le_refl _) (.int .i64 q.k)).setCell (p := ⟨w.heap.size, 2, none⟩) (Nat.le_refl _) (.string ⟨q.a.toArray⟩)
  clear hR b3 b2 b1 s1 s2 g2 h0 b0 hc h
  go_wp2_with fail
  exact bodyPost_ret (v := .agg #[.string ⟨q.c.toArray⟩, .int .i64 q.k, .string ⟨q.a.toArray⟩]) (results_cell_row (p := 2) rfl _ _ w.heap.size 35 _ (0, 0) _ rfl HE.out Tryd.underlying35 rfl ptySz) rfl ⟨q, rfl, hq, b5⟩
theorem ptext_short {q : Pty} (h : q.ok = true) : (ptext q).length ≤ 100 := by
  obtain ⟨hc, ⟨hk0, hk4⟩, ha⟩ := pok h
  have lc : q.c.length ≤ 6 := (pcode_iff.1 hc).1.2
  have la : q.a.length ≤ 6 := by
    rcases ha with h | ⟨h, _⟩
    · rw [h]; simp
    · exact (pcode_iff.1 h).1.2
  have lo := orS_len la
  have ld : (Lib.decDigits q.k.toNat).length ≤ 19 := dec_len 18 _ (by omega)
  unfold ptext
  simp only [List.length_append, List.length_cons]; omega
set_option maxHeartbeats 2000000 in
theorem drawReadParty (A : Option Addr) (c : Nat) (bs : List Int) (w : World) (h : Code0 w A bs) : Calls Tryd.prog 36 #[.slice A bs.length c] w (DrawnS w) := by
  go_enter Tryd.func36, Tryd.ntmps36
  go_wp2_with fail
  refine (code_from A c bs _ h).mono ?_
  rintro e w1 ⟨g, rfl, s1, b1⟩
  go_wp2_with fail
  refine (party_any g _ A c bs _ s1).mono ?_
  rintro e w2 ⟨q, rfl, ⟨qc, qa, _, _⟩, s2, g2⟩
  have b2 := src_below b1 g2 s1.1
  have hw2 := heap_alloc_new w2 (.cells #[.string ⟨q.c.toArray⟩, .int .i64 q.k, .string ⟨q.a.toArray⟩] 35)
  have a2 := below_alloc w2 (.cells #[.string ⟨q.c.toArray⟩, .int .i64 q.k, .string ⟨q.a.toArray⟩] 35)
  have HV := Lib.hid (fun w => pvalid_s q w (by omega) (by omega))
  clear h
  rcases Bool.eq_false_or_eq_true q.ok with hv | hv
  · have HT := Lib.hid (fun w => ltext5_s q w hv)
    have hlt := ptext_short hv
    rw [hv] at HV
    generalize ptext q = t at *
    go_wp2_with fail
    refine (HV.out _).mono ?_
    rintro e w3 ⟨rfl, b3⟩
    obtain ⟨_, c0, c1, c2, _⟩ := keepQ b3 hw2
    have s3 := (s2.below a2).below b3
    have t3 := belowGo (belowGo b2 a2) b3
    clear hw2 a2 b3 b2 s2 HV
    go_wp2_with fail
    refine (HT.out _).mono ?_
    rintro e w4 ⟨rfl, b4⟩
    have s4 := s3.below b4
    have t4 := belowGo t3 b4
    clear c0 c1 c2 HT b4 s3 t3
    go_wp2_with fail
    refine (next_any g _ _ A c bs _ s4 (by omega)).mono ?_
    rintro e w6 ⟨r6, rfl, a6, c6, s6, g6⟩
    have b7 := src_below t4 g6 s1.1
    by_cases h0 : r6 = 0
    · subst h0
      go_wp2_with fail
      refine (damage_any g t (by omega) _ A c bs _ s6).mono ?_
      rintro e w7 ⟨l, rfl, hl7, s7, g7⟩
      go_wp2_with fail
      go_ret
      exact ⟨l, rfl, by omega, src_below b7 g7 s1.1⟩
    · have e0 : (r6 == 0) = false := beq_eq_false_iff_ne.2 h0
      go_wp2_with fail
      go_ret
      exact ⟨t, rfl, by omega, b7⟩
  · rw [hv] at HV
    go_wp2_with fail
    refine (HV.out _).mono ?_
    rintro e w3 ⟨rfl, b3⟩
    have s4 := (s2.below a2).below b3
    have t4 := belowGo (belowGo b2 a2) b3
    clear hw2 a2 b3 b2 s2 HV
    go_wp2_with fail
    refine (next_any g _ _ A c bs _ s4 (by omega)).mono ?_
    rintro e w6 ⟨r6, rfl, a6, c6, s6, g6⟩
    have b7 := src_below t4 g6 s1.1
    by_cases h0 : r6 = 0
    · subst h0
      go_wp2_with fail
      refine (damage_any g [97, 108, 98, 97, 47, 49, 47, 98, 111, 114, 111] (by simp) _ A c bs _ s6).mono ?_
      rintro e w7 ⟨l, rfl, hl7, s7, g7⟩
      go_wp2_with fail
      go_ret
      exact ⟨l, rfl, by simp at hl7; omega, src_below b7 g7 s1.1⟩
    · have e0 : (r6 == 0) = false := beq_eq_false_iff_ne.2 h0
      go_wp2_with fail
      go_ret
      exact ⟨[97, 108, 98, 97, 47, 49, 47, 98, 111, 114, 111], rfl, by simp, b7⟩
end Go.Proofs.YtjgagiigpijaiaaDoor
