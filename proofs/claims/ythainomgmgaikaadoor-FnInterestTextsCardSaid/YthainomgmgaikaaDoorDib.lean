/- spec.l06Valid: a valid manifest is drawn. (by gen_dia.py) -/
import Derived.Test.YthainomgmgaikaaDoorDia
namespace Go.Proofs.YthainomgmgaikaaDoor
open Go.ChangeShapes Go.WideShapes Go.ChangeAt Go.RowKit
set_option linter.unusedVariables false

set_option maxRecDepth 100000 in
set_option maxHeartbeats 16000000 in
theorem valid_any (g : Nat) (base : Nat) (A : Option Addr) (c : Nat) (bs : List Int) (w : World) (h : Src w base g A c bs) :
    Calls Tryd.prog 24 #[.pointer (some ⟨g, 0, none⟩)] w (fun e w' => ∃ B d ps, e = .returned (.slice B (List.length ps) d) ∧ ps.length ≤ 7 ∧ IDr w' w.heap.size B d ps ∧ Src w' base g A c bs ∧ w.grownBy w' (some g) ∧ ∀ p ∈ ps, Iov p) := by
  obtain ⟨i0, hi, hz0, hz1, hz2⟩ := info_parts istInfo
  have hgl := h.lt
  obtain ⟨X1, hX1⟩ : ∃ X, X = w.alloc (.cells (tI4.map strI).toArray 9) := ⟨_, rfl⟩
  obtain ⟨X2, hX2⟩ : ∃ X, X = X1.alloc (.cells #[] 25) := ⟨_, rfl⟩
  obtain ⟨X3, hX3⟩ : ∃ X, X = X2.alloc (.cells (tI7.map strI).toArray 9) := ⟨_, rfl⟩
  have e1 : X1.heap.size = w.heap.size + 1 := by rw [hX1]; simp
  have e2 : X2.heap.size = w.heap.size + 1 + 1 := by rw [hX2]; simp [e1]
  have e3 : X3.heap.size = w.heap.size + 3 := by rw [hX3]; simp [e2]
  have k1 : X1.heap[w.heap.size]? = some (.cells (tI4.map strI).toArray 9 (0, 0)) := by rw [hX1]; exact heap_alloc_new _ _
  have k3 : X3.heap[w.heap.size]? = some (.cells (tI4.map strI).toArray 9 (0, 0)) := by
    rw [hX3, hX2, heap_alloc_old _ _ (by rw [← hX2]; omega), heap_alloc_old _ _ (by omega)]; exact k1
  have k5 : X3.heap[w.heap.size + 1 + 1]? = some (.cells (tI7.map strI).toArray 9 (0, 0)) := by rw [hX3, ← e2]; exact heap_alloc_new _ _
  have H0 : X3.ownsRow w.heap.size 25 5 (.slice (some ⟨w.heap.size + 1, 0, none⟩) 0 0) 0 [] := by
    have := (World.ownsRow_made (e := 25) (size := 5) X1 #[] 0 (base := w.heap.size) (by omega) (by decide) (by simp)).alloc (.cells (tI7.map strI).toArray 9)
    rw [hX3, hX2, ← e1]; exact this
  have S3 : Src X3 base g A c bs := by rw [hX3, hX2, hX1]; exact ((h.alloc _).alloc _).alloc _
  have G3 : w.grownBy X3 (some g) := by rw [hX3, hX2, hX1]; exact grown_alloc (grown_alloc (World.grownBy_alloc _ _ _) _) _
  have HX := Lib.hid (show ((w.alloc (.cells (tI4.map strI).toArray 9)).alloc (.cells #[] 25)).alloc (.cells (tI7.map strI).toArray 9) = X3 by rw [hX3, hX2, hX1])
  clear k1 hX1 hX2 hX3 e1 e2
  go_enter Tryd.func24, Tryd.ntmps24
  go_wp2_with fail
  go_loopw [4, 6] (fun v n wr => ∃ (i d : Nat) (B : Option Addr) (ps : List Ist), n = .int .i64 i ∧ v = .slice B ps.length d ∧ i ≤ 7 ∧ ps.length ≤ i ∧ (5 < i → 0 < ps.length) ∧ IstO wr w.heap.size B ps.length d ps ∧ Hid (∀ p ∈ ps, Iov p) ∧ Src wr base g A c bs ∧ w.grownBy wr (some g) ∧
    wr.heap[w.heap.size]? = some (.cells (tI4.map strI).toArray 9 (0, 0)) ∧ wr.heap[w.heap.size + 1 + 1]? = some (.cells (tI7.map strI).toArray 9 (0, 0)) ∧ w.heap.size + 3 ≤ wr.heap.size ∧ Hid (∀ k, (Value.slice B ps.length d).ownBlock = some k → k ≠ w.heap.size + 1 + 1 ∧ k ≠ w.heap.size)) (fun _ n _ => (7 - intOf n).toNat)
  case atStart =>
    have e := HX.out
    exact ⟨0, 0, some ⟨w.heap.size + 1, 0, none⟩, [], rfl, rfl, by omega, by simp, by omega, by show World.ownsRow _ _ _ _ _ _ _; first | exact e ▸ H0 | (rw [show _ = X3 from e]; exact H0), Lib.hid (by simp), e ▸ S3, e ▸ G3, e ▸ k3, e ▸ k5, by simp, Lib.hid (fun k hk => by simp [Value.ownBlock] at hk; omega)⟩
  case round =>
    obtain ⟨i, d, B, ps, rfl, rfl, hi7, hpl, hp5, hown, hok, hs, hg, h3, h5, hsz, hvb⟩ := hrel
    by_cases hlt : i < 7
    · obtain ⟨s0, hs0, h50⟩ := text_atI (ts := tI7) (by decide) (k := i) hlt
      have hship : i = 5 → s0 = [115, 104, 105, 112] := fun e => by
        subst e
        have h9 : (tI7.map strI)[5]? = some (.string ⟨#[115, 104, 105, 112]⟩) := rfl
        rw [h9] at h50
        have h8 := congrArg (fun x : Option Value => match x with | some (.string b) => b.data.toList | _ => []) h50
        exact h8.symm
      have hgr := hs.lt
      have h3g : w.heap.size ≠ g := by omega
      have h5g : w.heap.size + 1 + 1 ≠ g := by omega
      have hownL := fun k e => (World.ownsRow.lt hown k e)
      have c5 : wr.cell? ⟨w.heap.size + 1 + 1, i, none⟩ = some (.string ⟨s0.toArray⟩) := by rw [cell_of_row _ _ _ _ _ _ h5]; simpa using h50
      have HOK := Lib.hid hok.out
      have HSH := Lib.hid hship
      have HP5 := Lib.hid hp5
      clear hok hship h X3 HX S3 G3 k3 k5 H0 e3 hp5
      go_wp2_with fail
      refine region_inv (by kernel_rfl) (by kernel_rfl) (RInvV wr base g A c bs w.heap.size (w.heap.size + 1 + 1) i (.slice B ps.length d) (.slice (some ⟨w.heap.size + 1, 0, none⟩) 0 0) s0) ?_ ?_ ?_
      · exact ⟨_, frV_of, ⟨rfl, rfl, rfl, rfl, rfl, rfl, rfl, rfl, rfl, rfl, rfl⟩, hs, ⟨rfl, rfl, rfl, Nat.le_refl _, fun _ _ _ => rfl⟩, .inl ⟨getD_repI _ _, fun k hk hd => by rw [getD_repI] at hd; cases hd⟩⟩
      · intro j dd a W hj hI
        obtain ⟨hun, oi, hoi, hall⟩ := mem_ready.1 hj
        have hj14 : j < 14 := (Array.getElem?_eq_some_iff.1 hoi).1
        obtain ⟨us, rfl, hF, hs, hG, ⟨hd13, hI⟩ | ⟨hI, _⟩⟩ := hI
        · have h3 := keepG hG h3 h3g
          have h5 := keepG hG h5 h5g
          have e0 := hF.u0
          have e3 := hF.u3
          have e5 := hF.u5
          have e6 := hF.u6
          rcases (by omega : j = 0 ∨ j = 1 ∨ j = 2 ∨ j = 3 ∨ j = 4 ∨ j = 5 ∨ j = 6 ∨ j = 7 ∨ j = 8 ∨ j = 9 ∨ j = 10 ∨ j = 11 ∨ j = 12 ∨ j = 13) with rfl | rfl | rfl | rfl | rfl | rfl | rfl | rfl | rfl | rfl | rfl | rfl | rfl | rfl
          all_goals
            obtain rfl := Option.some.inj hoi
            clear hoi hj14 hj hun
          · skip
            refine wpOp_step rfl (fun K hK => ?_)
            simp only [frV, e0, e3, e5, e6]
            go_simp
            refine hK _ _ ⟨updV us 17 (.slice (some ⟨w.heap.size + 1 + 1, 0, none⟩) 7 7), by simp [frV, updV, e0, e3, e5, e6], hF.upd (by decide) _, hs, hG, .inl ⟨(getD_set_ne false (by decide)).trans hd13, goodV_set (j := 0) (by omega) hI (World.grownBy.refl _ _) rfl⟩⟩
          · skip
            refine wpOp_step rfl (fun K hK => ?_)
            simp only [frV, e0, e3, e5, e6]
            go_simp
            refine hK _ _ ⟨updV us 18 (.int .i64 (i : Int)), by simp [frV, updV, e0, e3, e5, e6], hF.upd (by decide) _, hs, hG, .inl ⟨(getD_set_ne false (by decide)).trans hd13, goodV_set (j := 1) (by omega) hI (World.grownBy.refl _ _) rfl⟩⟩
          · have e17 : us 17 = .slice (some ⟨w.heap.size + 1 + 1, 0, none⟩) 7 7 := hI 0 (by omega) (hall ⟨0, .data⟩ (by simp) rfl)
            have e18 : us 18 = .int .i64 (i : Int) := hI 1 (by omega) (hall ⟨1, .data⟩ (by simp) rfl)
            refine wpOp_step rfl (fun K hK => ?_)
            simp only [frV, e17, e18]
            go_simp
            try (rw [if_pos (by omega)]; go_simp)
            refine hK _ _ ⟨updV us 19 (.pointer (some ⟨w.heap.size + 1 + 1, i, none⟩)), by simp [frV, updV, e0, e3, e5, e6, e17, e18], hF.upd (by decide) _, hs, hG, .inl ⟨(getD_set_ne false (by decide)).trans hd13, goodV_set (j := 2) (by omega) hI (World.grownBy.refl _ _) rfl⟩⟩
          · have e19 : us 19 = .pointer (some ⟨w.heap.size + 1 + 1, i, none⟩) := hI 2 (by omega) (hall ⟨2, .data⟩ (by simp) rfl)
            have hcell : W.cell? ⟨w.heap.size + 1 + 1, i, none⟩ = some (.string ⟨s0.toArray⟩) := by rw [cell_of_row _ _ _ _ _ _ h5]; simpa using h50
            refine wpOp_step rfl (fun K hK => ?_)
            simp only [frV, e19]
            go_simp
            refine hK _ _ ⟨updV us 20 (.string ⟨s0.toArray⟩), by simp [frV, updV, e0, e3, e5, e6, e19], hF.upd (by decide) _, hs, hG, .inl ⟨(getD_set_ne false (by decide)).trans hd13, goodV_set (j := 3) (by omega) hI (World.grownBy.refl _ _) rfl⟩⟩
          · skip
            refine wpOp_step rfl (fun K hK => ?_)
            simp only [frV, e0, e3, e5, e6]
            go_simp
            refine hK _ _ ⟨updV us 21 (.slice (some ⟨w.heap.size, 0, none⟩) 4 4), by simp [frV, updV, e0, e3, e5, e6], hF.upd (by decide) _, hs, hG, .inl ⟨(getD_set_ne false (by decide)).trans hd13, goodV_set (j := 4) (by omega) hI (World.grownBy.refl _ _) rfl⟩⟩
          · skip
            refine wpOp_step rfl (fun K hK => ?_)
            simp only [frV, e0, e3, e5, e6]
            go_simp
            refine hK _ _ ⟨updV us 22 (.pointer (some ⟨g, 0, none⟩)), by simp [frV, updV, e0, e3, e5, e6], hF.upd (by decide) _, hs, hG, .inl ⟨(getD_set_ne false (by decide)).trans hd13, goodV_set (j := 5) (by omega) hI (World.grownBy.refl _ _) rfl⟩⟩
          · have e22 : us 22 = .pointer (some ⟨g, 0, none⟩) := hI 5 (by omega) (hall ⟨5, .data⟩ (by simp) rfl)
            refine wpOp_step rfl (fun K hK => ?_)
            simp only [frV, e22]
            go_simp
            go_wp2_with (go_at_call 25; refine (next_any g _ base A c bs _ hs (by omega)).mono ?_; rintro e W2 ⟨r, rfl, r0, r1, hs2, hg2⟩)
            exact ⟨updV us 23 (.int .i64 r), by simp [frV, updV, e0, e3, e5, e6, e22], hF.upd (by decide) _, hs2, (hG.trans hg2), .inl ⟨(getD_set_ne false (by decide)).trans hd13, goodV_set (j := 6) (by omega) hI hg2 (by obtain ⟨m, rfl⟩ := Int.eq_ofNat_of_zero_le r0; exact ⟨m, by omega, rfl⟩)⟩⟩
          · have e21 : us 21 = .slice (some ⟨w.heap.size, 0, none⟩) 4 4 := hI 4 (by omega) (hall ⟨4, .data⟩ (by simp) rfl)
            obtain ⟨r, hr, e23⟩ : ∃ r : Nat, r < 4 ∧ us 23 = .int .i64 r := hI 6 (by omega) (hall ⟨6, .data⟩ (by simp) rfl)
            refine wpOp_step rfl (fun K hK => ?_)
            simp only [frV, e21, e23]
            go_simp
            try (rw [if_pos (by omega)]; go_simp)
            refine hK _ _ ⟨updV us 24 (.pointer (some ⟨w.heap.size, r, none⟩)), by simp [frV, updV, e0, e3, e5, e6, e21, e23], hF.upd (by decide) _, hs, hG, .inl ⟨(getD_set_ne false (by decide)).trans hd13, goodV_set (j := 7) (by omega) hI (World.grownBy.refl _ _) ⟨r, hr, rfl⟩⟩⟩
          · obtain ⟨r, hr, e24⟩ : ∃ r : Nat, r < 4 ∧ us 24 = .pointer (some ⟨w.heap.size, r, none⟩) := hI 7 (by omega) (hall ⟨7, .data⟩ (by simp) rfl)
            obtain ⟨s, hsl, hv⟩ := text_atI (ts := tI4) (by decide) (k := r) hr
            have hcell : W.cell? ⟨w.heap.size, r, none⟩ = some (.string ⟨s.toArray⟩) := by rw [cell_of_row _ _ _ _ _ _ h3]; simpa using hv
            refine wpOp_step rfl (fun K hK => ?_)
            simp only [frV, e24]
            go_simp
            refine hK _ _ ⟨updV us 25 (.string ⟨s.toArray⟩), by simp [frV, updV, e0, e3, e5, e6, e24], hF.upd (by decide) _, hs, hG, .inl ⟨(getD_set_ne false (by decide)).trans hd13, goodV_set (j := 8) (by omega) hI (World.grownBy.refl _ _) ⟨s, rfl, hsl⟩⟩⟩
          · skip
            refine wpOp_step rfl (fun K hK => ?_)
            simp only [frV, e0, e3, e5, e6]
            go_simp
            refine hK _ _ ⟨updV us 26 (.pointer (some ⟨g, 0, none⟩)), by simp [frV, updV, e0, e3, e5, e6], hF.upd (by decide) _, hs, hG, .inl ⟨(getD_set_ne false (by decide)).trans hd13, goodV_set (j := 9) (by omega) hI (World.grownBy.refl _ _) rfl⟩⟩
          · have e26 : us 26 = .pointer (some ⟨g, 0, none⟩) := hI 9 (by omega) (hall ⟨9, .data⟩ (by simp) rfl)
            refine wpOp_step rfl (fun K hK => ?_)
            simp only [frV, e26]
            go_simp
            go_wp2_with (go_at_call 49; refine (good_any g base A c bs _ hs).mono ?_; rintro e W2 ⟨r, rfl, r0, r1, hs2, hg2⟩)
            exact ⟨updV us 27 (.int .i64 r), by simp [frV, updV, e0, e3, e5, e6, e26], hF.upd (by decide) _, hs2, (hG.trans hg2), .inl ⟨(getD_set_ne false (by decide)).trans hd13, goodV_set (j := 10) (by omega) hI hg2 ⟨r, r0, r1, rfl⟩⟩⟩
          · have e20 : us 20 = .string ⟨s0.toArray⟩ := hI 3 (by omega) (hall ⟨3, .data⟩ (by simp) rfl)
            obtain ⟨s, e25, hsl⟩ : ∃ s : List UInt8, us 25 = .string ⟨s.toArray⟩ ∧ s.length ≤ 7 := hI 8 (by omega) (hall ⟨8, .data⟩ (by simp) rfl)
            obtain ⟨x, x0, x1, e27⟩ : ∃ x : Int, -1 ≤ x ∧ x ≤ 1000000001 ∧ us 27 = .int .i64 x := hI 10 (by omega) (hall ⟨10, .data⟩ (by simp) rfl)
            refine wpOp_step rfl (fun K hK => ?_)
            simp only [frV, e20, e25, e27]
            go_simp
            refine hK _ _ ⟨updV us 28 (.agg #[.string ⟨s0.toArray⟩, .int .i64 3, .string ⟨s.toArray⟩, .int .i64 x, .int .i64 0]), by simp [frV, updV, e0, e3, e5, e6, e20, e25, e27], hF.upd (by decide) _, hs, hG, .inl ⟨(getD_set_ne false (by decide)).trans hd13, goodV_set (j := 11) (by omega) hI (World.grownBy.refl _ _) ⟨⟨s0, 3, s, x, 0⟩, rfl, ⟨hs0, hsl, x0, x1⟩, rfl, rfl⟩⟩⟩
          · skip
            refine wpOp_step rfl (fun K hK => ?_)
            simp only [frV]
            go_simp
            refine hK _ _ ⟨updV us 7 (.pointer (some ⟨W.heap.size, 0, none⟩)), by simp [frV, updV, e0, e3, e5, e6], hF.upd (by decide) _, (hs.alloc _), (hG.trans (World.grownBy_alloc _ _ _)), .inl ⟨(getD_set_ne false (by decide)).trans hd13, goodV_set (j := 12) (by omega) hI (World.grownBy_alloc _ _ _) ⟨_, _, _, _, _, _, rfl, heap_alloc_new W _, hG.size, by have := hs.lt; omega⟩⟩⟩
          · obtain ⟨q, e28, hq⟩ : ∃ q : Ist, us 28 = .agg #[.string ⟨q.c.toArray⟩, .int .i64 q.k, .string ⟨q.o.toArray⟩, .int .i64 q.v, .int .i64 q.a] ∧ Ioc q := hI 11 (by omega) (hall ⟨11, .data⟩ (by simp) rfl)
            obtain ⟨C, x0, x1, x2, x3, x4, e7, hC, hlo, hCg⟩ : ∃ C x0 x1 x2 x3 x4, us 7 = .pointer (some ⟨C, 0, none⟩) ∧ Row5 W C x0 x1 x2 x3 x4 ∧ wr.heap.size ≤ C ∧ C ≠ g := hI 12 (by omega) (hall ⟨12, .data⟩ (by simp) rfl)
            refine wpOp_step rfl (fun K hK => ?_)
            simp only [frV, e28, e7]
            obtain ⟨⟨c0, c1, c2, c3, c4⟩, f0, f1, f2, f3, f4⟩ := row5_at hC
            have hRow := put5_row hC (.string ⟨q.c.toArray⟩) (.int .i64 q.k) (.string ⟨q.o.toArray⟩) (.int .i64 q.v) (.int .i64 q.a)
            have hS := hs.keep (put5_below (W := W) (n := g + 1) (C := C) (by omega) (.string ⟨q.c.toArray⟩) (.int .i64 q.k) (.string ⟨q.o.toArray⟩) (.int .i64 q.v) (.int .i64 q.a))
            have hGr := grown_below hG (put5_below (W := W) (n := wr.heap.size) (C := C) hlo (.string ⟨q.c.toArray⟩) (.int .i64 q.k) (.string ⟨q.o.toArray⟩) (.int .i64 q.v) (.int .i64 q.a))
            unfold put5 at hRow hS hGr
            have hall2 : ∀ k, k < 14 → (dd.setIfInBounds 13 true).getD k true = true := by
              intro k hk
              rcases (by omega : k = 0 ∨ k = 1 ∨ k = 2 ∨ k = 3 ∨ k = 4 ∨ k = 5 ∨ k = 6 ∨ k = 7 ∨ k = 8 ∨ k = 9 ∨ k = 10 ∨ k = 11 ∨ k = 12 ∨ k = 13) with rfl | rfl | rfl | rfl | rfl | rfl | rfl | rfl | rfl | rfl | rfl | rfl | rfl | rfl
              all_goals first
                | exact (getD_set_ne true (by decide)).trans (getD_ftI (hall ⟨_, .phase⟩ (by simp) rfl))
                | exact (getD_set_ne true (by decide)).trans (getD_ftI (hall ⟨_, .data⟩ (by simp) rfl))
                | (by_cases hz : 13 < dd.size <;> simp [hz])
            clear hall
            go_simp
            refine hK _ _ ⟨us, by simp [frV, e0, e3, e5, e6, e28, e7], hF, hS, hGr, .inr ⟨hall2, C, q, e7, hRow, hq, hlo, hCg⟩⟩
        · have := hI j hj14
          rw [hun] at this; cases this
      · rintro dd a W hsz2 hall ⟨us, rfl, hF, hs2, hG, ⟨hd13, _⟩ | ⟨_, C, q, e7, hC, hq, hlo, hCg⟩⟩
        · exfalso
          have h9 := hall 13 (by simp)
          have : 13 < dd.size := by rw [hsz2]; simp
          simp [this] at hd13 h9
          rw [hd13] at h9; cases h9
        · have h3' := keepG hG h3 h3g
          have h5' := keepG hG h5 h5g
          have e0 := hF.u0
          have e3 := hF.u3
          have e4 := hF.u4
          have e5 := hF.u5
          have e6 := hF.u6
          have e1 := hF.u1
          have e2 := hF.u2
          have e8 := hF.u8
          have e9 := hF.u9
          have e10 := hF.u10
          have e59 := hF.u59
          have st : Stv wr base g A c bs w.heap.size (.slice B ps.length d) ps.length (ps.flatMap Ist.cells) C q W :=
            ⟨hs2, hG, own_srcI hown hG hgl, hC, hCg, by omega, hlo, fun e => by have := (hownL C e).2; omega, hgl⟩
          have HH := Lib.hid (And.intro h3 h5)
          have HQ := Lib.hid hq
          have HST := Lib.hid st
          have HW := Lib.hid hg
          have hszW := hG.size
          clear hall hsz2 hC hs2 hs hG h3 h5 h3' c5 hown hq st hg
          simp only [frV, e0, e1, e2, e3, e4, e5, e6, e7, e8, e9, e10, e59]
          have c5 : W.cell? ⟨w.heap.size + 1 + 1, i, none⟩ = some (.string ⟨s0.toArray⟩) := by rw [cell_of_row _ _ _ _ _ _ h5']; simpa using h50
          clear h5'
          rcases Bool.eq_false_or_eq_true (s0 == [115, 104, 105, 112]) with hS | hS
          · have st := HST.out
            obtain ⟨⟨r0, r1, r2, r3, r4⟩, f0, f1, f2, f3, f4⟩ := row5_at st.row
            have st1 := st.kind 0
            have S1 := Lib.hid st1
            go_wp2_with fail
            refine (next_any g 25 base A c bs _ S1.out.src (by omega)).mono ?_
            rintro e w2 ⟨r, rfl, ra, rb, s2, g2⟩
            have st2 := S1.out.call s2 g2
            clear st1 s2 g2 st c5
            clear r0 r1 r2 r3 r4 f0 f1 f2 f3 f4
            obtain ⟨⟨r0, r1, r2, r3, r4⟩, f0, f1, f2, f3, f4⟩ := row5_at st2.row
            have c5 : w2.cell? ⟨w.heap.size + 1 + 1, i, none⟩ = some (.string ⟨s0.toArray⟩) := by rw [cell_of_row _ _ _ _ _ _ (keepG st2.gr HH.out.2 h5g)]; simpa using h50
            have hC2 : ¬ C = w.heap.size + 1 + 1 := by have := st2.wC; omega
            have st3 := st2.age r
            clear st2
            have HOA := Lib.hid (st3.own.alloc (.cells #[.string ⟨q.c.toArray⟩, .int .i64 0, .string ⟨q.o.toArray⟩, .int .i64 q.v, .int .i64 r] 25))
            have HRA : Hid (Row5 ((w2.setCell ⟨C, 4, none⟩ (.int .i64 r)).alloc (.cells #[.string ⟨q.c.toArray⟩, .int .i64 0, .string ⟨q.o.toArray⟩, .int .i64 q.v, .int .i64 r] 25)) w2.heap.size (.string ⟨q.c.toArray⟩) (.int .i64 0) (.string ⟨q.o.toArray⟩) (.int .i64 q.v) (.int .i64 r)) := Lib.hid (by have h9 := heap_alloc_new (w2.setCell ⟨C, 4, none⟩ (.int .i64 r)) (.cells #[.string ⟨q.c.toArray⟩, .int .i64 0, .string ⟨q.o.toArray⟩, .int .i64 q.v, .int .i64 r] 25); rw [show (w2.setCell ⟨C, 4, none⟩ (.int .i64 r)).heap.size = w2.heap.size by simp [World.setCell]] at h9; exact h9)
            have HSB : Hid (w.heap.size ≤ ((w2.setCell ⟨C, 4, none⟩ (.int .i64 r)).alloc (.cells #[.string ⟨q.c.toArray⟩, .int .i64 0, .string ⟨q.o.toArray⟩, .int .i64 q.v, .int .i64 r] 25)).heap.size) := Lib.hid (by have h1 := st3.gr.size; have h2 := (below_alloc (w2.setCell ⟨C, 4, none⟩ (.int .i64 r)) (.cells #[.string ⟨q.c.toArray⟩, .int .i64 0, .string ⟨q.o.toArray⟩, .int .i64 q.v, .int .i64 r] 25)).size; omega)
            have HAP := Lib.hid (fun v' w' => after_push (w' := w') (v' := v') (o := (.cells #[.string ⟨q.c.toArray⟩, .int .i64 0, .string ⟨q.o.toArray⟩, .int .i64 q.v, .int .i64 r] 25)) st3 HW.out hvb.out HH.out.1 HH.out.2 h3g h5g hsz)
            clear st3
            go_wp2_with (at_builtin; refine wpList_append_at5 _ rfl (.tmp 55) (.tmp 57) rfl w.heap.size _ ps.length _ rfl HOA.out ⟨w2.heap.size, 0, none⟩ 1 1 [.string ⟨q.c.toArray⟩, .int .i64 0, .string ⟨q.o.toArray⟩, .int .i64 q.v, .int .i64 r] rfl rfl (box_cells5 HRA.out) (by simp [Value.oneCell']) (by omega) HSB.out ?_; intro v' w' hown' hgb hvv)
            obtain ⟨B', d', rfl⟩ := own_form hown'
            obtain ⟨p1, p2, p3, p4, p5, p6⟩ := HAP.out _ _ hgb hvv
            go_roundw
            case rel => exact ⟨i + 1, d', B', ps ++ [⟨q.c, 0, q.o, q.v, r⟩], by go_num, by simp, by omega, by simp; omega, by simp, by simpa [IstO, Ist.cells] using hown', Lib.hid (snoc_iov HOK.out ⟨HQ.out.1, ⟨by have h1 := HQ.out.2.1; simp only; omega, by have h1 := HQ.out.2.1; simp only; omega⟩, by have h1 := HQ.out.2.2; simp only; omega, by have h1 := HQ.out.2.2; simp only; omega⟩), p1, p2, p3, p4, p5, Lib.hid (by simpa using p6)⟩
            case measure => simp [intOf]; omega
          · have hi5 : i ≠ 5 := fun e => by rw [HSH.out e] at hS; simp at hS
            have st := HST.out
            rcases Bool.eq_false_or_eq_true (s0 == [104, 105, 114, 101]) with hH | hH
            · obtain ⟨⟨r0, r1, r2, r3, r4⟩, f0, f1, f2, f3, f4⟩ := row5_at st.row
              have st1 := st.kind 1
              have hC2 : ¬ C = w.heap.size + 1 + 1 := by have := st1.wC; omega
              have S1 := Lib.hid st1
              clear st st1
              go_wp2_with fail
              refine (next_any g 3 base A c bs _ S1.out.src (by omega)).mono ?_
              rintro e w2 ⟨r, rfl, ra, rb, s2, g2⟩
              have st2 := S1.out.call s2 g2
              clear s2 g2 S1 c5
              clear r0 r1 r2 r3 r4 f0 f1 f2 f3 f4
              by_cases hr : 0 < r
              · obtain ⟨⟨r0, r1, r2, r3, r4⟩, f0, f1, f2, f3, f4⟩ := row5_at st2.row
                have HOA := Lib.hid (st2.own.alloc (.cells #[.string ⟨q.c.toArray⟩, .int .i64 1, .string ⟨q.o.toArray⟩, .int .i64 q.v, .int .i64 q.a] 25))
                have HRA : Hid (Row5 (w2.alloc (.cells #[.string ⟨q.c.toArray⟩, .int .i64 1, .string ⟨q.o.toArray⟩, .int .i64 q.v, .int .i64 q.a] 25)) w2.heap.size (.string ⟨q.c.toArray⟩) (.int .i64 1) (.string ⟨q.o.toArray⟩) (.int .i64 q.v) (.int .i64 q.a)) := Lib.hid (by have h9 := heap_alloc_new w2 (.cells #[.string ⟨q.c.toArray⟩, .int .i64 1, .string ⟨q.o.toArray⟩, .int .i64 q.v, .int .i64 q.a] 25); exact h9)
                have HSB : Hid (w.heap.size ≤ (w2.alloc (.cells #[.string ⟨q.c.toArray⟩, .int .i64 1, .string ⟨q.o.toArray⟩, .int .i64 q.v, .int .i64 q.a] 25)).heap.size) := Lib.hid (by have h1 := st2.gr.size; have h2 := (below_alloc w2 (.cells #[.string ⟨q.c.toArray⟩, .int .i64 1, .string ⟨q.o.toArray⟩, .int .i64 q.v, .int .i64 q.a] 25)).size; omega)
                have HAP := Lib.hid (fun v' w' => after_push (w' := w') (v' := v') (o := (.cells #[.string ⟨q.c.toArray⟩, .int .i64 1, .string ⟨q.o.toArray⟩, .int .i64 q.v, .int .i64 q.a] 25)) st2 HW.out hvb.out HH.out.1 HH.out.2 h3g h5g hsz)
                clear st2
                go_wp2_with (at_builtin; refine wpList_append_at5 _ rfl (.tmp 55) (.tmp 57) rfl w.heap.size _ ps.length _ rfl HOA.out ⟨w2.heap.size, 0, none⟩ 1 1 [.string ⟨q.c.toArray⟩, .int .i64 1, .string ⟨q.o.toArray⟩, .int .i64 q.v, .int .i64 q.a] rfl rfl (box_cells5 HRA.out) (by simp [Value.oneCell']) (by omega) HSB.out ?_; intro v' w' hown' hgb hvv)
                obtain ⟨B', d', rfl⟩ := own_form hown'
                obtain ⟨p1, p2, p3, p4, p5, p6⟩ := HAP.out _ _ hgb hvv
                go_roundw
                case rel => exact ⟨i + 1, d', B', ps ++ [⟨q.c, 1, q.o, q.v, q.a⟩], by go_num, by simp, by omega, by simp; omega, by simp, by simpa [IstO, Ist.cells] using hown', Lib.hid (snoc_iov HOK.out ⟨HQ.out.1, ⟨by have h1 := HQ.out.2.1; simp only; omega, by have h1 := HQ.out.2.1; simp only; omega⟩, by have h1 := HQ.out.2.2; simp only; omega, by have h1 := HQ.out.2.2; simp only; omega⟩), p1, p2, p3, p4, p5, Lib.hid (by simpa using p6)⟩
                case measure => simp [intOf]; omega
              · have HAP := Lib.hid (after_skip st2 HW.out HH.out.1 HH.out.2 h3g h5g hsz)
                have HOW := Lib.hid st2.own
                clear st2
                go_wp2_with fail
                obtain ⟨p1, p2, p3, p4, p5⟩ := HAP.out
                go_roundw
                case rel => exact ⟨i + 1, d, B, ps, by go_num, rfl, by omega, by omega, fun h9 => HP5.out (by omega), HOW.out, HOK, p1, p2, p3, p4, p5, hvb⟩
                case measure => simp [intOf]; omega
            · rcases Bool.eq_false_or_eq_true (s0 == [102, 117, 101, 108]) with hF | hF
              · obtain ⟨⟨r0, r1, r2, r3, r4⟩, f0, f1, f2, f3, f4⟩ := row5_at st.row
                have st1 := st.kind 2
                have hC2 : ¬ C = w.heap.size + 1 + 1 := by have := st1.wC; omega
                have S1 := Lib.hid st1
                clear st st1
                go_wp2_with fail
                refine (next_any g 3 base A c bs _ S1.out.src (by omega)).mono ?_
                rintro e w2 ⟨r, rfl, ra, rb, s2, g2⟩
                have st2 := S1.out.call s2 g2
                clear s2 g2 S1 c5
                clear r0 r1 r2 r3 r4 f0 f1 f2 f3 f4
                by_cases hr : 0 < r
                · obtain ⟨⟨r0, r1, r2, r3, r4⟩, f0, f1, f2, f3, f4⟩ := row5_at st2.row
                  have HOA := Lib.hid (st2.own.alloc (.cells #[.string ⟨q.c.toArray⟩, .int .i64 2, .string ⟨q.o.toArray⟩, .int .i64 q.v, .int .i64 q.a] 25))
                  have HRA : Hid (Row5 (w2.alloc (.cells #[.string ⟨q.c.toArray⟩, .int .i64 2, .string ⟨q.o.toArray⟩, .int .i64 q.v, .int .i64 q.a] 25)) w2.heap.size (.string ⟨q.c.toArray⟩) (.int .i64 2) (.string ⟨q.o.toArray⟩) (.int .i64 q.v) (.int .i64 q.a)) := Lib.hid (by have h9 := heap_alloc_new w2 (.cells #[.string ⟨q.c.toArray⟩, .int .i64 2, .string ⟨q.o.toArray⟩, .int .i64 q.v, .int .i64 q.a] 25); exact h9)
                  have HSB : Hid (w.heap.size ≤ (w2.alloc (.cells #[.string ⟨q.c.toArray⟩, .int .i64 2, .string ⟨q.o.toArray⟩, .int .i64 q.v, .int .i64 q.a] 25)).heap.size) := Lib.hid (by have h1 := st2.gr.size; have h2 := (below_alloc w2 (.cells #[.string ⟨q.c.toArray⟩, .int .i64 2, .string ⟨q.o.toArray⟩, .int .i64 q.v, .int .i64 q.a] 25)).size; omega)
                  have HAP := Lib.hid (fun v' w' => after_push (w' := w') (v' := v') (o := (.cells #[.string ⟨q.c.toArray⟩, .int .i64 2, .string ⟨q.o.toArray⟩, .int .i64 q.v, .int .i64 q.a] 25)) st2 HW.out hvb.out HH.out.1 HH.out.2 h3g h5g hsz)
                  clear st2
                  go_wp2_with (at_builtin; refine wpList_append_at5 _ rfl (.tmp 55) (.tmp 57) rfl w.heap.size _ ps.length _ rfl HOA.out ⟨w2.heap.size, 0, none⟩ 1 1 [.string ⟨q.c.toArray⟩, .int .i64 2, .string ⟨q.o.toArray⟩, .int .i64 q.v, .int .i64 q.a] rfl rfl (box_cells5 HRA.out) (by simp [Value.oneCell']) (by omega) HSB.out ?_; intro v' w' hown' hgb hvv)
                  obtain ⟨B', d', rfl⟩ := own_form hown'
                  obtain ⟨p1, p2, p3, p4, p5, p6⟩ := HAP.out _ _ hgb hvv
                  go_roundw
                  case rel => exact ⟨i + 1, d', B', ps ++ [⟨q.c, 2, q.o, q.v, q.a⟩], by go_num, by simp, by omega, by simp; omega, by simp, by simpa [IstO, Ist.cells] using hown', Lib.hid (snoc_iov HOK.out ⟨HQ.out.1, ⟨by have h1 := HQ.out.2.1; simp only; omega, by have h1 := HQ.out.2.1; simp only; omega⟩, by have h1 := HQ.out.2.2; simp only; omega, by have h1 := HQ.out.2.2; simp only; omega⟩), p1, p2, p3, p4, p5, Lib.hid (by simpa using p6)⟩
                  case measure => simp [intOf]; omega
                · have HAP := Lib.hid (after_skip st2 HW.out HH.out.1 HH.out.2 h3g h5g hsz)
                  have HOW := Lib.hid st2.own
                  clear st2
                  go_wp2_with fail
                  obtain ⟨p1, p2, p3, p4, p5⟩ := HAP.out
                  go_roundw
                  case rel => exact ⟨i + 1, d, B, ps, by go_num, rfl, by omega, by omega, fun h9 => HP5.out (by omega), HOW.out, HOK, p1, p2, p3, p4, p5, hvb⟩
                  case measure => simp [intOf]; omega
              · have S1 := Lib.hid st
                clear st
                go_wp2_with fail
                refine (next_any g 3 base A c bs _ S1.out.src (by omega)).mono ?_
                rintro e w2 ⟨r, rfl, ra, rb, s2, g2⟩
                have st2 := S1.out.call s2 g2
                clear s2 g2 S1 c5
                by_cases hr : 0 < r
                · obtain ⟨⟨r0, r1, r2, r3, r4⟩, f0, f1, f2, f3, f4⟩ := row5_at st2.row
                  have HOA := Lib.hid (st2.own.alloc (.cells #[.string ⟨q.c.toArray⟩, .int .i64 q.k, .string ⟨q.o.toArray⟩, .int .i64 q.v, .int .i64 q.a] 25))
                  have HRA : Hid (Row5 (w2.alloc (.cells #[.string ⟨q.c.toArray⟩, .int .i64 q.k, .string ⟨q.o.toArray⟩, .int .i64 q.v, .int .i64 q.a] 25)) w2.heap.size (.string ⟨q.c.toArray⟩) (.int .i64 q.k) (.string ⟨q.o.toArray⟩) (.int .i64 q.v) (.int .i64 q.a)) := Lib.hid (by have h9 := heap_alloc_new w2 (.cells #[.string ⟨q.c.toArray⟩, .int .i64 q.k, .string ⟨q.o.toArray⟩, .int .i64 q.v, .int .i64 q.a] 25); exact h9)
                  have HSB : Hid (w.heap.size ≤ (w2.alloc (.cells #[.string ⟨q.c.toArray⟩, .int .i64 q.k, .string ⟨q.o.toArray⟩, .int .i64 q.v, .int .i64 q.a] 25)).heap.size) := Lib.hid (by have h1 := st2.gr.size; have h2 := (below_alloc w2 (.cells #[.string ⟨q.c.toArray⟩, .int .i64 q.k, .string ⟨q.o.toArray⟩, .int .i64 q.v, .int .i64 q.a] 25)).size; omega)
                  have HAP := Lib.hid (fun v' w' => after_push (w' := w') (v' := v') (o := (.cells #[.string ⟨q.c.toArray⟩, .int .i64 q.k, .string ⟨q.o.toArray⟩, .int .i64 q.v, .int .i64 q.a] 25)) st2 HW.out hvb.out HH.out.1 HH.out.2 h3g h5g hsz)
                  clear st2
                  go_wp2_with (at_builtin; refine wpList_append_at5 _ rfl (.tmp 55) (.tmp 57) rfl w.heap.size _ ps.length _ rfl HOA.out ⟨w2.heap.size, 0, none⟩ 1 1 [.string ⟨q.c.toArray⟩, .int .i64 q.k, .string ⟨q.o.toArray⟩, .int .i64 q.v, .int .i64 q.a] rfl rfl (box_cells5 HRA.out) (by simp [Value.oneCell']) (by omega) HSB.out ?_; intro v' w' hown' hgb hvv)
                  obtain ⟨B', d', rfl⟩ := own_form hown'
                  obtain ⟨p1, p2, p3, p4, p5, p6⟩ := HAP.out _ _ hgb hvv
                  go_roundw
                  case rel => exact ⟨i + 1, d', B', ps ++ [⟨q.c, q.k, q.o, q.v, q.a⟩], by go_num, by simp, by omega, by simp; omega, by simp, by simpa [IstO, Ist.cells] using hown', Lib.hid (snoc_iov HOK.out ⟨HQ.out.1, ⟨by have h1 := HQ.out.2.1; simp only; omega, by have h1 := HQ.out.2.1; simp only; omega⟩, by have h1 := HQ.out.2.2; simp only; omega, by have h1 := HQ.out.2.2; simp only; omega⟩), p1, p2, p3, p4, p5, Lib.hid (by simpa using p6)⟩
                  case measure => simp [intOf]; omega
                · have HAP := Lib.hid (after_skip st2 HW.out HH.out.1 HH.out.2 h3g h5g hsz)
                  have HOW := Lib.hid st2.own
                  clear st2
                  go_wp2_with fail
                  obtain ⟨p1, p2, p3, p4, p5⟩ := HAP.out
                  go_roundw
                  case rel => exact ⟨i + 1, d, B, ps, by go_num, rfl, by omega, by omega, fun h9 => HP5.out (by omega), HOW.out, HOK, p1, p2, p3, p4, p5, hvb⟩
                  case measure => simp [intOf]; omega
    · have e7 : i = 7 := by omega
      have hok2 := hok.out
      clear hok h X3 HX S3 G3 k3 k5 H0 e3
      go_wp2_with fail
      go_ret
      exact ⟨B, d, ps, rfl, by omega, ⟨hp5 (by omega), by omega, hown, fun p hp => (hok2 p hp).1⟩, hs, hg, hok2⟩
end Go.Proofs.YthainomgmgaikaaDoor
