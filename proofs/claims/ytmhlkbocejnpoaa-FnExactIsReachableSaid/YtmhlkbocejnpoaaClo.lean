/- spec.DoesMatch, FindClause, FirstMatch, IsReachable. -/
import Derived.Test.YtmhlkbocejnpoaaCln
namespace Go.Proofs.Ytmhlkbocejnpoaa
open Go.ChangeShapes Go.WideShapes Go.ChangeAt Go.RowKit
set_option linter.unusedVariables false

theorem KeepE.at1 {w W : World} {o : Obj} {q : Evt} (k : KeepE (w.alloc o) q W) : EvtC W (w.heap.size + 1) 0 q := by
  have h := k.cells
  rwa [World.size_alloc] at h
set_option maxRecDepth 100000 in
set_option maxHeartbeats 4000000 in
theorem dm_s (p : Cls) (q : Evt) (w : World) (hp : p.sz ≤ 1048600) (hq : q.sz ≤ 1048600) :
    Calls Try.prog 19 #[.agg #[.string ⟨p.c.toArray⟩, .int .i64 p.k, .int .i64 p.p, .int .i64 p.v, .int .i64 p.r, .int .i64 p.e, .string ⟨p.t.toArray⟩], .agg #[.int .i64 q.d, .int .i64 q.k, .string ⟨q.c.toArray⟩, .int .i64 q.a, .bool q.p, .bool q.v, .bool q.r]] w (Gives w (.tuple #[.bool (dmR p q).1, .int .i64 (dmR p q).2])) := by
  have kc := (KeepC.new w p).step (below_alloc _ (.cells #[.int .i64 q.d, .int .i64 q.k, .string ⟨q.c.toArray⟩, .int .i64 q.a, .bool q.p, .bool q.v, .bool q.r] 41))
  have ke := KeepE.new (w.alloc (.cells #[.string ⟨p.c.toArray⟩, .int .i64 p.k, .int .i64 p.p, .int .i64 p.v, .int .i64 p.r, .int .i64 p.e, .string ⟨p.t.toArray⟩] 26)) q
  have HV := Lib.hid (fun W => cvalid_s p W (sz_c hp).1 (sz_c hp).2)
  have HE := Lib.hid (fun W => evalid_s q W (sz_e hq))
  have HM := Lib.hid (fun W => matches_s p q W)
  clear hp hq
  rcases Bool.eq_false_or_eq_true p.ok with h | h
  · rcases Bool.eq_false_or_eq_true q.ok with h1 | h1
    · have E := Lib.hid (dmR_ok h h1)
      rw [h] at HV
      rw [h1] at HE
      clear h h1
      have v0 := kc.cells.c0; have v1 := kc.cells.c1; have v2 := kc.cells.c2; have v3 := kc.cells.c3; have v4 := kc.cells.c4; have v5 := kc.cells.c5; have v6 := kc.cells.c6
      go_enter Try.func19, Try.ntmps19
      go_wp2_with (first
        | (go_at_call 10; refine (HV.out _).mono ?_; rintro e w1 ⟨rfl, b1⟩; have kc1 := kc.step b1; have ke1 := ke.step b1; have x0 := ke1.at1.c0; have x1 := ke1.at1.c1; have x2 := ke1.at1.c2; have x3 := ke1.at1.c3; have x4 := ke1.at1.c4; have x5 := ke1.at1.c5; have x6 := ke1.at1.c6)
        | (go_at_call 39; refine (HE.out _).mono ?_; rintro e w2 ⟨rfl, b2⟩; have kc2 := kc1.step b2; have ke2 := ke1.step b2; have y0 := ke2.at1.c0; have y1 := ke2.at1.c1; have y2 := ke2.at1.c2; have y3 := ke2.at1.c3; have y4 := ke2.at1.c4; have y5 := ke2.at1.c5; have y6 := ke2.at1.c6; have z0 := kc2.cells.c0; have z1 := kc2.cells.c1; have z2 := kc2.cells.c2; have z3 := kc2.cells.c3; have z4 := kc2.cells.c4; have z5 := kc2.cells.c5; have z6 := kc2.cells.c6)
        | (go_at_call 40; refine (HM.out _).mono ?_; rintro e w3 ⟨rfl, b3⟩; have kc3 := kc2.step b3))
      go_ret2
      exact ⟨by rw [E.out] <;> rfl, kc3.bel⟩
    · have E := Lib.hid (@dmR_no p q (.inr h1))
      rw [h] at HV
      rw [h1] at HE
      clear h h1
      have v0 := kc.cells.c0; have v1 := kc.cells.c1; have v2 := kc.cells.c2; have v3 := kc.cells.c3; have v4 := kc.cells.c4; have v5 := kc.cells.c5; have v6 := kc.cells.c6
      go_enter Try.func19, Try.ntmps19
      go_wp2_with (first
        | (go_at_call 10; refine (HV.out _).mono ?_; rintro e w1 ⟨rfl, b1⟩; have kc1 := kc.step b1; have ke1 := ke.step b1; have x0 := ke1.at1.c0; have x1 := ke1.at1.c1; have x2 := ke1.at1.c2; have x3 := ke1.at1.c3; have x4 := ke1.at1.c4; have x5 := ke1.at1.c5; have x6 := ke1.at1.c6)
        | (go_at_call 39; refine (HE.out _).mono ?_; rintro e w2 ⟨rfl, b2⟩; have kc2 := kc1.step b2))
      go_ret2
      exact ⟨by rw [E.out] <;> rfl, kc2.bel⟩
  · have E := Lib.hid (@dmR_no p q (.inl h))
    rw [h] at HV
    clear h
    have v0 := kc.cells.c0; have v1 := kc.cells.c1; have v2 := kc.cells.c2; have v3 := kc.cells.c3; have v4 := kc.cells.c4; have v5 := kc.cells.c5; have v6 := kc.cells.c6
    go_enter Try.func19, Try.ntmps19
    go_wp2_with (go_at_call 10; refine (HV.out _).mono ?_; rintro e w1 ⟨rfl, b1⟩; have kc1 := kc.step b1)
    go_ret2
    exact ⟨by rw [E.out] <;> rfl, kc1.bel⟩
set_option maxHeartbeats 1000000 in
theorem fc_s (A : Option Addr) (c : Nat) (ps : List Cls) (s : List UInt8) (w : World) (h : CTbl w A ps) :
    Calls Try.prog 22 #[.slice A ps.length c, .string ⟨s.toArray⟩] w (Gives w (.tuple #[.int .i64 (fcR ps s).1, .int .i64 (fcR ps s).2])) := by
  have hn := h.len
  rcases Bool.eq_false_or_eq_true (rbB ps) with hr | hr
  · have HT := Lib.hid (rbS_q (c := c) h hr)
    have HF := Lib.hid (fun W (hb : Below w.heap.size w W) => find_sC A c ps s W (h.row.below hb) (by omega))
    by_cases hf : fndIC ps s < 0
    · have E := Lib.hid (fcR_none hr hf)
      clear h hr
      generalize fndIC ps s = f at *
      go_enter Try.func22, Try.ntmps22
      go_wp2_with (first | (go_at_call 14; refine HT.out.mono ?_; rintro e w1 ⟨rfl, b1⟩) | (go_at_call 35; refine (HF.out _ b1).mono ?_; rintro e w2 ⟨rfl, rfl⟩))
      go_ret2
      exact ⟨by rw [E.out] <;> rfl, b1⟩
    · have E := Lib.hid (fcR_ok hr hf)
      clear h hr
      generalize fndIC ps s = f at *
      go_enter Try.func22, Try.ntmps22
      go_wp2_with (first | (go_at_call 14; refine HT.out.mono ?_; rintro e w1 ⟨rfl, b1⟩) | (go_at_call 35; refine (HF.out _ b1).mono ?_; rintro e w2 ⟨rfl, rfl⟩))
      go_ret2
      exact ⟨by rw [E.out] <;> rfl, b1⟩
  · have HT := Lib.hid (rbS_q (c := c) h hr)
    have E := Lib.hid (@fcR_no ps s hr)
    clear h hr
    go_enter Try.func22, Try.ntmps22
    go_wp2_with (go_at_call 14; refine HT.out.mono ?_; rintro e w1 ⟨rfl, b1⟩)
    go_ret2
    exact ⟨by rw [E.out] <;> rfl, b1⟩
set_option maxRecDepth 100000 in
set_option maxHeartbeats 4000000 in
theorem fm_s (A : Option Addr) (c : Nat) (ps : List Cls) (f : Int) (q : Evt) (w : World) (h : CTbl w A ps) (hq : q.sz ≤ 1048600) :
    Calls Try.prog 24 #[.slice A ps.length c, .int .i64 f, .agg #[.int .i64 q.d, .int .i64 q.k, .string ⟨q.c.toArray⟩, .int .i64 q.a, .bool q.p, .bool q.v, .bool q.r]] w (Gives w (.tuple #[.int .i64 (fmR ps f q).1, .int .i64 (fmR ps f q).2])) := by
  have ke := KeepE.new w q
  have hn := h.len
  have HE := Lib.hid (fun W => evalid_s q W (sz_e hq))
  have HT0 := Lib.hid (fun W (hb : Below w.heap.size w W) => h.below hb)
  clear hq
  rcases Bool.eq_false_or_eq_true (rbB ps) with hr | hr
  · have HT := Lib.hid (fun W (hb : Below w.heap.size w W) => rbS_q (c := c) (HT0.out W hb) hr)
    rcases Bool.eq_false_or_eq_true q.ok with h1 | h1
    · rw [h1] at HE
      by_cases hf : 0 ≤ f ∧ f < ps.length
      · obtain ⟨k, rfl⟩ := Int.eq_ofNat_of_zero_le hf.1
        have hk : k < ps.length := by omega
        have E := Lib.hid (fmR_ok hr h1 hk)
        have HF := Lib.hid (fun W (hb : Below w.heap.size w W) => first_s A c k ps q W (HT0.out W hb) (rb_of hr) hk)
        have HI : Hid (inr (k : Int) 0 ((ps.length : Int) - 1) = true) := Lib.hid (by unfold inr; rw [decide_eq_true_eq]; omega)
        clear h hr h1 hf
        go_enter Try.func24, Try.ntmps24
        go_wp2_with (first
          | (go_at_call 14; refine (HT.out _ ke.bel).mono ?_; rintro e w1 ⟨rfl, b1⟩; have ke1 := ke.step b1; have x0 := ke1.cells.c0; have x1 := ke1.cells.c1; have x2 := ke1.cells.c2; have x3 := ke1.cells.c3; have x4 := ke1.cells.c4; have x5 := ke1.cells.c5; have x6 := ke1.cells.c6)
          | (go_at_call 39; refine (HE.out _).mono ?_; rintro e w2 ⟨rfl, b2⟩; have ke2 := ke1.step b2; have y0 := ke2.cells.c0; have y1 := ke2.cells.c1; have y2 := ke2.cells.c2; have y3 := ke2.cells.c3; have y4 := ke2.cells.c4; have y5 := ke2.cells.c5; have y6 := ke2.cells.c6)
          | (go_at_call 29; refine (innC_q HI.out _).mono ?_; rintro e w' ⟨rfl, rfl⟩)
          | (go_at_call 43; refine (HF.out _ ke2.bel).mono ?_; rintro e w3 ⟨rfl, b3⟩; have ke3 := ke2.step b3))
        go_ret2
        exact ⟨by rw [E.out] <;> rfl, ke3.bel⟩
      · have E := Lib.hid (fmR_range hr h1 hf)
        have HI : Hid (inr f 0 ((ps.length : Int) - 1) = false) := Lib.hid (by unfold inr; rw [decide_eq_false_iff_not]; omega)
        clear h hr h1 hf
        go_enter Try.func24, Try.ntmps24
        go_wp2_with (first
          | (go_at_call 14; refine (HT.out _ ke.bel).mono ?_; rintro e w1 ⟨rfl, b1⟩; have ke1 := ke.step b1; have x0 := ke1.cells.c0; have x1 := ke1.cells.c1; have x2 := ke1.cells.c2; have x3 := ke1.cells.c3; have x4 := ke1.cells.c4; have x5 := ke1.cells.c5; have x6 := ke1.cells.c6)
          | (go_at_call 39; refine (HE.out _).mono ?_; rintro e w2 ⟨rfl, b2⟩; have ke2 := ke1.step b2)
          | (go_at_call 29; refine (innC_q HI.out _).mono ?_; rintro e w' ⟨rfl, rfl⟩))
        go_ret2
        exact ⟨by rw [E.out] <;> rfl, ke2.bel⟩
    · have E := Lib.hid (@fmR_no ps f q (.inr h1))
      rw [h1] at HE
      clear h hr h1
      go_enter Try.func24, Try.ntmps24
      go_wp2_with (first
        | (go_at_call 14; refine (HT.out _ ke.bel).mono ?_; rintro e w1 ⟨rfl, b1⟩; have ke1 := ke.step b1; have x0 := ke1.cells.c0; have x1 := ke1.cells.c1; have x2 := ke1.cells.c2; have x3 := ke1.cells.c3; have x4 := ke1.cells.c4; have x5 := ke1.cells.c5; have x6 := ke1.cells.c6)
        | (go_at_call 39; refine (HE.out _).mono ?_; rintro e w2 ⟨rfl, b2⟩; have ke2 := ke1.step b2))
      go_ret2
      exact ⟨by rw [E.out] <;> rfl, ke2.bel⟩
  · have HT := Lib.hid (rbS_q (c := c) (h.below ke.bel) hr)
    have E := Lib.hid (@fmR_no ps f q (.inl hr))
    clear h hr
    go_enter Try.func24, Try.ntmps24
    go_wp2_with (go_at_call 14; refine HT.out.mono ?_; rintro e w1 ⟨rfl, b1⟩)
    go_ret2
    exact ⟨by rw [E.out] <;> rfl, belowGo ke.bel b1⟩
end Go.Proofs.Ytmhlkbocejnpoaa
