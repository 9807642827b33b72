/- spec.SplitParcel, all ways. -/
import Derived.Test.YthainomgmgaikaaSpq
namespace Go.Proofs.Ythainomgmgaikaa
open Go.ChangeShapes Go.WideShapes Go.ChangeAt Go.RowKit
set_option linter.unusedVariables false

theorem fnd_of_fin {ps : List Ist} {s : List UInt8} {k : Nat} (h : finR ps s = ((k : Int), 0)) (hm : manB ps = true) : fndIM ps s = (k : Int) := by
  unfold finR at h
  rw [if_pos hm] at h
  unfold fndIM
  cases hf : fndM ps s with
  | none => rw [hf] at h; have := (Prod.mk.inj h).2; exact absurd this (by decide)
  | some j => rw [hf] at h; exact (Prod.mk.inj h).1
theorem no_of_fin {ps : List Ist} {s : List UInt8} {n : Int} (h : finR ps s = (0, n)) (hn : n ≠ 0) : (manB ps = false ∧ n = 1) ∨ (manB ps = true ∧ fndIM ps s = -1 ∧ n = 4) := by
  unfold finR at h
  rcases Bool.eq_false_or_eq_true (manB ps) with hm | hm
  · right
    rw [if_pos hm] at h
    cases hf : fndM ps s with
    | none => rw [hf] at h; exact ⟨hm, by unfold fndIM; rw [hf], (Prod.mk.inj h).2.symm⟩
    | some j => rw [hf] at h; exact absurd (Prod.mk.inj h).2.symm hn
  · left
    rw [if_neg (by rw [hm]; exact Bool.false_ne_true)] at h
    exact ⟨hm, (Prod.mk.inj h).2.symm⟩
set_option maxRecDepth 100000 in
set_option maxHeartbeats 4000000 in
theorem split_s (A : Option Addr) (c : Nat) (ps : List Ist) (s r : List UInt8) (u : Int) (w : World) (h : ITbl w A ps) (hr : r.length ≤ 1048576) :
    Calls Try.prog 14 #[.slice A ps.length c, .string ⟨s.toArray⟩, .string ⟨r.toArray⟩, .int .i64 u] w (NewIstsC w (splR ps s r u)) := by
  have W := sway ps s r u
  obtain ⟨Q, hQ⟩ : ∃ Q, Q = splR ps s r u := ⟨_, rfl⟩
  obtain ⟨f, hf⟩ : ∃ f, f = finR ps s := ⟨_, rfl⟩
  rw [← hQ, ← hf] at W
  rw [← hQ]
  have hR := h.row
  have HF := Lib.hid (fun w1 (b1 : Below w.heap.size w w1) => find_sM A c ps s w1 (h.below b1).row (by have := h.len; omega))
  cases W with
  | no n hn =>
    rcases no_of_fin hf.symm hn with ⟨h0, rfl⟩ | ⟨h0, h1, rfl⟩
    · have HM := Lib.hid (manS_q (c := c) h h0)
      clear h hR hf hQ HF
      go_enter Try.func14, Try.ntmps14
      go_wp2_with (go_at_call 34; refine HM.out.mono ?_; rintro e w1 ⟨rfl, b1⟩)
      go_ret2
      exact ⟨none, 0, rfl, World.ownsRow_nil _ _ _ _, b1⟩
    · have HM := Lib.hid (manS_q (c := c) h h0)
      rw [h1] at HF
      clear h hR hf hQ h0 h1
      go_enter Try.func14, Try.ntmps14
      go_wp2_with (first
        | (go_at_call 34; refine HM.out.mono ?_; rintro e w1 ⟨rfl, b1⟩)
        | (go_at_call 46; refine (HF.out _ b1).mono ?_; rintro e w2 ⟨rfl, rfl⟩))
      go_ret2
      exact ⟨none, 0, rfl, World.ownsRow_nil _ _ _ _, b1⟩
  | kind k x h0 hk hx h3 =>
    have hk3 : (x.k != 3) = true := by rw [bne, h3]; rfl
    have HX := Lib.hid hx
    have HM := Lib.hid (manS_q (c := c) h h0)
    have h1 := fnd_of_fin hf.symm h0
    rw [h1] at HF
    clear h hf hQ h0 hx h3 h1
    go_enter Try.func14, Try.ntmps14
    go_wp2_with fail
    refine HM.out.mono ?_
    rintro e w1 ⟨rfl, b1⟩
    go_wp2_with fail
    refine (HF.out _ b1).mono ?_
    rintro e w2 ⟨rfl, rfl⟩
    obtain ⟨b, off, p, rfl, hl, hp, hp4⟩ := (hR.below b1).at hk
    obtain rfl : x = p := by have h1 := HX.out; have h2 := hp.out; rw [h1] at h2; exact Option.some.inj h2
    have c0 := hp4.c0; have c1 := hp4.c1; have c2 := hp4.c2; have c3 := hp4.c3; have c4 := hp4.c4
    have B := fun o => Lib.hid (b1.alloc b1.size o)
    clear hp hp4 hR HF HM
    go_wp2_with fail
    go_ret2
    exact ⟨none, 0, rfl, World.ownsRow_nil _ _ _ _, (B _).out⟩
  | val k x h0 hk hx h3 h4 =>
    have HX := Lib.hid hx
    have HM := Lib.hid (manS_q (c := c) h h0)
    have h1 := fnd_of_fin hf.symm h0
    rw [h1] at HF
    clear h hf hQ h0 hx h1
    go_enter Try.func14, Try.ntmps14
    go_wp2_with fail
    refine HM.out.mono ?_
    rintro e w1 ⟨rfl, b1⟩
    go_wp2_with fail
    refine (HF.out _ b1).mono ?_
    rintro e w2 ⟨rfl, rfl⟩
    obtain ⟨b, off, p, rfl, hl, hp, hp4⟩ := (hR.below b1).at hk
    obtain rfl : x = p := by have h1 := HX.out; have h2 := hp.out; rw [h1] at h2; exact Option.some.inj h2
    have c0 := hp4.c0; have c1 := hp4.c1; have c2 := hp4.c2; have c3 := hp4.c3; have c4 := hp4.c4
    have B := fun o => Lib.hid (b1.alloc b1.size o)
    clear hp hp4 hR HF HM
    go_wp2_with (go_at_call 53; refine (inn_q h4 _).mono ?_; rintro e w' ⟨rfl, rfl⟩)
    go_ret2
    exact ⟨none, 0, rfl, World.ownsRow_nil _ _ _ _, (B _).out⟩
  | bad k x h0 hk hx h3 h4 hi hb => exact split_gos A c ps s r u k x w h hr h0 hk hx (fnd_of_fin hf.symm h0) h3 h4 _ (fun h => by rw [hb] at h; cases h) (fun _ => rfl)
  | ok k x h0 hk hx h3 h4 hi hb => exact split_gos A c ps s r u k x w h hr h0 hk hx (fnd_of_fin hf.symm h0) h3 h4 _ (fun _ => by rw [hb]) (fun h => by rw [hb, hi] at h; cases h)
end Go.Proofs.Ythainomgmgaikaa
