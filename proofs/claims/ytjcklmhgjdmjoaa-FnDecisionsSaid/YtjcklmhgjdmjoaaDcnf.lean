/- laws.eqDecision, eqDecisionS. (by gen_dcn.py) -/
import Derived.Test.YtjcklmhgjdmjoaaDcn
namespace Go.Proofs.Ytjcklmhgjdmjoaa
open Go.ChangeShapes Go.WideShapes Go.ChangeAt Go.RowKit
set_option linter.unusedVariables false

/-! ### equal ones -/
theorem eqDecision_same (y : Int) (A B : Option Addr) (n m c d : Nat) (cs : List (List UInt8)) (w : World) (hx : Sr w A cs) (hy : Sr w B cs) (hn1 : cs.length = n) (hm1 : cs.length = m) (hn : n ≤ 1000000000) :
    Calls Try.prog 52 #[.agg #[.int .i64 y, .slice A n c], .agg #[.int .i64 y, .slice B m d]] w (Gives w (.bool true)) := by
  have HC := Lib.hid (fun (W : World) (b : Below w.heap.size w W) => eqStringS_l A B n m c d cs W (hx.below b) (hy.below b) hn1 hm1 hn)
  have B2 : ∀ o p, Hid (Below w.heap.size w ((w.alloc o).alloc p)) := fun o p => Lib.hid (((Below.refl _ _).alloc (Nat.le_refl _) _).alloc (by simp) _)
  have d1 : (y != y) = false := by simp
  clear hx hy
  go_enter Try.func52, Try.ntmps52
  go_wp2_with (go_at_call 41; refine (HC.out _ (B2 _ _).out).mono ?_; rintro e w1 ⟨rfl, b1⟩)
  go_ret
  exact ⟨rfl, (B2 _ _).out.trans (b1.mono (B2 _ _).out.size)⟩
set_option maxHeartbeats 2000000 in
theorem eqDecisionS_l (A B : Option Addr) (n m c d : Nat) (rs : List Dcn) (w : World) (hx : DcnR w A rs) (hy : DcnR w B rs) (hn1 : rs.length = n) (hm1 : rs.length = m) (hn : n ≤ 1000000000) (hcs : ∀ e ∈ rs, e.cs.length ≤ 1000000000) :
    Calls Try.prog 57 #[.slice A n c, .slice B m d] w (Gives w (.bool true)) := by
  subst hn1 hm1
  go_enter Try.func57, Try.ntmps57
  go_wp2_with fail
  go_loopw [5] (fun i wr => ∃ k : Nat, k ≤ rs.length ∧ i = .int .i64 k ∧ Below w.heap.size w wr) (fun i _ => rs.length - (intOf i).toNat)
  case atStart => exact ⟨0, Nat.zero_le _, rfl, Below.refl _ _⟩
  case round =>
    obtain ⟨k, hk, rfl, hb⟩ := hrel
    by_cases hlt : k < rs.length
    · obtain ⟨b, off, r, a, e1, rfl, hl, hr, u0, u1, hc1⟩ := (hx.below hb).at hlt
      obtain ⟨b', off', q, a', e2, rfl, hl', hq, v0, v1, hc2⟩ := (hy.below hb).at hlt
      obtain rfl : r = q := by have h1 := hr.out; have h2 := hq.out; rw [h1] at h2; exact Option.some.inj h2
      have q0 : ∀ z : Sub (Bel wr), z.w.cell? ⟨b, off + k * 2, none⟩ = some (.int .i64 r.y) := fun z => (Below.cell (show Below wr.heap.size wr z.w from z.h) (p := ⟨b, off + k * 2, none⟩) hl).trans u0
      have q1 : ∀ z : Sub (Bel wr), z.w.cell? ⟨b, off + k * 2 + 1, none⟩ = some (.slice a r.cs.length e1) := fun z => (Below.cell (show Below wr.heap.size wr z.w from z.h) (p := ⟨b, off + k * 2 + 1, none⟩) hl).trans u1
      have p0 : ∀ z : Sub (Bel wr), z.w.cell? ⟨b', off' + k * 2, none⟩ = some (.int .i64 r.y) := fun z => (Below.cell (show Below wr.heap.size wr z.w from z.h) (p := ⟨b', off' + k * 2, none⟩) hl').trans v0
      have p1 : ∀ z : Sub (Bel wr), z.w.cell? ⟨b', off' + k * 2 + 1, none⟩ = some (.slice a' r.cs.length e2) := fun z => (Below.cell (show Below wr.heap.size wr z.w from z.h) (p := ⟨b', off' + k * 2 + 1, none⟩) hl').trans v1
      have HB := Lib.hid (fun y : Sub (Bel wr) => (belowGo hb y.h : Below w.heap.size w y.w))
      have HE := Lib.hid (fun z : Sub (Bel wr) => (eqDecision_same r.y a a' r.cs.length r.cs.length e1 e2 r.cs z.w (hc1.below z.h) (hc2.below z.h) rfl rfl (hcs r (List.mem_of_getElem? hr.out))).mono fun e w' h => (⟨h.1, ⟨w', Bel.step z h.2⟩, rfl⟩ : e = .returned (.bool true) ∧ ∃ z : Sub (Bel wr), w' = z.w))
      clear hx hy hr hq u0 u1 v0 v1 hc1 hc2
      go_wp2_with fail
      refine region_held (Bel wr) (by kernel_rfl) (by kernel_rfl) (Bel.drew wr) ?_
      repeat (go_big_quiet_step ((first | rfl | (go_at_call 52; exact HE.out _))))
      refine wpQuiet_nil ?_
      rintro _ ⟨y, rfl⟩
      go_wp2_with fail
      go_roundw
      case rel => exact ⟨k + 1, by omega, by go_num, HB.out y⟩
      case measure => simp [intOf]; omega
    · clear hx hy
      go_wp2_with fail
      go_ret
      exact ⟨rfl, hb⟩
end Go.Proofs.Ytjcklmhgjdmjoaa
