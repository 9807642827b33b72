/- slices.BinarySearchFunc over rates. -/
import Derived.Test.YtaehkkcaoniphaaAds
namespace Go.Proofs.Ytaehkkcaoniphaa
open Go.ChangeShapes Go.WideShapes Go.ChangeAt Go.RowKit
set_option linter.unusedVariables false

set_option maxRecDepth 100000 in
set_option maxHeartbeats 4000000 in
theorem bin_i (A : Option Addr) (c : Nat) (rs : List Rt) (r : Rt) (w : World) (h : Rr w A rs) (hn : rs.length ≤ 20) (hm : ∀ (i j : Nat) (q p : Rt), i < j → rs[i]? = some q → rs[j]? = some p → bef p r = true → bef q r = true) :
    Calls Try.prog 51 #[.slice A rs.length c, .agg #[.string ⟨r.c.toArray⟩, .int .i64 r.day, .int .i64 r.num, .int .i64 r.den], .func (.func 52) #[] #[]] w
      fun e w' => ∃ (p : Nat) (b : Bool), e = .returned (.tuple #[.int .i64 p, .bool b]) ∧ Below w.heap.size w w' ∧ p ≤ rs.length ∧ (∀ (i : Nat) (q : Rt), i < p → rs[i]? = some q → bef q r = true) ∧ (∀ (i : Nat) (q : Rt), p ≤ i → rs[i]? = some q → bef q r = false) ∧
        (∀ q : Rt, rs[p]? = some q → b = (ordR q r == 0)) ∧ (p = rs.length → b = false) := by
  have kb := KeepB.new w #[.string ⟨r.c.toArray⟩, .int .i64 r.day, .int .i64 r.num, .int .i64 r.den] 30
  go_enter Try.func51, Try.ntmps51
  go_wp2_with fail
  go_loopw [9, 10] (fun a b wr => ∃ i j : Nat, a = .int .i64 i ∧ b = .int .i64 j ∧ i ≤ j ∧ j ≤ rs.length ∧ Hid (∀ (k : Nat) (q : Rt), k < i → rs[k]? = some q → bef q r = true) ∧ Hid (∀ (k : Nat) (q : Rt), j ≤ k → rs[k]? = some q → bef q r = false) ∧ KeepB w #[.string ⟨r.c.toArray⟩, .int .i64 r.day, .int .i64 r.num, .int .i64 r.den] 30 wr) (fun a b _ => (intOf b).toNat - (intOf a).toNat)
  case atStart => exact ⟨0, rs.length, rfl, rfl, by omega, by omega, Lib.hid (fun k q hk => by omega), Lib.hid (fun k q hk hq => by have := (List.getElem?_eq_some_iff.1 hq).1; omega), kb⟩
  case round =>
    obtain ⟨i, j, rfl, rfl, hij, hj, hlo, hhi, K⟩ := hrel
    by_cases hlt : i < j
    · obtain ⟨m, hmm⟩ : ∃ m, m = (i + j) / 2 := ⟨_, rfl⟩
      have hmi : i ≤ m := by omega
      have hmj : m < j := by omega
      have e1 : ((i : Int) + (j : Int)) / 2 = (m : Int) := by omega
      obtain ⟨b, off, q, rfl, hl, hq, h4⟩ := (h.below K.bel).four (show m < rs.length by omega)
      obtain ⟨S, hS⟩ : ∃ S : World → Prop, ∀ W, S W ↔ Below wr.heap.size wr W := ⟨_, fun _ => Iff.rfl⟩
      have k0 : S wr.drew := (hS _).2 (Below.refl _ _).drew
      have f0 : ∀ y : Sub S, y.w.cell? ⟨w.heap.size, 0, none⟩ = some (.string ⟨r.c.toArray⟩) := fun y => ((K.step ((hS _).1 y.h)).all).1
      have f1 : ∀ y : Sub S, y.w.cell? ⟨w.heap.size, 1, none⟩ = some (.int .i64 r.day) := fun y => ((K.step ((hS _).1 y.h)).all).2.1
      have f2 : ∀ y : Sub S, y.w.cell? ⟨w.heap.size, 2, none⟩ = some (.int .i64 r.num) := fun y => ((K.step ((hS _).1 y.h)).all).2.2.1
      have f3 : ∀ y : Sub S, y.w.cell? ⟨w.heap.size, 3, none⟩ = some (.int .i64 r.den) := fun y => ((K.step ((hS _).1 y.h)).all).2.2.2.1
      have g0 : ∀ y : Sub S, y.w.cell? ⟨b, off + m * 4, none⟩ = some (.string ⟨q.c.toArray⟩) := fun y => (h4.below hl ((hS _).1 y.h)).c0
      have g1 : ∀ y : Sub S, y.w.cell? ⟨b, off + m * 4 + 1, none⟩ = some (.int .i64 q.day) := fun y => (h4.below hl ((hS _).1 y.h)).c1
      have g2 : ∀ y : Sub S, y.w.cell? ⟨b, off + m * 4 + 2, none⟩ = some (.int .i64 q.num) := fun y => (h4.below hl ((hS _).1 y.h)).c2
      have g3 : ∀ y : Sub S, y.w.cell? ⟨b, off + m * 4 + 3, none⟩ = some (.int .i64 q.den) := fun y => (h4.below hl ((hS _).1 y.h)).c3
      have HK := Lib.hid (fun y : Sub S => K.step ((hS _).1 y.h))
      have HC := Lib.hid (fun y : Sub S => (cmpR_i q r y.w).mono fun e w' h => (⟨h.1, ⟨w', (hS _).2 (belowGo ((hS _).1 y.h) h.2)⟩, rfl⟩ : e = .returned (.int .i64 (ordR q r)) ∧ ∃ z : Sub S, w' = z.w))
      have hneg := ordR_neg q r
      have HY := Lib.hid (fun (hb : bef q r = true) (k : Nat) (p : Rt) (hk : k < m + 1) (hp : rs[k]? = some p) => (by
        rcases Nat.lt_or_ge k m with h1 | h1
        · exact hm k m p q h1 hp hq.out hb
        · obtain rfl : k = m := by omega
          rw [hq.out] at hp; obtain rfl := Option.some.inj hp; exact hb : bef p r = true))
      have HZ := Lib.hid (fun (hb : bef q r = false) (k : Nat) (p : Rt) (hk : m ≤ k) (hp : rs[k]? = some p) => (by
        rcases Nat.lt_or_ge m k with h1 | h1
        · cases hpb : bef p r with
          | false => rfl
          | true => have := hm m k q p h1 hq.out hp hpb; rw [hb] at this; cases this
        · obtain rfl : k = m := by omega
          rw [hq.out] at hp; obtain rfl := Option.some.inj hp; exact hb : bef p r = false))
      clear h4 hS K h hq hm hmm kb
      generalize ordR q r = o at *
      generalize bef q r = be at *
      cases be
      · have HX : Hid (∀ (k : Nat) (p : Rt), m ≤ k → rs[k]? = some p → bef p r = false) := Lib.hid (HZ.out rfl)
        clear HY HZ
        go_wp2_with fail
        refine region_held S (by kernel_rfl) (by kernel_rfl) k0 ?_
        repeat (go_big_quiet_step ((first | rfl | (go_at_call 52; exact HC.out _))))
        refine wpQuiet_nil ?_
        rintro _ ⟨y, rfl⟩
        go_wp2_with fail
        go_roundw
        case rel => exact ⟨i, m, rfl, rfl, by omega, by omega, hlo, HX, HK.out y⟩
        case measure => simp [intOf]; omega
      · have HX : Hid (∀ (k : Nat) (p : Rt), k < m + 1 → rs[k]? = some p → bef p r = true) := Lib.hid (HY.out rfl)
        clear HY HZ
        go_wp2_with fail
        refine region_held S (by kernel_rfl) (by kernel_rfl) k0 ?_
        repeat (go_big_quiet_step ((first | rfl | (go_at_call 52; exact HC.out _))))
        refine wpQuiet_nil ?_
        rintro _ ⟨y, rfl⟩
        go_wp2_with fail
        go_roundw
        case rel => exact ⟨m + 1, j, by go_num, rfl, by omega, by omega, HX, hhi, HK.out y⟩
        case measure => simp [intOf]; omega
    · obtain rfl : i = j := by omega
      by_cases hlen : i < rs.length
      · obtain ⟨b, off, q, rfl, hl, hq, h4⟩ := (h.below K.bel).four hlen
        obtain ⟨S, hS⟩ : ∃ S : World → Prop, ∀ W, S W ↔ Below wr.heap.size wr W := ⟨_, fun _ => Iff.rfl⟩
        have k0 : S wr.drew := (hS _).2 (Below.refl _ _).drew
        have f0 : ∀ y : Sub S, y.w.cell? ⟨w.heap.size, 0, none⟩ = some (.string ⟨r.c.toArray⟩) := fun y => ((K.step ((hS _).1 y.h)).all).1
        have f1 : ∀ y : Sub S, y.w.cell? ⟨w.heap.size, 1, none⟩ = some (.int .i64 r.day) := fun y => ((K.step ((hS _).1 y.h)).all).2.1
        have f2 : ∀ y : Sub S, y.w.cell? ⟨w.heap.size, 2, none⟩ = some (.int .i64 r.num) := fun y => ((K.step ((hS _).1 y.h)).all).2.2.1
        have f3 : ∀ y : Sub S, y.w.cell? ⟨w.heap.size, 3, none⟩ = some (.int .i64 r.den) := fun y => ((K.step ((hS _).1 y.h)).all).2.2.2.1
        have g0 : ∀ y : Sub S, y.w.cell? ⟨b, off + i * 4, none⟩ = some (.string ⟨q.c.toArray⟩) := fun y => (h4.below hl ((hS _).1 y.h)).c0
        have g1 : ∀ y : Sub S, y.w.cell? ⟨b, off + i * 4 + 1, none⟩ = some (.int .i64 q.day) := fun y => (h4.below hl ((hS _).1 y.h)).c1
        have g2 : ∀ y : Sub S, y.w.cell? ⟨b, off + i * 4 + 2, none⟩ = some (.int .i64 q.num) := fun y => (h4.below hl ((hS _).1 y.h)).c2
        have g3 : ∀ y : Sub S, y.w.cell? ⟨b, off + i * 4 + 3, none⟩ = some (.int .i64 q.den) := fun y => (h4.below hl ((hS _).1 y.h)).c3
        have HB := Lib.hid (fun y : Sub S => (K.step ((hS _).1 y.h)).bel)
        have HC := Lib.hid (fun y : Sub S => (cmpR_i q r y.w).mono fun e w' h => (⟨h.1, ⟨w', (hS _).2 (belowGo ((hS _).1 y.h) h.2)⟩, rfl⟩ : e = .returned (.int .i64 (ordR q r)) ∧ ∃ z : Sub S, w' = z.w))
        have HE : Hid (∀ q' : Rt, rs[i]? = some q' → (ordR q r == 0) = (ordR q' r == 0)) := Lib.hid fun q' hq' => by rw [hq.out] at hq'; rw [Option.some.inj hq']
        clear h4 hS K h hq hm kb
        generalize ordR q r = o at *
        go_wp2_with fail
        refine region_held S (by kernel_rfl) (by kernel_rfl) k0 ?_
        repeat (go_big_quiet_step ((first | rfl | (go_at_call 52; exact HC.out _))))
        refine wpQuiet_nil ?_
        rintro _ ⟨y, rfl⟩
        go_wp2_with fail
        go_ret2
        exact ⟨i, _, rfl, HB.out y, hj, hlo.out, hhi.out, HE.out, fun h => absurd h (by omega)⟩
      · have hb := K.bel
        have HN : Hid (∀ q : Rt, rs[i]? = some q → False) := Lib.hid fun q hq => hlen (List.getElem?_eq_some_iff.1 hq).1
        clear K h hm kb
        go_wp2_with fail
        go_quiet (fail)
        go_wp2_with fail
        go_ret2
        exact ⟨i, false, rfl, belowGo hb (below_drewN _ _), hj, hlo.out, hhi.out, fun q hq => (HN.out q hq).elim, fun _ => rfl⟩
end Go.Proofs.Ytaehkkcaoniphaa
