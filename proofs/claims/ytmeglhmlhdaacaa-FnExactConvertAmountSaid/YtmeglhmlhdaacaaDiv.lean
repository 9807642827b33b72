/- math/bits.Div64: long division of 128 bits by 64. -/
import Derived.Test.YtmeglhmlhdaacaaNear
import Derived.Test.YtmeglhmlhdaacaaDivm
import Derived.Deep.DeepCutAuto
import Derived.Deep.CutBlock
import Derived.Deep.CutRange
import Derived.Laws.BitsLemmas
namespace Go.Proofs.Ytmeglhmlhdaacaa
open Go.ChangeShapes Go.WideShapes Go.ChangeAt Go.RowKit
set_option linter.unusedVariables false

theorem maskD (a : Nat) (ha : a < 18446744073709551616) : bits .and .u64 (a : Int) 4294967295 = ((a % 4294967296 : Nat) : Int) := Mul64.maskN a ha
theorem orD (s h m : Nat) (h1 : h < 18446744073709551616) (h2 : h % 2 ^ s = 0) (h3 : m < 2 ^ s) (h4 : 2 ^ s ≤ 9223372036854775808) : bits .or .u64 (h : Int) (m : Int) = ((h + m : Nat) : Int) := by
  have e := bits_join .u64 64 (by decide) (fun n h0 h1 => IntWalk.u64_in _ (by omega)) s (h : Int) (m : Int) (by omega) (by exact_mod_cast h2) (by omega) (by omega) (by exact_mod_cast h3) (by omega)
  rw [e]; simp
/-- The tried digit, as the walk has it. -/
def TryW (u d y a b : Nat) (Q R : Value) : Prop := ∃ q r : Nat, Q = .int .u64 q ∧ R = .int .u64 r ∧ Try u d y a b q r
theorem wrapNat (x : Int) : ∃ n : Nat, IntKind.u64.wrap x = (n : Int) ∧ n ≤ 18446744073709551615 :=
  ⟨(IntKind.u64.wrap x).toNat, by rw [IntKind.wrap_u64]; omega, by rw [IntKind.wrap_u64]; omega⟩
set_option maxRecDepth 100000 in
set_option maxHeartbeats 4000000 in
theorem div64_1 (hi lo y : Nat) (w : World) (h0 : 1 ≤ hi) (h1 : hi < y) (hl : lo < 18446744073709551616) (hy : y < 9223372036854775808) :
    Calls Try.prog 104 #[.int .u64 hi, .int .u64 lo, .int .u64 y] w (Quot64 w (((hi * 18446744073709551616 + lo) / y : Nat) : Int)) := by
  obtain ⟨hs, hb1, hb2⟩ := sh_of (by omega : 0 < y) hy
  have hLZ : ∀ w, Calls Try.prog 117 #[.int .u64 (y : Int)] w fun e w' => e = .returned (.int .i64 ((64 - Lib.bitLen y : Nat) : Int)) ∧ w = w' := fun w => by
    refine (Try.bits_LeadingZeros64 (y : Int) w (by omega) (by omega)).mono ?_
    rintro e w' ⟨rfl, rfl⟩
    rw [Int.toNat_natCast]
    exact ⟨by rw [show (64 : Int) - (Lib.bitLen y : Int) = ((64 - Lib.bitLen y : Nat) : Int) by omega], rfl⟩
  generalize 64 - Lib.bitLen y = s at hs hLZ
  have HL := Lib.hid hLZ
  obtain ⟨f1, f2, f3, f4, f5⟩ := shifted hs h1 hl
  obtain ⟨Z, hZ⟩ : ∃ Z, Z = (hi * 18446744073709551616 + lo) / y := ⟨_, rfl⟩
  rw [← hZ] at f5 ⊢
  clear hZ
  have hsl := hs.le
  have hs1 := hs.one
  have hYl := hs.lo
  have hYh := hs.hi
  obtain ⟨t, ht⟩ : ∃ t, t = 64 - s := ⟨_, rfl⟩
  rw [← ht] at f2 f4 f5
  obtain ⟨Y, hY⟩ : ∃ Y, Y = y * 2 ^ s := ⟨_, rfl⟩
  obtain ⟨H, hH⟩ : ∃ H, H = hi * 2 ^ s := ⟨_, rfl⟩
  obtain ⟨M, hM⟩ : ∃ M, M = lo / 2 ^ t := ⟨_, rfl⟩
  obtain ⟨L, hL⟩ : ∃ L, L = lo * 2 ^ s % 18446744073709551616 := ⟨_, rfl⟩
  have hLl : L < 18446744073709551616 := by rw [hL]; exact Nat.mod_lt _ (by decide)
  have g1 : (y : Int) * 2 ^ s = (Y : Int) := by rw [hY]; simp
  have g2 : (hi : Int) * 2 ^ s = (H : Int) := by rw [hH]; simp
  have g3 : (lo : Int) / 2 ^ t = (M : Int) := by rw [hM]; simp
  have g4 : IntKind.u64.wrap ((lo : Int) * 2 ^ s) = (L : Int) := by rw [IntKind.wrap_u64, hL]; simp
  have g5 : IntKind.u64.wrap (Y : Int) = (Y : Int) := IntWalk.u64_in _ (by omega)
  have g6 : IntKind.u64.wrap (H : Int) = (H : Int) := IntWalk.u64_in _ (by omega)
  have g7 : bits .or .u64 (H : Int) (M : Int) = ((H + M : Nat) : Int) := orD s H M (by omega) (by rw [hH]; exact Nat.mul_mod_left _ _) (by omega) f3
  have g8 := maskD Y (by omega)
  have g9 := maskD L (by omega)
  have g10 : (64 - (s : Int)) = (t : Int) := by omega
  have hz : ((y : Int) == 0) = false := by rw [beq_eq_false_iff_ne]; omega
  have hz2 : ((hi : Int) == 0) = false := by rw [beq_eq_false_iff_ne]; omega
  have ht63 : t ≤ 63 := by omega
  rw [← hY, ← hH, ← hM, ← hL] at f5
  rw [← hH, ← hM, ← hY] at f4
  rw [← hH] at f1
  rw [← hY] at hYl hYh
  have F5 := Lib.hid f5
  clear f5 f2 f3 hs hLZ hY hH hM hL ht
  obtain ⟨U, hU⟩ : ∃ U, U = H + M := ⟨_, rfl⟩
  rw [← hU] at g7 f4 F5
  clear hU
  have D1 := dig_one (d := L / 4294967296) hYl hYh f4 (by omega)
  have d0lt : L % 4294967296 < 4294967296 := by omega
  have hY2 : Y = Y / 4294967296 * 4294967296 + Y % 4294967296 := by omega
  have hL2 : L = L / 4294967296 * 4294967296 + L % 4294967296 := by omega
  obtain ⟨a, ha⟩ : ∃ a, a = Y / 4294967296 := ⟨_, rfl⟩
  obtain ⟨b, hb⟩ : ∃ b, b = Y % 4294967296 := ⟨_, rfl⟩
  obtain ⟨d1, hd1⟩ : ∃ d, d = L / 4294967296 := ⟨_, rfl⟩
  obtain ⟨d0, hd0⟩ : ∃ d, d = L % 4294967296 := ⟨_, rfl⟩
  rw [← ha, ← hb, ← hd1] at D1
  rw [← hd0] at d0lt
  rw [← hd1, ← hd0] at hL2
  have T1 := D1.start
  have a0 := D1.ha
  have a1 := D1.ha'
  have b1 := D1.hb
  have d1l := D1.hd
  have i1 : (Y : Int) / 4294967296 = (a : Int) := by omega
  have i2 : (Y : Int) % 4294967296 = (b : Int) := by omega
  have i3 : (L : Int) / 4294967296 = (d1 : Int) := by omega
  have i4 : (L : Int) % 4294967296 = (d0 : Int) := by omega
  obtain ⟨q0, hq0⟩ : ∃ q, q = U / a := ⟨_, rfl⟩
  obtain ⟨r0, hr0⟩ : ∃ r, r = U % a := ⟨_, rfl⟩
  obtain ⟨p0, hp0⟩ : ∃ p, p = q0 * a := ⟨_, rfl⟩
  rw [← hq0, ← hr0] at T1
  have i5 : (U : Int) / (a : Int) = (q0 : Int) := by rw [hq0]; simp
  have i6 : (q0 : Int) * (a : Int) = (p0 : Int) := by rw [hp0]; simp
  have hpU : p0 + r0 = U := by rw [hp0]; have := T1.eq; omega
  have i7 : (U : Int) - (p0 : Int) = (r0 : Int) := by omega
  have q0l := T1.hi
  have r0l := T1.lt
  have HT1 := Lib.hid T1
  have HD1 := Lib.hid D1
  have HLL := Lib.hid hL2
  clear T1 D1 hL2 hY2 ha hb hd1 hd0 hq0 hr0 hp0 hpU
  have hUl : U < 18446744073709551616 := by omega
  go_enter Try.func104, Try.ntmps104
  go_upto_block 0 with (go_at_call 117; refine (HL.out _).mono ?_; rintro e w' ⟨rfl, rfl⟩)
  clear g1 g2 g3 g4 g5 g6 g7 g8 g9 g10 i1 i2 i3 i4 i5 i6 i7
  go_cut [15] from 67 to 85 (fun v wx => v = .int .u64 (((U * 4294967296 + d1) / Y : Nat) : Int) ∧ wx = w)
  case first =>
    go_wp2_with fail
    go_loop [15, 16] (fun Q R => TryW U d1 Y a b Q R) (fun Q _ => (intOf Q).toNat)
    case atStart => exact ⟨q0, r0, rfl, rfl, HT1.out⟩
    case round =>
      obtain ⟨q, r, rfl, rfl, tr⟩ := hrel
      have hqh := tr.hi
      have hrl := tr.lt
      obtain ⟨pl, pr, _⟩ := tr.prod HD1.out
      obtain ⟨p, hp⟩ : ∃ p, p = q * b := ⟨_, rfl⟩
      have j1 : (q : Int) * (b : Int) = (p : Int) := by rw [hp]; simp
      rw [← hp] at pl
      have TR := Lib.hid tr
      have HP := Lib.hid hp
      clear tr hp
      by_cases c3 : 4294967296 ≤ q ∨ 4294967296 * r + d1 < p
      · obtain ⟨s1, s2, s3, s4⟩ := TR.out.step HD1.out (c3.imp id (fun h => by rw [← HP.out]; exact h))
        obtain ⟨q', hq'⟩ : ∃ q', q' = q - 1 := ⟨_, rfl⟩
        rw [← hq'] at s2 s3 s4
        have j2 : (q : Int) - 1 = (q' : Int) := by omega
        have hqq : q' < q := by omega
        have S2 := Lib.hid s2
        have S3 := Lib.hid s3
        clear s2 s3 hq'
        by_cases c2 : 4294967296 ≤ r + a
        · have E := Lib.hid (HD1.out.brk S2.out S3.out s4 c2)
          have e2 : decide ((4294967296 : Int) ≤ (r : Int) + (a : Int)) = true := by simp; omega
          by_cases c1 : 4294967296 ≤ q
          · have e1 : decide ((4294967296 : Int) ≤ (q : Int)) = true := by simp; omega
            clear c3
            go_wp2_with fail
            go_meet
            exact ⟨by rw [← E.out], rfl⟩
          · have e1 : decide ((4294967296 : Int) ≤ (q : Int)) = false := by simp; omega
            have e3 : decide (4294967296 * (r : Int) + (d1 : Int) < (p : Int)) = true := by simp; omega
            clear c3
            go_wp2_with fail
            go_meet
            exact ⟨by rw [← E.out], rfl⟩
        · have HT : Hid (Try U d1 Y a b q' (r + a)) := Lib.hid ⟨S2.out, S3.out, by omega, by omega⟩
          have e2 : decide ((4294967296 : Int) ≤ (r : Int) + (a : Int)) = false := by simp; omega
          by_cases c1 : 4294967296 ≤ q
          · have e1 : decide ((4294967296 : Int) ≤ (q : Int)) = true := by simp; omega
            clear c3 c2
            go_wp2_with fail
            go_round
            case rel => exact ⟨q', r + a, rfl, by go_num, HT.out⟩
            case measure => simp [intOf]; omega
          · have e1 : decide ((4294967296 : Int) ≤ (q : Int)) = false := by simp; omega
            have e3 : decide (4294967296 * (r : Int) + (d1 : Int) < (p : Int)) = true := by simp; omega
            clear c3 c2
            go_wp2_with fail
            go_round
            case rel => exact ⟨q', r + a, rfl, by go_num, HT.out⟩
            case measure => simp [intOf]; omega
      · have E := Lib.hid (TR.out.stop HD1.out (by omega) (by rw [← HP.out]; omega))
        have e1 : decide ((4294967296 : Int) ≤ (q : Int)) = false := by simp; omega
        have e3 : decide (4294967296 * (r : Int) + (d1 : Int) < (p : Int)) = false := by simp; omega
        clear c3
        go_wp2_with fail
        go_meet
        exact ⟨by rw [← E.out], rfl⟩
  case rest =>
    obtain ⟨rfl, rfl⟩ := hcut
    obtain ⟨z1, z2, z3⟩ := HD1.out.rest rfl
    obtain ⟨Q1, hQ1⟩ : ∃ Q, Q = (U * 4294967296 + d1) / Y := ⟨_, rfl⟩
    obtain ⟨R1, hR1⟩ : ∃ R, R = (U * 4294967296 + d1) % Y := ⟨_, rfl⟩
    rw [← hQ1, ← hR1] at z3
    rw [← hQ1] at z1 z2
    rw [← hQ1]
    have hQl : Q1 < 4294967296 := by rw [hQ1]; exact HD1.out.lty
    have D2 : Dig R1 d0 Y a b := ⟨HD1.out.hy, HD1.out.hb, HD1.out.ha, HD1.out.ha', by rw [← z3]; exact z2, d0lt⟩
    have T2 := D2.start
    have R1l : R1 < 18446744073709551616 := by have := D2.hu; omega
    obtain ⟨P1, hP1⟩ : ∃ P, P = Q1 * Y := ⟨_, rfl⟩
    rw [← hP1] at z1 z2 z3
    obtain ⟨X1, hX1⟩ : ∃ X, X = U * 4294967296 % 18446744073709551616 := ⟨_, rfl⟩
    obtain ⟨X2, hX2⟩ : ∃ X, X = (X1 + d1) % 18446744073709551616 := ⟨_, rfl⟩
    obtain ⟨X3, hX3⟩ : ∃ X, X = P1 % 18446744073709551616 := ⟨_, rfl⟩
    have k1 : IntKind.u64.wrap ((U : Int) * 4294967296) = (X1 : Int) := by rw [IntKind.wrap_u64, hX1]; omega
    have k2 : IntKind.u64.wrap ((X1 : Int) + (d1 : Int)) = (X2 : Int) := by rw [IntKind.wrap_u64, hX2]; omega
    have k3 : IntKind.u64.wrap ((Q1 : Int) * (Y : Int)) = (X3 : Int) := by rw [IntKind.wrap_u64, hX3, hP1]; simp
    have k4 : IntKind.u64.wrap ((X2 : Int) - (X3 : Int)) = (R1 : Int) := by rw [IntKind.wrap_u64]; omega
    obtain ⟨v0, hv0⟩ : ∃ q, q = R1 / a := ⟨_, rfl⟩
    obtain ⟨s0, hs0⟩ : ∃ r, r = R1 % a := ⟨_, rfl⟩
    obtain ⟨p1, hp1⟩ : ∃ p, p = v0 * a := ⟨_, rfl⟩
    rw [← hv0, ← hs0] at T2
    have i5 : (R1 : Int) / (a : Int) = (v0 : Int) := by rw [hv0]; simp
    have i6 : (v0 : Int) * (a : Int) = (p1 : Int) := by rw [hp1]; simp
    have hpR : p1 + s0 = R1 := by rw [hp1]; have := T2.eq; omega
    have i7 : (R1 : Int) - (p1 : Int) = (s0 : Int) := by omega
    have v0l := T2.hi
    have s0l := T2.lt
    have HT2 := Lib.hid T2
    have HD2 := Lib.hid D2
    have HQ1 := Lib.hid hQ1
    have HR1 := Lib.hid hR1
    have HTot : Hid (∀ Q0, Q0 = (R1 * 4294967296 + d0) / Y → (((Q1 * 4294967296 + Q0 : Nat) : Int)) = (Z : Int)) := Lib.hid (fun Q0 h => by
      have e := two_digits (d0 := d0) (q0 := Q0) HD1.out.ypos HQ1.out (by rw [h, HR1.out])
      rw [← e, ← HLL.out, F5.out])
    have hX1l : X1 ≤ 18446744073709551615 := by omega
    have hX2l : X2 ≤ 18446744073709551615 := by omega
    have hX3l : X3 ≤ 18446744073709551615 := by omega
    clear z1 z2 z3 hQ1 hR1 D2 T2 hP1 hX1 hX2 hX3 hv0 hs0 hp1 hpR
    go_upto_block 2 with fail
    clear k1 k2 k3 k4 i5 i6 i7
    go_cut [18] from 97 to 120 (fun v wx => v = .int .u64 (((R1 * 4294967296 + d0) / Y : Nat) : Int) ∧ wx = wc)
    case first =>
      go_wp2_with fail
      go_loop [18, 16] (fun Q R => TryW R1 d0 Y a b Q R) (fun Q _ => (intOf Q).toNat)
      case atStart => exact ⟨v0, s0, rfl, rfl, HT2.out⟩
      case round =>
        obtain ⟨q, r, rfl, rfl, tr⟩ := hrel
        have hqh := tr.hi
        have hrl := tr.lt
        obtain ⟨pl, pr, _⟩ := tr.prod HD2.out
        obtain ⟨p, hp⟩ : ∃ p, p = q * b := ⟨_, rfl⟩
        have j1 : (q : Int) * (b : Int) = (p : Int) := by rw [hp]; simp
        rw [← hp] at pl
        have TR := Lib.hid tr
        have HP := Lib.hid hp
        clear tr hp
        by_cases c3 : 4294967296 ≤ q ∨ 4294967296 * r + d0 < p
        · obtain ⟨s1, s2, s3, s4⟩ := TR.out.step HD2.out (c3.imp id (fun h => by rw [← HP.out]; exact h))
          obtain ⟨q', hq'⟩ : ∃ q', q' = q - 1 := ⟨_, rfl⟩
          rw [← hq'] at s2 s3 s4
          have j2 : (q : Int) - 1 = (q' : Int) := by omega
          have hqq : q' < q := by omega
          have S2 := Lib.hid s2
          have S3 := Lib.hid s3
          clear s2 s3 hq'
          by_cases c2 : 4294967296 ≤ r + a
          · have E := Lib.hid (HD2.out.brk S2.out S3.out s4 c2)
            have e2 : decide ((4294967296 : Int) ≤ (r : Int) + (a : Int)) = true := by simp; omega
            by_cases c1 : 4294967296 ≤ q
            · have e1 : decide ((4294967296 : Int) ≤ (q : Int)) = true := by simp; omega
              clear c3
              go_wp2_with fail
              go_meet
              exact ⟨by rw [← E.out], rfl⟩
            · have e1 : decide ((4294967296 : Int) ≤ (q : Int)) = false := by simp; omega
              have e3 : decide (4294967296 * (r : Int) + (d0 : Int) < (p : Int)) = true := by simp; omega
              clear c3
              go_wp2_with fail
              go_meet
              exact ⟨by rw [← E.out], rfl⟩
          · have HT : Hid (Try R1 d0 Y a b q' (r + a)) := Lib.hid ⟨S2.out, S3.out, by omega, by omega⟩
            have e2 : decide ((4294967296 : Int) ≤ (r : Int) + (a : Int)) = false := by simp; omega
            by_cases c1 : 4294967296 ≤ q
            · have e1 : decide ((4294967296 : Int) ≤ (q : Int)) = true := by simp; omega
              clear c3 c2
              go_wp2_with fail
              go_round
              case rel => exact ⟨q', r + a, rfl, by go_num, HT.out⟩
              case measure => simp [intOf]; omega
            · have e1 : decide ((4294967296 : Int) ≤ (q : Int)) = false := by simp; omega
              have e3 : decide (4294967296 * (r : Int) + (d0 : Int) < (p : Int)) = true := by simp; omega
              clear c3 c2
              go_wp2_with fail
              go_round
              case rel => exact ⟨q', r + a, rfl, by go_num, HT.out⟩
              case measure => simp [intOf]; omega
        · have E := Lib.hid (TR.out.stop HD2.out (by omega) (by rw [← HP.out]; omega))
          have e1 : decide ((4294967296 : Int) ≤ (q : Int)) = false := by simp; omega
          have e3 : decide (4294967296 * (r : Int) + (d0 : Int) < (p : Int)) = false := by simp; omega
          clear c3
          go_wp2_with fail
          go_meet
          exact ⟨by rw [← E.out], rfl⟩
    case rest =>
      obtain ⟨rfl, rfl⟩ := hcut
      obtain ⟨Q0, hQ0⟩ : ∃ Q, Q = (R1 * 4294967296 + d0) / Y := ⟨_, rfl⟩
      have hQ0l : Q0 < 4294967296 := by rw [hQ0]; exact HD2.out.lty
      have HE := Lib.hid (HTot.out _ hQ0)
      rw [← hQ0]
      clear hQ0
      obtain ⟨W1, w1, w1l⟩ := wrapNat ((R1 : Int) * 4294967296)
      obtain ⟨W2, w2, w2l⟩ := wrapNat ((W1 : Int) + (d0 : Int))
      obtain ⟨W3, w3, w3l⟩ := wrapNat ((Q0 : Int) * (Y : Int))
      obtain ⟨W4, w4, w4l⟩ := wrapNat ((W2 : Int) - (W3 : Int))
      obtain ⟨W5, w5⟩ : ∃ n : Nat, (W4 : Int) / 2 ^ s = (n : Int) := ⟨W4 / 2 ^ s, by simp⟩
      clear HD1 HD2 HT1 HT2 HTot HQ1 HR1 HLL F5 HL
      go_wp2_with fail
      go_ret2
      exact ⟨⟨_, by rw [← HE.out] <;> rfl⟩, 0, rfl⟩
end Go.Proofs.Ytmeglhmlhdaacaa
