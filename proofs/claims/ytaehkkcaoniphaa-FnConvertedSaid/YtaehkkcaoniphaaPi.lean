import Derived.Test.YtaehkkcaoniphaaPh
import Derived.Lib.BitFns
import Derived.Deep.DeepCutAuto
import Derived.Deep.CutBlock
import Derived.Deep.CutRange
import Derived.Laws.BitsLemmas
import Derived.Test.YtaehkkcaoniphaaShelf
/- The numbers of the long division: shifted divisor and dividend. Plain numbers. -/
namespace Go.Proofs.Ytaehkkcaoniphaa

theorem aux_spec : ∀ (f x : Nat), x < 2 ^ f → x < 2 ^ Lib.bitLenAux f x ∧ (0 < x → 1 ≤ Lib.bitLenAux f x ∧ 2 ^ (Lib.bitLenAux f x - 1) ≤ x) := by
  intro f
  induction f with
  | zero => intro x h; simp at h; subst h; simp [Lib.bitLenAux]
  | succ f ih =>
    intro x h
    by_cases h0 : x = 0
    · subst h0; simp [Lib.bitLenAux]
    · obtain ⟨h1, h2⟩ := ih (x / 2) (by rw [Nat.pow_succ] at h; omega)
      rw [Lib.bitLenAux, if_neg h0]
      have e : 2 ^ (1 + Lib.bitLenAux f (x / 2)) = 2 * 2 ^ Lib.bitLenAux f (x / 2) := by rw [Nat.add_comm, Nat.pow_succ, Nat.mul_comm]
      refine ⟨by rw [e]; omega, fun _ => ⟨by omega, ?_⟩⟩
      rw [show 1 + Lib.bitLenAux f (x / 2) - 1 = Lib.bitLenAux f (x / 2) by omega]
      by_cases hx : x / 2 = 0
      · rw [hx]
        have : Lib.bitLenAux f 0 = 0 := by cases f <;> simp [Lib.bitLenAux]
        rw [this]; simp; omega
      · obtain ⟨h3, h4⟩ := h2 (by omega)
        have e2 : 2 ^ Lib.bitLenAux f (x / 2) = 2 * 2 ^ (Lib.bitLenAux f (x / 2) - 1) := by
          rw [← Nat.pow_succ']; congr 1; omega
        omega
/-- How far the divisor is shifted. -/
structure Sh (y s : Nat) : Prop where
  lo : 9223372036854775808 ≤ y * 2 ^ s
  hi : y * 2 ^ s < 18446744073709551616
  one : 1 ≤ s
  le : s ≤ 63
theorem sh_of {y : Nat} (h0 : 0 < y) (h1 : y < 9223372036854775808) : Sh y (64 - Lib.bitLen y) ∧ Lib.bitLen y ≤ 63 ∧ 1 ≤ Lib.bitLen y := by
  obtain ⟨ha, hb⟩ := aux_spec 64 y (by omega)
  have hL := Lib.bitLen_le y 63 (by omega) (by omega)
  change y < 2 ^ Lib.bitLen y at ha
  change 0 < y → 1 ≤ Lib.bitLen y ∧ 2 ^ (Lib.bitLen y - 1) ≤ y at hb
  obtain ⟨h2, h3⟩ := hb h0
  generalize Lib.bitLen y = n at *
  have e : (2 : Nat) ^ n * 2 ^ (64 - n) = 18446744073709551616 := by rw [← Nat.pow_add, show n + (64 - n) = 64 by omega]
  have e2 : (2 : Nat) ^ (n - 1) * 2 ^ (64 - n) = 9223372036854775808 := by rw [← Nat.pow_add, show n - 1 + (64 - n) = 63 by omega]
  have hp : 0 < 2 ^ (64 - n) := Nat.pow_pos (by decide)
  refine ⟨⟨?_, ?_, by omega, by omega⟩, by omega, h2⟩
  · rw [← e2]; exact Nat.mul_le_mul_right _ h3
  · rw [← e]; exact (Nat.mul_lt_mul_right hp).2 ha
/-- What the two halves of the shifted dividend are good for. -/
theorem shifted {hi lo y s : Nat} (hs : Sh y s) (h : hi < y) (hl : lo < 18446744073709551616) :
    hi * 2 ^ s < 18446744073709551616 ∧ lo / 2 ^ (64 - s) < 2 ^ s ∧ 2 ^ s ≤ 9223372036854775808 ∧ hi * 2 ^ s + lo / 2 ^ (64 - s) < y * 2 ^ s ∧
    ((hi * 2 ^ s + lo / 2 ^ (64 - s)) * 18446744073709551616 + lo * 2 ^ s % 18446744073709551616) / (y * 2 ^ s) = (hi * 18446744073709551616 + lo) / y := by
  have e : (2 : Nat) ^ s * 2 ^ (64 - s) = 18446744073709551616 := by have := hs.le; rw [← Nat.pow_add, show s + (64 - s) = 64 by omega]
  have hT : 0 < 2 ^ s := Nat.pow_pos (by decide)
  have hU : 0 < 2 ^ (64 - s) := Nat.pow_pos (by decide)
  have hTle : 2 ^ s ≤ 9223372036854775808 := by
    have := Nat.pow_le_pow_right (show 0 < 2 by decide) hs.le
    simpa using this
  have hY := hs.hi
  generalize 2 ^ s = T at *
  generalize 2 ^ (64 - s) = U at *
  have h1 : (hi + 1) * T ≤ y * T := Nat.mul_le_mul_right _ h
  rw [Nat.succ_mul] at h1
  have hm : lo / U < T := by rw [Nat.div_lt_iff_lt_mul hU]; rw [e]; exact hl
  have hlm := Nat.div_add_mod lo U
  have hlr := Nat.mod_lt lo hU
  have hr : lo * T % 18446744073709551616 = lo % U * T := by
    have e3 : lo * T = lo % U * T + lo / U * 18446744073709551616 := by
      conv => lhs; rw [← hlm]
      rw [Nat.add_mul, ← e, Nat.mul_comm U, Nat.mul_assoc, Nat.mul_comm U T]
      omega
    have e4 : lo % U * T < 18446744073709551616 := by rw [← e, Nat.mul_comm T U]; exact (Nat.mul_lt_mul_right hT).2 hlr
    rw [e3, Nat.add_mul_mod_self_right, Nat.mod_eq_of_lt e4]
  refine ⟨by omega, hm, hTle, by omega, ?_⟩
  rw [hr]
  have e5 : (hi * T + lo / U) * 18446744073709551616 + lo % U * T = (hi * 18446744073709551616 + lo) * T := by
    conv => rhs; rw [← hlm]
    rw [Nat.add_mul, Nat.add_mul, Nat.add_mul, Nat.mul_right_comm hi T, Nat.mul_comm U, Nat.mul_assoc (lo / U) U T, Nat.mul_comm U T, e]
    omega
  rw [e5, Nat.mul_div_mul_right _ _ hT]
theorem dig_one {u d Y : Nat} (hl : 9223372036854775808 ≤ Y) (hh : Y < 18446744073709551616) (hu : u < Y) (hd : d < 4294967296) : Dig u d Y (Y / 4294967296) (Y % 4294967296) :=
  ⟨by omega, by omega, by omega, by omega, hu, hd⟩
end Go.Proofs.Ytaehkkcaoniphaa

/- math/bits.Div64: long division of 128 bits by 64. -/
namespace Go.Proofs.Ytaehkkcaoniphaa
open Go.ChangeShapes Go.WideShapes Go.ChangeAt Go.RowKit
set_option linter.unusedVariables false

theorem maskD (a : Nat) (ha : a < 18446744073709551616) : bits .and .u64 (a : Int) 4294967295 = ((a % 4294967296 : Nat) : Int) := Mul64.maskN a ha
theorem orD (s h m : Nat) (h1 : h < 18446744073709551616) (h2 : h % 2 ^ s = 0) (h3 : m < 2 ^ s) (h4 : 2 ^ s ≤ 9223372036854775808) : bits .or .u64 (h : Int) (m : Int) = ((h + m : Nat) : Int) := by
  have e := bits_join .u64 64 (by decide) (fun n h0 h1 => IntWalk.u64_in _ (by omega)) s (h : Int) (m : Int) (by omega) (by exact_mod_cast h2) (by omega) (by omega) (by exact_mod_cast h3) (by omega)
  rw [e]; simp
/-- The tried digit, as the walk has it. -/
def TryW (u d y a b : Nat) (Q R : Value) : Prop := ∃ q r : Nat, Q = .int .u64 q ∧ R = .int .u64 r ∧ Try u d y a b q r
theorem wrapNat (x : Int) : ∃ n : Nat, IntKind.u64.wrap x = (n : Int) ∧ n ≤ 18446744073709551615 :=
  ⟨(IntKind.u64.wrap x).toNat, by rw [IntKind.wrap_u64]; omega, by rw [IntKind.wrap_u64]; omega⟩
set_option maxRecDepth 100000 in
set_option maxHeartbeats 4000000 in
theorem div64_1 (hi lo y : Nat) (w : World) (h0 : 1 ≤ hi) (h1 : hi < y) (hl : lo < 18446744073709551616) (hy : y < 9223372036854775808) :
    Calls Try.prog 70 #[.int .u64 hi, .int .u64 lo, .int .u64 y] w (Quot64 w (((hi * 18446744073709551616 + lo) / y : Nat) : Int)) := by
  obtain ⟨hs, hb1, hb2⟩ := sh_of (by omega : 0 < y) hy
  have hLZ : ∀ w, Calls Try.prog 82 #[.int .u64 (y : Int)] w fun e w' => e = .returned (.int .i64 ((64 - Lib.bitLen y : Nat) : Int)) ∧ w = w' := fun w => by
    refine (Try.bits_LeadingZeros64 (y : Int) w (by omega) (by omega)).mono ?_
    rintro e w' ⟨rfl, rfl⟩
    rw [Int.toNat_natCast]
    exact ⟨by rw [show (64 : Int) - (Lib.bitLen y : Int) = ((64 - Lib.bitLen y : Nat) : Int) by omega], rfl⟩
  generalize 64 - Lib.bitLen y = s at hs hLZ
  have HL := Lib.hid hLZ
  obtain ⟨f1, f2, f3, f4, f5⟩ := shifted hs h1 hl
  obtain ⟨Z, hZ⟩ : ∃ Z, Z = (hi * 18446744073709551616 + lo) / y := ⟨_, rfl⟩
  rw [← hZ] at f5 ⊢
  clear hZ
  have hsl := hs.le
  have hs1 := hs.one
  have hYl := hs.lo
  have hYh := hs.hi
  obtain ⟨t, ht⟩ : ∃ t, t = 64 - s := ⟨_, rfl⟩
  rw [← ht] at f2 f4 f5
  obtain ⟨Y, hY⟩ : ∃ Y, Y = y * 2 ^ s := ⟨_, rfl⟩
  obtain ⟨H, hH⟩ : ∃ H, H = hi * 2 ^ s := ⟨_, rfl⟩
  obtain ⟨M, hM⟩ : ∃ M, M = lo / 2 ^ t := ⟨_, rfl⟩
  obtain ⟨L, hL⟩ : ∃ L, L = lo * 2 ^ s % 18446744073709551616 := ⟨_, rfl⟩
  have hLl : L < 18446744073709551616 := by rw [hL]; exact Nat.mod_lt _ (by decide)
  have g1 : (y : Int) * 2 ^ s = (Y : Int) := by rw [hY]; simp
  have g2 : (hi : Int) * 2 ^ s = (H : Int) := by rw [hH]; simp
  have g3 : (lo : Int) / 2 ^ t = (M : Int) := by rw [hM]; simp
  have g4 : IntKind.u64.wrap ((lo : Int) * 2 ^ s) = (L : Int) := by rw [IntKind.wrap_u64, hL]; simp
  have g5 : IntKind.u64.wrap (Y : Int) = (Y : Int) := IntWalk.u64_in _ (by omega)
  have g6 : IntKind.u64.wrap (H : Int) = (H : Int) := IntWalk.u64_in _ (by omega)
  have g7 : bits .or .u64 (H : Int) (M : Int) = ((H + M : Nat) : Int) := orD s H M (by omega) (by rw [hH]; exact Nat.mul_mod_left _ _) (by omega) f3
  have g8 := maskD Y (by omega)
  have g9 := maskD L (by omega)
  have g10 : (64 - (s : Int)) = (t : Int) := by omega
  have hz : ((y : Int) == 0) = false := by rw [beq_eq_false_iff_ne]; omega
  have hz2 : ((hi : Int) == 0) = false := by rw [beq_eq_false_iff_ne]; omega
  have ht63 : t ≤ 63 := by omega
  rw [← hY, ← hH, ← hM, ← hL] at f5
  rw [← hH, ← hM, ← hY] at f4
  rw [← hH] at f1
  rw [← hY] at hYl hYh
  have F5 := Lib.hid f5
  clear f5 f2 f3 hs hLZ hY hH hM hL ht
  obtain ⟨U, hU⟩ : ∃ U, U = H + M := ⟨_, rfl⟩
  rw [← hU] at g7 f4 F5
  clear hU
  have D1 := dig_one (d := L / 4294967296) hYl hYh f4 (by omega)
  have d0lt : L % 4294967296 < 4294967296 := by omega
  have hY2 : Y = Y / 4294967296 * 4294967296 + Y % 4294967296 := by omega
  have hL2 : L = L / 4294967296 * 4294967296 + L % 4294967296 := by omega
  obtain ⟨a, ha⟩ : ∃ a, a = Y / 4294967296 := ⟨_, rfl⟩
  obtain ⟨b, hb⟩ : ∃ b, b = Y % 4294967296 := ⟨_, rfl⟩
  obtain ⟨d1, hd1⟩ : ∃ d, d = L / 4294967296 := ⟨_, rfl⟩
  obtain ⟨d0, hd0⟩ : ∃ d, d = L % 4294967296 := ⟨_, rfl⟩
  rw [← ha, ← hb, ← hd1] at D1
  rw [← hd0] at d0lt
  rw [← hd1, ← hd0] at hL2
  have T1 := D1.start
  have a0 := D1.ha
  have a1 := D1.ha'
  have b1 := D1.hb
  have d1l := D1.hd
  have i1 : (Y : Int) / 4294967296 = (a : Int) := by omega
  have i2 : (Y : Int) % 4294967296 = (b : Int) := by omega
  have i3 : (L : Int) / 4294967296 = (d1 : Int) := by omega
  have i4 : (L : Int) % 4294967296 = (d0 : Int) := by omega
  obtain ⟨q0, hq0⟩ : ∃ q, q = U / a := ⟨_, rfl⟩
  obtain ⟨r0, hr0⟩ : ∃ r, r = U % a := ⟨_, rfl⟩
  obtain ⟨p0, hp0⟩ : ∃ p, p = q0 * a := ⟨_, rfl⟩
  rw [← hq0, ← hr0] at T1
  have i5 : (U : Int) / (a : Int) = (q0 : Int) := by rw [hq0]; simp
  have i6 : (q0 : Int) * (a : Int) = (p0 : Int) := by rw [hp0]; simp
  have hpU : p0 + r0 = U := by rw [hp0]; have := T1.eq; omega
  have i7 : (U : Int) - (p0 : Int) = (r0 : Int) := by omega
  have q0l := T1.hi
  have r0l := T1.lt
  have HT1 := Lib.hid T1
  have HD1 := Lib.hid D1
  have HLL := Lib.hid hL2
  clear T1 D1 hL2 hY2 ha hb hd1 hd0 hq0 hr0 hp0 hpU
  have hUl : U < 18446744073709551616 := by omega
  go_enter Try.func70, Try.ntmps70
  go_upto_block 0 with (go_at_call 82; refine (HL.out _).mono ?_; rintro e w' ⟨rfl, rfl⟩)
  clear g1 g2 g3 g4 g5 g6 g7 g8 g9 g10 i1 i2 i3 i4 i5 i6 i7
  go_cut [15] from 67 to 85 (fun v wx => v = .int .u64 (((U * 4294967296 + d1) / Y : Nat) : Int) ∧ wx = w)
  case first =>
    go_wp2_with fail
    go_loop [15, 16] (fun Q R => TryW U d1 Y a b Q R) (fun Q _ => (intOf Q).toNat)
    case atStart => exact ⟨q0, r0, rfl, rfl, HT1.out⟩
    case round =>
      obtain ⟨q, r, rfl, rfl, tr⟩ := hrel
      have hqh := tr.hi
      have hrl := tr.lt
      obtain ⟨pl, pr, _⟩ := tr.prod HD1.out
      obtain ⟨p, hp⟩ : ∃ p, p = q * b := ⟨_, rfl⟩
      have j1 : (q : Int) * (b : Int) = (p : Int) := by rw [hp]; simp
      rw [← hp] at pl
      have TR := Lib.hid tr
      have HP := Lib.hid hp
      clear tr hp
      by_cases c3 : 4294967296 ≤ q ∨ 4294967296 * r + d1 < p
      · obtain ⟨s1, s2, s3, s4⟩ := TR.out.step HD1.out (c3.imp id (fun h => by rw [← HP.out]; exact h))
        obtain ⟨q', hq'⟩ : ∃ q', q' = q - 1 := ⟨_, rfl⟩
        rw [← hq'] at s2 s3 s4
        have j2 : (q : Int) - 1 = (q' : Int) := by omega
        have hqq : q' < q := by omega
        have S2 := Lib.hid s2
        have S3 := Lib.hid s3
        clear s2 s3 hq'
        by_cases c2 : 4294967296 ≤ r + a
        · have E := Lib.hid (HD1.out.brk S2.out S3.out s4 c2)
          have e2 : decide ((4294967296 : Int) ≤ (r : Int) + (a : Int)) = true := by simp; omega
          by_cases c1 : 4294967296 ≤ q
          · have e1 : decide ((4294967296 : Int) ≤ (q : Int)) = true := by simp; omega
            clear c3
            go_wp2_with fail
            go_meet
            exact ⟨by rw [← E.out], rfl⟩
          · have e1 : decide ((4294967296 : Int) ≤ (q : Int)) = false := by simp; omega
            have e3 : decide (4294967296 * (r : Int) + (d1 : Int) < (p : Int)) = true := by simp; omega
            clear c3
            go_wp2_with fail
            go_meet
            exact ⟨by rw [← E.out], rfl⟩
        · have HT : Hid (Try U d1 Y a b q' (r + a)) := Lib.hid ⟨S2.out, S3.out, by omega, by omega⟩
          have e2 : decide ((4294967296 : Int) ≤ (r : Int) + (a : Int)) = false := by simp; omega
          by_cases c1 : 4294967296 ≤ q
          · have e1 : decide ((4294967296 : Int) ≤ (q : Int)) = true := by simp; omega
            clear c3 c2
            go_wp2_with fail
            go_round
            case rel => exact ⟨q', r + a, rfl, by go_num, HT.out⟩
            case measure => simp [intOf]; omega
          · have e1 : decide ((4294967296 : Int) ≤ (q : Int)) = false := by simp; omega
            have e3 : decide (4294967296 * (r : Int) + (d1 : Int) < (p : Int)) = true := by simp; omega
            clear c3 c2
            go_wp2_with fail
            go_round
            case rel => exact ⟨q', r + a, rfl, by go_num, HT.out⟩
            case measure => simp [intOf]; omega
      · have E := Lib.hid (TR.out.stop HD1.out (by omega) (by rw [← HP.out]; omega))
        have e1 : decide ((4294967296 : Int) ≤ (q : Int)) = false := by simp; omega
        have e3 : decide (4294967296 * (r : Int) + (d1 : Int) < (p : Int)) = false := by simp; omega
        clear c3
        go_wp2_with fail
        go_meet
        exact ⟨by rw [← E.out], rfl⟩
  case rest =>
    obtain ⟨rfl, rfl⟩ := hcut
    obtain ⟨z1, z2, z3⟩ := HD1.out.rest rfl
    obtain ⟨Q1, hQ1⟩ : ∃ Q, Q = (U * 4294967296 + d1) / Y := ⟨_, rfl⟩
    obtain ⟨R1, hR1⟩ : ∃ R, R = (U * 4294967296 + d1) % Y := ⟨_, rfl⟩
    rw [← hQ1, ← hR1] at z3
    rw [← hQ1] at z1 z2
    rw [← hQ1]
    have hQl : Q1 < 4294967296 := by rw [hQ1]; exact HD1.out.lty
    have D2 : Dig R1 d0 Y a b := ⟨HD1.out.hy, HD1.out.hb, HD1.out.ha, HD1.out.ha', by rw [← z3]; exact z2, d0lt⟩
    have T2 := D2.start
    have R1l : R1 < 18446744073709551616 := by have := D2.hu; omega
    obtain ⟨P1, hP1⟩ : ∃ P, P = Q1 * Y := ⟨_, rfl⟩
    rw [← hP1] at z1 z2 z3
    obtain ⟨X1, hX1⟩ : ∃ X, X = U * 4294967296 % 18446744073709551616 := ⟨_, rfl⟩
    obtain ⟨X2, hX2⟩ : ∃ X, X = (X1 + d1) % 18446744073709551616 := ⟨_, rfl⟩
    obtain ⟨X3, hX3⟩ : ∃ X, X = P1 % 18446744073709551616 := ⟨_, rfl⟩
    have k1 : IntKind.u64.wrap ((U : Int) * 4294967296) = (X1 : Int) := by rw [IntKind.wrap_u64, hX1]; omega
    have k2 : IntKind.u64.wrap ((X1 : Int) + (d1 : Int)) = (X2 : Int) := by rw [IntKind.wrap_u64, hX2]; omega
    have k3 : IntKind.u64.wrap ((Q1 : Int) * (Y : Int)) = (X3 : Int) := by rw [IntKind.wrap_u64, hX3, hP1]; simp
    have k4 : IntKind.u64.wrap ((X2 : Int) - (X3 : Int)) = (R1 : Int) := by rw [IntKind.wrap_u64]; omega
    obtain ⟨v0, hv0⟩ : ∃ q, q = R1 / a := ⟨_, rfl⟩
    obtain ⟨s0, hs0⟩ : ∃ r, r = R1 % a := ⟨_, rfl⟩
    obtain ⟨p1, hp1⟩ : ∃ p, p = v0 * a := ⟨_, rfl⟩
    rw [← hv0, ← hs0] at T2
    have i5 : (R1 : Int) / (a : Int) = (v0 : Int) := by rw [hv0]; simp
    have i6 : (v0 : Int) * (a : Int) = (p1 : Int) := by rw [hp1]; simp
    have hpR : p1 + s0 = R1 := by rw [hp1]; have := T2.eq; omega
    have i7 : (R1 : Int) - (p1 : Int) = (s0 : Int) := by omega
    have v0l := T2.hi
    have s0l := T2.lt
    have HT2 := Lib.hid T2
    have HD2 := Lib.hid D2
    have HQ1 := Lib.hid hQ1
    have HR1 := Lib.hid hR1
    have HTot : Hid (∀ Q0, Q0 = (R1 * 4294967296 + d0) / Y → (((Q1 * 4294967296 + Q0 : Nat) : Int)) = (Z : Int)) := Lib.hid (fun Q0 h => by
      have e := two_digits (d0 := d0) (q0 := Q0) HD1.out.ypos HQ1.out (by rw [h, HR1.out])
      rw [← e, ← HLL.out, F5.out])
    have hX1l : X1 ≤ 18446744073709551615 := by omega
    have hX2l : X2 ≤ 18446744073709551615 := by omega
    have hX3l : X3 ≤ 18446744073709551615 := by omega
    clear z1 z2 z3 hQ1 hR1 D2 T2 hP1 hX1 hX2 hX3 hv0 hs0 hp1 hpR
    go_upto_block 2 with fail
    clear k1 k2 k3 k4 i5 i6 i7
    go_cut [18] from 97 to 120 (fun v wx => v = .int .u64 (((R1 * 4294967296 + d0) / Y : Nat) : Int) ∧ wx = wc)
    case first =>
      go_wp2_with fail
      go_loop [18, 16] (fun Q R => TryW R1 d0 Y a b Q R) (fun Q _ => (intOf Q).toNat)
      case atStart => exact ⟨v0, s0, rfl, rfl, HT2.out⟩
      case round =>
        obtain ⟨q, r, rfl, rfl, tr⟩ := hrel
        have hqh := tr.hi
        have hrl := tr.lt
        obtain ⟨pl, pr, _⟩ := tr.prod HD2.out
        obtain ⟨p, hp⟩ : ∃ p, p = q * b := ⟨_, rfl⟩
        have j1 : (q : Int) * (b : Int) = (p : Int) := by rw [hp]; simp
        rw [← hp] at pl
        have TR := Lib.hid tr
        have HP := Lib.hid hp
        clear tr hp
        by_cases c3 : 4294967296 ≤ q ∨ 4294967296 * r + d0 < p
        · obtain ⟨s1, s2, s3, s4⟩ := TR.out.step HD2.out (c3.imp id (fun h => by rw [← HP.out]; exact h))
          obtain ⟨q', hq'⟩ : ∃ q', q' = q - 1 := ⟨_, rfl⟩
          rw [← hq'] at s2 s3 s4
          have j2 : (q : Int) - 1 = (q' : Int) := by omega
          have hqq : q' < q := by omega
          have S2 := Lib.hid s2
          have S3 := Lib.hid s3
          clear s2 s3 hq'
          by_cases c2 : 4294967296 ≤ r + a
          · have E := Lib.hid (HD2.out.brk S2.out S3.out s4 c2)
            have e2 : decide ((4294967296 : Int) ≤ (r : Int) + (a : Int)) = true := by simp; omega
            by_cases c1 : 4294967296 ≤ q
            · have e1 : decide ((4294967296 : Int) ≤ (q : Int)) = true := by simp; omega
              clear c3
              go_wp2_with fail
              go_meet
              exact ⟨by rw [← E.out], rfl⟩
            · have e1 : decide ((4294967296 : Int) ≤ (q : Int)) = false := by simp; omega
              have e3 : decide (4294967296 * (r : Int) + (d0 : Int) < (p : Int)) = true := by simp; omega
              clear c3
              go_wp2_with fail
              go_meet
              exact ⟨by rw [← E.out], rfl⟩
          · have HT : Hid (Try R1 d0 Y a b q' (r + a)) := Lib.hid ⟨S2.out, S3.out, by omega, by omega⟩
            have e2 : decide ((4294967296 : Int) ≤ (r : Int) + (a : Int)) = false := by simp; omega
            by_cases c1 : 4294967296 ≤ q
            · have e1 : decide ((4294967296 : Int) ≤ (q : Int)) = true := by simp; omega
              clear c3 c2
              go_wp2_with fail
              go_round
              case rel => exact ⟨q', r + a, rfl, by go_num, HT.out⟩
              case measure => simp [intOf]; omega
            · have e1 : decide ((4294967296 : Int) ≤ (q : Int)) = false := by simp; omega
              have e3 : decide (4294967296 * (r : Int) + (d0 : Int) < (p : Int)) = true := by simp; omega
              clear c3 c2
              go_wp2_with fail
              go_round
              case rel => exact ⟨q', r + a, rfl, by go_num, HT.out⟩
              case measure => simp [intOf]; omega
        · have E := Lib.hid (TR.out.stop HD2.out (by omega) (by rw [← HP.out]; omega))
          have e1 : decide ((4294967296 : Int) ≤ (q : Int)) = false := by simp; omega
          have e3 : decide (4294967296 * (r : Int) + (d0 : Int) < (p : Int)) = false := by simp; omega
          clear c3
          go_wp2_with fail
          go_meet
          exact ⟨by rw [← E.out], rfl⟩
    case rest =>
      obtain ⟨rfl, rfl⟩ := hcut
      obtain ⟨Q0, hQ0⟩ : ∃ Q, Q = (R1 * 4294967296 + d0) / Y := ⟨_, rfl⟩
      have hQ0l : Q0 < 4294967296 := by rw [hQ0]; exact HD2.out.lty
      have HE := Lib.hid (HTot.out _ hQ0)
      rw [← hQ0]
      clear hQ0
      obtain ⟨W1, w1, w1l⟩ := wrapNat ((R1 : Int) * 4294967296)
      obtain ⟨W2, w2, w2l⟩ := wrapNat ((W1 : Int) + (d0 : Int))
      obtain ⟨W3, w3, w3l⟩ := wrapNat ((Q0 : Int) * (Y : Int))
      obtain ⟨W4, w4, w4l⟩ := wrapNat ((W2 : Int) - (W3 : Int))
      obtain ⟨W5, w5⟩ : ∃ n : Nat, (W4 : Int) / 2 ^ s = (n : Int) := ⟨W4 / 2 ^ s, by simp⟩
      clear HD1 HD2 HT1 HT2 HTot HQ1 HR1 HLL F5 HL
      go_wp2_with fail
      go_ret2
      exact ⟨⟨_, by rw [← HE.out] <;> rfl⟩, 0, rfl⟩
end Go.Proofs.Ytaehkkcaoniphaa

/- ConvertAmount: both sides and the law. -/
namespace Go.Proofs.Ytaehkkcaoniphaa
open Go.ChangeShapes Go.WideShapes Go.ChangeAt Go.RowKit
set_option linter.unusedVariables false

theorem near_any (a b c : Int) (w : World) (a0 : 0 ≤ a) (a1 : a ≤ 1000000000) (b0 : 0 ≤ b) (b1 : b ≤ 1000000000000) (c0 : 1 ≤ c) (c1 : c ≤ 1000000000000) :
    Calls Try.prog 45 #[.int .i64 a, .int .i64 b, .int .i64 c] w fun e w' => e = .returned (.tuple #[.int .i64 (nearR a b c).1, .int .i64 (nearR a b c).2]) ∧ ∃ n, w' = w.drewN n := by
  refine near_of a b c w a0 a1 b0 b1 c0 c1 (fun hlt w => ?_)
  have m0 : 0 ≤ a * b := Int.mul_nonneg a0 b0
  unfold nearest
  generalize a * b = P at *
  obtain ⟨X, hX⟩ : ∃ X, X = 2 * P + c := ⟨_, rfl⟩
  rw [← hX] at hlt ⊢
  have hX0 : 0 ≤ X := by omega
  clear hX m0
  by_cases hz : X / 18446744073709551616 = 0
  · rw [hz, show X % 18446744073709551616 = X by omega]
    exact div64_0 _ _ hX0 (by omega) (by omega) (by omega) w
  · obtain ⟨H, hH⟩ : ∃ H : Nat, X / 18446744073709551616 = H := ⟨(X / 18446744073709551616).toNat, by omega⟩
    obtain ⟨L, hL⟩ : ∃ L : Nat, X % 18446744073709551616 = L := ⟨(X % 18446744073709551616).toNat, by omega⟩
    obtain ⟨Y, hY⟩ : ∃ Y : Nat, 2 * c = Y := ⟨(2 * c).toNat, by omega⟩
    have hXe : X = ((H * 18446744073709551616 + L : Nat) : Int) := by omega
    have hL2 : L < 18446744073709551616 := by omega
    have hY2 : Y < 9223372036854775808 := by omega
    rw [hH, hL, hY]
    rw [hH, hY] at hlt
    have h := div64_1 H L Y w (by omega) (by omega) hL2 hY2
    rw [Int.natCast_ediv, ← hXe] at h
    exact h
/-- What ConvertAmount answers, off the cross rate and its code. -/
def cvR (r : Int × Int × Int) (a : Int) : Int × Int := if r.2.2 = 1 then (0, 1) else if amt a = false then (0, 2) else if r.2.2 ≠ 0 then (0, r.2.2) else nearR a r.1 r.2.1
theorem cross_bd {p q : Int × Int} (hp : 1 ≤ p.1 ∧ p.1 ≤ 1000000 ∧ 1 ≤ p.2 ∧ p.2 ≤ 1000000) (hq : 1 ≤ q.1 ∧ q.1 ≤ 1000000 ∧ 1 ≤ q.2 ∧ q.2 ≤ 1000000) :
    1 ≤ (crossL p q).1 ∧ (crossL p q).1 ≤ 1000000000000 ∧ 1 ≤ (crossL p q).2 ∧ (crossL p q).2 ≤ 1000000000000 := by
  obtain ⟨m1, m2⟩ := mul_bd hp.1 hp.2.1 hq.2.2.1 hq.2.2.2
  obtain ⟨m3, m4⟩ := mul_bd hp.2.2.1 hp.2.2.2 hq.1 hq.2.1
  unfold crossL
  generalize p.1 * q.2 = P at *
  generalize p.2 * q.1 = Q at *
  obtain ⟨X, rfl⟩ : ∃ X : Nat, P = X := ⟨P.toNat, by omega⟩
  obtain ⟨Y, rfl⟩ : ∃ Y : Nat, Q = Y := ⟨Q.toNat, by omega⟩
  simp only [Int.toNat_natCast]
  have hg : 0 < Nat.gcd X Y := Nat.gcd_pos_of_pos_left _ (by omega)
  have h1 := Nat.div_pos (Nat.le_of_dvd (by omega) (Nat.gcd_dvd_left X Y)) hg
  have h2 := Nat.div_pos (Nat.le_of_dvd (by omega) (Nat.gcd_dvd_right X Y)) hg
  have h3 := Nat.div_le_self X (Nat.gcd X Y)
  have h4 := Nat.div_le_self Y (Nat.gcd X Y)
  rw [← Int.natCast_ediv, ← Int.natCast_ediv]
  generalize X / Nat.gcd X Y = x at *
  generalize Y / Nat.gcd X Y = y at *
  omega
theorem crossS_bd {rs : List Rt} (ht : tabB rs = true) {f t : List UInt8} {day : Int} (h : (crossS rs f t day).2.2 = true) :
    1 ≤ (crossS rs f t day).1 ∧ (crossS rs f t day).1 ≤ 1000000000000 ∧ 1 ≤ (crossS rs f t day).2.1 ∧ (crossS rs f t day).2.1 ≤ 1000000000000 := by
  by_cases hb : 0 < (rateL f day rs).2 ∧ 0 < (rateL t day rs).2
  · have e : crossS rs f t day = ((crossL (rateL f day rs) (rateL t day rs)).1, (crossL (rateL f day rs) (rateL t day rs)).2, true) := if_pos hb
    obtain ⟨a1, a2, a3⟩ := rate_good ht hb.1
    obtain ⟨b1, b2, b3⟩ := rate_good ht hb.2
    rw [e]
    exact cross_bd ⟨a1, a2, by omega, a3⟩ ⟨b1, b2, by omega, b3⟩
  · have e : crossS rs f t day = (0, 0, false) := if_neg hb
    rw [e] at h; cases h
theorem crossR_k {rs : List Rt} {f t : List UInt8} {day : Int} : ((crossR rs f t day).2.2 = 0 ∧ cdO rs f t day true = 0 ∧ (crossS rs f t day).2.2 = true ∧ (crossR rs f t day).1 = (crossS rs f t day).1 ∧ (crossR rs f t day).2.1 = (crossS rs f t day).2.1) ∨
    ((crossR rs f t day).2.2 = 4 ∧ cdO rs f t day true = 0 ∧ (crossS rs f t day).2.2 = false) ∨ ((crossR rs f t day).2.2 = cdO rs f t day true ∧ cdO rs f t day true ≠ 0) := by
  by_cases h : cdO rs f t day true = 0
  · have e := crossR_b h
    rcases Bool.eq_false_or_eq_true (crossS rs f t day).2.2 with hs | hs
    · rw [if_pos hs] at e; exact .inl ⟨by rw [e], h, hs, by rw [e], by rw [e]⟩
    · rw [if_neg (by rw [hs]; exact Bool.false_ne_true)] at e; exact .inr (.inl ⟨by rw [e], h, hs⟩)
  · exact .inr (.inr ⟨by rw [crossR_a rfl h], h⟩)
theorem cdB_3 {bt bf bc bd ba : Bool} : (cdB bt bf bc bd ba = 1 ∧ cdB bt bf bc bd true = 1) ∨ (cdB bt bf bc bd ba = 2 ∧ ba = false ∧ cdB bt bf bc bd true ≠ 1) ∨ (cdB bt bf bc bd ba = 2 ∧ cdB bt bf bc bd true = 2 ∧ ba = true) ∨ (cdB bt bf bc bd ba = 0 ∧ ba = true ∧ cdB bt bf bc bd true = 0) := by
  revert bt bf bc bd ba; decide
theorem cv_a {rs : List Rt} {f t : List UInt8} {day a k : Int} (h : cdO rs f t day (amt a) = k) (hk : k ≠ 0) : cvR (crossR rs f t day) a = (0, k) := by
  have hc := @crossR_k rs f t day
  unfold cvR
  have h3 : (cdO rs f t day (amt a) = 1 ∧ cdO rs f t day true = 1) ∨ (cdO rs f t day (amt a) = 2 ∧ amt a = false ∧ cdO rs f t day true ≠ 1) ∨ (cdO rs f t day (amt a) = 2 ∧ cdO rs f t day true = 2 ∧ amt a = true) ∨ (cdO rs f t day (amt a) = 0 ∧ amt a = true ∧ cdO rs f t day true = 0) := cdB_3
  rcases h3 with ⟨h1, h2⟩ | ⟨h1, h2, h3⟩ | ⟨h1, h2, h3⟩ | ⟨h1, h2, h3⟩
  · rw [h1] at h; subst h
    have : (crossR rs f t day).2.2 = 1 := by omega
    rw [if_pos this]
  · rw [h1] at h; subst h
    have : (crossR rs f t day).2.2 ≠ 1 := by omega
    rw [if_neg this, if_pos h2]
  · rw [h1] at h; subst h
    have : (crossR rs f t day).2.2 = 2 := by omega
    rw [this, if_neg (by decide), if_neg (by rw [h3]; exact Bool.noConfusion), if_pos (by decide)]
  · omega
theorem cv_b {rs : List Rt} {f t : List UInt8} {day a : Int} (h : cdO rs f t day (amt a) = 0) : cvR (crossR rs f t day) a = if (crossS rs f t day).2.2 = true then nearR a (crossS rs f t day).1 (crossS rs f t day).2.1 else (0, 4) := by
  have hb := cdB_0 h
  have h0 : cdO rs f t day true = 0 := by rw [← hb.2.2.2.2]; exact h
  have hc := @crossR_k rs f t day
  unfold cvR
  rcases hc with ⟨c1, _, c3, c4, c5⟩ | ⟨c1, _, c3⟩ | ⟨_, c2⟩
  · rw [c1, if_neg (by decide), if_neg (by rw [hb.2.2.2.2]; exact Bool.noConfusion), if_neg (by decide), if_pos c3, c4, c5]
  · rw [c1, if_neg (by decide), if_neg (by rw [hb.2.2.2.2]; exact Bool.noConfusion), if_pos (by decide), if_neg (by rw [c3]; exact Bool.false_ne_true)]
  · exact absurd h0 c2

end Go.Proofs.Ytaehkkcaoniphaa

/- CurrenciesOf. -/
namespace Go.Proofs.Ytaehkkcaoniphaa
open Go.ChangeShapes Go.WideShapes Go.ChangeAt Go.RowKit
set_option linter.unusedVariables false

def codesOf (rs : List Rt) : List (List UInt8) := rs.map Rt.c
def curR (rs : List Rt) : List (List UInt8) × Int := if tabB rs = true then (Lib.compact (codesOf rs), 0) else ([], 1)
theorem curR_no {rs : List Rt} (h : tabB rs = false) : curR rs = ([], 1) := by simp [curR, h]
theorem curR_ok {rs : List Rt} (h : tabB rs = true) : curR rs = (Lib.compact (codesOf rs), 0) := by simp [curR, h]
theorem compact_le (d : Array (List UInt8)) (m : Nat) : (Lib.compactUpTo d m).length ≤ m := by
  unfold Lib.compactUpTo; rw [List.length_map]; have := List.length_filter_le (Lib.keeps d) (List.range m); simpa using this
theorem codes_at {rs : List Rt} {k : Nat} {r : Rt} (h : rs[k]? = some r) : (codesOf rs).toArray[k]! = r.c := by
  have hk := (List.getElem?_eq_some_iff.1 h).1
  have h2 : (codesOf rs)[k]? = some r.c := by unfold codesOf; rw [List.getElem?_map, h]; rfl
  have hk2 : k < (codesOf rs).length := by unfold codesOf; simpa using hk
  rw [List.getElem?_eq_getElem hk2] at h2
  have := Option.some.inj h2
  simp [hk2, this]
theorem keeps_0 (d : Array (List UInt8)) : Lib.keeps d 0 = true := by simp [Lib.keeps]
theorem keeps_s {rs : List Rt} {k : Nat} {q r : Rt} (hk : 0 < k) (h : rs[k]? = some r) (hq : rs[k - 1]? = some q) : Lib.keeps (codesOf rs).toArray k = !(r.c == q.c) := by
  unfold Lib.keeps
  rw [codes_at h, codes_at hq]
  rcases Bool.eq_false_or_eq_true (r.c == q.c) with e | e
  · have e2 : r.c = q.c := by simpa using e
    rw [e]; simp [e2]; omega
  · have e2 : ¬ r.c = q.c := by simpa using e
    rw [e]; simp [e2]

set_option maxRecDepth 100000 in
set_option maxHeartbeats 2000000 in
theorem cur_s (A : Option Addr) (d : Nat) (rs : List Rt) (w : World) (h : Tbl w A rs) :
    Calls Try.prog 23 #[.slice A rs.length d] w (NewStrsC w (curR rs)) := by
  obtain ⟨i0, hi, hz0, hz1, hz2⟩ := info_parts strInfo
  rcases Bool.eq_false_or_eq_true (tabB rs) with ht | ht
  · have HT := Lib.hid (tabS_q (c := d) h ht)
    have E := Lib.hid (curR_ok ht)
    have hn := h.len
    clear ht
    go_enter Try.func23, Try.ntmps23
    go_wp2_with (first | (go_at_call 54; refine HT.out.mono ?_; rintro e w1 ⟨rfl, b1⟩))
    go_loopw [4, 5] (fun o i wr => ∃ (k : Nat) (ys : List (List UInt8)), k ≤ rs.length ∧ i = .int .i64 k ∧ wr.ownsRow w.heap.size 9 1 o ys.length (ys.map encStr) ∧ Hid (ys = Lib.compactUpTo (codesOf rs).toArray k) ∧ Below w.heap.size w wr) (fun _ i _ => rs.length - (intOf i).toNat)
    case atStart => exact ⟨0, [], Nat.zero_le _, rfl, made0 _ _ _ _ b1.size, Lib.hid rfl, b1.alloc b1.size _⟩
    case round =>
      obtain ⟨k, ys, hk, rfl, hown, hys, hb⟩ := hrel
      obtain ⟨O, q, rfl⟩ := own_form hown
      have hyl : ys.length ≤ k := by rw [hys.out]; exact compact_le _ _
      by_cases hlt : k < rs.length
      · obtain ⟨b, off, r, rfl, hl, hr, h4⟩ := (h.row.below hb).four hlt
        have c0 := h4.c0
        have HS := Lib.hid (Lib.compactUpTo_succ (codesOf rs).toArray k)
        rw [← hys.out, codes_at hr.out] at HS
        by_cases hk0 : 0 < k
        · obtain ⟨b', off', qr, e2, hl', hq, h4'⟩ := (h.row.below hb).four (k := k - 1) (by omega)
          obtain ⟨rfl, rfl⟩ : b = b' ∧ off = off' := by injection e2 with e2; injection e2 with e3 e4; exact ⟨e3, e4⟩
          have p0 := h4'.c0
          rw [keeps_s hk0 hr.out hq.out] at HS
          have hkz : ((k : Int) == 0) = false := by rw [beq_eq_false_iff_ne]; omega
          clear h h4 hr hys h4' hq e2
          rcases Bool.eq_false_or_eq_true (r.c == qr.c) with he | he
          · have HS2 : Hid (ys = Lib.compactUpTo (codesOf rs).toArray (k + 1)) := Lib.hid (by rw [HS.out, he]; simp)
            have he2 : (r.c != qr.c) = false := by simpa using he
            clear HS
            go_wp2_with fail
            go_quiet (fail)
            go_wp2_with fail
            go_roundw
            case rel => exact ⟨k + 1, ys, by omega, by go_num, hown, HS2, belowGo hb (below_drewN _ _)⟩
            case measure => simp [intOf]; omega
          · have HS2 : Hid (ys ++ [r.c] = Lib.compactUpTo (codesOf rs).toArray (k + 1)) := Lib.hid (by rw [HS.out, he]; simp)
            have he2 : (r.c != qr.c) = true := by simpa using he
            clear HS
            have hdr : ∀ n, (wr.drewN n).ownsRow w.heap.size 9 1 (.slice O ys.length q) ys.length (ys.map encStr) := fun _ => hown
            have hbd : ∀ n, Below w.heap.size w (wr.drewN n) := fun n => belowGo hb (below_drewN _ _)
            have HB := Lib.hid hbd
            have HW := Lib.hid hdr
            clear hown hbd hdr
            go_wp2_with fail
            go_quiet (fail)
            go_wp2_with (at_builtin; refine wpList_push _ rfl (.tmp 32) (.tmp 38) 45 rfl w.heap.size 9 i0 _ 1 16 Try.underlying45 hi hz0 hz1 hz2 rfl (by decide) _ ys.length _ rfl (HW.out _) [.string ⟨r.c.toArray⟩] rfl (by simp [Value.oneCell']) rfl (by unfold maxLen; omega) (by omega) (HB.out _).size ?_; intro v' w' hown' hb')
            go_roundw
            case rel => exact ⟨k + 1, ys ++ [r.c], by omega, by go_num, by simpa using hown', HS2, (HB.out _).trans hb'⟩
            case measure => simp [intOf]; omega
        · have hkz : ((k : Int) == 0) = true := by rw [beq_iff_eq]; omega
          have HS2 : Hid (ys ++ [r.c] = Lib.compactUpTo (codesOf rs).toArray (k + 1)) := Lib.hid (by rw [HS.out, show k = 0 by omega, keeps_0]; rfl)
          clear h h4 hr hys HS
          have hdr : ∀ n, (wr.drewN n).ownsRow w.heap.size 9 1 (.slice O ys.length q) ys.length (ys.map encStr) := fun _ => hown
          have hbd : ∀ n, Below w.heap.size w (wr.drewN n) := fun n => belowGo hb (below_drewN _ _)
          have HB := Lib.hid hbd
          have HW := Lib.hid hdr
          clear hown hbd hdr
          go_wp2_with fail
          go_quiet (fail)
          go_wp2_with (at_builtin; refine wpList_push _ rfl (.tmp 32) (.tmp 38) 45 rfl w.heap.size 9 i0 _ 1 16 Try.underlying45 hi hz0 hz1 hz2 rfl (by decide) _ ys.length _ rfl (HW.out _) [.string ⟨r.c.toArray⟩] rfl (by simp [Value.oneCell']) rfl (by unfold maxLen; omega) (by omega) (HB.out _).size ?_; intro v' w' hown' hb')
          go_roundw
          case rel => exact ⟨k + 1, ys ++ [r.c], by omega, by go_num, by simpa using hown', HS2, (HB.out _).trans hb'⟩
          case measure => simp [intOf]; omega
      · have HY : Hid (ys = Lib.compact (codesOf rs)) := Lib.hid (by
          rw [hys.out, Lib.compact, show (codesOf rs).length = rs.length by simp [codesOf], show k = rs.length by omega])
        clear hys h
        go_wp2_with fail
        go_ret2
        rw [E.out, ← HY.out]
        exact ⟨O, q, rfl, hown, hb⟩
  · have HT := Lib.hid (tabS_q (c := d) h ht)
    have E := Lib.hid (curR_no ht)
    clear ht
    go_enter Try.func23, Try.ntmps23
    go_wp2_with (first | (go_at_call 54; refine HT.out.mono ?_; rintro e w1 ⟨rfl, b1⟩))
    go_ret2
    rw [E.out]
    exact ⟨none, 0, rfl, Ost.nil _ _, b1⟩

/-- slices.Compact on a row of the call's own. -/
theorem compact_i (O : Option Addr) (q : Nat) (ws : List (List UInt8)) (base : Nat) (w : World) (h : Ost w base O ws.length q ws) (hn : ws.length ≤ 1048576) :
    Calls Try.prog 60 #[.slice O ws.length q] w fun e w' => e = .returned (.slice O (Lib.compact ws).length q) ∧ Ost w' base O (Lib.compact ws).length q (Lib.compact ws) ∧ w.grownBy w' (Value.slice O ws.length q).ownBlock := by
  have hle : (Lib.compact ws).length ≤ ws.length := compact_le _ _
  rcases h.2 with ⟨h1, h2⟩ | ⟨g, cap, cur, h1, h2, h3, h4, h5, h6, h7⟩
  · obtain rfl : ws = [] := List.eq_nil_of_length_eq_zero h2
    refine (Try.slices_Compact_string_empty O q w).mono ?_
    rintro e w' ⟨rfl, rfl⟩
    exact ⟨rfl, h, World.grownBy.refl _ _⟩
  · injection h1 with h1 _ h8
    subst h1 h8
    have hH : Go.Sort.Holds encStr w g 0 ws.toArray := holds_of_block h3 (by simpa using h7)
    refine (Try.slices_Compact_string g 0 q ws w hH (by omega) h4).mono ?_
    rintro e w' ⟨rfl, n, rfl⟩
    have hl : (Lib.compact ws ++ List.replicate (ws.length - (Lib.compact ws).length) []).length = ws.length := by simp; omega
    have h9 := ownsRow_sorted (n := n) (os := #[]) (base := base) hl h2 h3 h4 h5 h6
    have h10 := grownBy_sorted (w := w) (g := g) (n := n) (os := #[]) (Lib.compact ws ++ List.replicate (ws.length - (Lib.compact ws).length) []).toArray
    rw [Go.Sort.grow_empty] at h9 h10
    refine ⟨rfl, ?_, h10⟩
    have h11 := own_take h9 hle
    rwa [← List.map_take, List.take_left'] at h11
    rfl
set_option maxRecDepth 100000 in
set_option maxHeartbeats 2000000 in
theorem cur_i (A : Option Addr) (d : Nat) (rs : List Rt) (w : World) (h : Tbl w A rs) :
    Calls Try.prog 22 #[.slice A rs.length d] w (NewStrsC w (curR rs)) := by
  obtain ⟨i0, hi, hz0, hz1, hz2⟩ := info_parts strInfo
  rcases Bool.eq_false_or_eq_true (tabB rs) with ht | ht
  · have HT := Lib.hid (tabI_q (c := d) h ht)
    have E := Lib.hid (curR_ok ht)
    have hn := h.len
    clear ht
    go_enter Try.func22, Try.ntmps22
    go_wp2_with (first | (go_at_call 17; refine HT.out.mono ?_; rintro e w1 ⟨rfl, b1⟩))
    go_loopw [4, 13] (fun o i wr => ∃ (k : Nat) (ys : List (List UInt8)), k ≤ rs.length ∧ i = .int .i64 k ∧ wr.ownsRow w.heap.size 9 1 o ys.length (ys.map encStr) ∧ Hid (ys = codesOf (rs.take k)) ∧ Below w.heap.size w wr) (fun _ i _ => rs.length - (intOf i).toNat)
    case atStart => exact ⟨0, [], Nat.zero_le _, rfl, made0 _ _ _ _ b1.size, Lib.hid rfl, b1.alloc b1.size _⟩
    case round =>
      obtain ⟨k, ys, hk, rfl, hown, hys, hb⟩ := hrel
      obtain ⟨O, q, rfl⟩ := own_form hown
      have hyl : ys.length ≤ k := by rw [hys.out]; unfold codesOf; rw [List.length_map, List.length_take]; omega
      by_cases hlt : k < rs.length
      · obtain ⟨b, off, r, rfl, hl, hr, h4⟩ := (h.row.below hb).four hlt
        have c0 := h4.c0; have c1 := h4.c1; have c2 := h4.c2; have c3 := h4.c3
        have HS2 : Hid (ys ++ [r.c] = codesOf (rs.take (k + 1))) := Lib.hid (by rw [snoc_of hr.out, hys.out]; simp [codesOf])
        have hown2 := hown.alloc (.cells #[.string ⟨r.c.toArray⟩, .int .i64 r.day, .int .i64 r.num, .int .i64 r.den] 30)
        have hsz : w.heap.size ≤ (wr.alloc (.cells #[.string ⟨r.c.toArray⟩, .int .i64 r.day, .int .i64 r.num, .int .i64 r.den] 30)).heap.size := Nat.le_trans hb.size (by simp)
        have hsz := Lib.hid hsz
        have hzz : Hid (wr.heap.size + 1 = (wr.alloc (.cells #[.string ⟨r.c.toArray⟩, .int .i64 r.day, .int .i64 r.num, .int .i64 r.den] 30)).heap.size) := Lib.hid (by simp)
        clear h h4 hr hys hown
        go_wp2_with (at_builtin; refine wpList_push _ rfl (.tmp 17) (.tmp 20) 45 rfl w.heap.size 9 i0 _ 1 16 Try.underlying45 hi hz0 hz1 hz2 rfl (by decide) _ ys.length _ rfl hown2 [.string ⟨r.c.toArray⟩] rfl (by simp [Value.oneCell']) (congrArg (fun n => Value.slice (some ⟨n, 0, none⟩) 1 1) hzz.out) (by unfold maxLen; omega) (by omega) hsz.out ?_; intro v' w' hown' hb')
        go_roundw
        case rel => exact ⟨k + 1, ys ++ [r.c], by omega, by go_num, by simpa using hown', HS2, (hb.alloc hb.size _).trans hb'⟩
        case measure => simp [intOf]; omega
      · have HY : Hid (ys = codesOf rs) := Lib.hid (by rw [hys.out, take_all hk hlt])
        have HC := Lib.hid (compact_i O q ys w.heap.size wr hown (by omega))
        have HL := Lib.hid (fun k e => (hown.lt k e).1)
        clear hys h
        go_wp2_with (go_at_call 60; refine HC.out.mono ?_; rintro e w2 ⟨rfl, o2, g2⟩)
        go_ret2
        rw [E.out, ← HY.out]
        exact ⟨O, q, rfl, o2, hb.grown g2 hb.size HL.out⟩
  · have HT := Lib.hid (tabI_q (c := d) h ht)
    have E := Lib.hid (curR_no ht)
    clear ht
    go_enter Try.func22, Try.ntmps22
    go_wp2_with (first | (go_at_call 17; refine HT.out.mono ?_; rintro e w1 ⟨rfl, b1⟩))
    go_ret2
    rw [E.out]
    exact ⟨none, 0, rfl, Ost.nil _ _, b1⟩
theorem curR_len (rs : List Rt) : (curR rs).1.length ≤ rs.length := by
  unfold curR; split
  · have := compact_le (codesOf rs).toArray (codesOf rs).length
    simpa [codesOf, Lib.compact] using this
  · simp

end Go.Proofs.Ytaehkkcaoniphaa

/- What the laws FnConverted and FnTables need, in plain lists and numbers. -/
namespace Go.Proofs.Ytaehkkcaoniphaa
open Go.ChangeShapes Go.WideShapes Go.ChangeAt Go.RowKit
set_option linter.unusedVariables false

theorem cross_swap (p q : Int × Int) : crossL q p = ((crossL p q).2, (crossL p q).1) := by
  unfold crossL
  rw [Int.mul_comm q.1 p.2, Int.mul_comm q.2 p.1, Nat.gcd_comm]
theorem ratesC_swap {rs : List Rt} {day : Int} {f t : List UInt8} : ratesC rs day [t, f] = ratesC rs day [f, t] := by
  unfold ratesC
  simp only [List.all_cons, List.all_nil, List.any_cons, List.any_nil, Bool.and_true, Bool.or_false]
  rw [Bool.and_comm (codeB t), Bool.or_comm (noRate rs day t)]
theorem cross_zero {rs : List Rt} {f t : List UInt8} {day : Int} (h : (crossR rs f t day).2.2 = 0) : ratesC rs day [f, t] = 0 := by
  by_cases h2 : ratesC rs day [f, t] = 0
  · exact h2
  · unfold crossR at h; rw [if_neg h2] at h; exact h
theorem cross_inv {rs : List Rt} {f t : List UInt8} {day : Int} (h : (crossR rs f t day).2.2 = 0) : crossR rs t f day = ((crossR rs f t day).2.1, (crossR rs f t day).1, 0) := by
  have h2 := cross_zero h
  unfold crossR
  rw [if_pos h2, if_pos (ratesC_swap.trans h2), cross_swap]
theorem ratesC_0 {rs : List Rt} {day : Int} {cs : List (List UInt8)} (h : ratesC rs day cs = 0) : tabB rs = true ∧ cs.all codeB = true ∧ inr day 0 36524 = true ∧ cs.any (noRate rs day) = false := by
  unfold ratesC at h
  split at h
  · split at h
    · split at h
      · cases h
      · rename_i h1 h2 h3
        rw [Bool.and_eq_true] at h1
        exact ⟨h1.1, h1.2, h2, by simpa using h3⟩
    · cases h
  · cases h
theorem cross_one {p : Int × Int} (h1 : 1 ≤ p.1) (h2 : 1 ≤ p.2) : crossL p p = (1, 1) := by
  unfold crossL
  rw [Int.mul_comm p.2 p.1, Nat.gcd_self]
  have := Int.mul_pos (show 0 < p.1 by omega) (show 0 < p.2 by omega)
  rw [show ((p.1 * p.2).toNat : Int) = p.1 * p.2 by omega, Int.ediv_self (by omega)]
theorem cross_same {rs : List Rt} {f t : List UInt8} {day : Int} (h : (crossR rs f t day).2.2 = 0) : crossR rs f f day = (1, 1, 0) := by
  obtain ⟨ht, hc, hd, hn⟩ := ratesC_0 (cross_zero h)
  simp only [List.all_cons, List.all_nil, List.any_cons, List.any_nil, Bool.and_true, Bool.or_false, Bool.and_eq_true, Bool.or_eq_false_iff] at hc hn
  have h2 : ratesC rs day [f, f] = 0 := rates_0 ht (by simp [hc.1]) hd (by simp [hn.1])
  have hb : 0 < (rateL f day rs).2 := by
    by_cases hb : 0 < (rateL f day rs).2
    · exact hb
    · have := (no_rate ht).2 hb; rw [hn.1] at this; cases this
  obtain ⟨a1, a2, a3⟩ := rate_good ht hb
  unfold crossR
  rw [if_pos h2, cross_one a1 (by omega)]
theorem cross_bd0 {rs : List Rt} {f t : List UInt8} {day : Int} (h : (crossR rs f t day).2.2 = 0) : 1 ≤ (crossR rs f t day).1 ∧ (crossR rs f t day).1 ≤ 1000000000000 ∧ 1 ≤ (crossR rs f t day).2.1 ∧ (crossR rs f t day).2.1 ≤ 1000000000000 := by
  rcases @crossR_k rs f t day with ⟨_, h2, h3, h4, h5⟩ | ⟨h1, _⟩ | ⟨h1, h2⟩
  · rw [h4, h5]; exact crossS_bd (cdB_0 h2).1 h3
  · omega
  · omega
theorem near_one {a : Int} (h : amt a = true) : nearR a 1 1 = (a, 0) := by
  have e : nearest (a * 1) 1 = a := by unfold nearest; omega
  rw [nearR_ok (by rw [e]; exact h), e]
theorem near_err (x : Int) {q : Int} (hq : 1 ≤ q) : 2 * (nearest x q * q - x) ≤ q ∧ 2 * (x - nearest x q * q) < q + 1 := by
  have h1 := Int.ediv_mul_le (2 * x + q) (show 2 * q ≠ 0 by omega)
  have h2 := Int.lt_ediv_add_one_mul_self (2 * x + q) (show 0 < 2 * q by omega)
  have e : (2 * x + q) / (2 * q) = nearest x q := rfl
  rw [e] at h1 h2
  rw [show nearest x q * (2 * q) = 2 * (nearest x q * q) by rw [Int.mul_left_comm]] at h1
  rw [Int.add_mul, Int.one_mul, show nearest x q * (2 * q) = 2 * (nearest x q * q) by rw [Int.mul_left_comm]] at h2
  omega
/-- What a conversion that went through tells. -/
theorem cv_ok {r : Int × Int × Int} {a : Int} (h : (cvR r a).2 = 0) : r.2.2 = 0 ∧ amt a = true ∧ (cvR r a).1 = nearest (a * r.1) r.2.1 ∧ amt (nearest (a * r.1) r.2.1) = true := by
  unfold cvR at *
  by_cases h1 : r.2.2 = 1
  · rw [if_pos h1] at h; cases h
  rw [if_neg h1] at *
  rcases Bool.eq_false_or_eq_true (amt a) with h2 | h2
  · rw [if_neg (show ¬ amt a = false by rw [h2]; exact Bool.noConfusion)] at *
    by_cases h3 : r.2.2 = 0
    · rw [if_neg (by simpa using h3)] at *
      rcases Bool.eq_false_or_eq_true (amt (nearest (a * r.1) r.2.1)) with h4 | h4
      · rw [nearR_ok h4]; exact ⟨h3, h2, rfl, h4⟩
      · rw [nearR_no h4] at h; cases h
    · rw [if_pos h3] at h; exact absurd h h3
  · rw [h2, if_pos rfl] at h; cases h
theorem cv_same {rs : List Rt} {f t : List UInt8} {day a : Int} (h : (cvR (crossR rs f t day) a).2 = 0) : cvR (crossR rs f f day) a = (a, 0) := by
  obtain ⟨h1, h2, _, _⟩ := cv_ok h
  rw [cross_same h1]
  unfold cvR
  rw [if_neg (by decide), h2, if_neg (by decide), if_neg (by decide)]
  exact near_one h2
/-- The last line of the law. -/
theorem cv_line {rs : List Rt} {f t : List UInt8} {day a : Int} (h : (cvR (crossR rs f t day) a).2 = 0) (ha : a ≤ 1000000) (hq : (crossR rs f t day).2.1 ≤ 1000000000) (hp : (crossR rs f t day).1 ≤ 1000000000) :
    2 * ((cvR (crossR rs f t day) a).1 * (crossR rs f t day).2.1 - a * (crossR rs f t day).1) ≤ (crossR rs f t day).2.1 ∧ 2 * (a * (crossR rs f t day).1 - (cvR (crossR rs f t day) a).1 * (crossR rs f t day).2.1) < (crossR rs f t day).2.1 + 1 ∧
    0 ≤ a * (crossR rs f t day).1 ∧ a * (crossR rs f t day).1 ≤ 1000000000000000 ∧ 0 ≤ (cvR (crossR rs f t day) a).1 * (crossR rs f t day).2.1 ∧ (cvR (crossR rs f t day) a).1 * (crossR rs f t day).2.1 ≤ 1000001000000000 := by
  obtain ⟨h1, h2, h3, h4⟩ := cv_ok h
  obtain ⟨b1, b2, b3, b4⟩ := cross_bd0 h1
  obtain ⟨a0, _⟩ := amt_iff.1 h2
  obtain ⟨n0, _⟩ := amt_iff.1 h4
  rw [h3]
  generalize (crossR rs f t day).1 = p at *
  generalize (crossR rs f t day).2.1 = q at *
  have e := near_err (a * p) b3
  have hx : a * p ≤ 1000000 * 1000000000 := Int.le_trans (Int.mul_le_mul_of_nonneg_right ha (by omega)) (Int.mul_le_mul_of_nonneg_left hp (by omega))
  have hx0 := Int.mul_nonneg a0 (show 0 ≤ p by omega)
  have hn0 := Int.mul_nonneg n0 (show 0 ≤ q by omega)
  omega

/-! ### a rate that was added is found on its day -/
theorem addS_mem {r : Rt} (rs : List Rt) : (addS r rs).2 = true → r ∈ (addS r rs).1 := by
  refine rev_ind (P := fun rs => (addS r rs).2 = true → r ∈ (addS r rs).1) ?_ ?_ rs
  · intro h; cases h
  · intro rs x ih h
    rw [addS_snoc] at *
    unfold stepA at *
    simp only at *
    have key : (if (!(addS r rs).2 && (sameR x r || bef r x)) = true then (addS r rs).1 ++ [r] else (addS r rs).1) = (addS r rs).1 ++ [r] ∨ r ∈ (if (!(addS r rs).2 && (sameR x r || bef r x)) = true then (addS r rs).1 ++ [r] else (addS r rs).1) := by
      by_cases hc : (!(addS r rs).2 && (sameR x r || bef r x)) = true
      · rw [if_pos hc]; exact .inl rfl
      · rw [if_neg hc]
        right
        apply ih
        cases h2 : (addS r rs).2 with
        | true => rfl
        | false => rw [h2] at h hc; simp only [Bool.false_or] at h; rw [h] at hc; exact absurd rfl hc
    have key2 : r ∈ (if (!(addS r rs).2 && (sameR x r || bef r x)) = true then (addS r rs).1 ++ [r] else (addS r rs).1) := by
      rcases key with k | k
      · rw [k]; simp
      · exact k
    split
    · exact key2
    · exact List.mem_append_left _ key2
theorem addL_mem (rs : List Rt) (r : Rt) : r ∈ addL rs r := by
  unfold addL
  split
  · rename_i h; exact addS_mem rs h
  · simp
theorem add_found {rs : List Rt} {r : Rt} (h : (addR rs r).2 = 0) : tabB (addR rs r).1 = true ∧ rateR (addR rs r).1 r.c r.day = (r.num, r.den, 0) := by
  rcases Bool.eq_false_or_eq_true (tabB rs) with ht | ht
  · rcases Bool.eq_false_or_eq_true (tabB (addL rs r)) with h2 | h2
    · rw [addR_0 ht h2]
      refine ⟨h2, ?_⟩
      have hm := addL_mem rs r
      simp only
      generalize addL rs r = T at h2 hm
      obtain ⟨k, hk, hkr⟩ := List.mem_iff_getElem.1 hm
      obtain ⟨o1, o2, o3, o4, o5⟩ := Rt.ok_iff.1 (tab_ok h2 (k := k) (r := r) (by simp [hk, hkr]))
      have hl : rateL r.c r.day T = (r.num, r.den) := by
        unfold rateL
        rw [if_neg o2]
        cases hq : lastOn r.c r.day T with
        | none => exact absurd ⟨rfl, Int.le_refl _⟩ (lastOn_none hq r hm)
        | some q =>
          obtain ⟨_, _, _, hd, _⟩ := lastOn_some hq
          have := lastOn_max h2 hq hm rfl (Int.le_refl _) hd
          subst this; rfl
      have hz : ratesC T r.day [r.c] = 0 := rates_0 h2 (by simp [o1]) (inr_iff.2 o3) (by
        have : noRate T r.day r.c = false := by unfold noRate; rw [hl]; exact beq_eq_false_iff_ne.2 (by simp only; omega)
        simp [this])
      unfold rateR
      rw [if_pos hz, hl]
    · rw [addR_1 ht h2] at h; cases h
  · rw [addR_no ht] at h; cases h

/-! ### days grow -/
theorem days_inc {rs : List Rt} {c : List UInt8} (h : (daysR rs c).2 = 0) : ∀ (i : Nat) (x y : Int), (daysR rs c).1[i]? = some x → (daysR rs c).1[i + 1]? = some y → x < y := by
  by_cases ht : tabB rs = true ∧ codeB c = true
  · by_cases hd : daysOf c rs = []
    · rw [daysR_nil ht.1 ht.2 hd] at h; cases h
    · rw [daysR_ok ht.1 ht.2 hd]
      have hp : List.Pairwise (· < ·) (daysOf c rs) := by
        unfold daysOf
        rw [List.pairwise_map, List.pairwise_filter, List.pairwise_iff_getElem]
        intro i j hi hj hij hci hcj
        have hb := tab_before ht.1 hij (q := rs[i]) (r := rs[j]) (by simp [hi]) (by simp [hj])
        have e1 := beq_iff_eq.1 hci
        have e2 := beq_iff_eq.1 hcj
        unfold bef at hb
        rw [e1, e2, less_irr] at hb
        simpa using hb
      intro i x y hx hy
      obtain ⟨h1, e1⟩ := List.getElem?_eq_some_iff.1 hx
      obtain ⟨h2, e2⟩ := List.getElem?_eq_some_iff.1 hy
      rw [← e1, ← e2]
      exact List.pairwise_iff_getElem.1 hp i (i + 1) h1 h2 (by omega)
  · rw [daysR_no (by
      by_cases h1 : tabB rs = true
      · right; cases h2 : codeB c with
        | false => rfl
        | true => exact absurd ⟨h1, h2⟩ ht
      · left; simpa using h1)] at h; cases h
theorem cur_tab (rs : List Rt) : ((curR rs).2 = 0 ∧ tabB rs = true) ∨ ((curR rs).2 = 1 ∧ tabB rs = false) := by
  rcases Bool.eq_false_or_eq_true (tabB rs) with h | h
  · rw [curR_ok h]; exact .inl ⟨rfl, h⟩
  · rw [curR_no h]; exact .inr ⟨rfl, h⟩
end Go.Proofs.Ytaehkkcaoniphaa

/- The law FnTables. -/
namespace Go.Proofs.Ytaehkkcaoniphaa
open Go.ChangeShapes Go.WideShapes Go.ChangeAt Go.RowKit
set_option linter.unusedVariables false

theorem bigx (A : Option Addr) (c : Nat) (bs : List Int) (w : World) (h : bs.length ≤ maxLen) :
    Calls Try.prog 6 #[.slice A bs.length c] w fun e w' => e = .returned (.bool (decide (4096 < bs.length))) ∧ w = w' := by
  unfold maxLen at h
  go_enter Try.func6, Try.ntmps6
  go_wp2
  all_goals go_ret
  all_goals exact ⟨congrArg (fun b => Ending.returned (Value.bool b)) (decide_eq_decide.2 (by omega)), rfl⟩

set_option maxRecDepth 100000 in
set_option maxHeartbeats 8000000 in
theorem law_FnTables (A : Option Addr) (c : Nat) (bs : List Int) (w : World) (hA : Rw w A (bs.map (Value.int .u8))) (hm : bs.length ≤ maxLen) (hb : ∀ b ∈ bs, 0 ≤ b ∧ b ≤ 255) (hB : bs ≠ [] → Bd A w.heap.size) :
    Calls Try.prog 4 #[.slice A bs.length c] w fun e w' => e = .returned (.bool true) ∧ Below w.heap.size w w' := by
  by_cases hl : 4096 < bs.length
  · have hd : decide (4096 < bs.length) = true := by simpa using hl
    go_enter Try.func4, Try.ntmps4
    go_wp2_with (go_at_call 6; refine (bigx _ _ _ _ hm).mono ?_; rintro e w' ⟨rfl, rfl⟩)
    go_ret
    exact ⟨rfl, Below.refl _ _⟩
  have hd : decide (4096 < bs.length) = false := by simpa using hl
  have h0 : Code0 w A bs := ⟨hA, hB, hb, by omega⟩
  clear hA hB hb
  go_enter Try.func4, Try.ntmps4
  go_wp2_with (go_at_call 6; refine (bigx _ _ _ _ hm).mono ?_; rintro e w' ⟨rfl, rfl⟩)
  refine (drawCR A c bs _ h0).mono ?_
  rintro e w1 ⟨B, d, rs, f, t, y, rfl, d1, lf, lt, q1⟩
  clear hm hl hd
  have HI := Lib.hid (fun f t w h hf ht => crossRate_i B d rs f t y w h hf ht)
  have HS := Lib.hid (fun w h => crossRate_s B d rs f t y w h (by omega) (by omega))
  have HV := Lib.hid (@cross_inv rs f t y)
  have HI1 := Lib.hid (fun w h => HI.out f t w h (by omega) (by omega))
  have HI2 := Lib.hid (fun w h => HI.out t f w h (by omega) (by omega))
  generalize crossR rs f t y = r1 at HV HS HI1
  generalize crossR rs t f y = r2 at HV HI2
  obtain ⟨p1, p2, k1⟩ := r1
  simp only at HV
  clear HI lf lt
  go_wp2_with fail
  refine (HI1.out _ d1.tbl).mono ?_
  rintro e w2 ⟨rfl, b2⟩
  have d2 := d1.below b2
  have q2 := belowGo q1 b2
  go_wp2_with fail
  refine (HS.out _ d2.tbl).mono ?_
  rintro e w3 ⟨rfl, b3⟩
  have d3 := d2.below b3
  have q3 := belowGo q2 b3
  clear HS HI1 d1 d2 b2 b3 q1 q2
  go_wp2_with fail
  refine (drawCU A c bs _ (h0.below q3)).mono ?_
  rintro e w4 ⟨X, x, xs, rfl, x4, b4⟩
  have d4 := d3.below b4
  have q4 := belowGo q3 b4
  have HC1 := Lib.hid (cur_i X x xs)
  have HC2 := Lib.hid (cur_s X x xs)
  have HT := Lib.hid (cur_tab xs)
  have HN := Lib.hid (curR_len xs)
  generalize curR xs = cu at HC1 HC2 HT HN
  go_wp2_with fail
  refine (HC1.out _ x4.tbl).mono ?_
  rintro e w5 ⟨L, l, rfl, o5, b5⟩
  have d5 := d4.below b5
  have x5 := x4.below b5
  have q5 := belowGo q4 b5
  go_wp2_with fail
  refine (HC2.out _ x5.tbl).mono ?_
  rintro e w6 ⟨M, m, rfl, o6, b6⟩
  have d6 := d5.below b6
  have x6 := x5.below b6
  have q6 := belowGo q5 b6
  have l6 := (o5.below b6).sr
  have m6 := o6.sr
  clear HC1 HC2 d3 d4 d5 b4 b5 b6 q3 q4 q5 x4 x5 o5 o6
  go_wp2_with fail
  refine (drawDR A c bs _ (h0.below q6)).mono ?_
  rintro e w7 ⟨Y, yc, ys, s, rfl, y7, ls, b7⟩
  have d7 := d6.below b7
  have x7 := x6.below b7
  have l7 := l6.below b7
  have m7 := m6.below b7
  have q7 := belowGo q6 b7
  have HD1 := Lib.hid (fun w h => days_i Y yc ys s w h (by omega))
  have HD2 := Lib.hid (fun w h => days_s Y yc ys s w h (by omega))
  have HG := Lib.hid (@days_inc ys s)
  have HDL : Hid ((daysR ys s).1.length ≤ 60) := Lib.hid (by
    have h1 := y7.1
    unfold daysR; split
    · split
      · simp
      · exact Nat.le_trans (daysOf_len s ys) h1
    · simp)
  generalize daysR ys s = dy at HD1 HD2 HG HDL
  obtain ⟨dy, k3⟩ := dy
  simp only at HG HDL
  go_wp2_with fail
  refine (HD1.out _ y7.tbl).mono ?_
  rintro e w8 ⟨E, ec, rfl, e8, b8⟩
  have d8 := d7.below b8
  have x8 := x7.below b8
  have y8 := y7.below b8
  have l8 := l7.below b8
  have m8 := m7.below b8
  have q8 := belowGo q7 b8
  go_wp2_with fail
  refine (HD2.out _ y8.tbl).mono ?_
  rintro e w9 ⟨F, fc, rfl, f9, b9⟩
  have d9 := d8.below b9
  have x9 := x8.below b9
  have e9 := (e8.below b9).ir
  have f9' := f9.ir
  have l9 := l8.below b9
  have m9 := m8.below b9
  have q9 := belowGo q8 b9
  clear HD1 HD2 d6 d7 d8 b7 b8 b9 q6 q7 q8 x6 x7 x8 y7 y8 e8 f9 l6 l7 l8 m6 m7 m8 ls
  go_wp2_with fail
  refine (drawIC A c bs _ (h0.below q9)).mono ?_
  rintro e w10 ⟨u, rfl, lu, b10⟩
  have d10 := d9.below b10
  have x10 := x9.below b10
  have e10 := e9.below b10
  have f10 := f9'.below b10
  have l10 := l9.below b10
  have m10 := m9.below b10
  have q10 := belowGo q9 b10
  clear d9 x9 e9 f9' l9 m9 q9 b10 h0
  have HLT := Lib.hid (fun w h1 h2 => likeT L M cu.1.length cu.1.length l m cu.1 w h1 h2 rfl rfl (by have := HN.out; have := x10.1; omega))
  have HLI := Lib.hid (fun w h1 h2 => likeI E F dy.length dy.length ec fc dy w h1 h2 rfl rfl (by have := HDL.out; omega))
  have HTB := Lib.hid (fun w b h => @tabI_q w X x xs b h)
  have HK1 := Lib.hid (fun w => isCode_i u w (by omega))
  have HK2 := Lib.hid (fun w => isCode_s u w (by omega))
  generalize codeB u = cb at HK1 HK2
  obtain ⟨cl, k2⟩ := cu
  have hdl := HDL.out
  simp only at HT
  clear lu HN
  rcases HT.out with ⟨rfl, ht⟩ | ⟨rfl, ht⟩
  all_goals
    have HTB := Lib.hid (fun w h => HTB.out w _ h ht)
    clear HT ht
    go_wp2_with (first
      | (go_at_call 28; refine (HLT.out _ l10 m10).mono ?_; rintro e w11 ⟨rfl, b11⟩; have d11 := d10.below b11; have x11 := x10.below b11; have e11 := e10.below b11; have f11 := f10.below b11; have q11 := belowGo q10 b11; clear d10 x10 e10 f10 q10 l10 m10 b11)
      | (go_at_call 29; refine (HLI.out _ e11 f11).mono ?_; rintro e w12 ⟨rfl, b12⟩; have d12 := d11.below b12; have x12 := x11.below b12; have e12 := e11.below b12; have q12 := belowGo q11 b12; clear d11 x11 e11 f11 q11 b12)
      | (go_at_call 17; refine (HTB.out _ x12.tbl).mono ?_; rintro e w13 ⟨rfl, b13⟩; have d13 := d12.below b13; have e13 := e12.below b13; have q13 := belowGo q12 b13; clear d12 x12 e12 q12 b13)
      | (go_at_call 30; refine (HK1.out _).mono ?_; rintro e w14 ⟨rfl, rfl⟩)
      | (go_at_call 31; refine (HK2.out _).mono ?_; rintro e w15 ⟨rfl, rfl⟩))
    go_loopw [25] (fun i wr => ∃ k : Nat, 1 ≤ k ∧ k ≤ 61 ∧ i = .int .i64 k ∧ ∃ n, wr = w13.drewN n) (fun i _ => 61 - (intOf i).toNat)
    case atStart => exact ⟨1, by omega, by omega, rfl, 0, rfl⟩
    case round =>
      obtain ⟨k, hk1, hk, rfl, n, rfl⟩ := hrel
      by_cases h3 : k3 = 0 ∧ k < dy.length
      · obtain ⟨rfl, hlt⟩ := h3
        obtain ⟨b, off, v1, rfl, hc, hv1⟩ := e13.at hlt
        obtain ⟨b', off', v0, hbo, hc0, hv0⟩ := e13.at (show k - 1 < dy.length by omega)
        obtain ⟨rfl, rfl⟩ : b = b' ∧ off = off' := by injection hbo with h; injection h with h1 h2; exact ⟨h1, h2⟩
        have hinc := HG.out rfl (k - 1) v0 v1 hv0.out (by rw [Nat.sub_add_cancel hk1]; exact hv1.out)
        have hk0 : ((k : Int) - 1) = ((k - 1 : Nat) : Int) := by omega
        clear hbo hv0 hv1 HG
        go_wp2_with fail
        go_quiet (fail)
        go_wp2_with fail
        go_roundw
        case rel => exact ⟨k + 1, by omega, by omega, by go_num, _, rfl⟩
        case measure => simp [intOf]; omega
      · have d14 := d13.below (below_drewN w13 n)
        have q14 := belowGo q13 (below_drewN w13 n)
        by_cases hz : k1 = 0
        · subst hz
          have E := HV.out rfl
          subst E
          by_cases h4 : k3 = 0
          · subst h4
            have hnl : ¬ k < dy.length := fun h => h3 ⟨rfl, h⟩
            clear h3
            go_wp2_with fail
            refine (HI2.out _ d14.tbl).mono ?_
            rintro e w16 ⟨rfl, b16⟩
            go_wp2_with fail
            go_ret
            exact ⟨rfl, belowGo q14 b16⟩
          · clear h3
            go_wp2_with fail
            refine (HI2.out _ d14.tbl).mono ?_
            rintro e w16 ⟨rfl, b16⟩
            go_wp2_with fail
            go_ret
            exact ⟨rfl, belowGo q14 b16⟩
        · by_cases h4 : k3 = 0
          · subst h4
            have hnl : ¬ k < dy.length := fun h => h3 ⟨rfl, h⟩
            clear h3
            go_wp2_with fail
            go_ret
            exact ⟨rfl, q14⟩
          · clear h3
            go_wp2_with fail
            go_ret
            exact ⟨rfl, q14⟩
end Go.Proofs.Ytaehkkcaoniphaa

