import Derived.Test.YtifioecofeojpaaGreatDoorMText
import Derived.Lib.ParseIntBTie
import Derived.Lib.AtoiTie
import Derived.Lib.AtoiErrMem
import Derived.Stop.LaidErr
import Derived.Lib.AtoiErr
/- The library reads a number. -/
namespace Go.Proofs.YtifioecofeojpaaGreatDoor
open Go.ChangeShapes Go.WideShapes Go.ChangeAt Go.RowKit
set_option linter.unusedVariables false

theorem dec_head (u : Nat) : ∃ b r, Lib.decDigits u = b :: r ∧ 48 ≤ b.toNat ∧ b.toNat ≤ 57 := by
  induction u using Nat.strongRecOn with
  | ind u ih =>
    by_cases h : u < 10
    · refine ⟨UInt8.ofNat (48 + u), [], Lib.decDigits_one h, ?_, ?_⟩ <;> simp [UInt8.toNat_ofNat'] <;> omega
    · obtain ⟨b, r, e, h1, h2⟩ := ih (u / 10) (by omega)
      exact ⟨b, r ++ [UInt8.ofNat (48 + u % 10)], by rw [dec_hi2 h, e]; rfl, h1, h2⟩
theorem dv (d : Nat) (h : d < 10) : Lib.digitVal (UInt8.ofNat (48 + d)) = some d := by
  have e : (UInt8.ofNat (48 + d)).toNat = 48 + d := by simp [UInt8.toNat_ofNat']; omega
  unfold Lib.digitVal; rw [e, if_pos (by omega)]; congr 1; omega
theorem from_dec (u : Nat) : ∀ r, Lib.decFrom 0 (Lib.decDigits u ++ r) = Lib.decFrom u r := by
  induction u using Nat.strongRecOn with
  | ind u ih =>
    intro r
    by_cases h : u < 10
    · rw [Lib.decDigits_one h]
      simp only [List.singleton_append, Lib.decFrom, dv u h]
      congr 1; omega
    · rw [dec_hi2 h, List.append_assoc, ih (u / 10) (by omega)]
      simp only [List.singleton_append, Lib.decFrom, dv (u % 10) (by omega)]
      congr 1; omega
theorem nat_two (u : Nat) : Lib.decNat (Lib.decDigits (u / 100) ++ two (u % 100)) = some u := by
  obtain ⟨b, r, e, _, _⟩ := dec_head (u / 100)
  unfold Lib.decNat
  rw [e]
  simp only [List.cons_append, List.isEmpty_cons]
  rw [← List.cons_append, ← e, from_dec]
  unfold two
  simp only [Lib.decFrom, dv (u % 100 / 10) (by omega), dv (u % 100 % 10) (by omega), Bool.false_eq_true, if_false]
  congr 1; omega
theorem atoi_neg (l : List UInt8) : Lib.atoi (45 :: l) = (Lib.decNat l).map fun (m : Nat) => -(m : Int) := rfl
theorem atoi_plain {b : UInt8} {r : List UInt8} (h : 48 ≤ b.toNat) : Lib.atoi (b :: r) = (Lib.decNat (b :: r)).map fun (m : Nat) => (m : Int) := by
  have h1 : (b == 45) = false := by
    rw [beq_eq_false_iff_ne]; rintro rfl; exact absurd h (by decide)
  have h2 : (b == 43) = false := by
    rw [beq_eq_false_iff_ne]; rintro rfl; exact absurd h (by decide)
  simp [Lib.atoi, h1, h2]

/-- One of the library's errors is laid. -/
def ErrVar (n : String) (w : World) : Prop := ∃ tp p, w.var? Tryz.prog n = some #[.iface tp p]
theorem ErrVar.below {n : String} {w w' : World} (h : ErrVar n w) (hb : Below w.heap.size w w') : ErrVar n w' := by
  obtain ⟨tp, p, h⟩ := h
  refine ⟨tp, p, ?_⟩
  unfold World.var? at *
  cases hg : Tryz.prog.globalNamed n with
  | none => simp [hg] at h
  | some g =>
    simp only [hg, Option.bind_some] at h ⊢
    have hlt : g < w.heap.size := by
      rcases Nat.lt_or_ge g w.heap.size with h1 | h1
      · exact h1
      · rw [Array.getElem?_eq_none h1] at h; simp at h
    rw [hb.block g hlt]; exact h

/-- What reading a string of digits asks of the world. -/
structure Lib3 (w : World) : Prop where
  tab : Tab w
  syn : ErrVar "strconv.ErrSyntax" w
  ran : ErrVar "strconv.ErrRange" w
theorem Lib3.below {w w' : World} (h : Lib3 w) (hb : Below w.heap.size w w') : Lib3 w' := ⟨h.tab.below hb, h.syn.below hb, h.ran.below hb⟩

theorem parse_ok (l : List UInt8) (hl : l.length ≤ 1048576) {v : Int} (hp : Lib.parseIntB 64 l = .ok v) (w : World) : Calls Tryz.prog 23 #[.string ⟨l.toArray⟩, .int .i64 10, .int .i64 64] w fun e w' => e = .returned (.tuple #[.int .i64 v, .nilIface]) ∧ Below w.heap.size w w' := by
  have hs : (⟨l.toArray⟩ : ByteArray).size = l.length := rfl
  refine (Tryz.strconv_ParseInt_10_at64_ok ⟨l.toArray⟩ (by omega) v (by simpa using hp) w).mono ?_
  rintro e w' ⟨rfl, hw⟩
  refine ⟨rfl, ?_⟩
  rcases hw with rfl | ⟨t, rfl⟩
  · exact Below.refl _ _
  · exact Lib.bytesWorld_below _ _ _
theorem parse_no (l : List UInt8) (hl : l.length ≤ 1048576) (hp : ∀ v, Lib.parseIntB 64 l ≠ .ok v) (w : World) (h : Lib3 w) : Calls Tryz.prog 23 #[.string ⟨l.toArray⟩, .int .i64 10, .int .i64 64] w fun e w' => ∃ x t p, e = .returned (.tuple #[.int .i64 x, .iface t p]) ∧ Below w.heap.size w w' := by
  have hs : (⟨l.toArray⟩ : ByteArray).size = l.length := rfl
  rcases hq : Lib.parseIntB 64 l with v | _ | _
  · exact absurd hq (hp v)
  · obtain ⟨tp, p, hv⟩ := h.syn
    refine (Tryz.strconv_ParseInt_10_at64_syntax_var ⟨l.toArray⟩ (by omega) (by simpa using hq) tp p w hv).mono ?_
    rintro e w' ⟨N, rfl, _, _, hb⟩
    exact ⟨_, _, _, rfl, hb⟩
  · obtain ⟨tp, p, hv⟩ := h.ran
    refine (Tryz.strconv_ParseInt_10_at64_range_var ⟨l.toArray⟩ (by omega) (by simpa using hq) tp p w hv).mono ?_
    rintro e w' ⟨N, rfl, _, _, hb⟩
    exact ⟨_, _, _, rfl, hb⟩

theorem str_len (l : List UInt8) : (⟨l.toArray⟩ : ByteArray).size = l.length := rfl
/-- What ParseInt gives, error or not. -/
theorem parse_any (l : List UInt8) (hl : l.length ≤ 1048576) (w : World) (h : Lib3 w) : Calls Tryz.prog 23 #[.string ⟨l.toArray⟩, .int .i64 10, .int .i64 64] w fun e w' =>
    ∃ x v, e = .returned (.tuple #[.int .i64 x, v]) ∧ (∀ u, Lib.parseIntB 64 l = .ok u → x = u) ∧ Below w.heap.size w w' := by
  by_cases hp : ∃ v, Lib.parseIntB 64 l = .ok v
  · obtain ⟨v, hv⟩ := hp
    refine (parse_ok l hl hv w).mono ?_
    rintro e w' ⟨rfl, b⟩
    exact ⟨v, _, rfl, fun u hu => by rw [hv] at hu; cases hu; rfl, b⟩
  · refine (parse_no l hl (fun v e => hp ⟨v, e⟩) w h).mono ?_
    rintro e w' ⟨x, t, p, rfl, b⟩
    exact ⟨x, _, rfl, fun u hu => absurd ⟨u, hu⟩ hp, b⟩
end Go.Proofs.YtifioecofeojpaaGreatDoor

/- spec.l01Value reads a number. -/
namespace Go.Proofs.YtifioecofeojpaaGreatDoor
open Go.ChangeShapes Go.WideShapes Go.ChangeAt Go.RowKit
set_option linter.unusedVariables false

/-- What l01Value answers. -/
def valR (s : List UInt8) : Int × Bool := if 1 ≤ s.length ∧ s.length ≤ 13 then match Lib.decFrom 0 s with
  | some n => ((n : Int), Lib.decDigits n == s)
  | none => (0, false) else (0, false)
theorem valR_some {s : List UInt8} {n : Nat} (h : 1 ≤ s.length ∧ s.length ≤ 13) (e : Lib.decFrom 0 s = some n) : valR s = ((n : Int), Lib.decDigits n == s) := by
  unfold valR; rw [if_pos h, e]
theorem valR_none {s : List UInt8} (h : 1 ≤ s.length ∧ s.length ≤ 13) (e : Lib.decFrom 0 s = none) : valR s = (0, false) := by
  unfold valR; rw [if_pos h, e]
theorem valR_len {s : List UInt8} (h : ¬ (1 ≤ s.length ∧ s.length ≤ 13)) : valR s = (0, false) := by
  unfold valR; rw [if_neg h]

theorem from_app (a b : List UInt8) : ∀ acc, Lib.decFrom acc (a ++ b) = (Lib.decFrom acc a).bind fun n => Lib.decFrom n b := by
  induction a with
  | nil => intro acc; rfl
  | cons c r ih =>
    intro acc
    simp only [List.cons_append, Lib.decFrom]
    cases Lib.digitVal c with
    | none => rfl
    | some d => exact ih _
theorem from_bad {s : List UInt8} {k : Nat} {b : UInt8} (h : s[k]? = some b) (hd : Lib.digitVal b = none) : Lib.decFrom 0 s = none := by
  cases he : Lib.decFrom 0 s with
  | none => rfl
  | some n =>
    obtain ⟨d, e⟩ := Lib.digit_of_decFrom s 0 n he k b h
    rw [hd] at e; cases e

theorem at_str (s : List UInt8) (k : Nat) (b : UInt8) (hb : s[k]? = some b) : ∀ h, ((⟨s.toArray⟩ : ByteArray)[k]'h).toNat = b.toNat := by
  intro h
  obtain ⟨h2, e⟩ := List.getElem?_eq_some_iff.1 hb
  rw [← e]; rfl
set_option maxHeartbeats 800000 in
theorem val_s (s : List UInt8) (hl : s.length ≤ 1048576) (w : World) : Calls Tryz.prog 30 #[.string ⟨s.toArray⟩] w fun e w' => e = .returned (.tuple #[.int .i64 (valR s).1, .bool (valR s).2]) ∧ Below w.heap.size w w' := by
  have hs := str_len s
  by_cases h13 : 1 ≤ s.length ∧ s.length ≤ 13
  · obtain ⟨g1, g2⟩ := h13
    go_enter Tryz.func30, Tryz.ntmps30
    go_wp2_with fail
    go_loop [4, 5] (fun a i => ∃ (k n : Nat), k ≤ s.length ∧ i = .int .i64 k ∧ a = .int .i64 n ∧ Hid (Lib.decFrom 0 (s.take k) = some n) ∧ n < 10000000000000) (fun _ i => s.length - (intOf i).toNat)
    case atStart => exact ⟨0, 0, Nat.zero_le _, rfl, rfl, Lib.hid rfl, by omega⟩
    case round =>
      obtain ⟨k, n, hk, rfl, rfl, ht, hn⟩ := hrel
      by_cases hlt : k < s.length
      · obtain ⟨b, hb⟩ : ∃ b, s[k]? = some b := ⟨s[k], by simp [hlt]⟩
        have hbk := at_str s k b hb
        by_cases hd : ∃ d, Lib.digitVal b = some d
        · obtain ⟨d, hd⟩ := hd
          obtain ⟨d1, d2, d3⟩ := Lib.digitVal_eq hd
          have HT : Lib.decFrom 0 (s.take (k + 1)) = some (n * 10 + d) := Lib.decFrom_take s k 0 n b d ht.out hb hd
          have hn2 : n * 10 + d < 10000000000000 := by
            have h1 := Lib.decFrom_lt _ _ _ HT
            have h2 : (s.take (k + 1)).length ≤ 13 := by simp; omega
            have h3 : 10 ^ (s.take (k + 1)).length ≤ 10 ^ 13 := Nat.pow_le_pow_right (by decide) h2
            omega
          have HT := Lib.hid HT
          clear hb hd ht
          go_wp2_with fail
          go_round
          case rel => exact ⟨k + 1, n * 10 + d, by omega, by go_num, by subst d3; go_num, HT, hn2⟩
          case measure => simp [intOf]; omega
        · have hn0 : Lib.digitVal b = none := by
            cases h : Lib.digitVal b with
            | none => rfl
            | some d => exact absurd ⟨d, h⟩ hd
          have E := Lib.hid (valR_none ⟨g1, g2⟩ (from_bad hb hn0))
          clear hb hd ht
          rcases Lib.digitVal_none hn0 with g | g
          · clear hn0
            go_wp2_with fail
            go_ret2
            exact ⟨by rw [E.out] <;> rfl, Below.refl _ _⟩
          · have g3 : ¬ b.toNat < 48 := by omega
            clear hn0
            go_wp2_with fail
            go_ret2
            exact ⟨by rw [E.out] <;> rfl, Below.refl _ _⟩
      · have e0 : Lib.decFrom 0 s = some n := by have := ht.out; rwa [take_all hk hlt] at this
        have E := Lib.hid (valR_some ⟨g1, g2⟩ e0)
        have HD := Lib.hid (dec_any 18 n w (by omega) (by omega))
        clear ht e0
        go_wp2_with fail
        refine HD.out.mono ?_
        rintro e w1 ⟨rfl, b1⟩
        go_wp2_with fail
        go_ret2
        exact ⟨by rw [E.out] <;> rfl, b1⟩
  · have E := Lib.hid (valR_len h13)
    rcases (by omega : s.length < 1 ∨ (¬ s.length < 1 ∧ 13 < s.length)) with g | ⟨g, g2⟩
    · clear h13
      go_enter Tryz.func30, Tryz.ntmps30
      go_wp2_with fail
      go_ret2
      exact ⟨by rw [E.out] <;> rfl, Below.refl _ _⟩
    · have d : decide ((13 : Int) < (s.length : Int)) = true := by simp; omega
      clear h13
      go_enter Tryz.func30, Tryz.ntmps30
      go_wp2_with fail
      go_ret2
      exact ⟨by rw [E.out] <;> rfl, Below.refl _ _⟩
end Go.Proofs.YtifioecofeojpaaGreatDoor

/- The library's two errors of a number's text, as the laid variables give them. -/
namespace Go.Proofs.YtifioecofeojpaaGreatDoor
open Go.ChangeShapes Go.WideShapes Go.ChangeAt Go.RowKit
set_option linter.unusedVariables false

theorem star_err : "*" ++ "errors.errorString" = "*errors.errorString" := by decide
theorem row_err (u : TypeId) (h : Tryz.prog.typeName? 3 u = some "*errors.errorString") : u = 135 :=
  typeName_ptr_named (nm := "errors.errorString") (by rw [star_err]; kernel_rfl) (by kernel_rfl) (by decide) u (by rw [star_err]; exact h)
theorem syn_of {r : List (String × DataW Unit)} {w : World} (h : laidMet Tryz.prog (("strconv.ErrSyntax", Rows.laid_strconv_ErrSyntax) :: r) w) : ErrVar "strconv.ErrSyntax" w := by
  obtain ⟨a, s, hv, _⟩ := laid_sentinel (g := 0) (ti := 50) (te := 137) (ts := 9) h (by kernel_rfl) (by kernel_rfl) Tryz.underlying50 row_err Tryz.underlying135 Tryz.underlying137 rfl rfl Tryz.underlying9 (by kernel_rfl) (by kernel_rfl)
  exact ⟨_, _, hv⟩
theorem ran_of {r : List (String × DataW Unit)} {w : World} (h : laidMet Tryz.prog (("strconv.ErrRange", Rows.laid_strconv_ErrRange) :: r) w) : ErrVar "strconv.ErrRange" w := by
  obtain ⟨a, s, hv, _⟩ := laid_sentinel (g := 1) (ti := 50) (te := 137) (ts := 9) h (by kernel_rfl) (by kernel_rfl) Tryz.underlying50 row_err Tryz.underlying135 Tryz.underlying137 rfl rfl Tryz.underlying9 (by kernel_rfl) (by kernel_rfl)
  exact ⟨_, _, hv⟩
end Go.Proofs.YtifioecofeojpaaGreatDoor

