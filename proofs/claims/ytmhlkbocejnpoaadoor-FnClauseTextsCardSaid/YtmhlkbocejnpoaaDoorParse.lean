/- The library reads a number. -/
import Derived.Test.YtmhlkbocejnpoaaDoorTwo
import Derived.Lib.ParseIntBTie
import Derived.Lib.AtoiTie
import Derived.Lib.AtoiErrMem
import Derived.Stop.LaidErr
namespace Go.Proofs.YtmhlkbocejnpoaaDoor
open Go.ChangeShapes Go.WideShapes Go.ChangeAt Go.RowKit
set_option linter.unusedVariables false

theorem dec_head (u : Nat) : ∃ b r, Lib.decDigits u = b :: r ∧ 48 ≤ b.toNat ∧ b.toNat ≤ 57 := by
  induction u using Nat.strongRecOn with
  | ind u ih =>
    by_cases h : u < 10
    · refine ⟨UInt8.ofNat (48 + u), [], Lib.decDigits_one h, ?_, ?_⟩ <;> simp [UInt8.toNat_ofNat'] <;> omega
    · obtain ⟨b, r, e, h1, h2⟩ := ih (u / 10) (by omega)
      exact ⟨b, r ++ [UInt8.ofNat (48 + u % 10)], by rw [dec_hi2 h, e]; rfl, h1, h2⟩
theorem dv (d : Nat) (h : d < 10) : Lib.digitVal (UInt8.ofNat (48 + d)) = some d := by
  have e : (UInt8.ofNat (48 + d)).toNat = 48 + d := by simp [UInt8.toNat_ofNat']; omega
  unfold Lib.digitVal; rw [e, if_pos (by omega)]; congr 1; omega
theorem from_dec (u : Nat) : ∀ r, Lib.decFrom 0 (Lib.decDigits u ++ r) = Lib.decFrom u r := by
  induction u using Nat.strongRecOn with
  | ind u ih =>
    intro r
    by_cases h : u < 10
    · rw [Lib.decDigits_one h]
      simp only [List.singleton_append, Lib.decFrom, dv u h]
      congr 1; omega
    · rw [dec_hi2 h, List.append_assoc, ih (u / 10) (by omega)]
      simp only [List.singleton_append, Lib.decFrom, dv (u % 10) (by omega)]
      congr 1; omega
theorem nat_two (u : Nat) : Lib.decNat (Lib.decDigits (u / 100) ++ two (u % 100)) = some u := by
  obtain ⟨b, r, e, _, _⟩ := dec_head (u / 100)
  unfold Lib.decNat
  rw [e]
  simp only [List.cons_append, List.isEmpty_cons]
  rw [← List.cons_append, ← e, from_dec]
  unfold two
  simp only [Lib.decFrom, dv (u % 100 / 10) (by omega), dv (u % 100 % 10) (by omega), Bool.false_eq_true, if_false]
  congr 1; omega
theorem atoi_neg (l : List UInt8) : Lib.atoi (45 :: l) = (Lib.decNat l).map fun (m : Nat) => -(m : Int) := rfl
theorem atoi_plain {b : UInt8} {r : List UInt8} (h : 48 ≤ b.toNat) : Lib.atoi (b :: r) = (Lib.decNat (b :: r)).map fun (m : Nat) => (m : Int) := by
  have h1 : (b == 45) = false := by
    rw [beq_eq_false_iff_ne]; rintro rfl; exact absurd h (by decide)
  have h2 : (b == 43) = false := by
    rw [beq_eq_false_iff_ne]; rintro rfl; exact absurd h (by decide)
  simp [Lib.atoi, h1, h2]

/-- One of the library's errors is laid. -/
def ErrVar (n : String) (w : World) : Prop := ∃ tp p, w.var? Tryd.prog n = some #[.iface tp p]
theorem ErrVar.below {n : String} {w w' : World} (h : ErrVar n w) (hb : Below w.heap.size w w') : ErrVar n w' := by
  obtain ⟨tp, p, h⟩ := h
  refine ⟨tp, p, ?_⟩
  unfold World.var? at *
  cases hg : Tryd.prog.globalNamed n with
  | none => simp [hg] at h
  | some g =>
    simp only [hg, Option.bind_some] at h ⊢
    have hlt : g < w.heap.size := by
      rcases Nat.lt_or_ge g w.heap.size with h1 | h1
      · exact h1
      · rw [Array.getElem?_eq_none h1] at h; simp at h
    rw [hb.block g hlt]; exact h

/-- What reading a string of digits asks of the world. -/
structure Lib3 (w : World) : Prop where
  tab : Tab w
  syn : ErrVar "strconv.ErrSyntax" w
  ran : ErrVar "strconv.ErrRange" w
theorem Lib3.below {w w' : World} (h : Lib3 w) (hb : Below w.heap.size w w') : Lib3 w' := ⟨h.tab.below hb, h.syn.below hb, h.ran.below hb⟩

theorem parse_ok (l : List UInt8) (hl : l.length ≤ 1048576) {v : Int} (hp : Lib.parseIntB 64 l = .ok v) (w : World) : Calls Tryd.prog 29 #[.string ⟨l.toArray⟩, .int .i64 10, .int .i64 64] w fun e w' => e = .returned (.tuple #[.int .i64 v, .nilIface]) ∧ Below w.heap.size w w' := by
  have hs : (⟨l.toArray⟩ : ByteArray).size = l.length := rfl
  refine (Tryd.strconv_ParseInt_10_at64_ok ⟨l.toArray⟩ (by omega) v (by simpa using hp) w).mono ?_
  rintro e w' ⟨rfl, hw⟩
  refine ⟨rfl, ?_⟩
  rcases hw with rfl | ⟨t, rfl⟩
  · exact Below.refl _ _
  · exact Lib.bytesWorld_below _ _ _
theorem parse_no (l : List UInt8) (hl : l.length ≤ 1048576) (hp : ∀ v, Lib.parseIntB 64 l ≠ .ok v) (w : World) (h : Lib3 w) : Calls Tryd.prog 29 #[.string ⟨l.toArray⟩, .int .i64 10, .int .i64 64] w fun e w' => ∃ x t p, e = .returned (.tuple #[.int .i64 x, .iface t p]) ∧ Below w.heap.size w w' := by
  have hs : (⟨l.toArray⟩ : ByteArray).size = l.length := rfl
  rcases hq : Lib.parseIntB 64 l with v | _ | _
  · exact absurd hq (hp v)
  · obtain ⟨tp, p, hv⟩ := h.syn
    refine (Tryd.strconv_ParseInt_10_at64_syntax_var ⟨l.toArray⟩ (by omega) (by simpa using hq) tp p w hv).mono ?_
    rintro e w' ⟨N, rfl, _, _, hb⟩
    exact ⟨_, _, _, rfl, hb⟩
  · obtain ⟨tp, p, hv⟩ := h.ran
    refine (Tryd.strconv_ParseInt_10_at64_range_var ⟨l.toArray⟩ (by omega) (by simpa using hq) tp p w hv).mono ?_
    rintro e w' ⟨N, rfl, _, _, hb⟩
    exact ⟨_, _, _, rfl, hb⟩

theorem str_len (l : List UInt8) : (⟨l.toArray⟩ : ByteArray).size = l.length := rfl
/-- What ParseInt gives, error or not. -/
theorem parse_any (l : List UInt8) (hl : l.length ≤ 1048576) (w : World) (h : Lib3 w) : Calls Tryd.prog 29 #[.string ⟨l.toArray⟩, .int .i64 10, .int .i64 64] w fun e w' =>
    ∃ x v, e = .returned (.tuple #[.int .i64 x, v]) ∧ (∀ u, Lib.parseIntB 64 l = .ok u → x = u) ∧ Below w.heap.size w w' := by
  by_cases hp : ∃ v, Lib.parseIntB 64 l = .ok v
  · obtain ⟨v, hv⟩ := hp
    refine (parse_ok l hl hv w).mono ?_
    rintro e w' ⟨rfl, b⟩
    exact ⟨v, _, rfl, fun u hu => by rw [hv] at hu; cases hu; rfl, b⟩
  · refine (parse_no l hl (fun v e => hp ⟨v, e⟩) w h).mono ?_
    rintro e w' ⟨x, t, p, rfl, b⟩
    exact ⟨x, _, rfl, fun u hu => absurd ⟨u, hu⟩ hp, b⟩
end Go.Proofs.YtmhlkbocejnpoaaDoor
