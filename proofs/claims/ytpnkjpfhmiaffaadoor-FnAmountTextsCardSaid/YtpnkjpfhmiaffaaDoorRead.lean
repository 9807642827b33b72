/- impl.ReadAmount reads a string as the value that has it as its text. -/
import Derived.Test.YtpnkjpfhmiaffaaDoorMoney
import Derived.Lib.ParseIntBTie
import Derived.Lib.AtoiTie
import Derived.Lib.AtoiErrMem
import Derived.Stop.LaidErr
namespace Go.Proofs.YtpnkjpfhmiaffaaDoor
open Go.ChangeShapes Go.WideShapes Go.ChangeAt Go.RowKit
set_option linter.unusedVariables false

theorem dec_head (u : Nat) : ∃ b r, Lib.decDigits u = b :: r ∧ 48 ≤ b.toNat ∧ b.toNat ≤ 57 := by
  induction u using Nat.strongRecOn with
  | ind u ih =>
    by_cases h : u < 10
    · refine ⟨UInt8.ofNat (48 + u), [], Lib.decDigits_one h, ?_, ?_⟩ <;> simp [UInt8.toNat_ofNat'] <;> omega
    · obtain ⟨b, r, e, h1, h2⟩ := ih (u / 10) (by omega)
      exact ⟨b, r ++ [UInt8.ofNat (48 + u % 10)], by rw [dec_hi2 h, e]; rfl, h1, h2⟩
theorem dv (d : Nat) (h : d < 10) : Lib.digitVal (UInt8.ofNat (48 + d)) = some d := by
  have e : (UInt8.ofNat (48 + d)).toNat = 48 + d := by simp [UInt8.toNat_ofNat']; omega
  unfold Lib.digitVal; rw [e, if_pos (by omega)]; congr 1; omega
theorem from_dec (u : Nat) : ∀ r, Lib.decFrom 0 (Lib.decDigits u ++ r) = Lib.decFrom u r := by
  induction u using Nat.strongRecOn with
  | ind u ih =>
    intro r
    by_cases h : u < 10
    · rw [Lib.decDigits_one h]
      simp only [List.singleton_append, Lib.decFrom, dv u h]
      congr 1; omega
    · rw [dec_hi2 h, List.append_assoc, ih (u / 10) (by omega)]
      simp only [List.singleton_append, Lib.decFrom, dv (u % 10) (by omega)]
      congr 1; omega
theorem nat_two (u : Nat) : Lib.decNat (Lib.decDigits (u / 100) ++ two (u % 100)) = some u := by
  obtain ⟨b, r, e, _, _⟩ := dec_head (u / 100)
  unfold Lib.decNat
  rw [e]
  simp only [List.cons_append, List.isEmpty_cons]
  rw [← List.cons_append, ← e, from_dec]
  unfold two
  simp only [Lib.decFrom, dv (u % 100 / 10) (by omega), dv (u % 100 % 10) (by omega), Bool.false_eq_true, if_false]
  congr 1; omega
theorem atoi_neg (l : List UInt8) : Lib.atoi (45 :: l) = (Lib.decNat l).map fun (m : Nat) => -(m : Int) := rfl
theorem atoi_plain {b : UInt8} {r : List UInt8} (h : 48 ≤ b.toNat) : Lib.atoi (b :: r) = (Lib.decNat (b :: r)).map fun (m : Nat) => (m : Int) := by
  have h1 : (b == 45) = false := by
    rw [beq_eq_false_iff_ne]; rintro rfl; exact absurd h (by decide)
  have h2 : (b == 43) = false := by
    rw [beq_eq_false_iff_ne]; rintro rfl; exact absurd h (by decide)
  simp [Lib.atoi, h1, h2]

/-- A string without its third byte from the right. -/
def cut (s : List UInt8) : List UInt8 := s.take (s.length - 3) ++ s.drop (s.length - 2)
theorem cut_digits (p : List UInt8) (c a b : UInt8) : cut (p ++ c :: [a, b]) = p ++ [a, b] := by
  have e1 : (p ++ c :: [a, b]).length - 3 = p.length := by simp
  have e2 : (p ++ c :: [a, b]).length - 2 = p.length + 1 := by simp
  unfold cut
  rw [e1, e2]
  simp
theorem money_len {v : Int} (h : isVal v = true) : 4 ≤ (money v).length ∧ (money v).length ≤ 15 := by
  have hv : -1000000000000 ≤ v ∧ v ≤ 1000000000000 := by simpa [isVal] using h
  obtain ⟨b, r, e, _, _⟩ := dec_head (v.natAbs / 100)
  have h1 : 1 ≤ (Lib.decDigits (v.natAbs / 100)).length := by rw [e]; simp
  have h2 := dec_len 11 (v.natAbs / 100) (by omega)
  have h3 : (Lib.decDigits (v.natAbs / 100)).length ≤ 11 := by
    by_cases hx : v.natAbs / 100 < 10000000000
    · exact dec_len 10 _ hx
    · have : v.natAbs / 100 = 10000000000 := by omega
      rw [this]; decide +kernel
  unfold money digitsOf two
  split <;> simp <;> omega
theorem cut_money {v : Int} (h : isVal v = true) : Lib.parseIntB 64 (cut (money v)) = .ok v := by
  have hl := money_len h
  rw [Lib.parseIntB_64]
  by_cases hn : v < 0
  · have e : cut (money v) = 45 :: (Lib.decDigits (v.natAbs / 100) ++ two (v.natAbs % 100)) := by
      rw [money_neg hn]
      exact cut_digits (45 :: Lib.decDigits (v.natAbs / 100)) 46 _ _
    have hc : (cut (money v)).length ≤ 18 := by unfold cut; simp; omega
    rw [Lib.atoiAll_short _ hc, e, atoi_neg, nat_two]
    exact congrArg Lib.NumEnd.ok (show -((v.natAbs : Nat) : Int) = v by omega)
  · have e : cut (money v) = (Lib.decDigits (v.natAbs / 100) ++ two (v.natAbs % 100)) := by
      rw [money_pos hn]
      exact cut_digits (Lib.decDigits (v.natAbs / 100)) 46 _ _
    have hc : (cut (money v)).length ≤ 18 := by unfold cut; simp; omega
    rw [Lib.atoiAll_short _ hc, e]
    obtain ⟨b, r, e2, hb, _⟩ := dec_head (v.natAbs / 100)
    rw [e2, List.cons_append, atoi_plain hb, ← List.cons_append, ← e2, nat_two]
    exact congrArg Lib.NumEnd.ok (show ((v.natAbs : Nat) : Int) = v by omega)
theorem money_inj {v u : Int} (h : isVal v = true) (g : isVal u = true) (e : money v = money u) : v = u := by
  have h1 := cut_money h
  rw [e, cut_money g] at h1
  cases h1; rfl

open Classical in
/-- What ReadAmount answers. -/
noncomputable def readR (s : List UInt8) : Int × Int := if h : ∃ v, isVal v = true ∧ money v = s then (h.choose, 0) else (0, 6)
theorem read_ok {s : List UInt8} {v : Int} (h : isVal v = true) (e : money v = s) : readR s = (v, 0) := by
  have hx : ∃ v, isVal v = true ∧ money v = s := ⟨v, h, e⟩
  unfold readR
  rw [dif_pos hx]
  obtain ⟨g1, g2⟩ := hx.choose_spec
  rw [money_inj g1 h (g2.trans e.symm)]
theorem read_no {s : List UInt8} (h : ∀ v, isVal v = true → money v ≠ s) : readR s = (0, 6) := by
  unfold readR
  rw [dif_neg]
  rintro ⟨v, g1, g2⟩
  exact h v g1 g2

/-- One of the library's errors is laid. -/
def ErrVar (n : String) (w : World) : Prop := ∃ tp p, w.var? Tryd.prog n = some #[.iface tp p]
theorem ErrVar.below {n : String} {w w' : World} (h : ErrVar n w) (hb : Below w.heap.size w w') : ErrVar n w' := by
  obtain ⟨tp, p, h⟩ := h
  refine ⟨tp, p, ?_⟩
  unfold World.var? at *
  cases hg : Tryd.prog.globalNamed n with
  | none => simp [hg] at h
  | some g =>
    simp only [hg, Option.bind_some] at h ⊢
    have hlt : g < w.heap.size := by
      rcases Nat.lt_or_ge g w.heap.size with h1 | h1
      · exact h1
      · rw [Array.getElem?_eq_none h1] at h; simp at h
    rw [hb.block g hlt]; exact h

/-- What reading a string of digits asks of the world. -/
structure Lib3 (w : World) : Prop where
  tab : Tab w
  syn : ErrVar "strconv.ErrSyntax" w
  ran : ErrVar "strconv.ErrRange" w
theorem Lib3.below {w w' : World} (h : Lib3 w) (hb : Below w.heap.size w w') : Lib3 w' := ⟨h.tab.below hb, h.syn.below hb, h.ran.below hb⟩

theorem parse_ok (l : List UInt8) (hl : l.length ≤ 1048576) {v : Int} (hp : Lib.parseIntB 64 l = .ok v) (w : World) : Calls Tryd.prog 37 #[.string ⟨l.toArray⟩, .int .i64 10, .int .i64 64] w fun e w' => e = .returned (.tuple #[.int .i64 v, .nilIface]) ∧ Below w.heap.size w w' := by
  have hs : (⟨l.toArray⟩ : ByteArray).size = l.length := rfl
  refine (Tryd.strconv_ParseInt_10_at64_ok ⟨l.toArray⟩ (by omega) v (by simpa using hp) w).mono ?_
  rintro e w' ⟨rfl, hw⟩
  refine ⟨rfl, ?_⟩
  rcases hw with rfl | ⟨t, rfl⟩
  · exact Below.refl _ _
  · exact Lib.bytesWorld_below _ _ _
theorem parse_no (l : List UInt8) (hl : l.length ≤ 1048576) (hp : ∀ v, Lib.parseIntB 64 l ≠ .ok v) (w : World) (h : Lib3 w) : Calls Tryd.prog 37 #[.string ⟨l.toArray⟩, .int .i64 10, .int .i64 64] w fun e w' => ∃ x t p, e = .returned (.tuple #[.int .i64 x, .iface t p]) ∧ Below w.heap.size w w' := by
  have hs : (⟨l.toArray⟩ : ByteArray).size = l.length := rfl
  rcases hq : Lib.parseIntB 64 l with v | _ | _
  · exact absurd hq (hp v)
  · obtain ⟨tp, p, hv⟩ := h.syn
    refine (Tryd.strconv_ParseInt_10_at64_syntax_var ⟨l.toArray⟩ (by omega) (by simpa using hq) tp p w hv).mono ?_
    rintro e w' ⟨N, rfl, _, _, hb⟩
    exact ⟨_, _, _, rfl, hb⟩
  · obtain ⟨tp, p, hv⟩ := h.ran
    refine (Tryd.strconv_ParseInt_10_at64_range_var ⟨l.toArray⟩ (by omega) (by simpa using hq) tp p w hv).mono ?_
    rintro e w' ⟨N, rfl, _, _, hb⟩
    exact ⟨_, _, _, rfl, hb⟩

theorem str_len (l : List UInt8) : (⟨l.toArray⟩ : ByteArray).size = l.length := rfl
set_option maxHeartbeats 800000 in
theorem read_i (s : List UInt8) (hl : s.length ≤ 1048576) (w : World) (h : Lib3 w) : Calls Tryd.prog 13 #[.string ⟨s.toArray⟩] w fun e w' => e = .returned (.tuple #[.int .i64 (readR s).1, .int .i64 (readR s).2]) ∧ Below w.heap.size w w' := by
  have hs := str_len s
  by_cases h3 : s.length < 3
  · have E : Hid (readR s = (0, 6)) := Lib.hid (read_no fun v g e => by have := money_len g; rw [e] at this; omega)
    go_enter Tryd.func13, Tryd.ntmps13
    go_wp2_with fail
    go_ret2
    exact ⟨by rw [E.out] <;> rfl, Below.refl _ _⟩
  · have ec : ((⟨s.toArray⟩ : ByteArray).extract 0 (s.length - 3) ++ (⟨s.toArray⟩ : ByteArray).extract (s.length - 3 + 1) s.length) = ⟨(cut s).toArray⟩ := by
      rw [str_ext, str_ext, str_app]
      have e1 : s.length - 3 + 1 = s.length - 2 := by omega
      unfold cut
      rw [e1, List.take_of_length_le (l := s.drop (s.length - 2)) (by simp)]
      simp
    have hc : (cut s).length ≤ 1048576 := by unfold cut; simp; omega
    have f0 : 0 ≤ (s.length : Int) - 3 := by omega
    have f1 : IntKind.i64.wrap ((s.length : Int) - 3 + 1) = (s.length : Int) - 3 + 1 := IntWalk.i64_in _ (by omega)
    have f2 : 0 ≤ (s.length : Int) - 3 + 1 ∧ (s.length : Int) - 3 + 1 ≤ (s.length : Int) := by omega
    have f3 : 3 ≤ (s.length : Int) ∧ (s.length : Int) - 3 ≤ (s.length : Int) := by omega
    have f4 : ¬9223372036854775807 < s.length - 3 + (s.length - (s.length - 3 + 1)) := by omega
    by_cases hp : ∃ v, Lib.parseIntB 64 (cut s) = .ok v
    · obtain ⟨v, hv⟩ := hp
      have HP := Lib.hid (parse_ok (cut s) hc hv)
      rw [← ec] at HP
      have HT := Lib.hid (fun w h => text_i v w h)
      have HL := Lib.hid h
      clear h ec hc
      by_cases hg : isVal v = true ∧ money v = s
      · have E : Hid (readR s = (v, 0)) := Lib.hid (read_ok hg.1 hg.2)
        have ET : Hid (textR v = (s, 0)) := Lib.hid (by rw [textR_ok hg.1, hg.2])
        clear hg hv
        rw [ET.out] at HT
        go_enter Tryd.func13, Tryd.ntmps13
        go_wp2_with fail
        go_region_with (go_at_call 37; refine (HP.out _).mono ?_; rintro e w1 ⟨rfl, b1⟩)
        go_wp2_with (go_at_call 10; refine (HT.out _ (HL.out.below (below_drewd b1)).tab).mono ?_; rintro e w2 ⟨rfl, b2⟩)
        go_ret2
        exact ⟨by rw [E.out] <;> rfl, belowGo (below_drewd b1) b2⟩
      · have E : Hid (readR s = (0, 6)) := Lib.hid (read_no fun u g e => by
          have := cut_money g
          rw [e, hv] at this
          cases this
          exact hg ⟨g, e⟩)
        have EN : Hid ((textR v).1 ≠ s) := Lib.hid (by
          by_cases g : isVal v = true
          · rw [textR_ok g]; exact fun e => hg ⟨g, e⟩
          · rw [textR_no (by simpa using g)]; rintro rfl; simp at h3)
        have EB : ((textR v).1 == s) = false := beq_eq_false_iff_ne.2 EN.out
        clear hg hv
        generalize (textR v).2 = t2 at *
        generalize textR v = t at *
        go_enter Tryd.func13, Tryd.ntmps13
        go_wp2_with fail
        go_region_with (go_at_call 37; refine (HP.out _).mono ?_; rintro e w1 ⟨rfl, b1⟩)
        go_wp2_with (go_at_call 10; refine (HT.out _ (HL.out.below (below_drewd b1)).tab).mono ?_; rintro e w2 ⟨rfl, b2⟩)
        go_ret2
        exact ⟨by rw [E.out] <;> rfl, belowGo (below_drewd b1) b2⟩
    · have HP := Lib.hid (fun w h => parse_no (cut s) hc (fun v e => hp ⟨v, e⟩) w h)
      rw [← ec] at HP
      have E : Hid (readR s = (0, 6)) := Lib.hid (read_no fun u g e => by
          have := cut_money g
          rw [e] at this
          exact hp ⟨_, this⟩)
      have HL := Lib.hid h
      have HD : Hid (Lib3 w.drew) := Lib.hid ⟨h.tab, h.syn, h.ran⟩
      clear h ec hc hp
      go_enter Tryd.func13, Tryd.ntmps13
      go_wp2_with fail
      go_region_with (go_at_call 37; refine (HP.out _ HD.out).mono ?_; rintro e w1 ⟨x, t, p, rfl, b1⟩)
      go_wp2_with fail
      go_ret2
      exact ⟨by rw [E.out] <;> rfl, below_drewd b1⟩
end Go.Proofs.YtpnkjpfhmiaffaaDoor
