/- Texts of interests and their parts. -/
import Derived.Test.YthainomgmgaikaaDoorIti
import Derived.Test.YthainomgmgaikaaDoorIty
import Derived.Test.YthainomgmgaikaaDoorSpn
import Derived.Test.YthainomgmgaikaaDoorSps
import Derived.Test.YthainomgmgaikaaDoorVal
import Derived.Test.YthainomgmgaikaaDoorReadl
namespace Go.Proofs.YthainomgmgaikaaDoor
open Go.ChangeShapes Go.WideShapes Go.ChangeAt Go.RowKit
set_option linter.unusedVariables false

theorem parse_decI {Y : Nat} (h : Y ≤ 1000000) : Lib.parseIntB 64 (Lib.decDigits Y) = .ok (Y : Int) := by
  have hl := dec_len 7 Y (by omega)
  obtain ⟨b, r, e, hb, _⟩ := dec_head Y
  rw [Lib.parseIntB_64, Lib.atoiAll_short _ (by omega), e, atoi_plain hb, ← e]
  have hn : Lib.decNat (Lib.decDigits Y) = some Y := by
    unfold Lib.decNat
    rw [e]
    simp only [List.isEmpty_cons, Bool.false_eq_true, if_false]
    rw [← e]
    have := from_dec Y []
    rw [List.append_nil] at this
    simpa [Lib.decFrom] using this
  rw [hn]; rfl
theorem byte_no47 {d : Nat} (h : d < 10) : UInt8.ofNat (48 + d) ≠ 47 := by
  intro e
  have := congrArg UInt8.toNat e
  simp [UInt8.toNat_ofNat'] at this
  omega
theorem no47I {l : List UInt8} (h : pcode l = true) : ∀ b ∈ l, b ≠ 47 := by
  intro b hb e
  have := List.all_eq_true.1 (pcode_iff.1 h).2 b hb
  subst e
  revert this; decide
theorem dec_no47I : ∀ (n : Nat), ∀ b ∈ Lib.decDigits n, b ≠ 47 := by
  intro n
  induction n using Nat.strongRecOn with
  | _ n ih =>
    intro b hb
    by_cases h : n < 10
    · rw [Lib.decDigits_one h] at hb
      simp only [List.mem_singleton] at hb
      subst hb; exact byte_no47 h
    · rw [dec_hi2 h] at hb
      rcases List.mem_append.1 hb with hb | hb
      · exact ih (n / 10) (by omega) b hb
      · simp only [List.mem_singleton] at hb
        subst hb; exact byte_no47 (Nat.mod_lt _ (by decide))
theorem money_no47 {v : Int} (h0 : 0 ≤ v) : ∀ b ∈ money v, b ≠ 47 := by
  intro b hb
  rw [money_pos (by omega)] at hb
  unfold digitsOf at hb
  rcases List.mem_append.1 hb with hb | hb
  · exact dec_no47I _ b hb
  · rcases List.mem_cons.1 hb with rfl | hb
    · decide
    · unfold two at hb
      have hr : v.natAbs % 100 < 100 := Nat.mod_lt _ (by decide)
      rcases List.mem_cons.1 hb with rfl | hb
      · exact byte_no47 (by omega)
      · simp only [List.mem_singleton] at hb
        subst hb; exact byte_no47 (Nat.mod_lt _ (by decide))
/-- s is the text of the interest. -/
def FitI (s : List UInt8) (p : Ist) : Prop := p.ok = true ∧ itext p = s
structure PartI (s : List UInt8) (p : Ist) (n m : Nat) : Prop where
  k : p.k = n
  a : p.a = m
  n3 : n ≤ 3
  m60 : m ≤ 60
  v : isVal p.v = true
  words : sps [] s = [p.c, Lib.decDigits n, p.o, money p.v, Lib.decDigits m]
  wn : spn (if s.length < 4 then s.length else 4) s = [p.c, Lib.decDigits n, p.o, money p.v, Lib.decDigits m]
theorem fit_parts {s : List UInt8} {p : Ist} (h : FitI s p) : ∃ n m, PartI s p n m := by
  obtain ⟨hp, rfl⟩ := h
  obtain ⟨hc, ho, ⟨hk0, hk3⟩, ⟨hv0, hv1⟩, ⟨ha0, ha1⟩, _⟩ := iokT hp
  obtain ⟨n, hn⟩ := Int.eq_ofNat_of_zero_le hk0
  obtain ⟨m, hm⟩ := Int.eq_ofNat_of_zero_le ha0
  have hlen : ¬ (itext p).length < 4 := by unfold itext; simp; omega
  refine ⟨n, m, hn, hm, by omega, by omega, amt_val hv0 hv1, ?_, ?_⟩
  · unfold itext
    rw [hn, hm, Int.toNat_natCast, Int.toNat_natCast, sps_at _ _ _ (no47I hc), sps_at _ _ _ (dec_no47I n), sps_at _ _ _ (no47I ho), sps_at _ _ _ (money_no47 hv0), sps_end _ _ (dec_no47I m)]
    simp
  · rw [if_neg hlen]
    unfold itext
    rw [hn, hm, Int.toNat_natCast, Int.toNat_natCast, spn_at (no47I hc), spn_at (dec_no47I n), spn_at (no47I ho), spn_at (money_no47 hv0)]
    rfl
theorem fit_one {s : List UInt8} {p q : Ist} (hp : FitI s p) (hq : FitI s q) : p = q := by
  obtain ⟨n, m, P⟩ := fit_parts hp
  obtain ⟨n', m', Q⟩ := fit_parts hq
  have e := P.words.symm.trans Q.words
  injection e with e1 e
  injection e with e2 e
  injection e with e3 e
  injection e with e4 e
  injection e with e5 _
  have ek : (n : Int) = n' := by
    have h1 := parse_decI (Y := n) (by have := P.n3; omega); have h2 := parse_decI (Y := n') (by have := Q.n3; omega)
    rw [e2, h2] at h1; cases h1; rfl
  have ea : (m : Int) = m' := by
    have h1 := parse_decI (Y := m) (by have := P.m60; omega); have h2 := parse_decI (Y := m') (by have := Q.m60; omega)
    rw [e5, h2] at h1; cases h1; rfl
  have ev := money_inj P.v Q.v e4
  have h1 := P.k; have h2 := Q.k; have h3 := P.a; have h4 := Q.a
  obtain ⟨pc, pk, po, pv, pa⟩ := p
  obtain ⟨qc, qk, qo, qv, qa⟩ := q
  simp only at e1 e3 ev h1 h2 h3 h4
  rw [e1, e3, ev, h1, h2, h3, h4, ek, ea]
def zeroI : Ist := ⟨[], 0, [], 0, 0⟩
open Classical in
noncomputable def riR (s : List UInt8) : Ist × Int := if h : ∃ p, FitI s p then (Classical.choose h, 0) else (zeroI, 6)
theorem riR_no {s : List UInt8} (h : ¬ ∃ p, FitI s p) : riR s = (zeroI, 6) := by unfold riR; rw [dif_neg h]
theorem riR_ok {s : List UInt8} {p : Ist} (h : FitI s p) : riR s = (p, 0) := by
  have hx : ∃ p, FitI s p := ⟨p, h⟩
  unfold riR
  rw [dif_pos hx]
  rw [fit_one (Classical.choose_spec hx) h]
/-- Words between slashes, put together again. -/
def joinS : List (List UInt8) → List UInt8
  | [] => []
  | [x] => x
  | x :: y :: r => x ++ 47 :: joinS (y :: r)
theorem sps_ne (s : List UInt8) : ∀ cur, sps cur s ≠ [] := by
  induction s with
  | nil => intro cur; simp [sps]
  | cons c r ih =>
    intro cur; rw [sps]; split
    · simp
    · exact ih _
theorem sps_join (s : List UInt8) : ∀ cur, joinS (sps cur s) = cur ++ s := by
  induction s with
  | nil => intro cur; simp [sps, joinS]
  | cons c r ih =>
    intro cur
    rw [sps]; split
    · rename_i hc
      have h1 := ih []
      obtain ⟨y, t, hy⟩ : ∃ y t, sps [] r = y :: t := by
        cases h : sps [] r with
        | nil => exact absurd h (sps_ne _ _)
        | cons y t => exact ⟨y, t, rfl⟩
      rw [hy] at h1 ⊢
      rw [joinS, h1, hc]; simp
    · rw [ih]; simp
theorem valR_dec {s : List UInt8} {n : Int} (h : valR s = (n, true)) : 0 ≤ n ∧ Lib.decDigits n.toNat = s := by
  by_cases h1 : 1 ≤ s.length ∧ s.length ≤ 13
  · cases hd : Lib.decFrom 0 s with
    | none => rw [valR_none h1 hd] at h; cases h
    | some m =>
      rw [valR_some h1 hd] at h
      obtain ⟨rfl, h2⟩ := Prod.mk.inj h
      exact ⟨by omega, by simpa using h2⟩
  · rw [valR_len h1] at h; cases h
theorem readR_money {s : List UInt8} {n : Int} (h : readR s = (n, 0)) : money n = s := by
  by_cases hx : ∃ v, isVal v = true ∧ money v = s
  · obtain ⟨v, h1, h2⟩ := hx
    rw [read_ok h1 h2] at h
    obtain ⟨rfl, _⟩ := Prod.mk.inj h
    exact h2
  · rw [read_no (fun v h1 h2 => hx ⟨v, h1, h2⟩)] at h; cases h
/-- Read aright: the text fits. -/
theorem fit_of {s a b c d e : List UInt8} {k v x : Int} (hw : sps [] s = [a, b, c, d, e]) (hb : valR b = (k, true)) (hd : readR d = (v, 0)) (he : valR e = (x, true)) (ho : (⟨a, k, c, v, x⟩ : Ist).ok = true) : FitI s ⟨a, k, c, v, x⟩ := by
  refine ⟨ho, ?_⟩
  have hj := sps_join s []
  rw [hw] at hj
  simp only [joinS, List.nil_append] at hj
  unfold itext
  simp only
  rw [(valR_dec hb).2, (valR_dec he).2, readR_money hd]
  exact hj
theorem spn_sum : ∀ (n : Nat) (s : List UInt8), ((spn n s).map List.length).sum ≤ s.length
  | 0, s => by simp [spn]
  | n + 1, s => by
    unfold spn; split
    · have := spn_sum n (s.drop ((Lib.indexByte s 47).toNat + 1))
      rw [List.length_drop] at this
      simp only [List.map_cons, List.sum_cons, List.length_take]
      rcases idx_bd s 47 with h | ⟨h1, h2⟩ <;> omega
    · simp
end Go.Proofs.YthainomgmgaikaaDoor
