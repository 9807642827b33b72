/- Texts of clauses and their parts. (by gen_crt.py) -/
import Derived.Test.YtmhlkbocejnpoaaDoorCtx
import Derived.Test.YtmhlkbocejnpoaaDoorSpn
import Derived.Test.YtmhlkbocejnpoaaDoorSps
import Derived.Test.YtmhlkbocejnpoaaDoorVal
namespace Go.Proofs.YtmhlkbocejnpoaaDoor
open Go.ChangeShapes Go.WideShapes Go.ChangeAt Go.RowKit
set_option linter.unusedVariables false

theorem parse_decI {Y : Nat} (h : Y ≤ 1000000) : Lib.parseIntB 64 (Lib.decDigits Y) = .ok (Y : Int) := by
  have hl := dec_len 7 Y (by omega)
  obtain ⟨b, r, e, hb, _⟩ := dec_head Y
  rw [Lib.parseIntB_64, Lib.atoiAll_short _ (by omega), e, atoi_plain hb, ← e]
  have hn : Lib.decNat (Lib.decDigits Y) = some Y := by
    unfold Lib.decNat
    rw [e]
    simp only [List.isEmpty_cons, Bool.false_eq_true, if_false]
    rw [← e]
    have := from_dec Y []
    rw [List.append_nil] at this
    simpa [Lib.decFrom] using this
  rw [hn]; rfl
theorem byte_no47 {d : Nat} (h : d < 10) : UInt8.ofNat (48 + d) ≠ 47 := by
  intro e
  have := congrArg UInt8.toNat e
  simp [UInt8.toNat_ofNat'] at this
  omega
theorem no47I {l : List UInt8} (h : pcode l = true) : ∀ b ∈ l, b ≠ 47 := by
  intro b hb e
  have := List.all_eq_true.1 (pcode_iff.1 h).2 b hb
  subst e
  revert this; decide
theorem dec_no47I : ∀ (n : Nat), ∀ b ∈ Lib.decDigits n, b ≠ 47 := by
  intro n
  induction n using Nat.strongRecOn with
  | _ n ih =>
    intro b hb
    by_cases h : n < 10
    · rw [Lib.decDigits_one h] at hb
      simp only [List.mem_singleton] at hb
      subst hb; exact byte_no47 h
    · rw [dec_hi2 h] at hb
      rcases List.mem_append.1 hb with hb | hb
      · exact ih (n / 10) (by omega) b hb
      · simp only [List.mem_singleton] at hb
        subst hb; exact byte_no47 (Nat.mod_lt _ (by decide))
/-- Words between slashes, put together again. -/
def joinS : List (List UInt8) → List UInt8
  | [] => []
  | [x] => x
  | x :: y :: r => x ++ 47 :: joinS (y :: r)
theorem sps_ne (s : List UInt8) : ∀ cur, sps cur s ≠ [] := by
  induction s with
  | nil => intro cur; simp [sps]
  | cons c r ih =>
    intro cur; rw [sps]; split
    · simp
    · exact ih _
theorem sps_join (s : List UInt8) : ∀ cur, joinS (sps cur s) = cur ++ s := by
  induction s with
  | nil => intro cur; simp [sps, joinS]
  | cons c r ih =>
    intro cur
    rw [sps]; split
    · rename_i hc
      have h1 := ih []
      obtain ⟨y, t, hy⟩ : ∃ y t, sps [] r = y :: t := by
        cases h : sps [] r with
        | nil => exact absurd h (sps_ne _ _)
        | cons y t => exact ⟨y, t, rfl⟩
      rw [hy] at h1 ⊢
      rw [joinS, h1, hc]; simp
    · rw [ih]; simp
theorem valR_dec {s : List UInt8} {n : Int} (h : valR s = (n, true)) : 0 ≤ n ∧ Lib.decDigits n.toNat = s := by
  by_cases h1 : 1 ≤ s.length ∧ s.length ≤ 13
  · cases hd : Lib.decFrom 0 s with
    | none => rw [valR_none h1 hd] at h; cases h
    | some m =>
      rw [valR_some h1 hd] at h
      obtain ⟨rfl, h2⟩ := Prod.mk.inj h
      exact ⟨by omega, by simpa using h2⟩
  · rw [valR_len h1] at h; cases h
theorem spn_sum : ∀ (n : Nat) (s : List UInt8), ((spn n s).map List.length).sum ≤ s.length
  | 0, s => by simp [spn]
  | n + 1, s => by
    unfold spn; split
    · have := spn_sum n (s.drop ((Lib.indexByte s 47).toNat + 1))
      rw [List.length_drop] at this
      simp only [List.map_cons, List.sum_cons, List.length_take]
      rcases idx_bd s 47 with h | ⟨h1, h2⟩ <;> omega
    · simp
theorem itoa_n1 : Lib.itoa (-1) = [45, 49] := by
  rw [show (-1 : Int) = -((1 : Nat) : Int) from rfl, Lib.itoa_neg 1 (by decide), Lib.decDigits_one (by decide)]; rfl
theorem itoa_parse {n : Int} (h : -1 ≤ n ∧ n ≤ 6) : Lib.parseIntB 64 (Lib.itoa n) = .ok n := by
  by_cases h0 : n = -1
  · subst h0; rw [itoa_n1]; rfl
  · obtain ⟨u, rfl⟩ := Int.eq_ofNat_of_zero_le (show 0 ≤ n by omega)
    rw [Lib.itoa_nonneg]; exact parse_decI (by omega)
theorem itoa_no47 {n : Int} (h : -1 ≤ n ∧ n ≤ 6) : ∀ b ∈ Lib.itoa n, b ≠ 47 := by
  by_cases h0 : n = -1
  · subst h0; rw [itoa_n1]; decide
  · obtain ⟨u, rfl⟩ := Int.eq_ofNat_of_zero_le (show 0 ≤ n by omega)
    rw [Lib.itoa_nonneg]; exact dec_no47I u
theorem ltr_no47 (n : Int) : ltr n ≠ 47 := by unfold ltr; split <;> (try split) <;> decide
theorem ltrs_no47 (p : Cls) : ∀ b ∈ ltrs p, b ≠ 47 := by
  intro b hb
  unfold ltrs at hb
  simp only [List.mem_cons, List.not_mem_nil, or_false] at hb
  rcases hb with rfl | rfl | rfl <;> exact ltr_no47 _
theorem orT_no47 {p : Cls} (hp : p.ok = true) : ∀ b ∈ orT p.t, b ≠ 47 := by
  obtain ⟨_, _, _, _, _, _, hr⟩ := cok hp
  unfold orT
  split
  · decide
  · rename_i hne
    rcases hr with ⟨_, h2⟩ | ⟨_, h2⟩
    · exact no47I h2
    · exact absurd h2 hne
/-- The need of a letter. -/
def rn (b : UInt8) : Int := if b = 42 then 0 else if b = 43 then 1 else if b = 45 then 2 else -1
theorem rn_ltr {n : Int} (h : 0 ≤ n ∧ n ≤ 2) : rn (ltr n) = n := by
  rcases (by omega : n = 0 ∨ n = 1 ∨ n = 2) with rfl | rfl | rfl <;> rfl
def unT (t : List UInt8) : List UInt8 := if t = [46] then [] else t
theorem unT_orT {p : Cls} (hp : p.ok = true) : unT (orT p.t) = p.t := by
  obtain ⟨_, _, _, _, _, _, hr⟩ := cok hp
  unfold orT
  split
  · rename_i h; rw [h]; rfl
  · rename_i hne
    unfold unT
    rw [if_neg]
    intro e
    rcases hr with ⟨_, h2⟩ | ⟨_, h2⟩
    · rw [e] at h2; exact absurd h2 (by decide)
    · exact absurd h2 hne
/-- s is the text of the clause. -/
def FitC (s : List UInt8) (p : Cls) : Prop := p.ok = true ∧ ctext p = s
structure PartC (s : List UInt8) (p : Cls) : Prop where
  ok : p.ok = true
  k : -1 ≤ p.k ∧ p.k ≤ 6
  e : -1 ≤ p.e ∧ p.e ≤ 6
  words : sps [] s = [p.c, Lib.itoa p.k, [ltr p.p, ltr p.v, ltr p.r], Lib.itoa p.e, orT p.t]
  wn : spn (if s.length < 4 then s.length else 4) s = [p.c, Lib.itoa p.k, [ltr p.p, ltr p.v, ltr p.r], Lib.itoa p.e, orT p.t]
theorem ctext_eq (p : Cls) : ctext p = p.c ++ 47 :: (Lib.itoa p.k ++ 47 :: ([ltr p.p, ltr p.v, ltr p.r] ++ 47 :: (Lib.itoa p.e ++ 47 :: orT p.t))) := rfl
theorem fit_partsC {s : List UInt8} {p : Cls} (h : FitC s p) : PartC s p := by
  obtain ⟨hp, rfl⟩ := h
  obtain ⟨hc, hk, h0, h1, h2, he, hr⟩ := cok hp
  have hke : -1 ≤ p.e ∧ p.e ≤ 6 := by omega
  have hlen : ¬ (ctext p).length < 4 := by rw [ctext_eq]; simp; omega
  refine ⟨hp, hk, hke, ?_, ?_⟩
  · rw [ctext_eq, sps_at _ _ _ (no47I hc), sps_at _ _ _ (itoa_no47 hk), sps_at _ _ _ (show ∀ b ∈ [ltr p.p, ltr p.v, ltr p.r], b ≠ 47 from ltrs_no47 p), sps_at _ _ _ (itoa_no47 hke), sps_end _ _ (orT_no47 hp)]
    simp
  · rw [if_neg hlen, ctext_eq, spn_at (no47I hc), spn_at (itoa_no47 hk), spn_at (show ∀ b ∈ [ltr p.p, ltr p.v, ltr p.r], b ≠ 47 from ltrs_no47 p), spn_at (itoa_no47 hke)]
    rfl
/-- What is read off the five parts. -/
def clsOf (a : List UInt8) (k : Int) (x y z : UInt8) (e : Int) (t : List UInt8) : Cls := ⟨a, k, rn x, rn y, rn z, e, unT t⟩
theorem fit_cls {p : Cls} (hp : p.ok = true) : p = clsOf p.c p.k (ltr p.p) (ltr p.v) (ltr p.r) p.e (orT p.t) := by
  obtain ⟨hc, hk, h0, h1, h2, he, hr⟩ := cok hp
  unfold clsOf
  rw [rn_ltr h0, rn_ltr h1, rn_ltr h2, unT_orT hp]
theorem fit_oneC {s : List UInt8} {p q : Cls} (hp : FitC s p) (hq : FitC s q) : p = q := by
  have P := fit_partsC hp
  have Q := fit_partsC hq
  have e := P.words.symm.trans Q.words
  injection e with e1 e
  injection e with e2 e
  injection e with e3 e
  injection e with e4 e
  injection e with e5 _
  injection e3 with e3a e3
  injection e3 with e3b e3
  injection e3 with e3c _
  have ek : p.k = q.k := by
    have h1 := itoa_parse P.k; have h2 := itoa_parse Q.k
    rw [e2, h2] at h1; injection h1 with h1; exact h1.symm
  have ee : p.e = q.e := by
    have h1 := itoa_parse P.e; have h2 := itoa_parse Q.e
    rw [e4, h2] at h1; injection h1 with h1; exact h1.symm
  have h1 := fit_cls P.ok
  have h2 := fit_cls Q.ok
  rw [e1, ek, e3a, e3b, e3c, ee, e5] at h1
  exact h1.trans h2.symm
def zeroC : Cls := ⟨[], 0, 0, 0, 0, 0, []⟩
open Classical in
noncomputable def rcR (s : List UInt8) : Cls × Int := if h : ∃ p, FitC s p then (Classical.choose h, 0) else (zeroC, 6)
theorem rcR_no {s : List UInt8} (h : ¬ ∃ p, FitC s p) : rcR s = (zeroC, 6) := by unfold rcR; rw [dif_neg h]
theorem rcR_ok {s : List UInt8} {p : Cls} (h : FitC s p) : rcR s = (p, 0) := by
  have hx : ∃ p, FitC s p := ⟨p, h⟩
  unfold rcR
  rw [dif_pos hx]
  rw [fit_oneC (Classical.choose_spec hx) h]
/-! ### numbers with a sign -/
theorem valR_dig (u : Nat) (h : u ≤ 1000) : valR (Lib.decDigits u) = ((u : Int), true) := by
  have hl := dec_len 4 u (by omega)
  obtain ⟨b, r, e, _⟩ := dec_head u
  have h1 : 1 ≤ (Lib.decDigits u).length ∧ (Lib.decDigits u).length ≤ 13 := ⟨by rw [e]; simp, by omega⟩
  have := from_dec u []
  rw [List.append_nil] at this
  rw [valR_some h1 (n := u) (by simpa [Lib.decFrom] using this)]
  simp
def sgnR (s : List UInt8) : Int × Bool := match s with
  | [] => valR []
  | b :: r => if b = 45 then (-(valR r).1, (valR r).2 && decide (0 < (valR r).1)) else valR (b :: r)
theorem sgnR_itoa {n : Int} (h : -1 ≤ n ∧ n ≤ 6) : sgnR (Lib.itoa n) = (n, true) := by
  by_cases h0 : n = -1
  · subst h0
    rw [itoa_n1]
    have := valR_dig 1 (by decide)
    rw [Lib.decDigits_one (by decide)] at this
    show (-(valR [49]).1, (valR [49]).2 && decide (0 < (valR [49]).1)) = _
    rw [show ([49] : List UInt8) = [UInt8.ofNat (48 + 1)] from rfl, this]; rfl
  · obtain ⟨u, rfl⟩ := Int.eq_ofNat_of_zero_le (show 0 ≤ n by omega)
    rw [Lib.itoa_nonneg]
    obtain ⟨b, r, e, hb, hb2⟩ := dec_head u
    have hv := valR_dig u (by omega)
    rw [e] at hv ⊢
    have hb45 : ¬ b = 45 := by rintro rfl; revert hb; decide
    show (if b = 45 then _ else valR (b :: r)) = _
    rw [if_neg hb45, hv]
end Go.Proofs.YtmhlkbocejnpoaaDoor
