import Derived.Test.YtifioecofeojpaaGreatDoorJn5
import Derived.Test.YtifioecofeojpaaGreatDoorMSpn
import Derived.Test.YtifioecofeojpaaGreatDoorMParse
import Derived.Test.YtifioecofeojpaaGreatDoorReadl
import Derived.Test.YtifioecofeojpaaGreatDoorMCode
import Derived.Test.YtifioecofeojpaaGreatDoorDyt
import Derived.Test.YtifioecofeojpaaGreatDoorNum
import Derived.Test.YtifioecofeojpaaGreatDoorDparse
import Derived.Test.YtifioecofeojpaaGreatDoorRdi
import Derived.Test.YtifioecofeojpaaGreatDoorMEtx
import Derived.Test.YtifioecofeojpaaGreatDoorRin
/- Parts of texts between slashes. (out of XRit) -/
namespace Go.Proofs.YtifioecofeojpaaGreatDoor
open Go.ChangeShapes Go.WideShapes Go.ChangeAt Go.RowKit
set_option linter.unusedVariables false

theorem parse_decI {Y : Nat} (h : Y ≤ 1000000) : Lib.parseIntB 64 (Lib.decDigits Y) = .ok (Y : Int) := by
  have hl := dec_len 7 Y (by omega)
  obtain ⟨b, r, e, hb, _⟩ := dec_head Y
  rw [Lib.parseIntB_64, Lib.atoiAll_short _ (by omega), e, atoi_plain hb, ← e]
  have hn : Lib.decNat (Lib.decDigits Y) = some Y := by
    unfold Lib.decNat
    rw [e]
    simp only [List.isEmpty_cons, Bool.false_eq_true, if_false]
    rw [← e]
    have := from_dec Y []
    rw [List.append_nil] at this
    simpa [Lib.decFrom] using this
  rw [hn]; rfl
theorem byte_no47 {d : Nat} (h : d < 10) : UInt8.ofNat (48 + d) ≠ 47 := by
  intro e
  have := congrArg UInt8.toNat e
  simp [UInt8.toNat_ofNat'] at this
  omega
theorem no47I {l : List UInt8} (h : pcode l = true) : ∀ b ∈ l, b ≠ 47 := by
  intro b hb e
  have := List.all_eq_true.1 (pcode_iff.1 h).2 b hb
  subst e
  revert this; decide
theorem dec_no47I : ∀ (n : Nat), ∀ b ∈ Lib.decDigits n, b ≠ 47 := by
  intro n
  induction n using Nat.strongRecOn with
  | _ n ih =>
    intro b hb
    by_cases h : n < 10
    · rw [Lib.decDigits_one h] at hb
      simp only [List.mem_singleton] at hb
      subst hb; exact byte_no47 h
    · rw [dec_hi2 h] at hb
      rcases List.mem_append.1 hb with hb | hb
      · exact ih (n / 10) (by omega) b hb
      · simp only [List.mem_singleton] at hb
        subst hb; exact byte_no47 (Nat.mod_lt _ (by decide))
theorem money_no47 {v : Int} (h0 : 0 ≤ v) : ∀ b ∈ money v, b ≠ 47 := by
  intro b hb
  rw [money_pos (by omega)] at hb
  unfold digitsOf at hb
  rcases List.mem_append.1 hb with hb | hb
  · exact dec_no47I _ b hb
  · rcases List.mem_cons.1 hb with rfl | hb
    · decide
    · unfold two at hb
      have hr : v.natAbs % 100 < 100 := Nat.mod_lt _ (by decide)
      rcases List.mem_cons.1 hb with rfl | hb
      · exact byte_no47 (by omega)
      · simp only [List.mem_singleton] at hb
        subst hb; exact byte_no47 (Nat.mod_lt _ (by decide))
/-- Words between slashes, put together again. -/
def joinS : List (List UInt8) → List UInt8
  | [] => []
  | [x] => x
  | x :: y :: r => x ++ 47 :: joinS (y :: r)
theorem sps_ne (s : List UInt8) : ∀ cur, sps cur s ≠ [] := by
  induction s with
  | nil => intro cur; simp [sps]
  | cons c r ih =>
    intro cur; rw [sps]; split
    · simp
    · exact ih _
theorem sps_join (s : List UInt8) : ∀ cur, joinS (sps cur s) = cur ++ s := by
  induction s with
  | nil => intro cur; simp [sps, joinS]
  | cons c r ih =>
    intro cur
    rw [sps]; split
    · rename_i hc
      have h1 := ih []
      obtain ⟨y, t, hy⟩ : ∃ y t, sps [] r = y :: t := by
        cases h : sps [] r with
        | nil => exact absurd h (sps_ne _ _)
        | cons y t => exact ⟨y, t, rfl⟩
      rw [hy] at h1 ⊢
      rw [joinS, h1, hc]; simp
    · rw [ih]; simp
theorem valR_dec {s : List UInt8} {n : Int} (h : valR s = (n, true)) : 0 ≤ n ∧ Lib.decDigits n.toNat = s := by
  by_cases h1 : 1 ≤ s.length ∧ s.length ≤ 13
  · cases hd : Lib.decFrom 0 s with
    | none => rw [valR_none h1 hd] at h; cases h
    | some m =>
      rw [valR_some h1 hd] at h
      obtain ⟨rfl, h2⟩ := Prod.mk.inj h
      exact ⟨by omega, by simpa using h2⟩
  · rw [valR_len h1] at h; cases h
theorem readR_money {s : List UInt8} {n : Int} (h : readR s = (n, 0)) : money n = s := by
  by_cases hx : ∃ v, isVal v = true ∧ money v = s
  · obtain ⟨v, h1, h2⟩ := hx
    rw [read_ok h1 h2] at h
    obtain ⟨rfl, _⟩ := Prod.mk.inj h
    exact h2
  · rw [read_no (fun v h1 h2 => hx ⟨v, h1, h2⟩)] at h; cases h
theorem spn_sum : ∀ (n : Nat) (s : List UInt8), ((spn n s).map List.length).sum ≤ s.length
  | 0, s => by simp [spn]
  | n + 1, s => by
    unfold spn; split
    · have := spn_sum n (s.drop ((Lib.indexByte s 47).toNat + 1))
      rw [List.length_drop] at this
      simp only [List.map_cons, List.sum_cons, List.length_take]
      rcases idx_bd s 47 with h | ⟨h1, h2⟩ <;> omega
    · simp
end Go.Proofs.YtifioecofeojpaaGreatDoor

/- Reading days, in plain lists; impl.readDay. (out of XRvt, XRvi) -/
namespace Go.Proofs.YtifioecofeojpaaGreatDoor
open Go.ChangeShapes Go.WideShapes Go.ChangeAt Go.RowKit
set_option linter.unusedVariables false

/-! ### days -/
noncomputable def rday (s : List UInt8) : Int := (dayR (rdR s).1 (rdR s).2.1 (rdR s).2.2.1).1
theorem rday_ok {s : List UInt8} {n : Int} {Y M D : Nat} (h : DIs n Y M D) (e : dtext Y M D = s) : rdR s = ((Y : Int), (M : Int), (D : Int), 0) ∧ rday s = n := by
  have h1 := rd_ok (okD_iff.2 h.1) e
  refine ⟨h1, ?_⟩
  unfold rday
  rw [h1]
  show (dayR Y M D).1 = n
  rw [dayR_ok (okD_iff.2 h.1)]; exact h.2
theorem rd_ex {s : List UInt8} (h : (rdR s).2.2.2 = 0) : ∃ Y M D : Nat, DIs (rday s) Y M D ∧ dtext Y M D = s ∧ rdR s = ((Y : Int), (M : Int), (D : Int), 0) := by
  by_cases hx : ∃ Y M D : Nat, okD Y M D = true ∧ dtext Y M D = s
  · obtain ⟨Y, M, D, g1, g2⟩ := hx
    have g3 : DIs (numd Y M D) Y M D := ⟨okD_iff.1 g1, rfl⟩
    obtain ⟨h1, h2⟩ := rday_ok g3 g2
    exact ⟨Y, M, D, by rw [h2]; exact g3, g2, h1⟩
  · rw [rd_no (fun Y M D g1 g2 => hx ⟨Y, M, D, g1, g2⟩)] at h; cases h
theorem rday_txt {s : List UInt8} (h : (rdR s).2.2.2 = 0) : dayT (rday s) = s := by
  obtain ⟨Y, M, D, h1, h2, _⟩ := rd_ex h
  rw [dayT_of h1, h2]
theorem rday_dayT {n : Int} (h : inr n 0 36524 = true) : rdR (dayT n) = (rdR (dayT n)) ∧ (rdR (dayT n)).2.2.2 = 0 ∧ rday (dayT n) = n := by
  obtain ⟨Y, M, D, hd⟩ := date_exI h
  obtain ⟨h1, h2⟩ := rday_ok hd (dayT_of hd).symm
  exact ⟨rfl, by rw [h1], h2⟩
/-! ### the bytes of texts -/
theorem dec_dig : ∀ (n : Nat), ∀ b ∈ Lib.decDigits n, 48 ≤ b.toNat ∧ b.toNat ≤ 57 := by
  intro n
  induction n using Nat.strongRecOn with
  | _ n ih =>
    intro b hb
    have hd : ∀ d, d < 10 → (UInt8.ofNat (48 + d)).toNat = 48 + d := fun d hd => by simp [UInt8.toNat_ofNat']; omega
    by_cases hn : n < 10
    · rw [Lib.decDigits_one hn] at hb
      simp only [List.mem_singleton] at hb
      subst hb; rw [hd n hn]; omega
    · rw [dec_hi2 hn] at hb
      rcases List.mem_append.1 hb with h | h
      · exact ih _ (by omega) b h
      · simp only [List.mem_singleton] at h
        subst h; rw [hd _ (by omega)]; omega
theorem two_dig {r : Nat} (h : r < 100) : ∀ b ∈ two r, 48 ≤ b.toNat ∧ b.toNat ≤ 57 := by
  intro b hb
  have hd : ∀ d, d < 10 → (UInt8.ofNat (48 + d)).toNat = 48 + d := fun d hd => by simp [UInt8.toNat_ofNat']; omega
  unfold two at hb
  simp only [List.mem_cons, List.not_mem_nil, or_false] at hb
  rcases hb with rfl | rfl
  · rw [hd _ (by omega)]; omega
  · rw [hd _ (by omega)]; omega
theorem dtext_dig {Y M D : Nat} (hm : M < 100) (hd : D < 100) : ∀ b ∈ dtext Y M D, 45 ≤ b.toNat ∧ b.toNat ≤ 57 := by
  intro b hb
  unfold dtext at hb
  simp only [List.mem_append, List.mem_cons] at hb
  rcases hb with h | h | h | h | h
  · have := dec_dig Y b h; omega
  · subst h; decide
  · have := two_dig hm b h; omega
  · subst h; decide
  · have := two_dig hd b h; omega
theorem dayT_dig (n : Int) : ∀ b ∈ dayT n, 45 ≤ b.toNat ∧ b.toNat ≤ 57 := by
  unfold dayT
  split
  · rename_i h
    exact dtext_dig h.choose_spec.bd.2.2.1 h.choose_spec.bd.2.2.2
  · intro b hb; cases hb
theorem readDay_i (s : List UInt8) (hl : s.length ≤ 1048576) (w : World) (h : Lib3 w) : Calls Tryz.prog 25 #[.string ⟨s.toArray⟩] w fun e w' => e = .returned (.int .i64 (rday s)) ∧ Below w.heap.size w w' := by
  have HR := Lib.hid (rdate_i s hl w h)
  have E : Hid (rday s = (dayR (rdR s).1 (rdR s).2.1 (rdR s).2.2.1).1) := Lib.hid rfl
  obtain ⟨⟨y, m, d, c⟩, hR⟩ : ∃ R, R = rdR s := ⟨_, rfl⟩
  rw [← hR] at HR E
  clear hR
  simp only at E
  have HD := Lib.hid (fun w => dayOf_i y m d w)
  generalize dayR y m d = q at *
  go_enter Tryz.func25, Tryz.ntmps25
  go_wp2_with fail
  refine HR.out.mono ?_
  rintro e w1 ⟨rfl, b1⟩
  have bX := Lib.hid (b1.alloc b1.size (.cells #[.int .i64 y, .int .i64 m, .int .i64 d] 60))
  clear HR
  go_wp2_with fail
  refine (HD.out _).mono ?_
  rintro e w2 ⟨rfl, b2⟩
  go_wp2_with fail
  go_ret
  exact ⟨by rw [E.out] <;> rfl, belowGo bX.out b2⟩
end Go.Proofs.YtifioecofeojpaaGreatDoor

/- Texts of events and their parts. -/
namespace Go.Proofs.YtifioecofeojpaaGreatDoor
open Go.ChangeShapes Go.WideShapes Go.ChangeAt Go.RowKit
set_option linter.unusedVariables false

theorem dayT_no47 (n : Int) : ∀ b ∈ dayT n, b ≠ 47 := by
  unfold dayT
  split
  · rename_i h
    obtain ⟨_, _, hm, hd⟩ := h.choose_spec.bd
    generalize h.choose.1 = Y at *
    generalize h.choose.2.1 = M at *
    generalize h.choose.2.2 = D at *
    intro b hb e
    subst e
    unfold dtext at hb
    simp only [List.mem_append, List.mem_cons] at hb
    rcases hb with h | h | h | h | h
    · have := dec_dig Y _ h; simp at this
    · revert h; decide
    · have := two_dig hm _ h; simp at this
    · revert h; decide
    · have := two_dig hd _ h; simp at this
  · intro b hb; cases hb
theorem flg_no47 (p v r : Bool) : ∀ b ∈ flg p v r, b ≠ 47 := by cases p <;> cases v <;> cases r <;> decide
/-- A letter occurs. -/
def has (c : UInt8) (s : List UInt8) : Bool := s.any (fun b => b == c)
theorem has_snoc (c : UInt8) (s : List UInt8) (b : UInt8) : has c (s ++ [b]) = (has c s || b == c) := by simp [has]
theorem has_flg (p v r : Bool) : has 112 (flg p v r) = p ∧ has 118 (flg p v r) = v ∧ has 114 (flg p v r) = r := by cases p <;> cases v <;> cases r <;> decide
/-- s is the text of the event. -/
def FitE (s : List UInt8) (p : Evt) : Prop := p.ok = true ∧ etext p = s
structure PartE (s : List UInt8) (p : Evt) (n : Nat) : Prop where
  k : p.k = n
  n6 : n ≤ 6
  v : isVal p.a = true
  d : inr p.d 0 36524 = true
  words : sps [] s = [dayT p.d, Lib.decDigits n, p.c, money p.a, flg p.p p.v p.r]
  wn : spn (if s.length < 4 then s.length else 4) s = [dayT p.d, Lib.decDigits n, p.c, money p.a, flg p.p p.v p.r]
theorem fit_partsE {s : List UInt8} {p : Evt} (h : FitE s p) : ∃ n, PartE s p n := by
  obtain ⟨hp, rfl⟩ := h
  obtain ⟨⟨hd0, hd1⟩, ⟨hk0, hk6⟩, hc, ⟨ha0, ha1⟩⟩ := eok hp
  obtain ⟨n, hn⟩ := Int.eq_ofNat_of_zero_le hk0
  have hlen : ¬ (etext p).length < 4 := by unfold etext; simp; omega
  refine ⟨n, hn, by omega, amt_val ha0 ha1, inr_iff.2 ⟨hd0, hd1⟩, ?_, ?_⟩
  · unfold etext
    rw [hn, Int.toNat_natCast, sps_at _ _ _ (dayT_no47 _), sps_at _ _ _ (dec_no47I n), sps_at _ _ _ (no47I hc), sps_at _ _ _ (money_no47 ha0), sps_end _ _ (flg_no47 _ _ _)]
    simp
  · rw [if_neg hlen]
    unfold etext
    rw [hn, Int.toNat_natCast, spn_at (dayT_no47 _), spn_at (dec_no47I n), spn_at (no47I hc), spn_at (money_no47 ha0)]
    rfl
/-- What is read off the five parts. -/
noncomputable def evOf (a : List UInt8) (k : Int) (c : List UInt8) (v : Int) (f : List UInt8) : Evt := ⟨rday a, k, c, v, has 112 f, has 118 f, has 114 f⟩
theorem fit_ev {s : List UInt8} {p : Evt} {n : Nat} (P : PartE s p n) : p = evOf (dayT p.d) n p.c p.a (flg p.p p.v p.r) := by
  unfold evOf
  obtain ⟨h1, h2, h3⟩ := has_flg p.p p.v p.r
  rw [h1, h2, h3, (rday_dayT P.d).2.2, ← P.k]
theorem fit_oneE {s : List UInt8} {p q : Evt} (hp : FitE s p) (hq : FitE s q) : p = q := by
  obtain ⟨n, P⟩ := fit_partsE hp
  obtain ⟨n', Q⟩ := fit_partsE hq
  have e := P.words.symm.trans Q.words
  injection e with e1 e
  injection e with e2 e
  injection e with e3 e
  injection e with e4 e
  injection e with e5 _
  have ek : (n : Int) = n' := by
    have h1 := parse_decI (Y := n) (by have := P.n6; omega); have h2 := parse_decI (Y := n') (by have := Q.n6; omega)
    rw [e2, h2] at h1; cases h1; rfl
  have ev := money_inj P.v Q.v e4
  have h1 := fit_ev P
  have h2 := fit_ev Q
  rw [e1, e3, e5, ek, ev] at h1
  exact h1.trans h2.symm
def zeroE : Evt := ⟨0, 0, [], 0, false, false, false⟩
open Classical in
noncomputable def reR (s : List UInt8) : Evt × Int := if h : ∃ p, FitE s p then (Classical.choose h, 0) else (zeroE, 6)
theorem reR_no {s : List UInt8} (h : ¬ ∃ p, FitE s p) : reR s = (zeroE, 6) := by unfold reR; rw [dif_neg h]
theorem reR_ok {s : List UInt8} {p : Evt} (h : FitE s p) : reR s = (p, 0) := by
  have hx : ∃ p, FitE s p := ⟨p, h⟩
  unfold reR
  rw [dif_pos hx]
  rw [fit_oneE (Classical.choose_spec hx) h]
/-! ### strings.Contains of one letter -/
theorem idx_has (s : List UInt8) (c : UInt8) : decide (0 ≤ Lib.indexByte s c) = has c s := by
  by_cases h : c ∈ s
  · obtain ⟨a, r, e, hn⟩ := List.eq_append_cons_of_mem h
    rw [e, idx_at a r c (fun b hb e => hn (e ▸ hb))]
    simp [has]
  · rw [idx_no s c (fun b hb e => h (e ▸ hb))]
    have : has c s = false := by
      unfold has; rw [List.any_eq_false]; intro x hx; simp; intro e; exact h (e ▸ hx)
    rw [this]; rfl
end Go.Proofs.YtifioecofeojpaaGreatDoor

/- Boxes of seven cells; strings.Contains, impl.readTruths, (impl.toldEvent).event; what ReadEvent gives. (by gen_re8.py) -/
namespace Go.Proofs.YtifioecofeojpaaGreatDoor
open Go.ChangeShapes Go.WideShapes Go.ChangeAt Go.RowKit
set_option linter.unusedVariables false

def GivRE (w : World) (r : Evt × Int) (e : Ending) (w' : World) : Prop :=
  e = .returned (.tuple #[.agg #[.int .i64 r.1.d, .int .i64 r.1.k, .string ⟨r.1.c.toArray⟩, .int .i64 r.1.a, .bool r.1.p, .bool r.1.v, .bool r.1.r], .int .i64 r.2]) ∧ Below w.heap.size w w'
theorem keepR {W0 w' : World} {g : Nat} {vs : Array Value} {t : TypeId} (hb : Below W0.heap.size W0 w') (h : W0.heap[g]? = some (.cells vs t (0, 0))) : w'.heap[g]? = some (.cells vs t (0, 0)) := (hb.block _ (lt_some h)).trans h
structure Cel7 (W : World) (g : Nat) (v0 v1 v2 v3 v4 v5 v6 : Value) : Prop where
  c0 : W.cell? ⟨g, 0, none⟩ = some v0
  c1 : W.cell? ⟨g, 1, none⟩ = some v1
  c2 : W.cell? ⟨g, 2, none⟩ = some v2
  c3 : W.cell? ⟨g, 3, none⟩ = some v3
  c4 : W.cell? ⟨g, 4, none⟩ = some v4
  c5 : W.cell? ⟨g, 5, none⟩ = some v5
  c6 : W.cell? ⟨g, 6, none⟩ = some v6
  f0 : W.frozen? ⟨g, 0, none⟩ = false
  f1 : W.frozen? ⟨g, 1, none⟩ = false
  f2 : W.frozen? ⟨g, 2, none⟩ = false
  f3 : W.frozen? ⟨g, 3, none⟩ = false
  f4 : W.frozen? ⟨g, 4, none⟩ = false
  f5 : W.frozen? ⟨g, 5, none⟩ = false
  f6 : W.frozen? ⟨g, 6, none⟩ = false
theorem cel7 {W : World} {g : Nat} {v0 v1 v2 v3 v4 v5 v6 : Value} {t : TypeId} (h : W.heap[g]? = some (.cells #[v0, v1, v2, v3, v4, v5, v6] t (0, 0))) : Cel7 W g v0 v1 v2 v3 v4 v5 v6 :=
  ⟨by rw [cell_of_row _ _ _ _ _ _ h]; rfl, by rw [cell_of_row _ _ _ _ _ _ h]; rfl, by rw [cell_of_row _ _ _ _ _ _ h]; rfl, by rw [cell_of_row _ _ _ _ _ _ h]; rfl, by rw [cell_of_row _ _ _ _ _ _ h]; rfl, by rw [cell_of_row _ _ _ _ _ _ h]; rfl, by rw [cell_of_row _ _ _ _ _ _ h]; rfl, frozen_of_row W _ 0 _ _ h, frozen_of_row W _ 1 _ _ h, frozen_of_row W _ 2 _ _ h, frozen_of_row W _ 3 _ _ h, frozen_of_row W _ 4 _ _ h, frozen_of_row W _ 5 _ _ h, frozen_of_row W _ 6 _ _ h⟩
theorem done7 {w1 : World} {g : Nat} {v0 v1 v2 v3 v4 v5 v6 : Value} {t : TypeId} (hrow : w1.heap[g]? = some (.cells #[v0, v1, v2, v3, v4, v5, v6] t (0, 0))) (a b c d e f h : Value) :
    ∃ W, (((((((w1.setCell ⟨g, 0, none⟩ a).setCell ⟨g, 1, none⟩ b).setCell ⟨g, 2, none⟩ c).setCell ⟨g, 3, none⟩ d).setCell ⟨g, 4, none⟩ e).setCell ⟨g, 5, none⟩ f).setCell ⟨g, 6, none⟩ h) = W ∧ W.heap[g]? = some (.cells #[a, b, c, d, e, f, h] t (0, 0)) ∧ ∀ (B : Nat) (w : World), B ≤ g → Below B w w1 → Below B w W := by
  have h1 : (w1.setCell ⟨g, 0, none⟩ a).heap[g]? = some (.cells #[a, v1, v2, v3, v4, v5, v6] t (0, 0)) := by rw [heap_setCell_same _ _ _ _ _ _ hrow]; rfl
  have h2 : ((w1.setCell ⟨g, 0, none⟩ a).setCell ⟨g, 1, none⟩ b).heap[g]? = some (.cells #[a, b, v2, v3, v4, v5, v6] t (0, 0)) := by rw [heap_setCell_same _ _ _ _ _ _ h1]; rfl
  have h3 : (((w1.setCell ⟨g, 0, none⟩ a).setCell ⟨g, 1, none⟩ b).setCell ⟨g, 2, none⟩ c).heap[g]? = some (.cells #[a, b, c, v3, v4, v5, v6] t (0, 0)) := by rw [heap_setCell_same _ _ _ _ _ _ h2]; rfl
  have h4 : ((((w1.setCell ⟨g, 0, none⟩ a).setCell ⟨g, 1, none⟩ b).setCell ⟨g, 2, none⟩ c).setCell ⟨g, 3, none⟩ d).heap[g]? = some (.cells #[a, b, c, d, v4, v5, v6] t (0, 0)) := by rw [heap_setCell_same _ _ _ _ _ _ h3]; rfl
  have h5 : (((((w1.setCell ⟨g, 0, none⟩ a).setCell ⟨g, 1, none⟩ b).setCell ⟨g, 2, none⟩ c).setCell ⟨g, 3, none⟩ d).setCell ⟨g, 4, none⟩ e).heap[g]? = some (.cells #[a, b, c, d, e, v5, v6] t (0, 0)) := by rw [heap_setCell_same _ _ _ _ _ _ h4]; rfl
  have h6 : ((((((w1.setCell ⟨g, 0, none⟩ a).setCell ⟨g, 1, none⟩ b).setCell ⟨g, 2, none⟩ c).setCell ⟨g, 3, none⟩ d).setCell ⟨g, 4, none⟩ e).setCell ⟨g, 5, none⟩ f).heap[g]? = some (.cells #[a, b, c, d, e, f, v6] t (0, 0)) := by rw [heap_setCell_same _ _ _ _ _ _ h5]; rfl
  have h7 : (((((((w1.setCell ⟨g, 0, none⟩ a).setCell ⟨g, 1, none⟩ b).setCell ⟨g, 2, none⟩ c).setCell ⟨g, 3, none⟩ d).setCell ⟨g, 4, none⟩ e).setCell ⟨g, 5, none⟩ f).setCell ⟨g, 6, none⟩ h).heap[g]? = some (.cells #[a, b, c, d, e, f, h] t (0, 0)) := by rw [heap_setCell_same _ _ _ _ _ _ h6]; rfl
  refine ⟨_, rfl, h7, fun B w hB hb => ((((((hb.setCell (by simpa using hB) _).setCell (by simpa using hB) _).setCell (by simpa using hB) _).setCell (by simpa using hB) _).setCell (by simpa using hB) _).setCell (by simpa using hB) _).setCell (by simpa using hB) _⟩
def updB (us : Nat → Value) (j : Nat) (v : Value) : Nat → Value := fun n => if n = j then v else us n
theorem updB_same (us : Nat → Value) (j : Nat) (v : Value) : updB us j v j = v := by unfold updB; rw [if_pos rfl]
theorem updB_other {us : Nat → Value} {j n : Nat} {v : Value} (h : n ≠ j) : updB us j v n = us n := by unfold updB; rw [if_neg h]
theorem setB_same {d : Array Bool} {i : Nat} (h : d.getD i true = false) : (d.setIfInBounds i true).getD i false = true := by
  have hi : i < d.size := by
    rcases Nat.lt_or_ge i d.size with h2 | h2
    · exact h2
    · simp [Array.getElem?_eq_none h2] at h
  simp [hi]
theorem getB_f {d : Array Bool} {i : Nat} (h : d.getD i true = false) : d.getD i false = false := by
  cases h2 : d.getD i false with
  | false => rfl
  | true => have := getD_ft h2; rw [h] at this; cases this
theorem cont_i (c : UInt8) (s : List UInt8) (w : World) : Calls Tryz.prog 59 #[.string ⟨s.toArray⟩, .string ⟨#[c]⟩] w fun e w' => e = .returned (.bool (has c s)) ∧ w = w' := by
  have HI : Hid (∀ w, Calls Tryz.prog 96 #[.string ⟨s.toArray⟩, .string ⟨#[c]⟩] w fun e w' => e = .returned (.int .i64 (Lib.indexByte s c)) ∧ w' = w) := Lib.hid fun w => Tryz.stringslite_Index_one ⟨s.toArray⟩ c w
  have HX : Hid (∀ w, Calls Tryz.prog 78 #[.string ⟨s.toArray⟩, .string ⟨#[c]⟩] w fun e w' => e = .returned (.int .i64 (Lib.indexByte s c)) ∧ w = w') := Lib.hid fun w => by
    generalize Lib.indexByte s c = m at *
    go_enter Tryz.func78, Tryz.ntmps78
    go_wp2_with (go_at_call 96; refine (HI.out _).mono ?_; rintro e w' ⟨rfl, rfl⟩)
    go_ret
    exact ⟨rfl, rfl⟩
  have E := idx_has s c
  generalize Lib.indexByte s c = m at *
  rw [← E]
  clear E HI
  go_enter Tryz.func59, Tryz.ntmps59
  go_wp2_with (go_at_call 78; refine (HX.out _).mono ?_; rintro e w' ⟨rfl, rfl⟩)
  go_ret
  exact ⟨rfl, rfl⟩
set_option maxHeartbeats 2000000 in
theorem truths_i (s : List UInt8) (w : World) : Calls Tryz.prog 26 #[.string ⟨s.toArray⟩] w (Gives w (.agg #[.bool (has 112 s), .bool (has 118 s), .bool (has 114 s)])) := by
  have B : ∀ o, Hid (Below w.heap.size w (w.alloc o)) := fun o => Lib.hid ((Below.refl _ _).alloc (Nat.le_refl _) _)
  have H1 := Lib.hid (fun w => cont_i 112 s w)
  have H2 := Lib.hid (fun w => cont_i 118 s w)
  have H3 := Lib.hid (fun w => cont_i 114 s w)
  generalize has 112 s = a at *
  generalize has 118 s = b at *
  generalize has 114 s = c at *
  have o1 := heap_alloc_new w (.cells #[.bool false, .bool false, .bool false] 39)
  go_enter Tryz.func26, Tryz.ntmps26
  go_wp2_with fail
  refine (H1.out _).mono ?_
  rintro e w' ⟨rfl, rfl⟩
  go_wp2_with fail
  refine (H2.out _).mono ?_
  rintro e w' ⟨rfl, rfl⟩
  go_wp2_with fail
  refine (H3.out _).mono ?_
  rintro e w' ⟨rfl, rfl⟩
  go_wp2_with fail
  exact bodyPost_ret (v := .agg #[.bool a, .bool b, .bool c]) (by simp [results, Tryz.results26, go_sem]) rfl ⟨rfl, (B _).out⟩
set_option maxHeartbeats 2000000 in
theorem event_i (p : Evt) (w : World) : Calls Tryz.prog 27 #[.agg #[.int .i64 p.d, .int .i64 p.k, .string ⟨p.c.toArray⟩, .int .i64 p.a, .bool p.p, .bool p.v, .bool p.r]] w (Gives w (.agg #[.int .i64 p.d, .int .i64 p.k, .string ⟨p.c.toArray⟩, .int .i64 p.a, .bool p.p, .bool p.v, .bool p.r])) := by
  have B : ∀ o q, Hid (Below w.heap.size w ((w.alloc o).alloc q)) := fun o q => Lib.hid (((Below.refl _ _).alloc (Nat.le_refl _) _).alloc (by simp) _)
  go_enter Tryz.func27, Tryz.ntmps27
  go_wp2_with fail
  exact bodyPost_ret (v := .agg #[.int .i64 p.d, .int .i64 p.k, .string ⟨p.c.toArray⟩, .int .i64 p.a, .bool p.p, .bool p.v, .bool p.r]) (by simp [results, Tryz.results27, go_sem]) rfl ⟨rfl, (B _ _).out⟩
end Go.Proofs.YtifioecofeojpaaGreatDoor

