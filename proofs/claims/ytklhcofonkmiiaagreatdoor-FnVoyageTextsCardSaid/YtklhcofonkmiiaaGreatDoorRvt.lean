/- Reading voyages, in plain lists. -/
import Derived.Test.YtklhcofonkmiiaaGreatDoorMVtx
import Derived.Test.YtklhcofonkmiiaaGreatDoorMCut
import Derived.Test.YtklhcofonkmiiaaGreatDoorNum
import Derived.Test.YtklhcofonkmiiaaGreatDoorDparse
namespace Go.Proofs.YtklhcofonkmiiaaGreatDoor
open Go.ChangeShapes Go.WideShapes Go.ChangeAt Go.RowKit
set_option linter.unusedVariables false

/-! ### words put together again -/
theorem join_cons2 (x y : List UInt8) (r : List (List UInt8)) (sep : UInt8) : Lib.join (x :: y :: r) [sep] = x ++ sep :: Lib.join (y :: r) [sep] := by
  rw [Lib.join_cons, Lib.join_cons]; unfold Lib.joinTail; simp
theorem spx_ne {sep : UInt8} (s : List UInt8) : ∀ cur, spx sep cur s ≠ [] := by
  induction s with
  | nil => intro cur; simp [spx]
  | cons c r ih =>
    intro cur; rw [spx]; split
    · simp
    · exact ih _
theorem spx_join {sep : UInt8} (s : List UInt8) : ∀ cur, Lib.join (spx sep cur s) [sep] = cur ++ s := by
  induction s with
  | nil => intro cur; simp [spx, Lib.join_one]
  | cons c r ih =>
    intro cur
    rw [spx]; split
    · rename_i hc
      have h1 := ih []
      obtain ⟨y, t, hy⟩ : ∃ y t, spx sep [] r = y :: t := by
        cases h : spx sep [] r with
        | nil => exact absurd h (spx_ne _ _)
        | cons y t => exact ⟨y, t, rfl⟩
      rw [hy] at h1 ⊢
      rw [join_cons2, h1, hc]; simp
    · rw [ih]; simp
/-! ### days -/
noncomputable def rday (s : List UInt8) : Int := (dayR (rdR s).1 (rdR s).2.1 (rdR s).2.2.1).1
theorem rday_ok {s : List UInt8} {n : Int} {Y M D : Nat} (h : DIs n Y M D) (e : dtext Y M D = s) : rdR s = ((Y : Int), (M : Int), (D : Int), 0) ∧ rday s = n := by
  have h1 := rd_ok (okD_iff.2 h.1) e
  refine ⟨h1, ?_⟩
  unfold rday
  rw [h1]
  show (dayR Y M D).1 = n
  rw [dayR_ok (okD_iff.2 h.1)]; exact h.2
theorem rd_ex {s : List UInt8} (h : (rdR s).2.2.2 = 0) : ∃ Y M D : Nat, DIs (rday s) Y M D ∧ dtext Y M D = s ∧ rdR s = ((Y : Int), (M : Int), (D : Int), 0) := by
  by_cases hx : ∃ Y M D : Nat, okD Y M D = true ∧ dtext Y M D = s
  · obtain ⟨Y, M, D, g1, g2⟩ := hx
    have g3 : DIs (numd Y M D) Y M D := ⟨okD_iff.1 g1, rfl⟩
    obtain ⟨h1, h2⟩ := rday_ok g3 g2
    exact ⟨Y, M, D, by rw [h2]; exact g3, g2, h1⟩
  · rw [rd_no (fun Y M D g1 g2 => hx ⟨Y, M, D, g1, g2⟩)] at h; cases h
theorem rday_txt {s : List UInt8} (h : (rdR s).2.2.2 = 0) : dayT (rday s) = s := by
  obtain ⟨Y, M, D, h1, h2, _⟩ := rd_ex h
  rw [dayT_of h1, h2]
theorem rday_dayT {n : Int} (h : inr n 0 36524 = true) : rdR (dayT n) = (rdR (dayT n)) ∧ (rdR (dayT n)).2.2.2 = 0 ∧ rday (dayT n) = n := by
  obtain ⟨Y, M, D, hd⟩ := date_exI h
  obtain ⟨h1, h2⟩ := rday_ok hd (dayT_of hd).symm
  exact ⟨rfl, by rw [h1], h2⟩
/-! ### the bytes of texts -/
theorem dec_dig : ∀ (n : Nat), ∀ b ∈ Lib.decDigits n, 48 ≤ b.toNat ∧ b.toNat ≤ 57 := by
  intro n
  induction n using Nat.strongRecOn with
  | _ n ih =>
    intro b hb
    have hd : ∀ d, d < 10 → (UInt8.ofNat (48 + d)).toNat = 48 + d := fun d hd => by simp [UInt8.toNat_ofNat']; omega
    by_cases hn : n < 10
    · rw [Lib.decDigits_one hn] at hb
      simp only [List.mem_singleton] at hb
      subst hb; rw [hd n hn]; omega
    · rw [dec_hi2 hn] at hb
      rcases List.mem_append.1 hb with h | h
      · exact ih _ (by omega) b h
      · simp only [List.mem_singleton] at h
        subst h; rw [hd _ (by omega)]; omega
theorem two_dig {r : Nat} (h : r < 100) : ∀ b ∈ two r, 48 ≤ b.toNat ∧ b.toNat ≤ 57 := by
  intro b hb
  have hd : ∀ d, d < 10 → (UInt8.ofNat (48 + d)).toNat = 48 + d := fun d hd => by simp [UInt8.toNat_ofNat']; omega
  unfold two at hb
  simp only [List.mem_cons, List.not_mem_nil, or_false] at hb
  rcases hb with rfl | rfl
  · rw [hd _ (by omega)]; omega
  · rw [hd _ (by omega)]; omega
theorem dtext_dig {Y M D : Nat} (hm : M < 100) (hd : D < 100) : ∀ b ∈ dtext Y M D, 45 ≤ b.toNat ∧ b.toNat ≤ 57 := by
  intro b hb
  unfold dtext at hb
  simp only [List.mem_append, List.mem_cons] at hb
  rcases hb with h | h | h | h | h
  · have := dec_dig Y b h; omega
  · subst h; decide
  · have := two_dig hm b h; omega
  · subst h; decide
  · have := two_dig hd b h; omega
theorem dayT_dig (n : Int) : ∀ b ∈ dayT n, 45 ≤ b.toNat ∧ b.toNat ≤ 57 := by
  unfold dayT
  split
  · rename_i h
    exact dtext_dig h.choose_spec.bd.2.2.1 h.choose_spec.bd.2.2.2
  · intro b hb; cases hb
theorem pcode_low {s : List UInt8} (h : pcode s = true) : ∀ b ∈ s, 97 ≤ b.toNat ∧ b.toNat ≤ 122 := by
  intro b hb
  have := List.all_eq_true.1 (pcode_iff.1 h).2 b hb
  unfold lowb at this
  have := of_decide_eq_true this
  omega
theorem no_p {s : List UInt8} (h : pcode s = true) {c : UInt8} (hc : c = 32 ∨ c = 64 ∨ c = 126) : ∀ b ∈ s, b ≠ c := by
  intro b hb e
  have := pcode_low h b hb
  subst e
  rcases hc with rfl | rfl | rfl <;> simp at this
theorem no_d (n : Int) {c : UInt8} (hc : c = 32 ∨ c = 64 ∨ c = 126) : ∀ b ∈ dayT n, b ≠ c := by
  intro b hb e
  have := dayT_dig n b hb
  subst e
  rcases hc with rfl | rfl | rfl <;> simp at this
theorem stxt_no32 {r : Sto} (h : r.ok = true) : ∀ b ∈ stxt r, b ≠ 32 := by
  intro b hb
  unfold stxt at hb
  simp only [List.mem_append, List.mem_cons] at hb
  rcases hb with g | g | g | g | g
  · exact no_p (sok h).1 (.inl rfl) b g
  · subst g; decide
  · exact no_d _ (.inl rfl) b g
  · subst g; decide
  · exact no_d _ (.inl rfl) b g
/-! ### one stop -/
noncomputable def rstop (s : List UInt8) : Sto := ⟨(cutL s 64).1, rday (cutL (cutL s 64).2.1 126).1, rday (cutL (cutL s 64).2.1 126).2.1⟩
theorem rstop_ok {r : Sto} (h : r.ok = true) : rstop (stxt r) = r := by
  obtain ⟨hp, ⟨i0, i1⟩, ⟨o0, o1⟩, _⟩ := sok h
  unfold rstop stxt
  rw [cut_at (no_p hp (.inr (.inl rfl)))]
  simp only
  rw [cut_at (no_d r.i (.inr (.inr rfl)))]
  simp only
  rw [(rday_dayT (inr_iff.2 ⟨i0, i1⟩)).2.2, (rday_dayT (inr_iff.2 ⟨o0, o1⟩)).2.2]
theorem rstop_sz (s : List UInt8) : (rstop s).sz ≤ s.length := (cut_len s 64).1
noncomputable def wordR (x : List UInt8) : Option Sto :=
  match spx 64 [] x with
  | [a, b] => match spx 126 [] b with
    | [c, d] => if (rdR c).2.2.2 = 0 ∧ (rdR d).2.2.2 = 0 then some ⟨a, rday c, rday d⟩ else none
    | _ => none
  | _ => none
theorem wordR_some {x a b c d : List UInt8} (h1 : spx 64 [] x = [a, b]) (h2 : spx 126 [] b = [c, d]) (h3 : (rdR c).2.2.2 = 0) (h4 : (rdR d).2.2.2 = 0) : wordR x = some ⟨a, rday c, rday d⟩ := by
  unfold wordR; rw [h1]; simp only; rw [h2]; simp only; rw [if_pos ⟨h3, h4⟩]
theorem wordR_n1 {x : List UInt8} (h : (spx 64 [] x).length ≠ 2) : wordR x = none := by
  unfold wordR
  match spx 64 [] x, h with
  | [], _ => rfl
  | [_], _ => rfl
  | [_, _], h => exact absurd rfl h
  | _ :: _ :: _ :: _, _ => rfl
theorem wordR_n2 {x a b : List UInt8} (h1 : spx 64 [] x = [a, b]) (h : (spx 126 [] b).length ≠ 2) : wordR x = none := by
  unfold wordR; rw [h1]; simp only
  match spx 126 [] b, h with
  | [], _ => rfl
  | [_], _ => rfl
  | [_, _], h => exact absurd rfl h
  | _ :: _ :: _ :: _, _ => rfl
theorem wordR_n3 {x a b c d : List UInt8} (h1 : spx 64 [] x = [a, b]) (h2 : spx 126 [] b = [c, d]) (h3 : ¬ ((rdR c).2.2.2 = 0 ∧ (rdR d).2.2.2 = 0)) : wordR x = none := by
  unfold wordR; rw [h1]; simp only; rw [h2]; simp only; rw [if_neg h3]
theorem wordR_ok {r : Sto} (h : r.ok = true) : wordR (stxt r) = some r := by
  obtain ⟨hp, ⟨i0, i1⟩, ⟨o0, o1⟩, _⟩ := sok h
  obtain ⟨_, a2, a3⟩ := rday_dayT (inr_iff.2 ⟨i0, i1⟩)
  obtain ⟨_, b2, b3⟩ := rday_dayT (inr_iff.2 ⟨o0, o1⟩)
  have n1 : ∀ b ∈ dayT r.i ++ 126 :: dayT r.o, b ≠ 64 := fun b hb => by
    simp only [List.mem_append, List.mem_cons] at hb
    rcases hb with g | g | g
    · exact no_d _ (.inr (.inl rfl)) b g
    · subst g; decide
    · exact no_d _ (.inr (.inl rfl)) b g
  have h1 : spx 64 [] (stxt r) = [r.p, dayT r.i ++ 126 :: dayT r.o] := by
    unfold stxt; rw [spx_at _ _ _ (no_p hp (.inr (.inl rfl))), spx_end _ _ n1]; simp
  have h2 : spx 126 [] (dayT r.i ++ 126 :: dayT r.o) = [dayT r.i, dayT r.o] := by
    rw [spx_at _ _ _ (no_d r.i (.inr (.inr rfl))), spx_end _ _ (no_d r.o (.inr (.inr rfl)))]; simp
  rw [wordR_some h1 h2 a2 b2, a3, b3]
theorem wordR_txt {x : List UInt8} {r : Sto} (h : wordR x = some r) : stxt r = x := by
  by_cases h1 : (spx 64 [] x).length = 2
  · obtain ⟨a, b, e1⟩ : ∃ a b, spx 64 [] x = [a, b] := by
      match hh : spx 64 [] x, h1 with
      | [a, b], _ => exact ⟨a, b, rfl⟩
    by_cases h2 : (spx 126 [] b).length = 2
    · obtain ⟨c, d, e2⟩ : ∃ c d, spx 126 [] b = [c, d] := by
        match hh : spx 126 [] b, h2 with
        | [c, d], _ => exact ⟨c, d, rfl⟩
      by_cases h3 : (rdR c).2.2.2 = 0 ∧ (rdR d).2.2.2 = 0
      · rw [wordR_some e1 e2 h3.1 h3.2] at h
        have := Option.some.inj h
        subst this
        unfold stxt
        simp only
        rw [rday_txt h3.1, rday_txt h3.2]
        have j1 := spx_join (sep := 64) x []
        have j2 := spx_join (sep := 126) b []
        rw [e1, join_cons2, Lib.join_one, List.nil_append] at j1
        rw [e2, join_cons2, Lib.join_one, List.nil_append] at j2
        rw [j2, j1]
      · rw [wordR_n3 e1 e2 h3] at h; cases h
    · rw [wordR_n2 e1 h2] at h; cases h
  · rw [wordR_n1 h1] at h; cases h
/-! ### the words of a voyage -/
theorem vtxt_cons2 (r q : Sto) (l : List Sto) : vtxt (r :: q :: l) = stxt r ++ 32 :: vtxt (q :: l) := by
  unfold vtxt; rw [List.map_cons, List.map_cons, join_cons2]
theorem spx_voy : ∀ (rs : List Sto), rs ≠ [] → (∀ r ∈ rs, r.ok = true) → spx 32 [] (vtxt rs) = rs.map stxt
  | [], h, _ => absurd rfl h
  | [r], _, ho => by rw [vtxt_one, spx_end _ _ (stxt_no32 (ho r (by simp)))]; simp
  | r :: q :: l, _, ho => by
    rw [vtxt_cons2, spx_at _ _ _ (stxt_no32 (ho r (by simp))), spx_voy (q :: l) (by simp) (fun x hx => ho x (by simp [hx]))]; simp
theorem spn_voy : ∀ (rs : List Sto), rs ≠ [] → (∀ r ∈ rs, r.ok = true) → ∀ n, rs.length ≤ n + 1 → spn n (vtxt rs) = rs.map stxt
  | [], h, _ => absurd rfl h
  | [r], _, ho => fun n _ => by
    rw [vtxt_one]
    cases n with
    | zero => rfl
    | succ n =>
      rw [spn, idx_no _ _ (stxt_no32 (ho r (by simp)))]; rfl
  | r :: q :: l, _, ho => fun n hn => by
    obtain ⟨m, rfl⟩ : ∃ m, n = m + 1 := ⟨n - 1, by simp at hn; omega⟩
    rw [vtxt_cons2, spn_at (stxt_no32 (ho r (by simp))), spn_voy (q :: l) (by simp) (fun x hx => ho x (by simp [hx])) m (by simp at hn ⊢; omega)]; simp
theorem vtxt_ge : ∀ (rs : List Sto), rs.length ≤ (vtxt rs).length
  | [] => Nat.zero_le _
  | [r] => by rw [vtxt_one]; unfold stxt; simp; omega
  | r :: q :: l => by
    have := vtxt_ge (q :: l)
    rw [vtxt_cons2]; simp only [List.length_append, List.length_cons] at *; omega
def FitV (s : List UInt8) (rs : List Sto) : Prop := voyB rs = true ∧ vtxt rs = s
theorem FitV.ne {s : List UInt8} {rs : List Sto} (h : FitV s rs) : rs ≠ [] := fun e => by
  have := (voy_iff.1 h.1).2.1
  rw [e] at this; simp at this
theorem FitV.ok {s : List UInt8} {rs : List Sto} (h : FitV s rs) : ∀ r ∈ rs, r.ok = true := voy_all_ok h.1
theorem FitV.words {s : List UInt8} {rs : List Sto} (h : FitV s rs) : spx 32 [] s = rs.map stxt := by
  rw [← h.2]; exact spx_voy rs h.ne h.ok
theorem map_back {rs : List Sto} (h : ∀ r ∈ rs, r.ok = true) : (rs.map stxt).map rstop = rs := by
  rw [List.map_map]
  exact (List.map_congr_left (fun r hr => rstop_ok (h r hr))).trans (List.map_id _)
theorem fitV_one {s : List UInt8} {rs ts : List Sto} (h : FitV s rs) (g : FitV s ts) : rs = ts := by
  have e := h.words.symm.trans g.words
  rw [← map_back h.ok, e, map_back g.ok]
open Classical in
noncomputable def rvR (s : List UInt8) : List Sto × Int := if h : ∃ rs, FitV s rs then (h.choose, 0) else ([], 6)
theorem rvR_no {s : List UInt8} (h : ¬ ∃ rs, FitV s rs) : rvR s = ([], 6) := by unfold rvR; rw [dif_neg h]
theorem rvR_ok {s : List UInt8} {rs : List Sto} (h : FitV s rs) : rvR s = (rs, 0) := by
  have hx : ∃ rs, FitV s rs := ⟨rs, h⟩
  unfold rvR
  rw [dif_pos hx, fitV_one hx.choose_spec h]
theorem rvR_len (s : List UInt8) : (rvR s).1.length ≤ 10 := by
  unfold rvR
  split
  · rename_i h
    exact (voy_iff.1 h.choose_spec.1).2.2
  · exact Nat.zero_le _
/-- The program's way: what it has read is written again. -/
def wordsI (s : List UInt8) : List (List UInt8) := spn (if s.length < 10 then s.length else 10) s
theorem FitV.wordsI {s : List UInt8} {rs : List Sto} (h : FitV s rs) : wordsI s = rs.map stxt := by
  have h10 := (voy_iff.1 h.1).2.2
  have hge := vtxt_ge rs
  unfold Go.Proofs.YtklhcofonkmiiaaGreatDoor.wordsI
  rw [← h.2]
  exact spn_voy rs h.ne h.ok _ (by split <;> omega)
theorem rv_yes {s : List UInt8} (h : voyT ((wordsI s).map rstop) = (s, 0)) : rvR s = ((wordsI s).map rstop, 0) := by
  rcases Bool.eq_false_or_eq_true (voyB ((wordsI s).map rstop)) with hv | hv
  · rw [voyT_ok hv] at h
    exact rvR_ok ⟨hv, (Prod.mk.inj h).1⟩
  · rw [voyT_no hv] at h; cases (Prod.mk.inj h).2
theorem rv_none {s : List UInt8} (h : voyT ((wordsI s).map rstop) ≠ (s, 0)) : rvR s = ([], 6) := by
  refine rvR_no ?_
  rintro ⟨rs, hf⟩
  refine h ?_
  rw [hf.wordsI, map_back hf.ok, voyT_ok hf.1, hf.2]
/-- The model's way: every word is read. -/
theorem rv_word {s : List UInt8} {k : Nat} {x : List UInt8} (hx : (spx 32 [] s)[k]? = some x) (h : wordR x = none) : rvR s = ([], 6) := by
  refine rvR_no ?_
  rintro ⟨rs, hf⟩
  rw [hf.words, List.getElem?_map] at hx
  cases hr : rs[k]? with
  | none => rw [hr] at hx; cases hx
  | some r =>
    rw [hr] at hx
    rw [← Option.some.inj hx, wordR_ok (hf.ok r (List.mem_of_getElem? hr))] at h; cases h
theorem words_txt : ∀ {ws : List (List UInt8)} {rs : List Sto}, ws.map wordR = rs.map some → rs.map stxt = ws
  | [], [], _ => rfl
  | [], _ :: _, h => by simp at h
  | _ :: _, [], h => by simp at h
  | w :: ws, r :: rs, h => by
    simp only [List.map_cons, List.cons.injEq] at h
    rw [List.map_cons, wordR_txt h.1, words_txt h.2]
theorem rv_done {s : List UInt8} {rs : List Sto} (h : (spx 32 [] s).map wordR = rs.map some) (hv : voyB rs = true) : rvR s = (rs, 0) := by
  refine rvR_ok ⟨hv, ?_⟩
  have := words_txt h
  unfold vtxt
  rw [this, spx_join]; simp
theorem rv_bad {s : List UInt8} {rs : List Sto} (h : (spx 32 [] s).map wordR = rs.map some) (hv : voyB rs = false) : rvR s = ([], 6) := by
  refine rvR_no ?_
  rintro ⟨ts, hf⟩
  have e1 := words_txt h
  have e2 : ts.map some = rs.map some := by
    rw [← h, hf.words, List.map_map]
    exact (List.map_congr_left (fun r hr => (wordR_ok (hf.ok r hr)).symm))
  have e3 : ts = rs := by
    have := congrArg (List.filterMap id) e2
    simpa using this
  rw [← e3, hf.1] at hv; cases hv
end Go.Proofs.YtklhcofonkmiiaaGreatDoor
