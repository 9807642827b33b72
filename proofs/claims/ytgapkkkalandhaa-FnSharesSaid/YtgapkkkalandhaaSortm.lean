/- Plain lemmas: a stable insertion by falling numbers, and choosing the greatest again and again. -/
import Derived.Test.YtgapkkkalandhaaBase
namespace Go.Proofs.Ytgapkkkalandhaa
set_option linter.unusedVariables false

/-- a comes before b: a greater number, or the same and a smaller index. -/
def prec (rs : List Int) (a b : Nat) : Prop := rs.getD b 0 < rs.getD a 0 ∨ (rs.getD a 0 = rs.getD b 0 ∧ a < b)
theorem prec_le {rs : List Int} {a b : Nat} (h : prec rs a b) : rs.getD b 0 ≤ rs.getD a 0 := by unfold prec at h; omega

/-- The state of an insertion: x stands at place j of l. -/
def insAt (l : List Nat) (j x : Nat) : List Nat := l.take j ++ x :: l.drop j
theorem insAt_perm (l : List Nat) (j x : Nat) : (insAt l j x).Perm (x :: l) := by
  unfold insAt
  refine List.perm_middle.trans ?_
  rw [List.take_append_drop]
theorem insAt_len (l : List Nat) (j x : Nat) : (insAt l j x).length = l.length + 1 := by
  have := (insAt_perm l j x).length_eq; simpa using this
theorem insAt_top (l : List Nat) (x : Nat) : insAt l l.length x = l ++ [x] := by simp [insAt]
theorem insAt_at {l : List Nat} {j x : Nat} (hj : j ≤ l.length) (t : List Nat) : (insAt l j x ++ t)[j]? = some x := by
  have h1 : (l.take j).length = j := by rw [List.length_take]; omega
  unfold insAt
  rw [List.append_assoc, List.getElem?_append_right (by omega), h1]; simp
theorem insAt_before {l : List Nat} {k x : Nat} (hk : k < l.length) (t : List Nat) : (insAt l (k + 1) x ++ t)[k]? = l[k]? := by
  have h1 : (l.take (k + 1)).length = k + 1 := by rw [List.length_take]; omega
  unfold insAt
  rw [List.append_assoc, List.getElem?_append_left (by omega), List.getElem?_take, if_pos (by omega)]
theorem insAt_step {l : List Nat} {k x y : Nat} (hy : l[k]? = some y) (t : List Nat) : ((insAt l (k + 1) x ++ t).set (k + 1) y).set k x = insAt l k x ++ t := by
  have hk : k < l.length := by
    rcases Nat.lt_or_ge k l.length with h | h
    · exact h
    · rw [List.getElem?_eq_none h] at hy; cases hy
  have e : l[k] = y := by rw [List.getElem?_eq_getElem hk] at hy; exact Option.some.inj hy
  have h1 : (l.take k).length = k := by rw [List.length_take]; omega
  have h2 : l.take (k + 1) = l.take k ++ [y] := by rw [List.take_succ_eq_append_getElem hk, e]
  have h3 : l.drop k = y :: l.drop (k + 1) := by rw [List.drop_eq_getElem_cons hk, e]
  unfold insAt
  rw [h2, h3]
  simp only [List.append_assoc, List.cons_append, List.nil_append]
  rw [List.set_append_right _ _ (by omega), List.set_append_right _ _ (by omega), h1]
  simp

theorem pair_get {rs : List Int} {l : List Nat} (h : l.Pairwise (prec rs)) {i j a b : Nat} (hij : i < j) (ha : l[i]? = some a) (hb : l[j]? = some b) : prec rs a b := by
  have hj : j < l.length := by
    rcases Nat.lt_or_ge j l.length with h | h
    · exact h
    · rw [List.getElem?_eq_none h] at hb; cases hb
  have := List.pairwise_iff_getElem.1 h i j (by omega) hj hij
  rw [List.getElem?_eq_getElem (by omega)] at ha
  rw [List.getElem?_eq_getElem hj] at hb
  rw [Option.some.inj ha, Option.some.inj hb] at this
  exact this

/-- Where the insertion stops the list is sorted again. -/
theorem insAt_sorted {rs : List Int} {l : List Nat} {j x : Nat} (h : l.Pairwise (prec rs)) (hl : ∀ y ∈ l, y < x) (hj : j ≤ l.length)
    (hstop : ∀ k y, j = k + 1 → l[k]? = some y → rs.getD x 0 ≤ rs.getD y 0) (hdrop : ∀ z ∈ l.drop j, rs.getD z 0 < rs.getD x 0) : (insAt l j x).Pairwise (prec rs) := by
  unfold insAt
  have hs : (l.take j ++ l.drop j).Pairwise (prec rs) := by rw [List.take_append_drop]; exact h
  rw [List.pairwise_append] at hs ⊢
  have htake : ∀ y ∈ l.take j, prec rs y x := by
    intro y hy
    obtain ⟨i, hi, e⟩ := List.mem_iff_getElem.1 hy
    have hij : i < j := by rw [List.length_take] at hi; omega
    have hiy : l[i]? = some y := by
      rw [List.getElem?_eq_getElem (by omega)]; rw [List.getElem_take] at e; rw [e]
    have hyx : y < x := hl y (List.mem_of_mem_take hy)
    obtain ⟨k, rfl⟩ : ∃ k, j = k + 1 := ⟨j - 1, by omega⟩
    have hk : l[k]? = some l[k] := List.getElem?_eq_getElem (by omega)
    have h1 := hstop k _ rfl hk
    have h2 : rs.getD l[k] 0 ≤ rs.getD y 0 := by
      rcases Nat.lt_or_ge i k with hlt | hge
      · exact prec_le (pair_get h hlt hiy hk)
      · have : i = k := by omega
        subst this
        rw [hk] at hiy; rw [Option.some.inj hiy]; exact Int.le_refl _
    unfold prec
    omega
  refine ⟨hs.1, ?_, ?_⟩
  · rw [List.pairwise_cons]
    exact ⟨fun z hz => .inl (hdrop z hz), hs.2.1⟩
  · intro a ha b hb
    rcases List.mem_cons.1 hb with rfl | hb
    · exact htake a ha
    · exact hs.2.2 a ha b hb

theorem ins_next {rs : List Int} {l : List Nat} {i j : Nat} (hp : l.Perm (List.range i)) (hs : l.Pairwise (prec rs)) (hj : j ≤ i)
    (hstop : ∀ k y, j = k + 1 → l[k]? = some y → rs.getD i 0 ≤ rs.getD y 0) (hdrop : ∀ z ∈ l.drop j, rs.getD z 0 < rs.getD i 0) : (insAt l j i).Perm (List.range (i + 1)) ∧ (insAt l j i).Pairwise (prec rs) := by
  have hlen : l.length = i := by have := hp.length_eq; simpa using this
  refine ⟨(insAt_perm l j i).trans ?_, insAt_sorted hs (fun y hy => by simpa using hp.mem_iff.1 hy) (by omega) hstop hdrop⟩
  rw [List.range_succ]
  exact (List.Perm.cons i hp).trans (List.perm_append_singleton i _).symm

/-! ### the greatest, again and again -/
/-- The first place of the greatest number, from place i on against the best so far. -/
def pickFrom (rs : List Int) : Nat → Nat → Nat → Nat
  | 0, _, best => best
  | n + 1, i, best => pickFrom rs n (i + 1) (if rs.getD best 0 < rs.getD i 0 then i else best)
def pick (rs : List Int) : Nat := pickFrom rs rs.length 0 0
theorem pickFrom_spec (rs : List Int) (n : Nat) : ∀ i best, (∀ j, j < i → rs.getD j 0 ≤ rs.getD best 0) → (∀ j, j < best → rs.getD j 0 < rs.getD best 0) → (best < i ∨ (best = 0 ∧ i = 0)) →
    (∀ j, j < i + n → rs.getD j 0 ≤ rs.getD (pickFrom rs n i best) 0) ∧ (∀ j, j < pickFrom rs n i best → rs.getD j 0 < rs.getD (pickFrom rs n i best) 0) := by
  induction n with
  | zero => intro i best h1 h2 _; exact ⟨by simpa [pickFrom] using h1, by simpa [pickFrom] using h2⟩
  | succ n ih =>
    intro i best h1 h2 h3
    simp only [pickFrom]
    by_cases hb : rs.getD best 0 < rs.getD i 0
    · rw [if_pos hb]
      have := ih (i + 1) i (by
        intro j hj
        rcases Nat.lt_or_ge j i with h | h
        · have := h1 j h; omega
        · have : j = i := by omega
          subst this; exact Int.le_refl _) (by intro j hj; have := h1 j hj; omega) (by omega)
      rw [show i + (n + 1) = i + 1 + n from by omega]; exact this
    · rw [if_neg hb]
      have := ih (i + 1) best (by
        intro j hj
        rcases Nat.lt_or_ge j i with h | h
        · exact h1 j h
        · have : j = i := by omega
          subst this; omega) h2 (by omega)
      rw [show i + (n + 1) = i + 1 + n from by omega]; exact this
theorem pick_eq {rs : List Int} {b : Nat} (hb : b < rs.length) (h1 : ∀ j, j < rs.length → rs.getD j 0 ≤ rs.getD b 0) (h2 : ∀ j, j < b → rs.getD j 0 < rs.getD b 0) : pick rs = b := by
  obtain ⟨p1, p2⟩ := pickFrom_spec rs rs.length 0 0 (by omega) (by omega) (by omega)
  simp only [Nat.zero_add] at p1
  change (∀ j, j < rs.length → rs.getD j 0 ≤ rs.getD (pick rs) 0) at p1
  change (∀ j, j < pick rs → rs.getD j 0 < rs.getD (pick rs) 0) at p2
  rcases Nat.lt_trichotomy (pick rs) b with h | h | h
  · have := h2 _ h; have := p1 b hb; omega
  · exact h
  · have := p2 _ h
    by_cases hp : pick rs < rs.length
    · have := h1 _ hp; omega
    · exfalso
      have hz : rs.getD (pick rs) 0 = 0 := by simp [List.getD_eq_getElem?_getD, List.getElem?_eq_none (by omega : rs.length ≤ pick rs)]
      -- the place lies outside: then it is the start, 0, and there is no number
      have : pick rs < rs.length ∨ pick rs = 0 := by
        clear p1 p2 hz h this h1 h2
        unfold pick
        suffices H : ∀ n i best, i + n ≤ rs.length → (best < rs.length ∨ best = 0) → pickFrom rs n i best < rs.length ∨ pickFrom rs n i best = 0 from H rs.length 0 0 (by omega) (.inr rfl)
        intro n
        induction n with
        | zero => intro i best _ h; exact h
        | succ n ih => intro i best hi h; simp only [pickFrom]; exact ih _ _ (by omega) (by split <;> omega)
      omega

/-- One hundredth each to the places that are picked. -/
def give : Nat → List Int → List Int → List Int
  | 0, _, ps => ps
  | k + 1, rs, ps => give k (rs.set (pick rs) (-1)) (ps.set (pick rs) (ps.getD (pick rs) 0 + 1))
def bump (ps : List Int) (i : Nat) : List Int := ps.set i (ps.getD i 0 + 1)

/-- In a sorted order the first ones are those that are picked. -/
theorem give_eq (k : Nat) : ∀ (os : List Nat) (rs ps : List Int), k ≤ os.length → os.Pairwise (prec rs) → os.Nodup → (∀ i ∈ os, i < rs.length ∧ 0 ≤ rs.getD i 0) → (∀ j, j < rs.length → j ∉ os → rs.getD j 0 = -1) →
    give k rs ps = (os.take k).foldl bump ps := by
  induction k with
  | zero => intro os rs ps _ _ _ _ _; simp [give]
  | succ k ih =>
    intro os rs ps hk hp hn hin hout
    cases os with
    | nil => simp at hk
    | cons o os =>
      rw [List.pairwise_cons] at hp
      rw [List.nodup_cons] at hn
      obtain ⟨ho, ho0⟩ := hin o (List.mem_cons_self ..)
      have hpick : pick rs = o := by
        refine pick_eq ho ?_ ?_
        · intro j hj
          by_cases hm : j ∈ o :: os
          · rcases List.mem_cons.1 hm with rfl | hm
            · exact Int.le_refl _
            · exact prec_le (hp.1 j hm)
          · rw [hout j hj hm]; omega
        · intro j hj
          by_cases hm : j ∈ o :: os
          · rcases List.mem_cons.1 hm with rfl | hm
            · omega
            · rcases hp.1 j hm with h | ⟨_, h⟩
              · exact h
              · omega
          · rw [hout j (by omega) hm]; omega
      have hset : ∀ i, i ≠ o → (rs.set o (-1)).getD i 0 = rs.getD i 0 := fun i hi => by
        simp [List.getD_eq_getElem?_getD, List.getElem?_set_ne (Ne.symm hi)]
      have hseto : (rs.set o (-1)).getD o 0 = -1 := by simp [List.getD_eq_getElem?_getD, ho]
      simp only [give, hpick, List.take_succ_cons, List.foldl_cons]
      have hmem : ∀ i ∈ os, i ≠ o := fun i hi e => hn.1 (e ▸ hi)
      refine ih os (rs.set o (-1)) (ps.set o (ps.getD o 0 + 1)) (by simp at hk; omega) ?_ hn.2 ?_ ?_
      · refine hp.2.imp_of_mem ?_
        intro a b ha hb hab
        unfold prec at hab ⊢
        rw [hset a (hmem a ha), hset b (hmem b hb)]; exact hab
      · intro i hi
        rw [List.length_set, hset i (hmem i hi)]
        exact hin i (List.mem_cons_of_mem _ hi)
      · intro j hj hm
        rw [List.length_set] at hj
        by_cases hjo : j = o
        · rw [hjo]; exact hseto
        · rw [hset j hjo]; exact hout j hj (by simp [hjo, hm])
end Go.Proofs.Ytgapkkkalandhaa
