/- Places of years in a library, plain lists; what AddEdition and AmendEdition come to. -/
import Derived.Test.YtpdkgjmppknbpaaLif
namespace Go.Proofs.Ytpdkgjmppknbpaa
open Go.ChangeShapes Go.WideShapes Go.ChangeAt Go.RowKit
set_option linter.unusedVariables false

/-- With its capacity. -/
structure LTblC (w : World) (A : Option Addr) (c : Nat) (es : List Edn) : Prop where
  tbl : LTbl w A es
  cap : es.length ≤ c
theorem LTblC.row {w : World} {A : Option Addr} {c : Nat} {es : List Edn} (h : LTblC w A c es) : EdnR w A es := h.tbl.row
theorem LTblC.len {w : World} {A : Option Addr} {c : Nat} {es : List Edn} (h : LTblC w A c es) : es.length ≤ 1048590 := h.tbl.len
theorem LTblC.below {w w' : World} {A : Option Addr} {c : Nat} {es : List Edn} (h : LTblC w A c es) (hb : Below w.heap.size w w') : LTblC w' A c es := ⟨h.tbl.below hb, h.cap⟩
theorem edn_cap {w : World} {lo hi : Nat} {A : Option Addr} {n c : Nat} {es : List Edn} (h : EdnO w lo hi A n c es) : n ≤ c := by
  obtain ⟨hs, h⟩ := h
  rcases h.row.2 with ⟨e, e2⟩ | ⟨g, cap, cur, e, _, _, hle, _⟩
  · have := h.row.1; injection e; omega
  · injection e with e1 e2 e3; omega
theorem ltblC_of {w : World} {lo hi : Nat} {A : Option Addr} {c : Nat} {es : List Edn} (h : EdnO w lo hi A es.length c es) (htx : ∀ e ∈ es, ∀ p ∈ e.cs, p.sz ≤ 1048576) (hc : ∀ e ∈ es, e.cs.length ≤ 1048576) (hn : es.length ≤ 1048576) : LTblC w A c es := ⟨ltbl_of h htx hc hn, edn_cap h⟩
def plcL (es : List Edn) (y : Int) : Nat := es.findIdx (fun q => decide (y ≤ q.y))
theorem plc_leL (es : List Edn) (y : Int) : plcL es y ≤ es.length := List.findIdx_le_length
theorem plc_eqL {es : List Edn} {y : Int} {p : Nat} (hp : p ≤ es.length) (h1 : ∀ (i : Nat) (q : Edn), i < p → es[i]? = some q → q.y < y) (h2 : ∀ (q : Edn), es[p]? = some q → y ≤ q.y) : plcL es y = p := by
  unfold plcL
  by_cases hlt : p < es.length
  · rw [List.findIdx_eq hlt]
    refine ⟨decide_eq_true (h2 _ (List.getElem?_eq_getElem hlt)), fun j hj => ?_⟩
    have := h1 j _ hj (List.getElem?_eq_getElem (by omega))
    simp only [decide_eq_false_iff_not]; omega
  · obtain rfl : p = es.length := by omega
    rw [List.findIdx_eq_length]
    intro x hx
    obtain ⟨j, hj⟩ := List.getElem?_of_mem hx
    have := h1 j x (List.getElem?_eq_some_iff.1 hj).1 hj
    simp only [decide_eq_false_iff_not]; omega
theorem plc_lessL {es : List Edn} {y : Int} {i : Nat} {q : Edn} (hi : i < plcL es y) (hq : es[i]? = some q) : q.y < y := by
  have hl := (List.getElem?_eq_some_iff.1 hq).1
  have h := List.not_of_lt_findIdx hi
  have e : es[i] = q := (List.getElem?_eq_some_iff.1 hq).2
  rw [e] at h
  simp only [decide_eq_false_iff_not] at h; omega
theorem plc_atL {es : List Edn} {y : Int} {q : Edn} (hq : es[plcL es y]? = some q) : y ≤ q.y := by
  have hp := (List.getElem?_eq_some_iff.1 hq).1
  have h1 := List.findIdx_getElem (w := hp)
  have h2 : y ≤ (es[plcL es y]'hp).y := of_decide_eq_true h1
  rw [(List.getElem?_eq_some_iff.1 hq).2] at h2; exact h2
theorem lb_lt {es : List Edn} (h : LB es) : ∀ (n i : Nat) {d e : Edn}, es[i]? = some d → es[i + 1 + n]? = some e → d.y < e.y
  | 0, i, d, e, hd, he => h.asc i d e hd he
  | n + 1, i, d, e, hd, he => by
    have hl := (List.getElem?_eq_some_iff.1 he).1
    have hm := List.getElem?_eq_getElem (l := es) (i := i + 1 + n) (by omega)
    have h1 := lb_lt h n i hd hm
    have h2 := h.asc (i + 1 + n) _ e hm (by rw [← he]; congr 1)
    omega
theorem lb_mono {es : List Edn} (h : LB es) {i j : Nat} {d e : Edn} (hij : i < j) (hd : es[i]? = some d) (he : es[j]? = some e) : d.y < e.y := by
  obtain ⟨n, rfl⟩ : ∃ n, j = i + 1 + n := ⟨j - (i + 1), by omega⟩
  exact lb_lt h n i hd he
/-- Whether there is an edition of the year. -/
def hasL (es : List Edn) (y : Int) : Bool := match es[plcL es y]? with | some q => q.y == y | none => false
theorem hasL_t {es : List Edn} {y : Int} (h : hasL es y = true) : ∃ q, es[plcL es y]? = some q ∧ q.y = y := by
  unfold hasL at h
  cases hq : es[plcL es y]? with
  | none => rw [hq] at h; cases h
  | some q => rw [hq] at h; exact ⟨q, rfl, by simpa using h⟩
theorem hasL_f {es : List Edn} (L : LB es) {y : Int} (h : hasL es y = false) : ∀ (i : Nat) q, es[i]? = some q → q.y ≠ y := by
  intro i q hq e
  have h1 : ¬ i < plcL es y := fun hi => by have := plc_lessL hi hq; omega
  rcases Nat.lt_or_ge (plcL es y) i with h2 | h2
  · have hl := (List.getElem?_eq_some_iff.1 hq).1
    have hp := List.getElem?_eq_getElem (l := es) (i := plcL es y) (by omega)
    have := plc_atL hp
    have := lb_mono L h2 hp hq
    omega
  · obtain rfl : i = plcL es y := by omega
    unfold hasL at h
    rw [hq] at h
    simp [e] at h
theorem hasL_at {es : List Edn} (L : LB es) {y : Int} {i : Nat} {q : Edn} (hq : es[i]? = some q) (e : q.y = y) : hasL es y = true ∧ plcL es y = i := by
  have hp : plcL es y = i := plc_eqL (Nat.le_of_lt (List.getElem?_eq_some_iff.1 hq).1) (fun j d hj hd => by have := lb_mono L hj hd hq; omega) (fun d hd => by rw [hq] at hd; cases hd; omega)
  refine ⟨?_, hp⟩
  unfold hasL
  rw [hp, hq]; simp [e]
/-- The last edition that governs, by its place. -/
theorem lstE_plc {es : List Edn} (L : LB es) (y : Int) : lstE es y es.length = if hasL es y = true then (plcL es y : Int) else (plcL es y : Int) - 1 := by
  have key : ∀ (m k : Nat), k ≤ es.length → (∀ (i : Nat) q, i < k → es[i]? = some q → q.y ≤ y) → (∀ (i : Nat) q, k ≤ i → es[i]? = some q → y < q.y) → m ≤ es.length → k ≤ m → lstE es y m = (k : Int) - 1 := by
    intro m
    induction m with
    | zero => intro k hk h1 h2 hm hkm; obtain rfl : k = 0 := by omega
              rfl
    | succ m ih =>
      intro k hk h1 h2 hm hkm
      have he := List.getElem?_eq_getElem (l := es) (i := m) (by omega)
      by_cases hkm2 : k = m + 1
      · subst hkm2
        rw [lstE_yes he (h1 m _ (by omega) he)]; omega
      · rw [lstE_no he (by have := h2 m _ (by omega) he; omega)]
        exact ih k hk h1 h2 (by omega) (by omega)
  have hple := plc_leL es y
  cases hh : hasL es y with
  | true =>
    obtain ⟨q, hq, hy⟩ := hasL_t hh
    have hl := (List.getElem?_eq_some_iff.1 hq).1
    rw [if_pos rfl, key es.length (plcL es y + 1) (by omega) (fun i d hi hd => ?_) (fun i d hi hd => ?_) (Nat.le_refl _) (by omega)]
    · omega
    · rcases Nat.lt_or_ge i (plcL es y) with h1 | h1
      · have := plc_lessL h1 hd; omega
      · obtain rfl : i = plcL es y := by omega
        rw [hq] at hd; cases hd; omega
    · have := lb_mono L (show plcL es y < i by omega) hq hd; omega
  | false =>
    rw [if_neg (by decide), key es.length (plcL es y) hple (fun i d hi hd => by have := plc_lessL hi hd; omega) (fun i d hi hd => ?_) (Nat.le_refl _) hple]
    have hl := (List.getElem?_eq_some_iff.1 hd).1
    have hp := List.getElem?_eq_getElem (l := es) (i := plcL es y) (by omega)
    have h1 := plc_atL hp
    have h2 := hasL_f L hh _ _ hp
    rcases Nat.lt_or_ge (plcL es y) i with h3 | h3
    · have := lb_mono L h3 hp hd; omega
    · obtain rfl : i = plcL es y := by omega
      rw [hp] at hd; cases hd; omega
theorem efR_has {es : List Edn} {y : Int} (h : lbB es = true) (h1 : hasL es y = true) : efR es y = ((plcL es y : Int), 0) := by
  have := lstE_plc (lb_of h) y
  rw [if_pos h1] at this
  rw [efR_ok h (by omega), this]
theorem efR_bef {es : List Edn} {y : Int} (h : lbB es = true) (h1 : hasL es y = false) : efR es y = if plcL es y = 0 then (0, 4) else ((plcL es y : Int) - 1, 0) := by
  have := lstE_plc (lb_of h) y
  rw [if_neg (by rw [h1]; decide)] at this
  split
  · rw [efR_none h (by omega)]
  · rw [efR_ok h (by omega), this]
/-! ### what is added, what is amended -/
def addL (es : List Edn) (e : Edn) : List Edn := es.take (plcL es e.y) ++ [e] ++ es.drop (plcL es e.y)
def adR (es : List Edn) (e : Edn) : List Edn × Int := if (lbB es && rbB e.cs) = true then (if lbB (addL es e) = true then (addL es e, 0) else ([], 5)) else ([], 1)
theorem adR_no {es : List Edn} {e : Edn} (h : (lbB es && rbB e.cs) = false) : adR es e = ([], 1) := by unfold adR; rw [if_neg (by rw [h]; decide)]
theorem adR_st {es : List Edn} {e : Edn} (h : lbB es = true) (h1 : rbB e.cs = true) (h2 : lbB (addL es e) = false) : adR es e = ([], 5) := by unfold adR; rw [if_pos (by rw [h, h1]; rfl), if_neg (by rw [h2]; decide)]
theorem adR_ok {es : List Edn} {e : Edn} (h : lbB es = true) (h1 : rbB e.cs = true) (h2 : lbB (addL es e) = true) : adR es e = (addL es e, 0) := by unfold adR; rw [if_pos (by rw [h, h1]; rfl), if_pos h2]
theorem addL_len (es : List Edn) (e : Edn) : (addL es e).length = es.length + 1 := by
  have := plc_leL es e.y
  unfold addL
  simp only [List.length_append, List.length_take, List.length_drop, List.length_cons, List.length_nil]; omega
theorem addL_mem {es : List Edn} {e x : Edn} (h : x ∈ addL es e) : x = e ∨ x ∈ es := by
  unfold addL at h
  simp only [List.mem_append, List.mem_singleton] at h
  rcases h with (h | h) | h
  · exact .inr (List.mem_of_mem_take h)
  · exact .inl h
  · exact .inr (List.mem_of_mem_drop h)
/-- The edition with the clause in its place. -/
def amE (e : Edn) (at_ : Nat) (p : Cls) : Edn := ⟨e.y, e.cs.set at_ p⟩
def amR (es : List Edn) (y : Int) (p : Cls) : List Edn × Int :=
  if (lbB es && p.ok) = true then
    (if hasL es y = true then
      (match es[plcL es y]? with
       | some e => (match fndC e.cs p.c with
          | some k => if lbB (es.set (plcL es y) (amE e k p)) = true then (es.set (plcL es y) (amE e k p), 0) else ([], 5)
          | none => ([], 5))
       | none => ([], 4))
     else ([], 4))
  else ([], 1)
theorem amR_no {es : List Edn} {y : Int} {p : Cls} (h : (lbB es && p.ok) = false) : amR es y p = ([], 1) := by unfold amR; rw [if_neg (by rw [h]; decide)]
theorem amR_nf {es : List Edn} {y : Int} {p : Cls} (h : lbB es = true) (h1 : p.ok = true) (h2 : hasL es y = false) : amR es y p = ([], 4) := by unfold amR; rw [if_pos (by rw [h, h1]; rfl), if_neg (by rw [h2]; decide)]
theorem amR_nc {es : List Edn} {y : Int} {p : Cls} {e : Edn} (h : lbB es = true) (h1 : p.ok = true) (h2 : hasL es y = true) (he : es[plcL es y]? = some e) (hf : fndC e.cs p.c = none) : amR es y p = ([], 5) := by
  unfold amR; rw [if_pos (by rw [h, h1]; rfl), if_pos h2, he]; simp only [hf]
theorem amR_st {es : List Edn} {y : Int} {p : Cls} {e : Edn} {k : Nat} (h : lbB es = true) (h1 : p.ok = true) (h2 : hasL es y = true) (he : es[plcL es y]? = some e) (hf : fndC e.cs p.c = some k) (h3 : lbB (es.set (plcL es y) (amE e k p)) = false) : amR es y p = ([], 5) := by
  unfold amR; rw [if_pos (by rw [h, h1]; rfl), if_pos h2, he]; simp only [hf]; rw [if_neg (by rw [h3]; decide)]
theorem amR_ok {es : List Edn} {y : Int} {p : Cls} {e : Edn} {k : Nat} (h : lbB es = true) (h1 : p.ok = true) (h2 : hasL es y = true) (he : es[plcL es y]? = some e) (hf : fndC e.cs p.c = some k) (h3 : lbB (es.set (plcL es y) (amE e k p)) = true) : amR es y p = (es.set (plcL es y) (amE e k p), 0) := by
  unfold amR; rw [if_pos (by rw [h, h1]; rfl), if_pos h2, he]; simp only [hf]; rw [if_pos h3]
end Go.Proofs.Ytpdkgjmppknbpaa
