/- impl.AddRate: all its ways. -/
import Derived.Test.YtaehkkcaoniphaaAdwa
import Derived.Test.YtaehkkcaoniphaaAdwb
import Derived.Test.YtaehkkcaoniphaaAdwc
import Derived.Test.YtaehkkcaoniphaaAdwd
import Derived.Test.YtaehkkcaoniphaaAdwe
namespace Go.Proofs.Ytaehkkcaoniphaa
open Go.ChangeShapes Go.WideShapes Go.ChangeAt Go.RowKit
set_option linter.unusedVariables false

/-- The place of a rate in a table. -/
def lowP (rs : List Rt) (r : Rt) : Nat := (rs.takeWhile (fun q => bef q r)).length
def hitP (rs : List Rt) (r : Rt) : Bool := match rs[lowP rs r]? with | some q => ordR q r == 0 | none => false
theorem low_of {r : Rt} : ∀ (rs : List Rt) (p : Nat), p ≤ rs.length → (∀ (i : Nat) (q : Rt), i < p → rs[i]? = some q → bef q r = true) → (∀ (i : Nat) (q : Rt), p ≤ i → rs[i]? = some q → bef q r = false) → lowP rs r = p := by
  intro rs
  induction rs with
  | nil => intro p hp _ _; simp at hp; subst hp; rfl
  | cons x xs ih =>
    intro p hp hlo hhi
    cases p with
    | zero =>
      have := hhi 0 x (Nat.le_refl _) rfl
      simp [lowP, this]
    | succ p =>
      have h0 := hlo 0 x (by omega) rfl
      have := ih p (by simp at hp; omega) (fun i q hi hq => hlo (i + 1) q (by omega) (by simpa using hq)) (fun i q hi hq => hhi (i + 1) q (by omega) (by simpa using hq))
      simp only [lowP] at this ⊢
      rw [List.takeWhile_cons_of_pos (by simpa using h0), List.length_cons, this]
theorem low_lo {r : Rt} : ∀ (rs : List Rt) (i : Nat) (q : Rt), i < lowP rs r → rs[i]? = some q → bef q r = true := by
  intro rs
  induction rs with
  | nil => intro i q hi; simp [lowP] at hi
  | cons x xs ih =>
    intro i q hi hq
    cases hx : bef x r with
    | false => simp [lowP, hx] at hi
    | true =>
      cases i with
      | zero => simp at hq; subst hq; exact hx
      | succ i =>
        simp only [lowP] at hi ih
        rw [List.takeWhile_cons_of_pos (by simpa using hx), List.length_cons] at hi
        exact ih i q (by omega) (by simpa using hq)
theorem low_at {r : Rt} : ∀ (rs : List Rt) (q : Rt), rs[lowP rs r]? = some q → bef q r = false := by
  intro rs
  induction rs with
  | nil => intro q hq; simp at hq
  | cons x xs ih =>
    intro q hq
    cases hx : bef x r with
    | false =>
      simp [lowP, hx] at hq; subst hq; exact hx
    | true =>
      simp only [lowP] at hq ih
      rw [List.takeWhile_cons_of_pos (by simpa using hx), List.length_cons] at hq
      exact ih q (by simpa using hq)
theorem low_le (rs : List Rt) (r : Rt) : lowP rs r ≤ rs.length := (List.takeWhile_sublist _).length_le
theorem low_hi {r : Rt} {rs : List Rt} (ht : tabB rs = true) (i : Nat) (q : Rt) (hi : lowP rs r ≤ i) (hq : rs[i]? = some q) : bef q r = false := by
  have hl : i < rs.length := (List.getElem?_eq_some_iff.1 hq).1
  have hp : rs[lowP rs r]? = some rs[lowP rs r] := List.getElem?_eq_getElem (by omega)
  have h0 := low_at rs _ hp
  rcases Nat.lt_or_ge (lowP rs r) i with h | h
  · cases hb : bef q r with
    | false => rfl
    | true => have := bef_trans (tab_before ht h hp hq) hb; rw [h0] at this; cases this
  · obtain rfl : i = lowP rs r := by omega
    rw [hp] at hq; cases hq; exact h0
theorem hit_at {rs : List Rt} {r q : Rt} (hq : rs[lowP rs r]? = some q) : hitP rs r = (ordR q r == 0) := by unfold hitP; rw [hq]
theorem hit_end {rs : List Rt} {r : Rt} (h : lowP rs r = rs.length) : hitP rs r = false := by
  unfold hitP; rw [h, List.getElem?_eq_none (Nat.le_refl _)]
theorem addL_low {rs : List Rt} (r : Rt) (ht : tabB rs = true) : addL rs r = putAt rs r (lowP rs r) (hitP rs r) :=
  addL_put ht (low_le rs r) (low_lo rs) (low_hi ht) (fun q hq => hit_at hq) hit_end
theorem bin_q (A : Option Addr) (c : Nat) (rs : List Rt) (r : Rt) (ht : tabB rs = true) (w : World) (h : Rr w A rs) :
    Calls Try.prog 51 #[.slice A rs.length c, .agg #[.string ⟨r.c.toArray⟩, .int .i64 r.day, .int .i64 r.num, .int .i64 r.den], .func (.func 52) #[] #[]] w (fun e w' => e = .returned (.tuple #[.int .i64 (lowP rs r : Nat), .bool (hitP rs r)]) ∧ Below w.heap.size w w') := by
  have hn : rs.length ≤ 20 := (tabB_iff.1 ht).2
  refine (bin_i A c rs r w h hn (fun i j q p hij hq hp hb => bef_trans (tab_before ht hij hq hp) hb)).mono ?_
  rintro e w' ⟨p, b, rfl, hb, hp, hlo, hhi, heq, hend⟩
  have hl := low_of rs p hp hlo hhi
  subst hl
  have : b = hitP rs r := by
    cases hq : rs[lowP rs r]? with
    | some q => rw [heq q hq, hit_at hq]
    | none =>
      have hl2 := List.getElem?_eq_none_iff.1 hq
      have := low_le rs r
      rw [hend (by omega), hit_end (by omega)]
  subst this
  exact ⟨rfl, hb⟩

theorem addRate_i (A : Option Addr) (c : Nat) (rs : List Rt) (r : Rt) (w : World) (h : Tbl w A rs) (hA : (A = none ∧ c = 0) ∨ ∃ b off, A = some ⟨b, off, none⟩) (hc : rs.length ≤ c) (hrl : r.c.length ≤ 1048576) :
    Calls Try.prog 11 #[.slice A rs.length c, .agg #[.string ⟨r.c.toArray⟩, .int .i64 r.day, .int .i64 r.num, .int .i64 r.den]] w (NewRatesC w (addR rs r)) := by
  rcases Bool.eq_false_or_eq_true (tabB rs) with ht | ht
  · have HB := bin_q A c rs r ht
    have HP := addL_low r ht
    have hle := low_le rs r
    rcases hA with ⟨rfl, rfl⟩ | ⟨g, off, rfl⟩
    · have hl0 : rs.length = 0 := by omega
      have e0 : lowP rs r = 0 := by omega
      have e1 : hitP rs r = false := hit_end (by omega)
      rw [e0, e1] at HB HP
      obtain rfl : rs = [] := List.eq_nil_of_length_eq_zero hl0
      exact addRate_wa r w h hrl ht HB HP
    · have hend : lowP rs r = rs.length → hitP rs r = false := hit_end
      generalize lowP rs r = p at *
      generalize hitP rs r = b at *
      rcases bin_ways hle hc hend with ⟨rfl, e1⟩ | ⟨rfl, e1, e2⟩ | ⟨rfl, e1, e2, e3⟩ | ⟨rfl, e1, e2, e3, e4⟩
      · obtain rfl : p = rs.length := by omega
        obtain rfl : c = rs.length := by omega
        exact addRate_wb g off rs r w h hrl ht HB HP
      · exact addRate_wc g off c p rs r w h hrl ht hle hc e1 e2 HB HP
      · exact addRate_wd g off c p rs r w h hrl ht hle hc e1 e2 e3 HB HP
      · exact addRate_we g off c p rs r w h hrl ht hle hc e1 e2 e3 e4 HB HP
  · have kb := KeepB.new w #[.string ⟨r.c.toArray⟩, .int .i64 r.day, .int .i64 r.num, .int .i64 r.den] 30
    have h0 := h.below kb.bel
    have HT := Lib.hid (tabI_q (c := c) h0 ht)
    have E := Lib.hid (@addR_no rs r ht)
    clear ht h
    go_enter Try.func11, Try.ntmps11
    go_wp2_with (go_at_call 17; refine HT.out.mono ?_; rintro e w1 ⟨rfl, b1⟩)
    go_ret2
    unfold NewRatesC
    rw [E.out]
    exact ⟨none, 0, rfl, Or.nil _ _, belowGo kb.bel b1⟩
end Go.Proofs.Ytaehkkcaoniphaa
