/- Results of decisions, the first event that is decided differently: plain lists; spec.l10Result. -/
import Derived.Test.YtjcklmhgjdmjoaaCln
namespace Go.Proofs.Ytjcklmhgjdmjoaa
open Go.ChangeShapes Go.WideShapes Go.ChangeAt Go.RowKit
set_option linter.unusedVariables false

theorem chain_last {ps : List Cls} (h : RB ps) (e : Evt) : ∀ (n k : Nat), k < ps.length → 13 ≤ n + k → ∃ xs j p, chainC ps e n k = xs ++ [((j : Nat) : Int)] ∧ ps[j]? = some p ∧ (p.e == 3) = false
  | 0, k, hk, hn => by have := h.hi; omega
  | n + 1, k, hk, hn => by
    have hj := h.first hk e
    have hge := first_ge ps k e
    have hp : ps[firstC ps k e]? = some ps[firstC ps k e] := List.getElem?_eq_getElem hj
    rcases Bool.eq_false_or_eq_true (ps[firstC ps k e].e == 3) with he | he
    · have hbd := h.to _ _ hp (by simpa using he)
      have hbd2 := (fndIC_bd ps ps[firstC ps k e].t).2
      obtain ⟨xs, j, p, h1, h2, h3⟩ := chain_last h e n (fndIC ps ps[firstC ps k e].t).toNat (by omega) (by omega)
      exact ⟨(firstC ps k e : Int) :: xs, j, p, by rw [chain_go hp he, h1]; rfl, h2, h3⟩
    · exact ⟨[], _, _, by rw [chain_stop hp he]; rfl, hp, he⟩
/-- The result of a decision. -/
def resC (ps : List Cls) (e : Evt) : Int :=
  match (chainL ps e).getLast? with
  | some j => match ps[j.toNat]? with
    | some p => p.e
    | none => 0
  | none => 0
theorem resC_of {ps : List Cls} {e : Evt} {xs : List Int} {j : Nat} {p : Cls} (h : chainL ps e = xs ++ [(j : Int)]) (hp : ps[j]? = some p) : resC ps e = p.e := by
  unfold resC; rw [h]; simp [hp]
set_option maxRecDepth 100000 in
set_option maxHeartbeats 4000000 in
theorem res_s (A : Option Addr) (c : Nat) (ps : List Cls) (q : Evt) (w : World) (h : CTbl w A ps) (hrb : RB ps) :
    Calls Try.prog 77 #[.slice A ps.length c, .agg #[.int .i64 q.d, .int .i64 q.k, .string ⟨q.c.toArray⟩, .int .i64 q.a, .bool q.p, .bool q.v, .bool q.r]] w (Gives w (.int .i64 (resC ps q))) := by
  have h12 := hrb.hi
  have h1 := hrb.lo
  have kb := KeepE.new w q
  have HC := Lib.hid (chain_s A c ps q _ (h.below kb.bel) hrb)
  obtain ⟨xs, j, p, e1, e2, e3⟩ := chain_last hrb q 13 0 (by omega) (by omega)
  have hj := (List.getElem?_eq_some_iff.1 e2).1
  have E := Lib.hid (resC_of e1 e2)
  have EL : Hid (chainL ps q = xs ++ [(j : Int)]) := Lib.hid e1
  obtain ⟨b, off, p', rfl, hl, hp, h4⟩ := h.row.at hj
  obtain rfl : p = p' := by have a := hp.out; rw [e2] at a; exact Option.some.inj a
  have HR := Lib.hid (fun W (hb : Below w.heap.size w W) => (h4.below hl hb).c5)
  have HLn : Hid (xs.length ≤ 12) := Lib.hid (by have := chain_len ps q 13 0; rw [e1, List.length_append] at this; simp at this; omega)
  clear h hrb e1 e2 e3 hp h4
  rw [EL.out] at HC
  have c0 := kb.cells.c0; have c1 := kb.cells.c1; have c2 := kb.cells.c2; have c3 := kb.cells.c3; have c4 := kb.cells.c4; have c5 := kb.cells.c5; have c6 := kb.cells.c6
  go_enter Try.func77, Try.ntmps77
  go_wp2_with fail
  refine HC.out.mono ?_
  rintro e w1 ⟨C, cc, rfl, o1, b1⟩
  have t1 := kb.bel.trans (b1.mono kb.bel.size)
  obtain ⟨g, o, x, hC, hc, hx⟩ := o1.ir.at (k := xs.length) (by simp)
  have hx2 : x = (j : Int) := by have a := hx.out; simpa using a.symm
  subst hx2
  have r5 := HR.out _ t1
  have hlen : (xs ++ [(j : Int)]).length = xs.length + 1 := by simp
  have hL := HLn.out
  rw [hlen]
  subst hC
  have T1 := Lib.hid t1
  clear o1 b1 hx hlen t1 HC c0 c1 c2 c3 c4 c5 c6
  go_wp2_with fail
  go_ret
  exact ⟨by rw [E.out] <;> rfl, T1.out⟩
end Go.Proofs.Ytjcklmhgjdmjoaa
