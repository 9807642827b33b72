/- slices.Concat of three rows of rates. -/
import Derived.Test.YtaehkkcaoniphaaGrw
namespace Go.Proofs.Ytaehkkcaoniphaa
open Go.ChangeShapes Go.WideShapes Go.ChangeAt Go.RowKit
set_option linter.unusedVariables false

theorem run_append_none {P : Program} (w : World) (t ty e : TypeId) (i : TypeInfo) (ht : P.underlying t = some (.slice e)) (hi : P.info? e = some i) (O : Option Addr) (n q c : Nat) (h : n ≤ q) :
    (Builtin.append_ #[t, t] ty #[.slice O n q, .slice none 0 c]).run P w = .ok (.slice O n q) w := by
  cases O <;> simp [Builtin.append_, run_underlying ht, sizeOf, typeInfo, hi, Builtin.lenOf, h, run_firstCells_none, storeCells]
theorem own_room {w : World} {base : Nat} {e : TypeId} {size n q : Nat} {O : Option Addr} {xs : List Value} (h : w.ownsRow base e size (.slice O n q) n xs) : n ≤ q := by
  rcases h.2 with ⟨h1, h2⟩ | ⟨g, cap, cur, h1, _, _, h4, _⟩
  · omega
  · injection h1 with _ _ h3; omega
set_option maxRecDepth 100000 in
/-- append of a whole row of rates, which may be nil. -/
theorem wpList_append_rr (w : World) {ops : Array Oper} {rest : List Oper} {o : Oper} {a : Act} {Q : Exit → Act → World → Prop} (hgd : o.guard = none) (s x : Operand)
    (ho : o.op = .call { callee := .builtin .append, args := #[s, x], argTypes := #[24, 24] }) (base : Nat) (O : Option Addr) (n q : Nat) (xs : List Value) (hs : a.eval s = .slice O n q) (hown : w.ownsRow base 30 4 (.slice O n q) n xs)
    (A : Option Addr) (c : Nat) (l : List Rt) (hx : a.eval x = .slice A l.length c) (hR : Rr w A l) (hA : A = none ∨ ∃ b off, A = some ⟨b, off, none⟩) (h63 : n + l.length ≤ 1000) (hbase : base ≤ w.heap.size)
    (h : ∀ O' q' w', w'.ownsRow base 30 4 (.slice O' (n + l.length) q') (n + l.length) (xs ++ l.flatMap Rt.cells) → Below base w w' → wpList Try.prog ops Q rest (a.put o.dst (.slice O' (n + l.length) q')) w') :
    wpList Try.prog ops Q (o :: rest) a w := by
  obtain ⟨i0, hi, hz0, hz1, hz2⟩ := info_parts rateInfo
  rcases hA with rfl | ⟨b, off, rfl⟩
  · have hl : l = [] := by
      cases l with
      | nil => rfl
      | cons y l => obtain ⟨_, _, _, e, _⟩ := hR.four (k := 0) (by simp); cases e
    subst hl
    have hr := fun ty => run_append_none (P := Try.prog) w 24 ty 30 i0 Try.underlying24 hi O n q c (own_room hown)
    refine wpList_plain hgd fun K hK => ?_
    unfold Oper.wp execOp
    have hx' : a.eval x = .slice none 0 c := hx
    simp only [ho, resolve, invoke, builtin, Sem.run_bind, Sem.run_pure, Result.andThen_ok, List.map_toArray, List.map_cons, List.map_nil, hs, hx', hr]
    exact hK _ _ (h O q w (by simpa using hown) (Below.refl _ _))
  · refine wpList_append_own w hgd s x 24 ho base 30 i0 _ 4 40 Try.underlying24 hi hz0 hz1 hz2 rfl (by decide) _ n xs hs hown ⟨b, off, none⟩ l.length c (l.flatMap Rt.cells) hx (flat_len Rt.cells 4 (fun _ => rfl) l) ?_ ?_ (by unfold maxLen; omega) (by omega) hbase ?_
    · intro j u hu
      have hp : 0 < (l.flatMap Rt.cells).length := by have := (List.getElem?_eq_some_iff.1 hu).1; omega
      obtain ⟨b', off', e, _, hc⟩ := hR hp
      simp only [Option.some.injEq, Addr.mk.injEq, and_true] at e
      obtain ⟨rfl, rfl⟩ := e
      rw [show ((⟨b, off, none⟩ : Addr).add j) = ⟨b, off + j, none⟩ from by unfold Addr.add; split <;> simp_all]
      exact hc j u hu
    · intro u hu
      obtain ⟨y, _, hy⟩ := List.mem_flatMap.1 hu
      unfold Rt.cells at hy
      simp only [List.mem_cons, List.not_mem_nil, or_false] at hy
      rcases hy with rfl | rfl | rfl | rfl <;> simp [Value.oneCell']
    · intro v' w' h2 h3 h4
      obtain ⟨O', q', rfl⟩ := own_form h2
      exact h O' q' w' h2 ((Below.refl base w).grown h3 hbase (fun k hk => (hown.lt k hk).1))
end Go.Proofs.Ytaehkkcaoniphaa
