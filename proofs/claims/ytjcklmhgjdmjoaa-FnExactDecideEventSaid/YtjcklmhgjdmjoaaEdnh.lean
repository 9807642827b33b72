/- laws.markEditionS, markEdition, heldEditionS: rows of rows are marked and still hold their marks. -/
import Derived.Test.YtjcklmhgjdmjoaaEdng
namespace Go.Proofs.Ytjcklmhgjdmjoaa
open Go.ChangeShapes Go.WideShapes Go.ChangeAt Go.RowKit
set_option linter.unusedVariables false

def Edn.mks (k : Nat) : List Edn → List Edn
  | [] => []
  | e :: es => ⟨(k : Int), Cls.marks (k + 1) e.cs.length⟩ :: Edn.mks (k + 1 + 7 * e.cs.length) es
def Edn.fin (k : Nat) (es : List Edn) : Nat := k + es.length + 7 * Edn.tot es
theorem Edn.mks_len : ∀ (es : List Edn) (k : Nat), (Edn.mks k es).length = es.length
  | [], k => rfl
  | e :: es, k => by simp [Edn.mks, Edn.mks_len es]
theorem Edn.tot_app : ∀ (ps qs : List Edn), Edn.tot (ps ++ qs) = Edn.tot ps + Edn.tot qs
  | [], qs => by simp [Edn.tot]
  | e :: ps, qs => by simp [Edn.tot, Edn.tot_app ps qs]; omega
theorem Edn.mks_app : ∀ (ps qs : List Edn) (k : Nat), Edn.mks k (ps ++ qs) = Edn.mks k ps ++ Edn.mks (Edn.fin k ps) qs
  | [], qs, k => by simp [Edn.mks, Edn.fin, Edn.tot]
  | e :: ps, qs, k => by
    simp only [List.cons_append, Edn.mks, Edn.mks_app ps qs]
    congr 3
    simp [Edn.fin, Edn.tot]; omega
theorem Edn.fin_take {es : List Edn} {j : Nat} {e : Edn} (h : es[j]? = some e) (k : Nat) : Edn.fin k (es.take (j + 1)) = Edn.fin k (es.take j) + 1 + 7 * e.cs.length := by
  have hj := (List.getElem?_eq_some_iff.1 h).1
  rw [snoc_of h, Edn.fin, Edn.fin, Edn.tot_app, List.length_append]
  simp [Edn.tot]; omega
theorem Edn.tot_take (es : List Edn) (j : Nat) : Edn.tot (es.take j) ≤ Edn.tot es := by
  have := Edn.tot_app (es.take j) (es.drop j)
  rw [List.take_append_drop] at this
  omega
theorem Edn.fin_le (k : Nat) (es : List Edn) (j : Nat) : Edn.fin k (es.take j) ≤ Edn.fin k es := by
  have h1 := Edn.tot_take es j
  have h2 : (es.take j).length ≤ es.length := by simp; omega
  unfold Edn.fin; omega
/-- One more is marked. -/
theorem Edn.step {es : List Edn} {j : Nat} {e : Edn} (h : es[j]? = some e) (k : Nat) :
    (Edn.mks k (es.take j) ++ es.drop j)[j]? = some e ∧
    (Edn.mks k (es.take j) ++ es.drop j).set j ⟨(Edn.fin k (es.take j) : Nat), Cls.marks (Edn.fin k (es.take j) + 1) e.cs.length⟩ = Edn.mks k (es.take (j + 1)) ++ es.drop (j + 1) := by
  have hj := (List.getElem?_eq_some_iff.1 h).1
  have hl : (Edn.mks k (es.take j)).length = j := by rw [Edn.mks_len, List.length_take]; omega
  constructor
  · rw [List.getElem?_append_right (by omega), hl, Nat.sub_self, drop_of h]; rfl
  · rw [List.set_append_right _ _ (by omega), hl, Nat.sub_self, drop_of h, snoc_of h, Edn.mks_app]
    simp [Edn.mks]
theorem flat_set_y : ∀ (hs : List Edh) (j : Nat) (x : Edh) (K : Int), hs[j]? = some x → (hs.set j { x with y := K }).flatMap Edh.cells = (hs.flatMap Edh.cells).set (j * 2) (.int .i64 K)
  | [], j, x, K, h => by simp at h
  | q :: hs, 0, x, K, h => by simp at h; subst h; simp [Edh.cells]
  | q :: hs, j + 1, x, K, h => by
    have ih := flat_set_y hs j x K (by simpa using h)
    simp only [List.set_cons_succ, List.flatMap_cons, ih]
    rw [show (j + 1) * 2 = j * 2 + 1 + 1 by omega]
    simp [Edh.cells]
section
variable {w w' : World} {lo hi : Nat} {A : Option Addr} {g n c : Nat} {hs : List Edh} {es : List Edn}
end
theorem Edn.mks_at {es : List Edn} {j : Nat} {e : Edn} (h : es[j]? = some e) (k : Nat) :
    (Edn.mks k es)[j]? = some ⟨(Edn.fin k (es.take j) : Nat), Cls.marks (Edn.fin k (es.take j) + 1) e.cs.length⟩ := by
  have hj := (List.getElem?_eq_some_iff.1 h).1
  have hl : (Edn.mks k (es.take j)).length = j := by rw [Edn.mks_len, List.length_take]; omega
  have e1 : es = es.take j ++ e :: es.drop (j + 1) := by rw [← drop_of h, List.take_append_drop]
  have e2 : Edn.mks k es = Edn.mks k (es.take j) ++ Edn.mks (Edn.fin k (es.take j)) (e :: es.drop (j + 1)) := by rw [← Edn.mks_app, ← e1]
  rw [e2, List.getElem?_append_right (by omega), hl, Nat.sub_self]
  rfl
end Go.Proofs.Ytjcklmhgjdmjoaa
