/- impl.AddRate: what its walk needs: slices of the table, the three pieces, Concat of them. -/
import Derived.Test.YtaehkkcaoniphaaAdi
import Derived.Deep.CutRange
namespace Go.Proofs.Ytaehkkcaoniphaa
open Go.ChangeShapes Go.WideShapes Go.ChangeAt Go.RowKit
set_option linter.unusedVariables false

theorem bin_ways {p n c : Nat} {b : Bool} (hp : p ≤ n) (hc : n ≤ c) (hend : p = n → b = false) :
    (b = false ∧ p = c) ∨ (b = false ∧ p ≠ c ∧ p < c) ∨ (b = true ∧ p < n ∧ c - p = 1 ∧ p ≠ c) ∨ (b = true ∧ p < n ∧ c - p ≠ 1 ∧ p ≠ c ∧ 1 < c - p) := by
  cases b
  · simp; omega
  · have : p ≠ n := fun e => by have := hend e; cases this
    simp; omega
theorem Rr.drop {w : World} {g off : Nat} {rs : List Rt} (h : Rr w (some ⟨g, off, none⟩) rs) (k : Nat) : Rr w (some ⟨g, off + k * 4, none⟩) (rs.drop k) := fun hp => by
  have hl := flat_len Rt.cells 4 (fun _ => rfl) rs
  have hl2 := flat_len Rt.cells 4 (fun _ => rfl) (rs.drop k)
  rw [List.length_drop] at hl2
  obtain ⟨b, o, e, hb, hcell⟩ := h (by omega)
  simp only [Option.some.injEq, Addr.mk.injEq, and_true] at e
  obtain ⟨rfl, rfl⟩ := e
  refine ⟨g, off + k * 4, rfl, hb, fun j v hj => ?_⟩
  have hsp : rs.flatMap Rt.cells = (rs.take k).flatMap Rt.cells ++ (rs.drop k).flatMap Rt.cells := by rw [← List.flatMap_append, List.take_append_drop]
  have hlt := flat_len Rt.cells 4 (fun _ => rfl) (rs.take k)
  rw [List.length_take, Nat.min_eq_left (by omega)] at hlt
  rw [Nat.add_assoc]
  refine hcell (k * 4 + j) v ?_
  rw [hsp, List.getElem?_append_right (by omega), hlt, Nat.add_sub_cancel_left]
  exact hj
theorem Rr.take {w : World} {A : Option Addr} {rs : List Rt} (h : Rr w A rs) (k : Nat) : Rr w A (rs.take k) := fun hp => by
  have hsp : rs.flatMap Rt.cells = (rs.take k).flatMap Rt.cells ++ (rs.drop k).flatMap Rt.cells := by rw [← List.flatMap_append, List.take_append_drop]
  obtain ⟨b, o, e, hb, hcell⟩ := h (by rw [hsp, List.length_append]; omega)
  refine ⟨b, o, e, hb, fun j v hj => hcell j v ?_⟩
  rw [hsp, List.getElem?_append_left (List.getElem?_eq_some_iff.1 hj).1]; exact hj
theorem Rr.none {w : World} {A : Option Addr} : Rr w A [] := fun hp => absurd hp (by simp)
theorem Rr.alloc {w : World} {A : Option Addr} {rs : List Rt} (h : Rr w A rs) (o : Obj) : Rr (w.alloc o) A rs := h.below (below_alloc w o)
theorem pieces3 {w : World} {A1 A3 : Option Addr} {c1 c3 n1 n3 : Nat} {l1 l3 : List Rt} (r : Rt) (h1 : Rr w A1 l1) (h3 : Rr w A3 l3) (a1 : A1 = none ∨ ∃ b off, A1 = some ⟨b, off, none⟩) (a3 : A3 = none ∨ ∃ b off, A3 = some ⟨b, off, none⟩) (e1 : l1.length = n1) (e3 : l3.length = n3) :
    Pieces ((w.alloc (.cells #[.string ⟨r.c.toArray⟩, .int .i64 r.day, .int .i64 r.num, .int .i64 r.den] 30)).alloc (.cells #[.slice A1 n1 c1, .slice (some ⟨w.heap.size, 0, none⟩) 1 1, .slice A3 n3 c3] 24)) (w.heap.size + 1)
      [(A1, c1, l1), (some ⟨w.heap.size, 0, none⟩, 1, [r]), (A3, c3, l3)] := by
  subst e1 e3
  refine ⟨by simp, ?_, ?_⟩
  · have hb : ((w.alloc (.cells #[.string ⟨r.c.toArray⟩, .int .i64 r.day, .int .i64 r.num, .int .i64 r.den] 30)).alloc (.cells #[.slice A1 l1.length c1, .slice (some ⟨w.heap.size, 0, none⟩) 1 1, .slice A3 l3.length c3] 24)).heap[w.heap.size + 1]? = some (.cells #[.slice A1 l1.length c1, .slice (some ⟨w.heap.size, 0, none⟩) 1 1, .slice A3 l3.length c3] 24) := heap_alloc2_new w _ _
    intro k s hs
    rw [cell_of_row _ _ _ _ _ _ hb]
    match k, hs with
    | 0, hs => simp at hs; subst hs; rfl
    | 1, hs => simp at hs; subst hs; rfl
    | 2, hs => simp at hs; subst hs; rfl
    | k + 3, hs => simp at hs
  · intro s hs
    simp only [List.mem_cons, List.not_mem_nil, or_false] at hs
    rcases hs with rfl | rfl | rfl
    · exact ⟨(h1.alloc _).alloc _, a1⟩
    · refine ⟨Rr.alloc (fun _ => ⟨w.heap.size, 0, rfl, by simp, fun j v hj => ?_⟩) _, .inr ⟨_, _, rfl⟩⟩
      rw [Nat.zero_add, cell_of_row _ _ _ _ _ _ (heap_alloc_new w _)]
      simpa [Rt.cells] using hj
    · exact ⟨(h3.alloc _).alloc _, a3⟩

theorem concat_q {g : Nat} {ss : List (Option Addr × Nat × List Rt)} {n c : Nat} {w : World} {L : List Rt} (h : Pieces w g ss) (hn : ss.length = n) (hn2 : n ≤ 10) (hL : joinP ss = L) (hj : L.length ≤ 900) :
    Calls Try.prog 53 #[.slice (some ⟨g, 0, none⟩) n c] w fun e w' => ∃ O q, e = .returned (.slice O L.length q) ∧ Or w' w.heap.size O L.length q L ∧ Below w.heap.size w w' := by
  subst hL hn
  exact concat_i g ss c w h hn2 hj
theorem addL_txt {rs : List Rt} {r : Rt} (h : ∀ q ∈ rs, q.c.length ≤ 1048576) (hr : r.c.length ≤ 1048576) : ∀ q ∈ addL rs r, q.c.length ≤ 1048576 := by
  have h1 := addS_all (P := fun q => q.c.length ≤ 1048576) hr rs h
  unfold addL
  split
  · exact h1
  · intro q hq
    rcases List.mem_append.1 hq with hq | hq
    · exact h1 q hq
    · simp at hq; subst hq; exact hr
theorem addL_len {rs : List Rt} {r : Rt} (h : rs.length ≤ 20) : (addL rs r).length ≤ 41 := by
  have := addS_len r rs
  unfold addL
  split
  · omega
  · simp; omega

end Go.Proofs.Ytaehkkcaoniphaa
