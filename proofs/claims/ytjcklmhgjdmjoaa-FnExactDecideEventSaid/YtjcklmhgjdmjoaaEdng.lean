/- laws.toEdition, toEditionS: editions copied, rows and rows of rows. -/
import Derived.Test.YtjcklmhgjdmjoaaEdnf
namespace Go.Proofs.Ytjcklmhgjdmjoaa
open Go.ChangeShapes Go.WideShapes Go.ChangeAt Go.RowKit
set_option linter.unusedVariables false

theorem heap_alloc_new' {W : World} {k : Nat} (h : k = W.heap.size) (o : Obj) : (W.alloc o).heap[k]? = some o := by subst h; exact heap_alloc_new W o
theorem edn_box {w w1 : World} {o : Obj} {a b c d : Value} {t u : TypeId} (h : Below (((w.alloc o).alloc (.cells #[a, b] t (0, 0))).alloc (.cells #[c, d] u (0, 0))).heap.size (((w.alloc o).alloc (.cells #[a, b] t (0, 0))).alloc (.cells #[c, d] u (0, 0))) w1) :
    w1.cell? ⟨w.heap.size + 1, 0, none⟩ = some a ∧ w1.cell? ⟨w.heap.size + 1, 1, none⟩ = some b ∧ w1.frozen? ⟨w.heap.size + 1, 0, none⟩ = false ∧ w1.frozen? ⟨w.heap.size + 1, 1, none⟩ = false ∧
    w1.cell? ⟨w.heap.size + 1 + 1, 0, none⟩ = some c ∧ w1.cell? ⟨w.heap.size + 1 + 1, 1, none⟩ = some d ∧ w1.frozen? ⟨w.heap.size + 1 + 1, 0, none⟩ = false ∧ w1.frozen? ⟨w.heap.size + 1 + 1, 1, none⟩ = false ∧ Hid (Below w.heap.size w w1) := by
  have hA : w1.heap[w.heap.size + 1]? = some (.cells #[a, b] t (0, 0)) := (h.block _ (by simp)).trans (by
    rw [heap_alloc_old _ _ (by simp)]
    exact heap_alloc_new' (by simp) _)
  have hB : w1.heap[w.heap.size + 1 + 1]? = some (.cells #[c, d] u (0, 0)) := (h.block _ (by simp)).trans (heap_alloc_new' (by simp) _)
  have hC : Below w.heap.size w (((w.alloc o).alloc (.cells #[a, b] t (0, 0))).alloc (.cells #[c, d] u (0, 0))) := (((Below.refl _ _).alloc (Nat.le_refl _) _).alloc (by simp) _).alloc (by simp; omega) _
  exact ⟨cell_of_row _ _ _ _ _ _ hA, cell_of_row _ _ _ _ _ _ hA, frozen_of_row w1 _ 0 _ _ hA, frozen_of_row w1 _ 1 _ _ hA, cell_of_row _ _ _ _ _ _ hB, cell_of_row _ _ _ _ _ _ hB, frozen_of_row w1 _ 0 _ _ hB, frozen_of_row w1 _ 1 _ _ hB,
    Lib.hid (hC.trans (h.mono hC.size))⟩
theorem cell_ne (q : World) (k o k' o' : Nat) (x : Value) (h : (k, o) ≠ (k', o')) : (q.setCell ⟨k, o, none⟩ x).cell? ⟨k', o', none⟩ = q.cell? ⟨k', o', none⟩ :=
  World.cell?_setCell_other _ _ _ _ (fun e => h (by injection e with e1 e2; rw [e1, e2]))
theorem edn_done {w w1 : World} {A : Option Addr} {n c : Nat} {cs : List Cls} {a b u v y : Value} (a0 : w1.cell? ⟨w.heap.size + 1, 0, none⟩ = some a) (a1 : w1.cell? ⟨w.heap.size + 1, 1, none⟩ = some b)
    (B : Below w.heap.size w w1) (O : ClsO w1 (w.heap.size + 3) A n c cs) :
    ∃ W, (((w1.setCell ⟨w.heap.size + 1 + 1, 1, none⟩ u).setCell ⟨w.heap.size + 1, 0, none⟩ y).setCell ⟨w.heap.size + 1, 1, none⟩ v) = W ∧
      W.cell? ⟨w.heap.size + 1, 0, none⟩ = some y ∧ W.cell? ⟨w.heap.size + 1, 1, none⟩ = some v ∧ Below w.heap.size w W ∧ ClsO W w.heap.size A n c cs := by
  have hs : ∀ (q : World) (k o : Nat) (x : Value), ClsO q (w.heap.size + 3) A n c cs → k < w.heap.size + 3 → ClsO (q.setCell ⟨k, o, none⟩ x) (w.heap.size + 3) A n c cs := fun q k o x h hk =>
    own_tou h (Tou.of_grown (lo := k) (hi := k + 1) (row := some k) ⟨rfl, rfl, rfl, by simp, fun i h1 h2 => Below.heap_setCell _ _ _ _ (by simpa using h2)⟩ (fun g hg => by injection hg; omega)) (fun g hg => by have := (h.lo g hg); omega)
  refine ⟨_, rfl, ?_, ?_, ((B.setCell (by simp; omega) _).setCell (by simp) _).setCell (by simp) _, (hs _ _ _ _ (hs _ _ _ _ (hs _ _ _ _ O (by omega)) (by omega)) (by omega)).mono (by omega)⟩
  · rw [cell_ne _ _ _ _ _ _ (by simp), World.cell?_setCell_same' _ _ _ (by rw [cell_ne _ _ _ _ _ _ (by simp), a0]; rfl)]
  · rw [World.cell?_setCell_same' _ _ _ (by rw [cell_ne _ _ _ _ _ _ (by simp), cell_ne _ _ _ _ _ _ (by simp), a1]; rfl)]
/-- One edition of the call's own: its clauses lie in a new block. -/
def NewEdn (w : World) (e : Edn) (x : Ending) (w' : World) : Prop :=
  ∃ A c, x = .returned (.agg #[.int .i64 e.y, .slice A e.cs.length c]) ∧ ClsO w' w.heap.size A e.cs.length c e.cs ∧ Below w.heap.size w w'
/-! ### the first k of a list -/
structure EdnPt (w : World) (lo : Nat) (hs : List Edh) (es : List Edn) (k : Nat) : Prop where
  len : hs.length = k
  one : ∀ (j : Nat) h e, hs[j]? = some h → es[j]? = some e → h.y = e.y ∧ ClsO w lo h.A h.n h.c e.cs
  sep : hs.Pairwise Edh.sep
theorem EdnPt.nil (w : World) (lo : Nat) (es : List Edn) : EdnPt w lo [] es 0 := ⟨rfl, fun j h e h1 => by simp at h1, List.Pairwise.nil⟩
section
variable {w w' : World} {lo k : Nat} {hs : List Edh} {es : List Edn}
theorem EdnPt.below (h : EdnPt w lo hs es k) (hb : Below w.heap.size w w') : EdnPt w' lo hs es k :=
  ⟨h.len, fun j x e h1 h2 => ⟨(h.one j x e h1 h2).1, (h.one j x e h1 h2).2.below hb⟩, h.sep⟩
theorem EdnPt.tou {lo' hi' : Nat} (h : EdnPt w lo hs es k) (ht : Tou lo' hi' w w') (hd : hi' ≤ lo) : EdnPt w' lo hs es k :=
  ⟨h.len, fun j x e h1 h2 => ⟨(h.one j x e h1 h2).1, (h.one j x e h1 h2).2.tou ht (fun g hg => by have := (h.one j x e h1 h2).2.lo g hg; omega)⟩, h.sep⟩
theorem EdnPt.grown {g : Nat} (h : EdnPt w lo hs es k) (hg : w.grownBy w' (some g)) (hn : ∀ x ∈ hs, x.ob ≠ some g) : EdnPt w' lo hs es k :=
  ⟨h.len, fun j x e h1 h2 => ⟨(h.one j x e h1 h2).1, World.ownsRow.kept (h.one j x e h1 h2).2 hg (.inr (hn x (List.mem_of_getElem? h1)))⟩, h.sep⟩
theorem EdnPt.ob_lt (h : EdnPt w lo hs es k) (hk : k ≤ es.length) {x : Edh} (hx : x ∈ hs) {g : Nat} (hg : x.ob = some g) : lo ≤ g ∧ g < w.heap.size := by
  obtain ⟨i, hi'⟩ := List.getElem?_of_mem hx
  have hl : i < es.length := by have := (List.getElem?_eq_some_iff.1 hi').1; have := h.len; omega
  exact (h.one i x _ hi' (List.getElem?_eq_getElem hl)).2.lt g hg
theorem EdnPt.snoc (h : EdnPt w lo hs es k) (hb : Below w.heap.size w w') {e : Edn} (he : es[k]? = some e) {A : Option Addr} {n c : Nat} (ho : ClsO w' w.heap.size A n c e.cs) (hlo : lo ≤ w.heap.size) :
    EdnPt w' lo (hs ++ [⟨e.y, A, n, c⟩]) es (k + 1) := by
  have hk : k < es.length := (List.getElem?_eq_some_iff.1 he).1
  refine ⟨by simp [h.len], fun j x q h1 h2 => ?_, ?_⟩
  · by_cases hj : j < hs.length
    · rw [List.getElem?_append_left hj] at h1
      exact (h.below hb).one j x q h1 h2
    · rw [List.getElem?_append_right (by omega)] at h1
      have hj2 := (List.getElem?_eq_some_iff.1 h1).1
      simp at hj2
      have : j = k := by have := h.len; omega
      subst this
      rw [he] at h2
      cases h2
      rw [h.len, Nat.sub_self] at h1
      simp at h1
      subst h1
      exact ⟨rfl, ho.mono hlo⟩
  · rw [List.pairwise_append]
    refine ⟨h.sep, by simp, fun a ha b hb' g hg => ?_⟩
    simp at hb'
    subst hb'
    have h1 := (h.ob_lt (by omega) ha hg).2
    intro e2
    have h2 := ho.lo g e2
    omega
end
theorem set_edn {ys : List Value} {k : Nat} (hk : k * 2 + 1 < ys.length) {v0 v1 : Value} {P : List Value} (h : ys.take (k * 2) = P) :
    ((ys.set (k * 2) v0).set (k * 2 + 1) v1).take ((k + 1) * 2) = P ++ [v0, v1] := by
  apply List.ext_getElem?
  intro j
  subst h
  rw [List.getElem?_take, List.getElem?_append, List.length_take, Nat.min_eq_left (by omega)]
  by_cases h1 : j < k * 2
  · rw [if_pos (by omega), if_pos h1, List.getElem?_take, if_pos h1]
    rw [List.getElem?_set_ne (by omega), List.getElem?_set_ne (by omega)]
  · rw [if_neg h1]
    by_cases h2 : j < (k + 1) * 2
    · rw [if_pos h2]
      have : j = k * 2 ∨ j = k * 2 + 1 := by omega
      rcases this with rfl | rfl
      · rw [List.getElem?_set_ne (by omega), List.getElem?_set_self (by (try simp only [List.length_set]); omega), Nat.sub_self]; rfl
      · rw [List.getElem?_set_self (by (try simp only [List.length_set]); omega), show k * 2 + 1 - k * 2 = 1 by omega]; rfl
    · rw [if_neg h2, List.getElem?_eq_none (by simp; omega)]
theorem stored_edn {w : World} {base g n c : Nat} {e : TypeId} {xs : List Value} (h : w.ownsRow base e 2 (.slice (some ⟨g, 0, none⟩) n c) n xs) (j : Nat) (v0 v1 : Value) :
    ((w.setCell ⟨g, j, none⟩ v0).setCell ⟨g, j + 1, none⟩ v1).ownsRow base e 2 (.slice (some ⟨g, 0, none⟩) n c) n ((xs.set j v0).set (j + 1) v1) ∧
    w.grownBy ((w.setCell ⟨g, j, none⟩ v0).setCell ⟨g, j + 1, none⟩ v1) (some g) := by
  have h1 := h.stored j v0
  have h2 := h1.1.stored (j + 1) v1
  exact ⟨h2.1, h1.2.trans h2.2⟩
end Go.Proofs.Ytjcklmhgjdmjoaa
