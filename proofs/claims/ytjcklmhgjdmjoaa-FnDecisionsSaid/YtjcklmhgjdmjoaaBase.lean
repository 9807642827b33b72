/- Words on rows of cells: a slice value reads as a list of cells; kept over what a call makes. -/
import Derived.Test.YtjcklmhgjdmjoaaRows
import Derived.WalkKit
import Derived.ProofKit
import Derived.OpenShut
import Derived.Below
import Derived.BigQuiet
import Derived.Deep.QuietTactic
import Derived.Deep.Draws
import Derived.Lib.Hide
import Derived.Laws.OwnMore
import Derived.Maps.AppendAt
import Derived.Laws.Rows
import Derived.OwnWalk
import Derived.WalkSpells
namespace Go.Proofs.Ytjcklmhgjdmjoaa
open Go.ChangeShapes Go.WideShapes Go.ChangeAt Go.RowKit
set_option linter.unusedVariables false

/-- A row of cells at an address reads as a list of values. Nothing is asked of the address where the list is empty. -/
def Rw (w : World) (A : Option Addr) (vs : List Value) : Prop :=
  0 < vs.length → ∃ b off, A = some ⟨b, off, none⟩ ∧ b < w.heap.size ∧ ∀ j v, vs[j]? = some v → w.cell? ⟨b, off + j, none⟩ = some v

/-- A row of numbers. -/
def Ir (w : World) (A : Option Addr) (xs : List Int) : Prop := Rw w A (xs.map (Value.int .i64))

theorem Rw.drewN {w : World} {A : Option Addr} {xs : List Value} (h : Rw w A xs) (n : Nat) : Rw (w.drewN n) A xs := h
theorem Rw.below {w w' : World} {A : Option Addr} {xs : List Value} (h : Rw w A xs) (hb : Below w.heap.size w w') : Rw w' A xs := fun hp => by
  obtain ⟨b, off, e, hl, hc⟩ := h hp
  exact ⟨b, off, e, Nat.lt_of_lt_of_le hl hb.size, fun j v hj => (hb.cell (p := ⟨b, off + j, none⟩) hl).trans (hc j v hj)⟩
theorem below_drewN (w : World) (n : Nat) : Below w.heap.size w (w.drewN n) := ⟨rfl, rfl, rfl, Nat.le_refl _, fun _ _ => rfl⟩
theorem Rw.grown {w w' : World} {A : Option Addr} {vs : List Value} {g : Nat} (h : Rw w A vs) (hg : w.grownBy w' (some g)) (hn : ∀ a, A = some a → a.block ≠ g) : Rw w' A vs := fun hp => by
  obtain ⟨b, off, e, hl, hc⟩ := h hp
  refine ⟨b, off, e, Nat.lt_of_lt_of_le hl hg.size, fun j v hj => ?_⟩
  have := hn _ e
  exact (World.cell?_of_block (hg.block b hl (by simpa using this))).trans (hc j v hj)
theorem Ir.grown {w w' : World} {A : Option Addr} {xs : List Int} {g : Nat} (h : Ir w A xs) (hg : w.grownBy w' (some g)) (hn : ∀ a, A = some a → a.block ≠ g) : Ir w' A xs := Rw.grown h hg hn
theorem Ir.drewN {w : World} {A : Option Addr} {xs : List Int} (h : Ir w A xs) (n : Nat) : Ir (w.drewN n) A xs := h
theorem Ir.below {w w' : World} {A : Option Addr} {xs : List Int} (h : Ir w A xs) (hb : Below w.heap.size w w') : Ir w' A xs := Rw.below h hb
theorem belowGo {w a b : World} (h : Below w.heap.size w a) (k : Below a.heap.size a b) : Below w.heap.size w b := h.trans (k.mono h.size)
theorem Ir.at {w : World} {A : Option Addr} {xs : List Int} (h : Ir w A xs) {k : Nat} (hk : k < xs.length) :
    ∃ b off x, A = some ⟨b, off, none⟩ ∧ w.cell? ⟨b, off + k, none⟩ = some (.int .i64 x) ∧ Hid (xs[k]? = some x) := by
  obtain ⟨b, off, e, _, hc⟩ := h (by simp; omega)
  exact ⟨b, off, xs[k], e, hc k _ (by simp [hk]), Lib.hid (by simp [hk])⟩

theorem Rw.new (w : World) (vs : List Value) (t : TypeId) (fr : Nat × Nat) : Rw (w.alloc (.cells vs.toArray t fr)) (some ⟨w.heap.size, 0, none⟩) vs := fun _ =>
  ⟨w.heap.size, 0, rfl, by simp only [World.size_alloc]; omega, fun j v hj => by
    rw [cell_of_row _ _ _ _ _ _ (heap_alloc_new w _)]; simpa using hj⟩
theorem Rw.own {w : World} {base n : Nat} {e : TypeId} {A : Option Addr} {c : Nat} {vs : List Value} (h : w.ownsRow base e 1 (.slice A n c) n vs) : Rw w A vs := fun hp => by
  rcases h.2 with ⟨hv, hx⟩ | ⟨g, cap, cur, hv, _, hh, _⟩
  · have h1 := h.1; omega
  · have hlt := (h.lt g (by rw [hv]; rfl)).2
    injection hv with hA _ _
    subst hA
    refine ⟨g, 0, rfl, hlt, fun j v hj => ?_⟩
    have := h.cells (g := g) rfl j v hj
    rwa [show ((⟨g, 0, none⟩ : Addr).add j) = ⟨g, 0 + j, none⟩ from by unfold Addr.add; split <;> simp_all] at this
/-- A row of numbers that the call owns: in blocks from 'base' on. -/
def Oi (w : World) (base : Nat) (A : Option Addr) (n c : Nat) (xs : List Int) : Prop :=
  w.ownsRow base 2 1 (.slice A n c) n (xs.map (Value.int .i64))
/-- The address lies below a block. -/
def Bd (A : Option Addr) (B : Nat) : Prop := ∀ a, A = some a → a.block < B
theorem Bd.mono {A : Option Addr} {B B' : Nat} (h : Bd A B) (hB : B ≤ B') : Bd A B' := fun a e => Nat.lt_of_lt_of_le (h a e) hB
section
variable {w w' : World} {base : Nat} {A : Option Addr} {n c : Nat} {xs : List Int}
theorem Oi.len (h : Oi w base A n c xs) : xs.length = n := by have := h.1; simpa using this
theorem Oi.ir (h : Oi w base A n c xs) : Ir w A xs := Rw.own h
theorem Oi.bd (h : Oi w base A n c xs) : Bd A w.heap.size := fun a e => (h.lt a.block (by rw [e]; rfl)).2
theorem Oi.lo (h : Oi w base A n c xs) : ∀ k, (Value.slice A n c).ownBlock = some k → base ≤ k := fun k e => (h.lt k e).1
theorem Oi.below (h : Oi w base A n c xs) (hb : Below w.heap.size w w') : Oi w' base A n c xs := by
  refine ⟨h.1, ?_⟩
  rcases h.2 with h1 | ⟨g, cap, cur, h1, h2, h3, h4⟩
  · exact .inl h1
  · exact .inr ⟨g, cap, cur, h1, h2, (hb.block g (by
      rcases Nat.lt_or_ge g w.heap.size with hlt | hge
      · exact hlt
      · rw [Array.getElem?_eq_none hge] at h3; cases h3)).trans h3, h4⟩
/-- Kept over writes into a row that lies below. -/
theorem Oi.kept {B : Option Addr} {m d : Nat} (h : Oi w base A n c xs) (hg : w.grownBy w' (Value.slice B m d).ownBlock) (hB : Bd B base) : Oi w' base A n c xs :=
  World.ownsRow.kept h hg (by
    cases A with
    | none => exact .inl rfl
    | some a =>
      right
      cases B with
      | none => simp [Value.ownBlock]
      | some b =>
        intro e
        have h1 := h.lo a.block rfl
        have h2 := hB b rfl
        simp [Value.ownBlock] at e
        omega)
theorem Rw.keepB {vs : List Value} {B : Nat} (h : Rw w A vs) (hA : Bd A B) (hb : Below B w w') : Rw w' A vs := fun hp => by
  obtain ⟨b, off, e, hl, hc⟩ := h hp
  exact ⟨b, off, e, Nat.lt_of_lt_of_le hl hb.size, fun j v hj => (hb.cell (p := ⟨b, off + j, none⟩) (show b < B from hA ⟨b, off, none⟩ e)).trans (hc j v hj)⟩
theorem Ir.keepB {B : Nat} (h : Ir w A xs) (hA : Bd A B) (hb : Below B w w') : Ir w' A xs := Rw.keepB h hA hb
theorem Oi.wrote {W : World} {B : Nat} (hW : Below B W w) (h : Oi w base A n c xs) (hg : w.grownBy w' (Value.slice A n c).ownBlock) (hB : B ≤ base) (hs : B ≤ w.heap.size) : Below B W w' :=
  hW.grown hg hs (fun k e => Nat.le_trans hB (h.lo k e))
end
/-- What a function that hands back new numbers leaves. -/
def NewInts (w : World) (xs : List Int) (e : Ending) (w' : World) : Prop :=
  ∃ A c, e = .returned (.slice A xs.length c) ∧ Oi w' w.heap.size A xs.length c xs ∧ Below w.heap.size w w'
/-- The same with a code behind. -/
def NewIntsC (w : World) (r : List Int × Int) (e : Ending) (w' : World) : Prop :=
  ∃ A c, e = .returned (.tuple #[.slice A r.1.length c, .int .i64 r.2]) ∧ Oi w' w.heap.size A r.1.length c r.1 ∧ Below w.heap.size w w'
theorem Oi.nil (w : World) (base : Nat) : Oi w base none 0 0 [] := World.ownsRow_nil _ _ _ _
/-- What a function that gives one value and makes nothing that matters leaves. -/
def Gives (w : World) (v : Value) (e : Ending) (w' : World) : Prop := e = .returned v ∧ Below w.heap.size w w'
/-- What a frame knows of a slice that came in, in these words. -/
theorem ir_of {w : World} {A : Option Addr} {len cap : Nat} {zs : List Int}
    (h : (A = none ∧ len = 0 ∧ cap = 0 ∧ zs = []) ∨
      ∃ x, A = some x ∧ len ≤ cap ∧ cap ≤ maxLen ∧ zs.length = cap ∧ (∀ i, i < zs.length → w.cell? (x.add i) = some (.int .i64 (zs.getD i 0))) ∧ ∀ n ∈ zs, (Lit.int .i64 n).wf = true) :
    ∃ xs : List Int, xs.length = len ∧ Ir w A xs ∧ xs.length ≤ maxLen ∧ ∀ x ∈ xs, (Lit.int .i64 x).wf = true := by
  rcases h with ⟨rfl, rfl, rfl, rfl⟩ | ⟨x, rfl, hl, hm, hz, hcell, hwz⟩
  · exact ⟨[], rfl, fun h => by simp at h, by simp, by simp⟩
  · have hlen : (zs.take len).length = len := by rw [List.length_take]; omega
    refine ⟨zs.take len, hlen, fun hp => ?_, by omega, fun y hy => hwz y (List.mem_of_mem_take hy)⟩
    have hp' : 0 < len := by rw [List.length_map, hlen] at hp; exact hp
    obtain ⟨b, off, rfl, hc⟩ := ints_at hcell (by omega)
    refine ⟨b, off, rfl, World.block_lt_of_cell? w _ (hc 0 (by omega)), fun j v hj => ?_⟩
    have hjl : j < len := by
      have h1 : j < ((zs.take len).map (Value.int .i64)).length := by
        rcases Nat.lt_or_ge j ((zs.take len).map (Value.int .i64)).length with h | h
        · exact h
        · rw [List.getElem?_eq_none h] at hj; cases hj
      rw [List.length_map, hlen] at h1; exact h1
    rw [hc j (by omega), ← hj, List.getElem?_map, List.getElem?_take, if_pos hjl]
    simp [List.getD_eq_getElem?_getD, (by omega : j < zs.length)]
theorem Oi.far {w w' : World} {base n c : Nat} {A : Option Addr} {xs : List Int} {B : Nat} (h : Oi w base A n c xs) (hg : w.grownBy w' (Value.slice A n c).ownBlock) (hB : B ≤ base) (hs : B ≤ w.heap.size) : Below B w w' :=
  (Below.refl _ _).grown hg hs (fun k e => Nat.le_trans hB (h.lo k e))
theorem br_of {w : World} {A : Option Addr} {len cap : Nat} {zs : List Int}
    (h : (A = none ∧ len = 0 ∧ cap = 0 ∧ zs = []) ∨
      ∃ x, A = some x ∧ len ≤ cap ∧ cap ≤ maxLen ∧ zs.length = cap ∧ (∀ i, i < zs.length → w.cell? (x.add i) = some (.int .u8 (zs.getD i 0))) ∧ ∀ n ∈ zs, (Lit.int .u8 n).wf = true) :
    ∃ xs : List Int, xs.length = len ∧ Rw w A (xs.map (Value.int .u8)) ∧ xs.length ≤ maxLen ∧ (∀ x ∈ xs, 0 ≤ x ∧ x ≤ 255) ∧ (xs ≠ [] → Bd A w.heap.size) := by
  rcases h with ⟨rfl, rfl, rfl, rfl⟩ | ⟨x, rfl, hl, hm, hz, hcell, hwz⟩
  · exact ⟨[], rfl, fun h => by simp at h, by simp, by simp, fun h => absurd rfl h⟩
  · have hlen : (zs.take len).length = len := by rw [List.length_take]; omega
    have hR : Rw w (some x) ((zs.take len).map (Value.int .u8)) := fun hp => by
      have hp' : 0 < len := by rw [List.length_map, hlen] at hp; exact hp
      obtain ⟨b, off, spot⟩ := x
      have hspot : spot = none := by simpa [Addr.add] using World.cell?_spot (hcell 0 (by omega))
      subst hspot
      have hc : ∀ j, j < zs.length → w.cell? ⟨b, off + j, none⟩ = some (.int .u8 (zs.getD j 0)) := fun j hj => by
        rw [← Go.WideShapes.add_plain]; exact hcell j hj
      refine ⟨b, off, rfl, World.block_lt_of_cell? w _ (hc 0 (by omega)), fun j v hj => ?_⟩
      have hjl : j < len := by
        have h1 : j < ((zs.take len).map (Value.int .u8)).length := by
          rcases Nat.lt_or_ge j ((zs.take len).map (Value.int .u8)).length with h | h
          · exact h
          · rw [List.getElem?_eq_none h] at hj; cases hj
        rw [List.length_map, hlen] at h1; exact h1
      rw [hc j (by omega), ← hj, List.getElem?_map, List.getElem?_take, if_pos hjl]
      simp [List.getD_eq_getElem?_getD, (by omega : j < zs.length)]
    refine ⟨zs.take len, hlen, hR, by omega, fun y hy => bounds_u8 (hwz y (List.mem_of_mem_take hy)), ?_⟩
    by_cases h0 : len = 0
    · intro hn; exact absurd (by rw [h0]; simp) hn
    · intro _
      obtain ⟨b, off, e, hb, _⟩ := hR (by rw [List.length_map, hlen]; omega)
      intro a ha; cases ha; cases e; exact hb
theorem snoc_of {α : Type} {xs : List α} {k : Nat} {x : α} (h : xs[k]? = some x) : xs.take (k + 1) = xs.take k ++ [x] := by
  rw [List.take_add_one, h]; rfl
theorem drop_of {α : Type} {xs : List α} {k : Nat} {x : α} (h : xs[k]? = some x) : xs.drop k = x :: xs.drop (k + 1) := by
  rcases Nat.lt_or_ge k xs.length with hk | hk
  · rw [List.drop_eq_getElem_cons hk]
    rw [List.getElem?_eq_getElem hk] at h
    rw [Option.some.inj h]
  · rw [List.getElem?_eq_none hk] at h; cases h
theorem take_all {α : Type} {xs : List α} {k : Nat} (hk : k ≤ xs.length) (h : ¬ k < xs.length) : xs.take k = xs := by
  rw [List.take_of_length_le (by omega)]

/-! ### amounts and sums -/
def amt (n : Int) : Bool := decide (0 ≤ n ∧ n ≤ 1000000000)
def amts (xs : List Int) : Bool := xs.all amt
def isum : List Int → Int
  | [] => 0
  | x :: r => x + isum r
theorem amt_iff {n : Int} : amt n = true ↔ 0 ≤ n ∧ n ≤ 1000000000 := by simp [amt]
theorem amt_no {n : Int} : amt n = false ↔ n < 0 ∨ 1000000000 < n := by simp [amt]; omega
theorem amts_nil : amts [] = true := rfl
theorem amts_snoc (xs : List Int) (x : Int) : amts (xs ++ [x]) = (amts xs && amt x) := by simp [amts]
theorem amts_no {xs : List Int} {k : Nat} {x : Int} (h : xs[k]? = some x) (hx : amt x = false) : amts xs = false := by
  unfold amts; rw [List.all_eq_false]; exact ⟨x, List.mem_of_getElem? h, by simp [hx]⟩
theorem amts_at {xs : List Int} {k : Nat} {x : Int} (h : amts xs = true) (hx : xs[k]? = some x) : 0 ≤ x ∧ x ≤ 1000000000 := by
  unfold amts at h; rw [List.all_eq_true] at h; exact amt_iff.1 (h x (List.mem_of_getElem? hx))
theorem isum_nil : isum [] = 0 := rfl
theorem isum_app (xs ys : List Int) : isum (xs ++ ys) = isum xs + isum ys := by
  induction xs with
  | nil => simp [isum]
  | cons x r ih => simp only [List.cons_append, isum, ih]; omega
theorem isum_snoc (xs : List Int) (x : Int) : isum (xs ++ [x]) = isum xs + x := by rw [isum_app]; simp [isum]
theorem isum_bd {xs : List Int} (h : amts xs = true) : 0 ≤ isum xs ∧ isum xs ≤ 1000000000 * xs.length := by
  induction xs with
  | nil => simp [isum]
  | cons x r ih =>
    simp only [amts, List.all_cons, Bool.and_eq_true] at h
    have := ih h.2
    have hx := amt_iff.1 h.1
    simp only [isum, List.length_cons]; omega
theorem amts_take {xs : List Int} (h : amts xs = true) (k : Nat) : amts (xs.take k) = true := by
  unfold amts at h ⊢; rw [List.all_eq_true] at h ⊢; exact fun x hx => h x (List.mem_of_mem_take hx)
end Go.Proofs.Ytjcklmhgjdmjoaa
