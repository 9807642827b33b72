import Derived.Test.YtaehkkcaoniphaaRows
import Derived.WalkKit
import Derived.ProofKit
import Derived.OpenShut
import Derived.Below
import Derived.BigQuiet
import Derived.Deep.QuietTactic
import Derived.Deep.Draws
import Derived.Lib.Hide
import Derived.Laws.OwnMore
import Derived.Maps.AppendAt
import Derived.Laws.Rows
import Derived.OwnWalk
import Derived.WalkSpells
import Derived.Laws.StructEq
import Derived.Deep.Slices
import Derived.Deep.Fields
import Derived.ChangeSame
import Derived.Sort.Walk0
import Derived.WalkLawsBesides
import Derived.Lib.ConvBytes
import Derived.WideKeyPair
import Derived.Maps.Keyed
import Derived.StillTail
/- Words on rows of cells: a slice value reads as a list of cells; kept over what a call makes. -/
namespace Go.Proofs.Ytaehkkcaoniphaa
open Go.ChangeShapes Go.WideShapes Go.ChangeAt Go.RowKit
set_option linter.unusedVariables false

/-- A row of cells at an address reads as a list of values. Nothing is asked of the address where the list is empty. -/
def Rw (w : World) (A : Option Addr) (vs : List Value) : Prop :=
  0 < vs.length → ∃ b off, A = some ⟨b, off, none⟩ ∧ b < w.heap.size ∧ ∀ j v, vs[j]? = some v → w.cell? ⟨b, off + j, none⟩ = some v

/-- A row of numbers. -/
def Ir (w : World) (A : Option Addr) (xs : List Int) : Prop := Rw w A (xs.map (Value.int .i64))

theorem Rw.drewN {w : World} {A : Option Addr} {xs : List Value} (h : Rw w A xs) (n : Nat) : Rw (w.drewN n) A xs := h
theorem Rw.below {w w' : World} {A : Option Addr} {xs : List Value} (h : Rw w A xs) (hb : Below w.heap.size w w') : Rw w' A xs := fun hp => by
  obtain ⟨b, off, e, hl, hc⟩ := h hp
  exact ⟨b, off, e, Nat.lt_of_lt_of_le hl hb.size, fun j v hj => (hb.cell (p := ⟨b, off + j, none⟩) hl).trans (hc j v hj)⟩
theorem below_drewN (w : World) (n : Nat) : Below w.heap.size w (w.drewN n) := ⟨rfl, rfl, rfl, Nat.le_refl _, fun _ _ => rfl⟩
theorem Rw.grown {w w' : World} {A : Option Addr} {vs : List Value} {g : Nat} (h : Rw w A vs) (hg : w.grownBy w' (some g)) (hn : ∀ a, A = some a → a.block ≠ g) : Rw w' A vs := fun hp => by
  obtain ⟨b, off, e, hl, hc⟩ := h hp
  refine ⟨b, off, e, Nat.lt_of_lt_of_le hl hg.size, fun j v hj => ?_⟩
  have := hn _ e
  exact (World.cell?_of_block (hg.block b hl (by simpa using this))).trans (hc j v hj)
theorem Ir.grown {w w' : World} {A : Option Addr} {xs : List Int} {g : Nat} (h : Ir w A xs) (hg : w.grownBy w' (some g)) (hn : ∀ a, A = some a → a.block ≠ g) : Ir w' A xs := Rw.grown h hg hn
theorem Ir.drewN {w : World} {A : Option Addr} {xs : List Int} (h : Ir w A xs) (n : Nat) : Ir (w.drewN n) A xs := h
theorem Ir.below {w w' : World} {A : Option Addr} {xs : List Int} (h : Ir w A xs) (hb : Below w.heap.size w w') : Ir w' A xs := Rw.below h hb
theorem belowGo {w a b : World} (h : Below w.heap.size w a) (k : Below a.heap.size a b) : Below w.heap.size w b := h.trans (k.mono h.size)
theorem Ir.at {w : World} {A : Option Addr} {xs : List Int} (h : Ir w A xs) {k : Nat} (hk : k < xs.length) :
    ∃ b off x, A = some ⟨b, off, none⟩ ∧ w.cell? ⟨b, off + k, none⟩ = some (.int .i64 x) ∧ Hid (xs[k]? = some x) := by
  obtain ⟨b, off, e, _, hc⟩ := h (by simp; omega)
  exact ⟨b, off, xs[k], e, hc k _ (by simp [hk]), Lib.hid (by simp [hk])⟩

theorem Rw.new (w : World) (vs : List Value) (t : TypeId) (fr : Nat × Nat) : Rw (w.alloc (.cells vs.toArray t fr)) (some ⟨w.heap.size, 0, none⟩) vs := fun _ =>
  ⟨w.heap.size, 0, rfl, by simp only [World.size_alloc]; omega, fun j v hj => by
    rw [cell_of_row _ _ _ _ _ _ (heap_alloc_new w _)]; simpa using hj⟩
theorem Rw.own {w : World} {base n : Nat} {e : TypeId} {A : Option Addr} {c : Nat} {vs : List Value} (h : w.ownsRow base e 1 (.slice A n c) n vs) : Rw w A vs := fun hp => by
  rcases h.2 with ⟨hv, hx⟩ | ⟨g, cap, cur, hv, _, hh, _⟩
  · have h1 := h.1; omega
  · have hlt := (h.lt g (by rw [hv]; rfl)).2
    injection hv with hA _ _
    subst hA
    refine ⟨g, 0, rfl, hlt, fun j v hj => ?_⟩
    have := h.cells (g := g) rfl j v hj
    rwa [show ((⟨g, 0, none⟩ : Addr).add j) = ⟨g, 0 + j, none⟩ from by unfold Addr.add; split <;> simp_all] at this
/-- A row of numbers that the call owns: in blocks from 'base' on. -/
def Oi (w : World) (base : Nat) (A : Option Addr) (n c : Nat) (xs : List Int) : Prop :=
  w.ownsRow base 2 1 (.slice A n c) n (xs.map (Value.int .i64))
/-- The address lies below a block. -/
def Bd (A : Option Addr) (B : Nat) : Prop := ∀ a, A = some a → a.block < B
theorem Bd.mono {A : Option Addr} {B B' : Nat} (h : Bd A B) (hB : B ≤ B') : Bd A B' := fun a e => Nat.lt_of_lt_of_le (h a e) hB
section
variable {w w' : World} {base : Nat} {A : Option Addr} {n c : Nat} {xs : List Int}
theorem Oi.len (h : Oi w base A n c xs) : xs.length = n := by have := h.1; simpa using this
theorem Oi.ir (h : Oi w base A n c xs) : Ir w A xs := Rw.own h
theorem Oi.bd (h : Oi w base A n c xs) : Bd A w.heap.size := fun a e => (h.lt a.block (by rw [e]; rfl)).2
theorem Oi.lo (h : Oi w base A n c xs) : ∀ k, (Value.slice A n c).ownBlock = some k → base ≤ k := fun k e => (h.lt k e).1
theorem Oi.below (h : Oi w base A n c xs) (hb : Below w.heap.size w w') : Oi w' base A n c xs := by
  refine ⟨h.1, ?_⟩
  rcases h.2 with h1 | ⟨g, cap, cur, h1, h2, h3, h4⟩
  · exact .inl h1
  · exact .inr ⟨g, cap, cur, h1, h2, (hb.block g (by
      rcases Nat.lt_or_ge g w.heap.size with hlt | hge
      · exact hlt
      · rw [Array.getElem?_eq_none hge] at h3; cases h3)).trans h3, h4⟩
/-- Kept over writes into a row that lies below. -/
theorem Oi.kept {B : Option Addr} {m d : Nat} (h : Oi w base A n c xs) (hg : w.grownBy w' (Value.slice B m d).ownBlock) (hB : Bd B base) : Oi w' base A n c xs :=
  World.ownsRow.kept h hg (by
    cases A with
    | none => exact .inl rfl
    | some a =>
      right
      cases B with
      | none => simp [Value.ownBlock]
      | some b =>
        intro e
        have h1 := h.lo a.block rfl
        have h2 := hB b rfl
        simp [Value.ownBlock] at e
        omega)
theorem Rw.keepB {vs : List Value} {B : Nat} (h : Rw w A vs) (hA : Bd A B) (hb : Below B w w') : Rw w' A vs := fun hp => by
  obtain ⟨b, off, e, hl, hc⟩ := h hp
  exact ⟨b, off, e, Nat.lt_of_lt_of_le hl hb.size, fun j v hj => (hb.cell (p := ⟨b, off + j, none⟩) (show b < B from hA ⟨b, off, none⟩ e)).trans (hc j v hj)⟩
theorem Ir.keepB {B : Nat} (h : Ir w A xs) (hA : Bd A B) (hb : Below B w w') : Ir w' A xs := Rw.keepB h hA hb
theorem Oi.wrote {W : World} {B : Nat} (hW : Below B W w) (h : Oi w base A n c xs) (hg : w.grownBy w' (Value.slice A n c).ownBlock) (hB : B ≤ base) (hs : B ≤ w.heap.size) : Below B W w' :=
  hW.grown hg hs (fun k e => Nat.le_trans hB (h.lo k e))
end
/-- What a function that hands back new numbers leaves. -/
def NewInts (w : World) (xs : List Int) (e : Ending) (w' : World) : Prop :=
  ∃ A c, e = .returned (.slice A xs.length c) ∧ Oi w' w.heap.size A xs.length c xs ∧ Below w.heap.size w w'
/-- The same with a code behind. -/
def NewIntsC (w : World) (r : List Int × Int) (e : Ending) (w' : World) : Prop :=
  ∃ A c, e = .returned (.tuple #[.slice A r.1.length c, .int .i64 r.2]) ∧ Oi w' w.heap.size A r.1.length c r.1 ∧ Below w.heap.size w w'
theorem Oi.nil (w : World) (base : Nat) : Oi w base none 0 0 [] := World.ownsRow_nil _ _ _ _
/-- What a function that gives one value and makes nothing that matters leaves. -/
def Gives (w : World) (v : Value) (e : Ending) (w' : World) : Prop := e = .returned v ∧ Below w.heap.size w w'
/-- What a frame knows of a slice that came in, in these words. -/
theorem ir_of {w : World} {A : Option Addr} {len cap : Nat} {zs : List Int}
    (h : (A = none ∧ len = 0 ∧ cap = 0 ∧ zs = []) ∨
      ∃ x, A = some x ∧ len ≤ cap ∧ cap ≤ maxLen ∧ zs.length = cap ∧ (∀ i, i < zs.length → w.cell? (x.add i) = some (.int .i64 (zs.getD i 0))) ∧ ∀ n ∈ zs, (Lit.int .i64 n).wf = true) :
    ∃ xs : List Int, xs.length = len ∧ Ir w A xs ∧ xs.length ≤ maxLen ∧ ∀ x ∈ xs, (Lit.int .i64 x).wf = true := by
  rcases h with ⟨rfl, rfl, rfl, rfl⟩ | ⟨x, rfl, hl, hm, hz, hcell, hwz⟩
  · exact ⟨[], rfl, fun h => by simp at h, by simp, by simp⟩
  · have hlen : (zs.take len).length = len := by rw [List.length_take]; omega
    refine ⟨zs.take len, hlen, fun hp => ?_, by omega, fun y hy => hwz y (List.mem_of_mem_take hy)⟩
    have hp' : 0 < len := by rw [List.length_map, hlen] at hp; exact hp
    obtain ⟨b, off, rfl, hc⟩ := ints_at hcell (by omega)
    refine ⟨b, off, rfl, World.block_lt_of_cell? w _ (hc 0 (by omega)), fun j v hj => ?_⟩
    have hjl : j < len := by
      have h1 : j < ((zs.take len).map (Value.int .i64)).length := by
        rcases Nat.lt_or_ge j ((zs.take len).map (Value.int .i64)).length with h | h
        · exact h
        · rw [List.getElem?_eq_none h] at hj; cases hj
      rw [List.length_map, hlen] at h1; exact h1
    rw [hc j (by omega), ← hj, List.getElem?_map, List.getElem?_take, if_pos hjl]
    simp [List.getD_eq_getElem?_getD, (by omega : j < zs.length)]
theorem Oi.far {w w' : World} {base n c : Nat} {A : Option Addr} {xs : List Int} {B : Nat} (h : Oi w base A n c xs) (hg : w.grownBy w' (Value.slice A n c).ownBlock) (hB : B ≤ base) (hs : B ≤ w.heap.size) : Below B w w' :=
  (Below.refl _ _).grown hg hs (fun k e => Nat.le_trans hB (h.lo k e))
theorem br_of {w : World} {A : Option Addr} {len cap : Nat} {zs : List Int}
    (h : (A = none ∧ len = 0 ∧ cap = 0 ∧ zs = []) ∨
      ∃ x, A = some x ∧ len ≤ cap ∧ cap ≤ maxLen ∧ zs.length = cap ∧ (∀ i, i < zs.length → w.cell? (x.add i) = some (.int .u8 (zs.getD i 0))) ∧ ∀ n ∈ zs, (Lit.int .u8 n).wf = true) :
    ∃ xs : List Int, xs.length = len ∧ Rw w A (xs.map (Value.int .u8)) ∧ xs.length ≤ maxLen ∧ (∀ x ∈ xs, 0 ≤ x ∧ x ≤ 255) ∧ (xs ≠ [] → Bd A w.heap.size) := by
  rcases h with ⟨rfl, rfl, rfl, rfl⟩ | ⟨x, rfl, hl, hm, hz, hcell, hwz⟩
  · exact ⟨[], rfl, fun h => by simp at h, by simp, by simp, fun h => absurd rfl h⟩
  · have hlen : (zs.take len).length = len := by rw [List.length_take]; omega
    have hR : Rw w (some x) ((zs.take len).map (Value.int .u8)) := fun hp => by
      have hp' : 0 < len := by rw [List.length_map, hlen] at hp; exact hp
      obtain ⟨b, off, spot⟩ := x
      have hspot : spot = none := by simpa [Addr.add] using World.cell?_spot (hcell 0 (by omega))
      subst hspot
      have hc : ∀ j, j < zs.length → w.cell? ⟨b, off + j, none⟩ = some (.int .u8 (zs.getD j 0)) := fun j hj => by
        rw [← Go.WideShapes.add_plain]; exact hcell j hj
      refine ⟨b, off, rfl, World.block_lt_of_cell? w _ (hc 0 (by omega)), fun j v hj => ?_⟩
      have hjl : j < len := by
        have h1 : j < ((zs.take len).map (Value.int .u8)).length := by
          rcases Nat.lt_or_ge j ((zs.take len).map (Value.int .u8)).length with h | h
          · exact h
          · rw [List.getElem?_eq_none h] at hj; cases hj
        rw [List.length_map, hlen] at h1; exact h1
      rw [hc j (by omega), ← hj, List.getElem?_map, List.getElem?_take, if_pos hjl]
      simp [List.getD_eq_getElem?_getD, (by omega : j < zs.length)]
    refine ⟨zs.take len, hlen, hR, by omega, fun y hy => bounds_u8 (hwz y (List.mem_of_mem_take hy)), ?_⟩
    by_cases h0 : len = 0
    · intro hn; exact absurd (by rw [h0]; simp) hn
    · intro _
      obtain ⟨b, off, e, hb, _⟩ := hR (by rw [List.length_map, hlen]; omega)
      intro a ha; cases ha; cases e; exact hb
theorem snoc_of {α : Type} {xs : List α} {k : Nat} {x : α} (h : xs[k]? = some x) : xs.take (k + 1) = xs.take k ++ [x] := by
  rw [List.take_add_one, h]; rfl
theorem drop_of {α : Type} {xs : List α} {k : Nat} {x : α} (h : xs[k]? = some x) : xs.drop k = x :: xs.drop (k + 1) := by
  rcases Nat.lt_or_ge k xs.length with hk | hk
  · rw [List.drop_eq_getElem_cons hk]
    rw [List.getElem?_eq_getElem hk] at h
    rw [Option.some.inj h]
  · rw [List.getElem?_eq_none hk] at h; cases h
theorem take_all {α : Type} {xs : List α} {k : Nat} (hk : k ≤ xs.length) (h : ¬ k < xs.length) : xs.take k = xs := by
  rw [List.take_of_length_le (by omega)]

/-! ### amounts and sums -/
def amt (n : Int) : Bool := decide (0 ≤ n ∧ n ≤ 1000000000)
def amts (xs : List Int) : Bool := xs.all amt
def isum : List Int → Int
  | [] => 0
  | x :: r => x + isum r
theorem amt_iff {n : Int} : amt n = true ↔ 0 ≤ n ∧ n ≤ 1000000000 := by simp [amt]
theorem amt_no {n : Int} : amt n = false ↔ n < 0 ∨ 1000000000 < n := by simp [amt]; omega
theorem amts_nil : amts [] = true := rfl
theorem amts_snoc (xs : List Int) (x : Int) : amts (xs ++ [x]) = (amts xs && amt x) := by simp [amts]
theorem amts_no {xs : List Int} {k : Nat} {x : Int} (h : xs[k]? = some x) (hx : amt x = false) : amts xs = false := by
  unfold amts; rw [List.all_eq_false]; exact ⟨x, List.mem_of_getElem? h, by simp [hx]⟩
theorem amts_at {xs : List Int} {k : Nat} {x : Int} (h : amts xs = true) (hx : xs[k]? = some x) : 0 ≤ x ∧ x ≤ 1000000000 := by
  unfold amts at h; rw [List.all_eq_true] at h; exact amt_iff.1 (h x (List.mem_of_getElem? hx))
theorem isum_nil : isum [] = 0 := rfl
theorem isum_app (xs ys : List Int) : isum (xs ++ ys) = isum xs + isum ys := by
  induction xs with
  | nil => simp [isum]
  | cons x r ih => simp only [List.cons_append, isum, ih]; omega
theorem isum_snoc (xs : List Int) (x : Int) : isum (xs ++ [x]) = isum xs + x := by rw [isum_app]; simp [isum]
theorem isum_bd {xs : List Int} (h : amts xs = true) : 0 ≤ isum xs ∧ isum xs ≤ 1000000000 * xs.length := by
  induction xs with
  | nil => simp [isum]
  | cons x r ih =>
    simp only [amts, List.all_cons, Bool.and_eq_true] at h
    have := ih h.2
    have hx := amt_iff.1 h.1
    simp only [isum, List.length_cons]; omega
theorem amts_take {xs : List Int} (h : amts xs = true) (k : Nat) : amts (xs.take k) = true := by
  unfold amts at h ⊢; rw [List.all_eq_true] at h ⊢; exact fun x hx => h x (List.mem_of_mem_take hx)
end Go.Proofs.Ytaehkkcaoniphaa

/- Rates: rows of structs of a string and three numbers. -/
namespace Go.Proofs.Ytaehkkcaoniphaa
open Go.ChangeShapes Go.WideShapes Go.ChangeAt Go.RowKit
set_option linter.unusedVariables false

structure Rt where
  c : List UInt8
  day : Int
  num : Int
  den : Int
def Rt.cells (r : Rt) : List Value := [.string ⟨r.c.toArray⟩, .int .i64 r.day, .int .i64 r.num, .int .i64 r.den]
theorem flat_at {α β : Type} (f : α → List β) (n : Nat) (hf : ∀ a, (f a).length = n) : ∀ (xs : List α) (k j : Nat) (a : α), xs[k]? = some a → j < n → (xs.flatMap f)[k * n + j]? = (f a)[j]? := by
  intro xs
  induction xs with
  | nil => intro k j a h; simp at h
  | cons x r ih =>
    intro k j a h hj
    rw [List.flatMap_cons]
    cases k with
    | zero =>
      simp at h; subst h
      rw [Nat.zero_mul, Nat.zero_add, List.getElem?_append_left (by rw [hf]; exact hj)]
    | succ k =>
      rw [List.getElem?_append_right (by rw [hf, Nat.succ_mul]; omega), hf, Nat.succ_mul, show k * n + n + j - n = k * n + j by omega]
      exact ih k j a (by simpa using h) hj
theorem flat_len {α β : Type} (f : α → List β) (n : Nat) (hf : ∀ a, (f a).length = n) (xs : List α) : (xs.flatMap f).length = xs.length * n := by
  induction xs with
  | nil => simp
  | cons x r ih => rw [List.flatMap_cons, List.length_append, hf, ih, List.length_cons, Nat.succ_mul]; omega
def Rr (w : World) (A : Option Addr) (rs : List Rt) : Prop := Rw w A (rs.flatMap Rt.cells)
theorem Rr.at {w : World} {A : Option Addr} {rs : List Rt} (h : Rr w A rs) {k : Nat} (hk : k < rs.length) :
    ∃ b off r, A = some ⟨b, off, none⟩ ∧ b < w.heap.size ∧ Hid (rs[k]? = some r) ∧ w.cell? ⟨b, off + k * 4, none⟩ = some (.string ⟨r.c.toArray⟩) ∧ w.cell? ⟨b, off + k * 4 + 1, none⟩ = some (.int .i64 r.day) ∧
      w.cell? ⟨b, off + k * 4 + 2, none⟩ = some (.int .i64 r.num) ∧ w.cell? ⟨b, off + k * 4 + 3, none⟩ = some (.int .i64 r.den) := by
  have hl := flat_len Rt.cells 4 (fun _ => rfl) rs
  obtain ⟨b, off, e, hb, hc⟩ := h (by rw [hl]; omega)
  have hr : rs[k]? = some rs[k] := List.getElem?_eq_getElem hk
  have g := fun j hj => hc (k * 4 + j) _ ((flat_at Rt.cells 4 (fun _ => rfl) rs k j _ hr hj).trans (List.getElem?_eq_getElem (by exact hj)))
  refine ⟨b, off, rs[k], e, hb, Lib.hid hr, ?_, ?_, ?_, ?_⟩
  · simpa [Rt.cells] using g 0 (by omega)
  · simpa [Rt.cells, Nat.add_assoc] using g 1 (by omega)
  · simpa [Rt.cells, Nat.add_assoc] using g 2 (by omega)
  · simpa [Rt.cells, Nat.add_assoc] using g 3 (by omega)

/-- How many letters are left. -/
def szl : List Rt → Int → Int
  | [], n => n
  | r :: rs, n => if n < 0 then n else szl rs (if n - r.c.length < 0 then -1 else n - r.c.length)
theorem szRate_s (r : Rt) (n : Int) (w : World) (h0 : -2 ≤ n) (h1 : n ≤ 2000000) (hl : r.c.length ≤ 140737488355328) :
    Calls Try.prog 33 #[.agg #[.string ⟨r.c.toArray⟩, .int .i64 r.day, .int .i64 r.num, .int .i64 r.den], .int .i64 n] w fun e w' => e = .returned (.int .i64 (if n - r.c.length < 0 then -1 else n - r.c.length)) ∧ Below w.heap.size w w' := by
  have hz : (⟨r.c.toArray⟩ : ByteArray).size = r.c.length := rfl
  have B : ∀ o, Hid (Below w.heap.size w (w.alloc o)) := fun o => Lib.hid ((Below.refl _ _).alloc (Nat.le_refl _) _)
  by_cases h : n - r.c.length < 0
  · have E : Hid ((if n - r.c.length < 0 then -1 else n - r.c.length : Int) = -1) := Lib.hid (by rw [if_pos h])
    go_enter Try.func33, Try.ntmps33
    go_wp2_with fail
    go_ret
    exact ⟨by first | rfl | exact congrArg (fun x => Exit.returned (Value.int .i64 x)) E.out.symm, (B _).out⟩
  · have E : Hid ((if n - r.c.length < 0 then -1 else n - r.c.length : Int) = n - r.c.length) := Lib.hid (by rw [if_neg h])
    go_enter Try.func33, Try.ntmps33
    go_wp2_with fail
    go_ret
    exact ⟨by first | rfl | exact congrArg (fun x => Exit.returned (Value.int .i64 x)) E.out.symm, (B _).out⟩

/-! ### a slice of rates that came in -/
def Rt.wf (r : Rt) : Prop := r.c.length ≤ maxLen ∧ (Lit.int .i64 r.day).wf = true ∧ (Lit.int .i64 r.num).wf = true ∧ (Lit.int .i64 r.den).wf = true
theorem flat_some {α β : Type} (f : α → List β) (n : Nat) (hn : 0 < n) (hf : ∀ a, (f a).length = n) (xs : List α) (j : Nat) (v : β) (h : (xs.flatMap f)[j]? = some v) :
    ∃ a, xs[j / n]? = some a ∧ (f a)[j % n]? = some v := by
  have hl := flat_len f n hf xs
  have hj : j < xs.length * n := by rw [← hl]; exact (List.getElem?_eq_some_iff.1 h).1
  have hk : j / n < xs.length := (Nat.div_lt_iff_lt_mul hn).2 hj
  have hm : j % n < n := Nat.mod_lt _ hn
  have e := flat_at f n hf xs (j / n) (j % n) _ (List.getElem?_eq_getElem hk) hm
  rw [Nat.mul_comm, Nat.div_add_mod] at e
  exact ⟨_, List.getElem?_eq_getElem hk, e ▸ h⟩
theorem pick_all {α : Type} {P : Nat → α → Prop} {n : Nat} (h : ∀ i, i < n → ∃ a, P i a) : ∃ xs : List α, xs.length = n ∧ ∀ i a, xs[i]? = some a → P i a := by
  induction n with
  | zero => exact ⟨[], rfl, fun i a h => by simp at h⟩
  | succ n ih =>
    obtain ⟨xs, hl, hx⟩ := ih fun i hi => h i (by omega)
    obtain ⟨a, ha⟩ := h n (by omega)
    refine ⟨xs ++ [a], by simp [hl], fun i b hb => ?_⟩
    rcases Nat.lt_or_ge i xs.length with hi | hi
    · rw [List.getElem?_append_left hi] at hb; exact hx i b hb
    · rw [List.getElem?_append_right hi] at hb
      have : i - xs.length = 0 := by have := (List.getElem?_eq_some_iff.1 hb).1; simp at this; omega
      rw [this] at hb
      simp at hb
      subst hb
      rw [show i = n by omega]; exact ha
theorem list4 {α : Type} {l : List α} (h : l.length = 4) : ∃ a b c d, l = [a, b, c, d] := by
  match l, h with
  | [a, b, c, d], _ => exact ⟨a, b, c, d, rfl⟩
theorem rr_of {H : Type} {enc : TypeId × Value → H} {w : World} {spare : Nat → Bool} {held : Bool} {t e : TypeId} {f0 f1 f2 f3 : Field} {fuel : Nat} {A : Option Addr} {len cap : Nat} {x : DataW H × List MemPlace}
    (ht : Try.prog.underlying t = some (.slice e)) (he : Try.prog.underlying e = some (.struct #[f0, f1, f2, f3])) (hC : Try.prog.cellsOf e = 4) (hone : Go.Deep.oneCellFields Try.prog #[f0, f1, f2, f3] = true)
    (h0 : Try.prog.underlying f0.type = some .string) (h1 : Try.prog.underlying f1.type = some (.int .i64)) (h2 : Try.prog.underlying f2.type = some (.int .i64)) (h3 : Try.prog.underlying f3.type = some (.int .i64))
    (h : DataW.trod enc Try.prog w 0 spare held fuel t [.slice A len cap] = some x) :
    ∃ rs : List Rt, rs.length = len ∧ Rr w A rs ∧ rs.length ≤ maxLen ∧ ∀ r ∈ rs, r.wf := by
  rcases Go.Deep.open_slice ht h with ⟨hcs, _⟩ | ⟨a, l, c, m, n, D, Pl, hcs, _, hlc, hcm, hmm, _, hel⟩
  · simp only [List.cons.injEq, Value.slice.injEq, and_true] at hcs
    obtain ⟨rfl, rfl, rfl⟩ := hcs
    exact ⟨[], rfl, fun hp => by simp at hp, by simp, fun r hr => by cases hr⟩
  · simp only [List.cons.injEq, Value.slice.injEq, and_true] at hcs
    obtain ⟨rfl, rfl, rfl⟩ := hcs
    have hlm : len ≤ m := by rw [hmm]; split <;> omega
    have key : ∀ i, i < len → ∃ r : Rt, r.wf ∧ ∀ j v, r.cells[j]? = some v → w.cell? (a.add (i * 4 + j)) = some v := by
      intro i hi
      obtain ⟨cs', hc, ht'⟩ := hel i (by omega)
      rw [hC] at hc
      obtain ⟨_, hcl, hat⟩ := World.cells?_some hc
      obtain ⟨ys, n', _, _, _, hyl, hf⟩ := DataW.trod_struct he ht'
      obtain ⟨o0, k0⟩ := Go.Deep.hone_of hone 0 f0 rfl
      obtain ⟨o1, k1⟩ := Go.Deep.hone_of hone 1 f1 rfl
      obtain ⟨o2, k2⟩ := Go.Deep.hone_of hone 2 f2 rfl
      obtain ⟨o3, k3⟩ := Go.Deep.hone_of hone 3 f3 rfl
      obtain ⟨c0, c1, c2, c3, rfl⟩ := list4 hcl
      · skip
        have g0 := hf 0 f0 rfl
        have g1 := hf 1 f1 rfl
        have g2 := hf 2 f2 rfl
        have g3 := hf 3 f3 rfl
        rw [o0, k0] at g0; rw [o1, k1] at g1; rw [o2, k2] at g2; rw [o3, k3] at g3
        have hys : ∀ j, j < 4 → ∃ y, ys[j]? = some y := fun j hj => by
          have : ys.length = 4 := hyl.trans rfl
          exact ⟨_, List.getElem?_eq_getElem (by omega)⟩
        obtain ⟨y0, e0⟩ := hys 0 (by omega); rw [e0] at g0
        obtain ⟨y1, e1⟩ := hys 1 (by omega); rw [e1] at g1
        obtain ⟨y2, e2⟩ := hys 2 (by omega); rw [e2] at g2
        obtain ⟨y3, e3⟩ := hys 3 (by omega); rw [e3] at g3
        obtain ⟨s, q0, _, w0⟩ := DataW.trod_string h0 g0
        obtain ⟨d, q1, _, w1⟩ := DataW.trod_int h1 g1
        obtain ⟨nu, q2, _, w2⟩ := DataW.trod_int h2 g2
        obtain ⟨de, q3, _, w3⟩ := DataW.trod_int h3 g3
        simp at q0 q1 q2 q3
        subst q0 q1 q2 q3
        refine ⟨⟨s.data.toList, d, nu, de⟩, ⟨by simpa using w0, w1, w2, w3⟩, fun j v hj => ?_⟩
        have hj4 : j < 4 := (List.getElem?_eq_some_iff.1 hj).1
        rw [← Go.Deep.add_add]
        have := hat j hj4
        rw [this, ← hj]
        rfl
    obtain ⟨rs, hl, hr⟩ := pick_all key
    refine ⟨rs, hl, fun hp => ?_, by omega, fun r hr' => ?_⟩
    · rw [flat_len Rt.cells 4 (fun _ => rfl)] at hp
      have h00 := (hr 0 rs[0] (List.getElem?_eq_getElem (by omega))).2 0 _ rfl
      obtain ⟨b, off, spot⟩ := a
      have hspot : spot = none := by simpa [Addr.add] using World.cell?_spot h00
      subst hspot
      refine ⟨b, off, rfl, World.block_lt_of_cell? w _ h00, fun j v hj => ?_⟩
      obtain ⟨r, h5, h6⟩ := flat_some Rt.cells 4 (by decide) (fun _ => rfl) rs j v hj
      have := (hr _ r h5).2 _ v h6
      rw [Go.WideShapes.add_plain, Nat.mul_comm, Nat.div_add_mod] at this
      exact this
    · obtain ⟨i, hi⟩ := List.getElem?_of_mem hr'
      exact (hr i r hi).1
end Go.Proofs.Ytaehkkcaoniphaa

/- Currencies in plain lists: codes, tables, the rate of a day. No program. -/
namespace Go.Proofs.Ytaehkkcaoniphaa

/-! ### the order of texts -/
theorem less_irr (x : List UInt8) : Op.bytesLess x x = false := by rw [bytesLess_eq]; simp
theorem less_trans {x y z : List UInt8} (h : Op.bytesLess x y = true) (k : Op.bytesLess y z = true) : Op.bytesLess x z = true := by
  rw [bytesLess_eq, decide_eq_true_eq] at *; exact List.lt_trans h k
theorem less_tot {x y : List UInt8} (h : Op.bytesLess x y = false) (k : Op.bytesLess y x = false) : x = y := by
  rw [bytesLess_eq, decide_eq_false_iff_not] at *
  exact List.le_antisymm (List.not_lt.1 k) (List.not_lt.1 h)
theorem less_asym {x y : List UInt8} (h : Op.bytesLess x y = true) : Op.bytesLess y x = false := by
  cases k : Op.bytesLess y x with
  | false => rfl
  | true => have := less_trans h k; rw [less_irr] at this; cases this

/-! ### codes -/
def upb (c : UInt8) : Bool := decide (65 ≤ (c.toNat : Int) ∧ (c.toNat : Int) ≤ 90)
def codeB (l : List UInt8) : Bool := decide ((l.length : Int) = 3) && l.all upb
def xdr : List UInt8 := [88, 68, 82]
theorem codeB_iff {l : List UInt8} : codeB l = true ↔ l.length = 3 ∧ l.all upb = true := by
  unfold codeB; rw [Bool.and_eq_true, decide_eq_true_eq, show ((l.length : Int) = 3) = (l.length = 3) from propext (by omega)]
theorem xdr_code : codeB xdr = true := by decide
def keyN (l : List UInt8) : Int := l.foldl (fun n c => n * 26 + ((c.toNat : Int) - 65)) 0
theorem upb_bd {c : UInt8} (h : upb c = true) : 65 ≤ (c.toNat : Int) ∧ (c.toNat : Int) ≤ 90 := by simpa [upb] using h
theorem code3 {l : List UInt8} (h : codeB l = true) : ∃ a b c, l = [a, b, c] ∧ upb a = true ∧ upb b = true ∧ upb c = true := by
  obtain ⟨h3, ha⟩ := codeB_iff.1 h
  match l, h3 with
  | [a, b, c], _ => exact ⟨a, b, c, rfl, by simpa using ha⟩
theorem keyN_inj {l m : List UInt8} (hl : codeB l = true) (hm : codeB m = true) (h : keyN l = keyN m) : l = m := by
  obtain ⟨a, b, c, rfl, ha, hb, hc⟩ := code3 hl
  obtain ⟨x, y, z, rfl, hx, hy, hz⟩ := code3 hm
  have := upb_bd ha; have := upb_bd hb; have := upb_bd hc; have := upb_bd hx; have := upb_bd hy; have := upb_bd hz
  simp only [keyN, List.foldl_cons, List.foldl_nil] at h
  have e1 : a.toNat = x.toNat := by omega
  have e2 : b.toNat = y.toNat := by omega
  have e3 : c.toNat = z.toNat := by omega
  rw [UInt8.toNat.inj e1, UInt8.toNat.inj e2, UInt8.toNat.inj e3]
theorem keyN_bd {l : List UInt8} (hl : codeB l = true) : 0 ≤ keyN l ∧ keyN l ≤ 17575 := by
  obtain ⟨a, b, c, rfl, ha, hb, hc⟩ := code3 hl
  have := upb_bd ha; have := upb_bd hb; have := upb_bd hc
  simp only [keyN, List.foldl_cons, List.foldl_nil]
  omega

/-! ### tables -/
def dayB (n : Int) : Bool := decide (0 ≤ n ∧ n ≤ 36524)
def termB (n : Int) : Bool := decide (1 ≤ n ∧ n ≤ 1000000)
def Rt.ok (r : Rt) : Bool := codeB r.c && !(r.c == xdr) && dayB r.day && termB r.num && termB r.den
/-- a stands before b. -/
def bef (a b : Rt) : Bool := Op.bytesLess a.c b.c || (a.c == b.c && decide (a.day < b.day))
def okAt (rs : List Rt) (i : Nat) : Bool :=
  match rs[i]? with
  | none => true
  | some r => r.ok && (match i with | 0 => true | j + 1 => match rs[j]? with | none => true | some q => bef q r)
def okTo (rs : List Rt) (k : Nat) : Bool := (List.range k).all (okAt rs)
theorem okTo_zero (rs : List Rt) : okTo rs 0 = true := rfl
theorem okTo_succ (rs : List Rt) (k : Nat) : okTo rs (k + 1) = (okTo rs k && okAt rs k) := by simp [okTo, List.range_succ]
theorem okTo_no {rs : List Rt} {k n : Nat} (h : okAt rs k = false) (hk : k < n) : okTo rs n = false := by
  unfold okTo; rw [List.all_eq_false]; exact ⟨k, by simpa using hk, by simp [h]⟩
theorem okTo_at {rs : List Rt} {k n : Nat} (h : okTo rs n = true) (hk : k < n) : okAt rs k = true := by
  unfold okTo at h; rw [List.all_eq_true] at h; exact h k (by simpa using hk)
def tabB (rs : List Rt) : Bool := okTo rs rs.length && decide ((rs.length : Int) ≤ 20)
theorem tabB_iff {rs : List Rt} : tabB rs = true ↔ okTo rs rs.length = true ∧ rs.length ≤ 20 := by
  unfold tabB; rw [Bool.and_eq_true, decide_eq_true_eq, show ((rs.length : Int) ≤ 20) = (rs.length ≤ 20) from propext (by omega)]
theorem tab_ok {rs : List Rt} (h : tabB rs = true) {k : Nat} {r : Rt} (hr : rs[k]? = some r) : r.ok = true := by
  obtain ⟨hk, _⟩ := List.getElem?_eq_some_iff.1 hr
  have := okTo_at (tabB_iff.1 h).1 hk
  unfold okAt at this
  rw [hr] at this
  simp only [Bool.and_eq_true] at this
  exact this.1
theorem tab_bef {rs : List Rt} (h : tabB rs = true) {k : Nat} {q r : Rt} (hq : rs[k]? = some q) (hr : rs[k + 1]? = some r) : bef q r = true := by
  obtain ⟨hk, _⟩ := List.getElem?_eq_some_iff.1 hr
  have := okTo_at (tabB_iff.1 h).1 hk
  unfold okAt at this
  simp only [hr, hq, Bool.and_eq_true] at this
  exact this.2
theorem bef_trans {a b c : Rt} (h : bef a b = true) (k : bef b c = true) : bef a c = true := by
  unfold bef at *
  simp only [Bool.or_eq_true, Bool.and_eq_true, beq_iff_eq, decide_eq_true_eq] at *
  rcases h with h | ⟨h1, h2⟩
  · rcases k with k | ⟨k1, k2⟩
    · exact .inl (less_trans h k)
    · exact .inl (k1 ▸ h)
  · rcases k with k | ⟨k1, k2⟩
    · exact .inl (h1 ▸ k)
    · exact .inr ⟨h1.trans k1, by omega⟩
theorem tab_before {rs : List Rt} (h : tabB rs = true) : ∀ {i j : Nat} {q r : Rt}, i < j → rs[i]? = some q → rs[j]? = some r → bef q r = true := by
  intro i j
  induction j with
  | zero => intro q r hij; omega
  | succ j ih =>
    intro q r hij hq hr
    rcases Nat.lt_or_ge i j with h1 | h1
    · have hj : j < rs.length := by have := (List.getElem?_eq_some_iff.1 hr).1; omega
      exact bef_trans (ih h1 hq (List.getElem?_eq_getElem hj)) (tab_bef h (List.getElem?_eq_getElem hj) hr)
    · obtain rfl : i = j := by omega
      exact tab_bef h hq hr
theorem Rt.ok_iff {r : Rt} : r.ok = true ↔ codeB r.c = true ∧ r.c ≠ xdr ∧ (0 ≤ r.day ∧ r.day ≤ 36524) ∧ (1 ≤ r.num ∧ r.num ≤ 1000000) ∧ (1 ≤ r.den ∧ r.den ≤ 1000000) := by
  unfold Rt.ok dayB termB
  simp only [Bool.and_eq_true, Bool.not_eq_true', beq_eq_false_iff_ne, decide_eq_true_eq, ne_eq, and_assoc]

/-! ### the rate of a day -/
/-- The last rate of a currency that has begun. -/
def lastOn (c : List UInt8) (d : Int) (rs : List Rt) : Option Rt := rs.foldl (fun acc r => if r.c = c ∧ r.day ≤ d then some r else acc) none
theorem lastOn_snoc (c : List UInt8) (d : Int) (rs : List Rt) (r : Rt) : lastOn c d (rs ++ [r]) = if r.c = c ∧ r.day ≤ d then some r else lastOn c d rs := by
  simp [lastOn, List.foldl_append]
/-- Numerator and denominator of a currency on a day; (0, 0) if there is none. -/
def rateL (c : List UInt8) (d : Int) (rs : List Rt) : Int × Int :=
  if c = xdr then (1, 1) else match lastOn c d rs with | none => (0, 0) | some r => (r.num, r.den)
theorem rev_ind {α : Type} {P : List α → Prop} (h0 : P []) (h1 : ∀ xs x, P xs → P (xs ++ [x])) (xs : List α) : P xs := by
  have : ∀ n, ∀ xs : List α, xs.length = n → P xs := by
    intro n
    induction n with
    | zero => intro xs h; rw [List.eq_nil_of_length_eq_zero h]; exact h0
    | succ n ih =>
      intro xs h
      have hne : xs ≠ [] := by rintro rfl; simp at h
      rw [← List.dropLast_concat_getLast hne]
      exact h1 _ _ (ih _ (by simp [h]))
  exact this _ xs rfl
theorem lastOn_some {c : List UInt8} {d : Int} {rs : List Rt} : ∀ {r : Rt}, lastOn c d rs = some r → ∃ k, rs[k]? = some r ∧ r.c = c ∧ r.day ≤ d ∧ ∀ (j : Nat) (q : Rt), k < j → rs[j]? = some q → ¬ (q.c = c ∧ q.day ≤ d) := by
  refine rev_ind (P := fun rs => ∀ {r : Rt}, lastOn c d rs = some r → ∃ k, rs[k]? = some r ∧ r.c = c ∧ r.day ≤ d ∧ ∀ (j : Nat) (q : Rt), k < j → rs[j]? = some q → ¬ (q.c = c ∧ q.day ≤ d)) ?_ ?_ rs
  · intro r h; simp [lastOn] at h
  · intro rs x ih
    intro r h
    rw [lastOn_snoc] at h
    split at h
    · rename_i hx
      obtain rfl := Option.some.inj h
      refine ⟨rs.length, by simp, hx.1, hx.2, fun j q hj hq => ?_⟩
      have := (List.getElem?_eq_some_iff.1 hq).1
      simp at this; omega
    · rename_i hx
      obtain ⟨k, h1, h2, h3, h4⟩ := ih h
      have hk := (List.getElem?_eq_some_iff.1 h1).1
      refine ⟨k, by rw [List.getElem?_append_left hk]; exact h1, h2, h3, fun j q hj hq => ?_⟩
      rcases Nat.lt_or_ge j rs.length with hl | hl
      · rw [List.getElem?_append_left hl] at hq; exact h4 j q hj hq
      · rw [List.getElem?_append_right hl] at hq
        have : j - rs.length = 0 := by
          have := (List.getElem?_eq_some_iff.1 hq).1; simp at this; omega
        rw [this] at hq
        simp at hq; subst hq; exact hx
theorem lastOn_none {c : List UInt8} {d : Int} {rs : List Rt} (h : lastOn c d rs = none) : ∀ r ∈ rs, ¬ (r.c = c ∧ r.day ≤ d) := by
  revert h
  refine rev_ind (P := fun rs => lastOn c d rs = none → ∀ r ∈ rs, ¬ (r.c = c ∧ r.day ≤ d)) ?_ ?_ rs
  · intro _ r hr; cases hr
  · intro rs x ih h
    rw [lastOn_snoc] at h
    split at h
    · cases h
    · rename_i hx
      intro r hr
      rcases List.mem_append.1 hr with hr | hr
      · exact ih h r hr
      · simp at hr; subst hr; exact hx
/-- In a table the last one is the one with the greatest day: there is one rate of it and a day. -/
theorem lastOn_max {c : List UInt8} {d : Int} {rs : List Rt} (h : tabB rs = true) {r q : Rt} (hr : lastOn c d rs = some r) (hq : q ∈ rs) (hc : q.c = c) (hd : q.day ≤ d) (hm : r.day ≤ q.day) : q = r := by
  obtain ⟨k, h1, h2, h3, h4⟩ := lastOn_some hr
  obtain ⟨j, hj⟩ := List.getElem?_of_mem hq
  rcases Nat.lt_trichotomy j k with hlt | rfl | hgt
  · have := tab_before h hlt hj h1
    unfold bef at this
    rw [hc, h2, less_irr] at this
    simp at this; omega
  · rw [hj] at h1; exact Option.some.inj h1
  · exact absurd ⟨hc, hd⟩ (h4 j q hgt hj)
theorem tab_key {rs : List Rt} (h : tabB rs = true) {q r : Rt} (hq : q ∈ rs) (hr : r ∈ rs) (hc : q.c = r.c) (hd : q.day = r.day) : q = r := by
  obtain ⟨i, hi⟩ := List.getElem?_of_mem hq
  obtain ⟨j, hj⟩ := List.getElem?_of_mem hr
  rcases Nat.lt_trichotomy i j with hlt | rfl | hgt
  · have := tab_before h hlt hi hj
    unfold bef at this
    rw [hc, hd, less_irr] at this
    simp at this
  · rw [hi] at hj; exact Option.some.inj hj
  · have := tab_before h hgt hj hi
    unfold bef at this
    rw [hc, hd, less_irr] at this
    simp at this
end Go.Proofs.Ytaehkkcaoniphaa

/- Numbers of dates: the calendar's arithmetic, with no program in it. -/
namespace Go.Proofs.Ytaehkkcaoniphaa
set_option linter.unusedVariables false

/-- Days of a month. -/
def dlen (y m : Int) : Int := if m = 2 then (if y % 4 = 0 then 29 else 28) else if m = 4 ∨ m = 6 ∨ m = 9 ∨ m = 11 then 30 else 31
/-- Days before a year, days of a year before a month. -/
def start (y : Int) : Int := (y - 1970) * 365 + (y - 1969) / 4
def cum (y m : Int) : Int := (367 * m - 362) / 12 - (if m ≤ 2 then 0 else if y % 4 = 0 then 1 else 2)
def numd (y m d : Int) : Int := start y + cum y m + d - 1
def inYM (y m : Int) : Prop := 1970 ≤ y ∧ y ≤ 2069 ∧ 1 ≤ m ∧ m ≤ 12
def okd (y m d : Int) : Prop := 1970 ≤ y ∧ y ≤ 2069 ∧ 1 ≤ m ∧ m ≤ 12 ∧ 1 ≤ d ∧ d ≤ dlen y m
instance (y m d : Int) : Decidable (okd y m d) := by unfold okd; infer_instance

theorem mcases {m : Int} (h0 : 1 ≤ m) (h1 : m ≤ 12) : m = 1 ∨ m = 2 ∨ m = 3 ∨ m = 4 ∨ m = 5 ∨ m = 6 ∨ m = 7 ∨ m = 8 ∨ m = 9 ∨ m = 10 ∨ m = 11 ∨ m = 12 := by omega
theorem dlen_in (y m : Int) : 28 ≤ dlen y m ∧ dlen y m ≤ 31 := by unfold dlen; split <;> split <;> omega
theorem dlen_2 (y : Int) : dlen y 2 = if y % 4 = 0 then 29 else 28 := by simp [dlen]
theorem start_step {y : Int} (h : 1970 ≤ y) : start (y + 1) = start y + 337 + dlen y 2 := by
  unfold start; rw [dlen_2]; split <;> omega
theorem start_step2 {y : Int} : start y + 365 ≤ start (y + 1) ∧ start (y + 1) ≤ start y + 366 := by
  unfold start; omega
theorem start_0 : start 1970 = 0 := rfl
theorem start_end : start 2070 = 36525 := rfl
theorem cum_1 (y : Int) : cum y 1 = 0 := rfl
theorem cum_step {y m : Int} (h0 : 1 ≤ m) (h1 : m ≤ 12) : cum y (m + 1) = cum y m + dlen y m := by
  unfold cum dlen
  rcases mcases h0 h1 with rfl | rfl | rfl | rfl | rfl | rfl | rfl | rfl | rfl | rfl | rfl | rfl <;> by_cases h : y % 4 = 0 <;> simp [h]
theorem cum_in {y m : Int} (h0 : 1 ≤ m) (h1 : m ≤ 12) : 0 ≤ cum y m ∧ cum y m ≤ 335 := by
  unfold cum; split <;> (try split) <;> omega
theorem cum_mono {y m n : Int} (h0 : 1 ≤ m) (h1 : m < n) (h2 : n ≤ 12) : cum y m + dlen y m ≤ cum y n := by
  rw [← cum_step h0 (by omega)]
  unfold cum; split <;> split <;> (try split) <;> omega
theorem cum_end (y : Int) (h : 1970 ≤ y) : start y + cum y 12 + 31 = start (y + 1) := by
  rw [start_step h, dlen_2]; unfold cum; by_cases h : y % 4 = 0 <;> simp [h] <;> omega
theorem start_mono {y z : Int} (h : y ≤ z) : start y ≤ start z := by unfold start; omega
theorem start_in {y : Int} (h0 : 1970 ≤ y) (h1 : y ≤ 2070) : 0 ≤ start y ∧ start y ≤ 36525 := by unfold start; omega
theorem numd_yr {y m d : Int} (h : okd y m d) : start y ≤ numd y m d ∧ numd y m d < start (y + 1) := by
  obtain ⟨y0, y1, m0, m1, d0, d1⟩ := h
  have hc := cum_in (y := y) m0 m1
  have he := cum_end y y0
  unfold numd
  refine ⟨by omega, ?_⟩
  by_cases h : m = 12
  · subst h; have : dlen y 12 = 31 := by simp [dlen]
    omega
  · have := cum_mono (y := y) m0 (by omega : m < 12) (by omega)
    omega
theorem numd_in {y m d : Int} (h : okd y m d) : 0 ≤ numd y m d ∧ numd y m d ≤ 36524 := by
  have h1 := numd_yr h
  obtain ⟨y0, y1, _⟩ := h
  have h2 := start_in y0 (by omega)
  have h3 := start_mono (show y + 1 ≤ 2070 by omega)
  rw [start_end] at h3
  omega
theorem numd_inj {y m d y' m' d' : Int} (h : okd y m d) (h' : okd y' m' d') (e : numd y m d = numd y' m' d') : y = y' ∧ m = m' ∧ d = d' := by
  have h1 := numd_yr h
  have h2 := numd_yr h'
  have hy : y = y' := by
    rcases Int.lt_trichotomy y y' with hlt | heq | hgt
    · have := start_mono (show y + 1 ≤ y' by omega); omega
    · exact heq
    · have := start_mono (show y' + 1 ≤ y by omega); omega
  subst hy
  obtain ⟨_, _, m0, m1, d0, d1⟩ := h
  obtain ⟨_, _, m0', m1', d0', d1'⟩ := h'
  unfold numd at e
  rcases Int.lt_trichotomy m m' with hlt | heq | hgt
  · have := cum_mono (y := y) m0 hlt m1'; omega
  · subst heq; exact ⟨rfl, rfl, by omega⟩
  · have := cum_mono (y := y) m0' hgt m1; omega

/-- The nearest value in a range. -/
def clamp (n lo hi : Int) : Int := max lo (min n hi)
theorem clamp_id {n lo hi : Int} (h : lo ≤ n) (h' : n ≤ hi) : clamp n lo hi = n := by unfold clamp; omega
theorem clamp_in {n lo hi : Int} (h : lo ≤ hi) : lo ≤ clamp n lo hi ∧ clamp n lo hi ≤ hi := by unfold clamp; omega
theorem clamp_eq {n lo hi : Int} (h : lo ≤ hi) : clamp n lo hi = n ↔ lo ≤ n ∧ n ≤ hi := by unfold clamp; omega
/-- A date is valid if nothing is moved. -/
theorem made_iff (y m d : Int) : (y = clamp y 1970 2069 ∧ m = clamp m 1 12 ∧ d = clamp d 1 (dlen (clamp y 1970 2069) (clamp m 1 12))) ↔ okd y m d := by
  have hl := dlen_in (clamp y 1970 2069) (clamp m 1 12)
  constructor
  · rintro ⟨hy, hm, hd⟩
    have hy' := (clamp_eq (n := y) (lo := 1970) (hi := 2069) (by omega)).1 hy.symm
    have hm' := (clamp_eq (n := m) (lo := 1) (hi := 12) (by omega)).1 hm.symm
    rw [← hy, ← hm] at hd hl
    have hd' := (clamp_eq (n := d) (lo := 1) (hi := dlen y m) (by omega)).1 hd.symm
    exact ⟨hy'.1, hy'.2, hm'.1, hm'.2, hd'.1, hd'.2⟩
  · rintro ⟨a, b, c, d', e, f⟩
    have hy := clamp_id a b
    have hm := clamp_id c d'
    rw [hy, hm]
    exact ⟨rfl, rfl, (clamp_id e f).symm⟩

/-! ### business days: the day after k business days from a Monday's week -/
def bday (mon a : Int) : Int := mon + a / 5 * 7 + a % 5
theorem bday_wd {mon a : Int} (h : (mon + 3) % 7 = 0) (ha : 0 ≤ a) : (bday mon a + 3) % 7 = a % 5 := by unfold bday; omega
theorem bday_next {mon a : Int} (ha : 0 ≤ a) (h : a % 5 < 4) : bday mon (a + 1) = bday mon a + 1 := by unfold bday; omega
theorem bday_jump {mon a : Int} (ha : 0 ≤ a) (h : a % 5 = 4) : bday mon (a + 1) = bday mon a + 3 := by unfold bday; omega
end Go.Proofs.Ytaehkkcaoniphaa

/- Chapter 2's small functions: ranges, days of a month. -/
namespace Go.Proofs.Ytaehkkcaoniphaa
open Go.ChangeShapes Go.WideShapes Go.ChangeAt Go.RowKit
set_option linter.unusedVariables false

def inr (n lo hi : Int) : Bool := decide (lo ≤ n ∧ n ≤ hi)
theorem inr_iff {n lo hi : Int} : inr n lo hi = true ↔ lo ≤ n ∧ n ≤ hi := by simp [inr]
theorem inr_no {n lo hi : Int} : inr n lo hi = false ↔ n < lo ∨ hi < n := by simp [inr]; omega
theorem in_s (n lo hi : Int) (w : World) : Calls Try.prog 72 #[.int .i64 n, .int .i64 lo, .int .i64 hi] w fun e w' => e = .returned (.bool (inr n lo hi)) ∧ w = w' := by
  rcases (by omega : (lo ≤ n ∧ n ≤ hi) ∨ n < lo ∨ (lo ≤ n ∧ hi < n)) with ⟨a, b⟩ | a | ⟨a, b⟩
  · have E : Hid (inr n lo hi = true) := Lib.hid (inr_iff.2 ⟨a, b⟩)
    go_enter Try.func72, Try.ntmps72
    go_wp2
    go_ret
    exact ⟨by rw [E.out] <;> rfl, rfl⟩
  · have E : Hid (inr n lo hi = false) := Lib.hid (inr_no.2 (.inl a))
    have d : decide (lo ≤ n) = false := by simp; omega
    go_enter Try.func72, Try.ntmps72
    go_wp2
    go_ret
    exact ⟨by rw [E.out] <;> rfl, rfl⟩
  · have E : Hid (inr n lo hi = false) := Lib.hid (inr_no.2 (.inr b))
    have d : decide (n ≤ hi) = false := by simp; omega
    go_enter Try.func72, Try.ntmps72
    go_wp2
    go_ret
    exact ⟨by rw [E.out] <;> rfl, rfl⟩

/-! ### days of a month -/
theorem dlen_4 {y m : Int} (h : m = 4 ∨ m = 6 ∨ m = 9 ∨ m = 11) : dlen y m = 30 := by unfold dlen; rw [if_neg (by omega), if_pos h]
theorem dlen_31 {y m : Int} (h : m ≠ 2) (h' : ¬ (m = 4 ∨ m = 6 ∨ m = 9 ∨ m = 11)) : dlen y m = 31 := by unfold dlen; rw [if_neg h, if_neg h']
theorem dlen_29 {y : Int} (h : y % 4 = 0) : dlen y 2 = 29 := by rw [dlen_2, if_pos h]
theorem dlen_28 {y : Int} (h : y % 4 ≠ 0) : dlen y 2 = 28 := by rw [dlen_2, if_neg h]
def GiveI (w : World) (n : Int) (e : Ending) (w' : World) : Prop := e = .returned (.int .i64 n) ∧ Below w.heap.size w w'
theorem below_alloc (w : World) (o : Obj) : Below w.heap.size w (w.alloc o) := (Below.refl _ _).alloc (Nat.le_refl _) _

theorem inn_q {n lo hi : Int} {b : Bool} (h : inr n lo hi = b) (w : World) : Calls Try.prog 72 #[.int .i64 n, .int .i64 lo, .int .i64 hi] w fun e w' => e = .returned (.bool b) ∧ w = w' :=
  (in_s n lo hi w).mono fun e w' k => ⟨by rw [← h]; exact k.1, k.2⟩

end Go.Proofs.Ytaehkkcaoniphaa

/- Keys of the book of rates: impl.keyOf; the key's law. -/
namespace Go.Proofs.Ytaehkkcaoniphaa
open Go.ChangeShapes Go.WideShapes Go.ChangeAt Go.RowKit
set_option linter.unusedVariables false

theorem keyN_snoc (l : List UInt8) (x : UInt8) : keyN (l ++ [x]) = keyN l * 26 + ((x.toNat : Int) - 65) := by simp [keyN, List.foldl_append]
theorem keyN_part {l : List UInt8} (h : l.all upb = true) : ∀ k, k ≤ 3 → 0 ≤ keyN (l.take k) ∧ keyN (l.take k) ≤ 17575 := by
  have g : ∀ k, 0 ≤ keyN (l.take k) ∧ keyN (l.take k) < 26 ^ k := by
    intro k
    induction k with
    | zero => simp [keyN]
    | succ k ih =>
      rcases Nat.lt_or_ge k l.length with hk | hk
      · have hb := List.all_eq_true.1 h l[k] (List.getElem_mem hk)
        have hb := upb_bd hb
        rw [snoc_of (List.getElem?_eq_getElem hk), keyN_snoc, Int.pow_succ]
        omega
      · rw [List.take_of_length_le (by omega), ← List.take_of_length_le hk, Int.pow_succ]
        omega
  intro k hk
  have := g k
  match k, hk with
  | 0, _ => omega
  | 1, _ => omega
  | 2, _ => omega
  | 3, _ => omega

theorem heap_setRow_same {w : World} {g : Nat} {cs cs' : Array Value} {t : TypeId} (h : w.heap[g]? = some (.cells cs t (0, 0))) : (w.setRow g cs').heap[g]? = some (.cells cs' t (0, 0)) := by
  have hl := (Array.getElem?_eq_some_iff.1 h).1
  have h2 := (Array.getElem?_eq_some_iff.1 h).2
  simp [World.setRow, Array.getElem?_modify, h]
theorem heap_setRow_other {w : World} {g i : Nat} {cs : Array Value} (h : i ≠ g) : (w.setRow g cs).heap[i]? = w.heap[i]? := by
  simp [World.setRow, Array.getElem?_modify, Ne.symm h]
theorem below_setRow {w0 w : World} {B g : Nat} {cs : Array Value} (h : Below B w0 w) (hg : B ≤ g) : Below B w0 (w.setRow g cs) :=
  ⟨h.os, h.tape, h.output, by rw [size_setRow]; exact h.size, fun i hi => by rw [heap_setRow_other (by omega)]; exact h.block i hi⟩

theorem keySz : (Try.prog.info? 116).map (·.size) = some 2 := by kernel_rfl
/-- The call's own two boxes: the result's, the bytes'. -/
structure KeepK (w0 : World) (l : List UInt8) (W : World) : Prop where
  a : W.heap[w0.heap.size]? = some (.cells #[.int .i64 0, .int .i64 0] 116 (0, 0))
  b : ∀ j x, l[j]? = some x → W.cell? ⟨w0.heap.size + 1, j, none⟩ = some (.int .u8 (x.toNat : Int))
  bel : Below w0.heap.size w0 W
theorem KeepK.new (w : World) (l : List UInt8) : KeepK w l (Lib.bytesWorld (w.alloc (.cells #[.int .i64 0, .int .i64 0] 116)) 5 ⟨l.toArray⟩) := by
  have hs : (w.alloc (.cells #[.int .i64 0, .int .i64 0] 116)).heap.size = w.heap.size + 1 := by simp
  refine ⟨?_, ?_, ?_⟩
  · rw [Lib.bytesWorld_at_old _ _ _ _ (by omega)]
    exact heap_alloc_new _ _
  · intro j x hj
    have hl := (List.getElem?_eq_some_iff.1 hj).1
    rw [← hs, Lib.bytesWorld_cell _ _ ⟨l.toArray⟩ j (show j < l.length from hl)]
    simp [List.getD, hj]
  · refine belowGo (below_alloc w (.cells #[.int .i64 0, .int .i64 0] 116)) ⟨rfl, rfl, rfl, by rw [Lib.bytesWorld_size]; exact Nat.le_succ _, fun i hi => ?_⟩
    exact Lib.bytesWorld_at_old _ _ _ _ hi

set_option maxRecDepth 100000 in
set_option maxHeartbeats 2000000 in
theorem keyOf_i (s : List UInt8) (d : Int) (w : World) (hs : codeB s = true) :
    Calls Try.prog 86 #[.string ⟨s.toArray⟩, .int .i64 d] w fun e w' => e = .returned (.agg #[.int .i64 (keyN s), .int .i64 d]) ∧ Below w.heap.size w w' := by
  have hz : (⟨s.toArray⟩ : ByteArray).size = s.length := rfl
  obtain ⟨h3, hu⟩ := codeB_iff.1 hs
  have hcv := Lib.run_convert_string_bytes (P := Try.prog) (w.alloc (.cells #[.int .i64 0, .int .i64 0] 116)) 9 22 5 ⟨s.toArray⟩ Try.underlying9 Try.underlying22 Try.underlying5
  have HK := Lib.hid (KeepK.new w s)
  go_enter Try.func86, Try.ntmps86
  go_wp2_with fail
  go_loopw [5, 7, 11] (fun n x i wr => ∃ k : Nat, k ≤ s.length ∧ i = .int .i64 k ∧ n = .int .i64 (keyN (s.take k)) ∧ KeepK w s wr) (fun _ _ i _ => s.length - (intOf i).toNat)
  case atStart => exact ⟨0, Nat.zero_le _, rfl, rfl, HK.out⟩
  case round =>
    obtain ⟨k, hk, rfl, rfl, K⟩ := hrel
    have ha := K.a
    by_cases hlt : k < s.length
    · obtain ⟨b, hbk⟩ : ∃ b, s[k]? = some b := ⟨s[k], by simp [hlt]⟩
      have hc := K.b k b hbk
      have hb255 : (b.toNat : Int) ≤ 255 := by have := b.toNat_lt; omega
      have hub := upb_bd (List.all_eq_true.1 hu b (List.mem_of_getElem? hbk))
      have hp := keyN_part hu k (by omega)
      have HN : Hid (keyN (s.take (k + 1)) = keyN (s.take k) * 26 + ((b.toNat : Int) - 65)) := Lib.hid (by rw [snoc_of hbk, keyN_snoc])
      have K2 := Lib.hid K
      clear hbk K hu hs HK hcv
      obtain ⟨n, hn⟩ : ∃ n, n = keyN (s.take k) := ⟨_, rfl⟩
      rw [← hn] at hp HN ⊢
      clear hn
      go_wp2_with fail
      go_roundw
      case rel => exact ⟨k + 1, by omega, by go_num, by rw [HN.out], K2.out⟩
      case measure => simp [intOf]; omega
    · have E := Lib.hid (take_all hk hlt)
      have K2 := Lib.hid K
      clear K hu hs HK hcv
      have hg2 : (wr.setRow w.heap.size #[.int .i64 (keyN s), .int .i64 d]).heap[w.heap.size]? = some (.cells #[.int .i64 (keyN s), .int .i64 d] 116 (0, 0)) := heap_setRow_same ha
      have hb2 : Below w.heap.size w (wr.setRow w.heap.size #[.int .i64 (keyN s), .int .i64 d]) := below_setRow K2.out.bel (Nat.le_refl _)
      rw [E.out]
      go_wp2_with (refine wpList_store_row rfl 116 (.tmp 4) (.tmp 24) rfl w.heap.size #[.int .i64 (keyN s), .int .i64 d] rfl rfl 116 #[.int .i64 0, .int .i64 0] ha keySz rfl (by simp [Value.oneCell']) ?_)
      (try simp only [Exit.inBlock, Exit.then])
      refine bodyPost_ret (v := .agg #[.int .i64 (keyN s), .int .i64 d]) ?_ ?_ ?_
      · exact results_cell_row rfl _ _ w.heap.size 116 _ (0, 0) _ rfl hg2 Try.underlying116 rfl keySz
      · rfl
      exact ⟨rfl, hb2⟩
end Go.Proofs.Ytaehkkcaoniphaa

/- A region that draws its order, with calls that make memory and guards: one walk in the order of the text, over a class of worlds. -/
namespace Go.Proofs.Ytaehkkcaoniphaa
open Go.ChangeShapes Go.WideShapes Go.ChangeAt Go.RowKit
set_option linter.unusedVariables false

/-- A world of which S holds. -/
structure Sub (S : World → Prop) where
  w : World
  h : S w
/-- A region that draws its order, each of whose operations yields one value in all worlds of S and leaves such a world. -/
theorem region_held {P : Program} {id : Nat} {Q : Exit → Act → World → Prop} {a : Act} {w : World} {l : List Oper} (S : World → Prop) (hm : P.follows .mixedOrders = true) (hB : Region.lexB .any l.toArray = true) (h0 : S w.drew)
    (h : wpQuiet P l.toArray (fun W => ∃ y : Sub S, W = y.w) (fun a' => ∀ w', (∃ y : Sub S, w' = y.w) → Q .normal a' w') l a) : (Code.region id l.toArray true).wp P Q a w :=
  wp_region_quiet (C := fun W => ∃ y : Sub S, W = y.w) hm hB ⟨⟨_, h0⟩, rfl⟩ (by rw [List.toList_toArray]; exact h)

/-- The class 'nothing below is written'. -/
def Bel (w : World) (W : World) : Prop := Below w.heap.size w W
theorem Bel.drew (w : World) : Bel w w.drew := (Below.refl _ _).drew
theorem Bel.step {w w' : World} (y : Sub (Bel w)) (b : Below y.w.heap.size y.w w') : Bel w w' := belowGo y.h b
end Go.Proofs.Ytaehkkcaoniphaa

/- A region that draws its order up to a forced tail: its head over a class of worlds, in the order of the text; its tail from whichever world of the class. -/
namespace Go.Proofs.Ytaehkkcaoniphaa
open Go.ChangeShapes Go.WideShapes Go.ChangeAt Go.RowKit
set_option linter.unusedVariables false
section
variable {P : Program} {ops : Array Oper} {md : Region.Mode} {C : World → Prop}

/-- f operations of the first n come up, in whatever order; then L. -/
def Head (P : Program) (md : Region.Mode) (ops : Array Oper) (C : World → Prop) (n : Nat) (L : Array Bool → Act → Prop) : Nat → Array Bool → Act → Prop
  | 0, done, a => L done a
  | f + 1, done, a => Region.ready md ops done ≠ [] ∧ ∀ i ∈ Region.ready md ops done, i < n ∧ qOp P ops C i (Head P md ops C n L f (done.setIfInBounds i true)) a
theorem Head.any {n g : Nat} {L : Array Bool → Act → Prop} {Q' : Exit → Act → World → Prop} (hL : ∀ done a w, C w → L done a → wpAny P md ops Q' g done a w) (f : Nat) :
    ∀ (done : Array Bool) (a : Act) (w : World), C w → Head P md ops C n L f done a → wpAny P md ops Q' (f + g) done a w := by
  induction f with
  | zero => intro done a w hw h; rw [Nat.zero_add]; exact hL _ _ _ hw h
  | succ f ih =>
    intro done a w hw h
    rw [show f + 1 + g = (f + g) + 1 by omega]
    exact ⟨fun h0 => absurd h0 h.1, fun i hi => wpOp_of_qOp hw (fun a' w' hw' h' => ih _ a' w' hw' h') (h.2 i hi).2⟩
theorem Head.first {n i : Nat} {oi : Oper} {v : Value} {L : Array Bool → Act → Prop} (hi : ops[i]? = some oi) (hsel : ∀ (j : Nat) (o : Oper) cs b, ops[j]? = some o → o.op ≠ .select cs b)
    (hs : Region.sinkB md ops n = true) (hc : Region.chainB md ops n = true) (hn : n < ops.size) (hin : i < n) (hend : ∀ done a, L done a → ∀ j ∈ Region.ready md ops done, n ≤ j) (f : Nat) :
    ∀ (done : Array Bool) (a : Act), HeadInv md ops n done →
      (∀ j oj, ops[j]? = some oj → j ≠ i → done.getD j true = false → (∀ e ∈ oj.after, Region.binds md e = true → e.on ≠ i) → oi.apart ops oj = true) →
      i ∈ Region.ready md ops done → YieldsIn P ops C oi v a → Head P md ops C n L f (done.setIfInBounds i true) (a.put oi.dst v) → Head P md ops C n L (f + 1) done a := by
  induction f with
  | zero =>
    intro done a inv _ hr hy H
    refine ⟨List.ne_nil_of_mem hr, fun j hj => ?_⟩
    have hjn : j < n := Nat.lt_of_not_le fun h => tail_waits hs hc hn inv _ i rfl hin (mem_ready.1 hr).1 j h hj
    refine ⟨hjn, ?_⟩
    by_cases hji : j = i
    · subst hji; exact hy.qOp hi H
    · exact absurd (hend _ _ H j (ready_mono hj hji)) (by omega)
  | succ f ih =>
    intro done a inv hfree hr hy H
    have hun := (mem_ready.1 hr).1
    refine ⟨List.ne_nil_of_mem hr, fun j hj => ?_⟩
    have hjn : j < n := Nat.lt_of_not_le fun h => tail_waits hs hc hn inv _ i rfl hin hun j h hj
    refine ⟨hjn, ?_⟩
    by_cases hji : j = i
    · subst hji; exact hy.qOp hi H
    obtain ⟨hjun, oj, hoj, hall⟩ := mem_ready.1 hj
    have hnot : ∀ e ∈ oj.after, Region.binds md e = true → e.on ≠ i := fun e he hb heq => by
      have h1 := hall e he hb
      rw [heq, getD_both hun] at h1
      cases h1
    have h2 := qOp_put hoj (hfree j oj hoj hji hjun hnot) (fun cs b => hsel i oi cs b hi) (fun cs b => hsel j oj cs b hoj) hy (H.2 j (ready_mono hj hji)).2
    refine qOp_mono (fun a' h3 => ih (done.setIfInBounds j true) a' (inv.set hj hjn) (fun k ok hk hki hku hno => hfree k ok hk hki ?_ hno) (ready_mono hr (Ne.symm hji)) h3.1 ?_) h2
    · by_cases hjk : j = k
      · subst hjk; exact hjun
      · rwa [getD_set_ne true hjk] at hku
    · rw [Array.setIfInBounds_comm _ _ hji]; exact h3.2
theorem Head.lex {n g : Nat} {Lq : Act → Prop} (hsel : Region.noSelect ops = true) (hs : Region.sinkB md ops n = true) (hc : Region.chainB md ops n = true) (hn : n < ops.size) (l : List Oper) :
    ∀ (k : Nat) (done : Array Bool) (a : Act), (∀ j, j < l.length → l[j]? = ops[k + j]?) → k + l.length = n → HeadInv md ops n done → Region.lexHead md ops g l.length k done = true → wpQuiet P ops C Lq l a →
    Head P md ops C n (fun done' a' => Region.seqB md ops g n done' = true ∧ Lq a') l.length done a := by
  induction l with
  | nil =>
    intro k done a _ hk _ hB h
    obtain rfl : k = n := by simpa using hk
    exact ⟨by simpa [Region.lexHead] using hB, h⟩
  | cons o l ih =>
    intro k done a hl hk inv hB h
    rw [List.length_cons] at hk
    have h0 : ops[k]? = some o := by simpa using (hl 0 (by simp)).symm
    simp only [List.length_cons, Region.lexHead, Bool.and_eq_true] at hB
    have hr : k ∈ Region.ready md ops done := by simpa using hB.1.1
    have hq : qOp P ops C k (wpQuiet P ops C Lq l) a := by unfold qOp; simp only [h0]; exact h
    obtain ⟨v, hy, hK⟩ := yieldsIn_of_qOp h0 hq
    exact Head.first h0 (Region.noSelect_spec hsel) hs hc hn (by omega) (fun _ _ hL => seqB_ready hL.1) l.length done a inv (Region.free_spec h0 hB.1.2) hr hy
      (ih (k + 1) _ _ (fun j hj => by have := hl (j + 1) (by simp; omega); simpa [Nat.add_assoc, Nat.add_comm 1 j] using this) (by omega) (inv.set hr (by omega)) hB.2 hK)
end
/-- The region: n operations of one value each in all worlds of S, then the rest in its order. -/
theorem region_tail {P : Program} {id : Nat} {Q : Exit → Act → World → Prop} {a : Act} {w : World} {l : List Oper} (n : Nat) (S : World → Prop) (hm : P.follows .mixedOrders = true) (hB : Region.lexTailB .any l.toArray n = true) (hw : S w.drew)
    (h : wpQuiet P l.toArray (fun W => ∃ y : Sub S, W = y.w) (fun a' => ∀ y : Sub S, wpList P l.toArray Q (l.drop n) a' y.w) (l.take n) a) : (Code.region id l.toArray true).wp P Q a w := by
  simp only [Region.lexTailB, Bool.and_eq_true, decide_eq_true_eq] at hB
  obtain ⟨⟨⟨⟨hsel, hn⟩, hs⟩, hc⟩, hlex⟩ := hB
  have hn' : n < l.length := by simpa using hn
  have htl : (l.take n).length = n := by simp; omega
  have hdl : (l.drop n).length = l.toArray.size - n := by simp
  have inv0 : HeadInv .any l.toArray n (Array.replicate l.toArray.size false) :=
    ⟨by simp, fun j oj _ hl => (by rw [getD_replicate_false] at hl; cases hl), fun t _ ht => getD_in (by simpa using ht) (getD_replicate_false _ _)⟩
  have H := Head.lex (md := .any) (g := l.toArray.size - n) hsel hs hc hn (l.take n) 0 _ a (fun j hj => by
    rw [htl] at hj
    simp [hj]) (by simpa using htl) inv0 (by rw [htl]; exact hlex) h
  refine wp_region_any hm ?_
  have := Head.any (Q' := Q) (g := l.toArray.size - n) (fun done a' w' hw' hL => by
    obtain ⟨y, rfl⟩ := hw'
    have := wpAny_of_seq (md := .any) (Q' := Q) (l.drop n) n done a' y.w (fun j => by simp [List.getElem?_drop]) (by rw [hdl]; exact hL.1) (hL.2 y)
    rwa [hdl] at this) _ _ _ _ (⟨⟨_, hw⟩, rfl⟩ : ∃ y : Sub S, w.drew = y.w) H
  rw [htl, show n + (l.toArray.size - n) = l.toArray.size by omega] at this
  exact this
end Go.Proofs.Ytaehkkcaoniphaa

