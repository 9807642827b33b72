import Derived.Test.YtjcklmhgjdmjoaaGreatRows
import Derived.WalkKit
import Derived.ProofKit
import Derived.OpenShut
import Derived.Below
import Derived.BigQuiet
import Derived.Deep.QuietTactic
import Derived.Deep.Draws
import Derived.Lib.Hide
import Derived.Laws.OwnMore
import Derived.Maps.AppendAt
import Derived.Laws.Rows
import Derived.OwnWalk
import Derived.WalkSpells
namespace Go.Proofs.YtjcklmhgjdmjoaaGreat
open Go.ChangeShapes Go.WideShapes Go.ChangeAt Go.RowKit
set_option linter.unusedVariables false
def Rw (w : World) (A : Option Addr) (vs : List Value) : Prop :=
 0 < vs.length -> ∃ b off, A = some ⟨b, off, none⟩ /\ b < w.heap.size /\ ∀ j v, vs[j]? = some v -> w.cell? ⟨b, off + j, none⟩ = some v
def Ir (w : World) (A : Option Addr) (xs : List Int) : Prop := Rw w A (xs.map (Value.int .i64))
theorem Rw.drewN {w : World} {A : Option Addr} {xs : List Value} (h : Rw w A xs) (n : Nat) : Rw (w.drewN n) A xs := h
theorem Rw.below {w w' : World} {A : Option Addr} {xs : List Value} (h : Rw w A xs) (hb : Below w.heap.size w w') : Rw w' A xs := fun hp => by
 obtain ⟨b, off, e, hl, hc⟩ := h hp
 exact ⟨b, off, e, Nat.lt_of_lt_of_le hl hb.size, fun j v hj => (hb.cell (p := ⟨b, off + j, none⟩) hl).trans (hc j v hj)⟩
theorem below_drewN (w : World) (n : Nat) : Below w.heap.size w (w.drewN n) := ⟨rfl, rfl, rfl, Nat.le_refl _, fun _ _ => rfl⟩
theorem Rw.grown {w w' : World} {A : Option Addr} {vs : List Value} {g : Nat} (h : Rw w A vs) (hg : w.grownBy w' (some g)) (hn : ∀ a, A = some a -> a.block ≠ g) : Rw w' A vs := fun hp => by
 obtain ⟨b, off, e, hl, hc⟩ := h hp
 refine ⟨b, off, e, Nat.lt_of_lt_of_le hl hg.size, fun j v hj => ?_⟩
 have := hn _ e
 exact (World.cell?_of_block (hg.block b hl (by simpa using this))).trans (hc j v hj)
theorem Ir.grown {w w' : World} {A : Option Addr} {xs : List Int} {g : Nat} (h : Ir w A xs) (hg : w.grownBy w' (some g)) (hn : ∀ a, A = some a -> a.block ≠ g) : Ir w' A xs := Rw.grown h hg hn
theorem Ir.drewN {w : World} {A : Option Addr} {xs : List Int} (h : Ir w A xs) (n : Nat) : Ir (w.drewN n) A xs := h
theorem Ir.below {w w' : World} {A : Option Addr} {xs : List Int} (h : Ir w A xs) (hb : Below w.heap.size w w') : Ir w' A xs := Rw.below h hb
theorem belowGo {w a b : World} (h : Below w.heap.size w a) (k : Below a.heap.size a b) : Below w.heap.size w b := h.trans (k.mono h.size)
theorem Ir.at {w : World} {A : Option Addr} {xs : List Int} (h : Ir w A xs) {k : Nat} (hk : k < xs.length) :
  ∃ b off x, A = some ⟨b, off, none⟩ /\ w.cell? ⟨b, off + k, none⟩ = some (.int .i64 x) /\ Hid (xs[k]? = some x) := by
 obtain ⟨b, off, e, _, hc⟩ := h (by simp; omega)
 exact ⟨b, off, xs[k], e, hc k _ (by simp [hk]), Lib.hid (by simp [hk])⟩
theorem Rw.new (w : World) (vs : List Value) (t : TypeId) (fr : Nat × Nat) : Rw (w.alloc (.cells vs.toArray t fr)) (some ⟨w.heap.size, 0, none⟩) vs := fun _ =>
 ⟨w.heap.size, 0, rfl, by simp only [World.size_alloc]; omega, fun j v hj => by
  rw [cell_of_row _ _ _ _ _ _ (heap_alloc_new w _)]; simpa using hj⟩
theorem Rw.own {w : World} {base n : Nat} {e : TypeId} {A : Option Addr} {c : Nat} {vs : List Value} (h : w.ownsRow base e 1 (.slice A n c) n vs) : Rw w A vs := fun hp => by
 rcases h.2 with ⟨hv, hx⟩ | ⟨g, cap, cur, hv, _, hh, _⟩
 ·
  have h1 := h.1; omega
 ·
  have hlt := (h.lt g (by rw [hv]; rfl)).2
  injection hv with hA _ _
  subst hA
  refine ⟨g, 0, rfl, hlt, fun j v hj => ?_⟩
  have := h.cells (g := g) rfl j v hj
  rwa [show ((⟨g, 0, none⟩ : Addr).add j) = ⟨g, 0 + j, none⟩ from by unfold Addr.add; split <;> simp_all] at this
def Oi (w : World) (base : Nat) (A : Option Addr) (n c : Nat) (xs : List Int) : Prop :=
 w.ownsRow base 2 1 (.slice A n c) n (xs.map (Value.int .i64))
def Bd (A : Option Addr) (B : Nat) : Prop := ∀ a, A = some a -> a.block < B
theorem Bd.mono {A : Option Addr} {B B' : Nat} (h : Bd A B) (hB : B <= B') : Bd A B' := fun a e => Nat.lt_of_lt_of_le (h a e) hB
section
variable {w w' : World} {base : Nat} {A : Option Addr} {n c : Nat} {xs : List Int}
theorem Oi.len (h : Oi w base A n c xs) : xs.length = n := by have := h.1; simpa using this
theorem Oi.ir (h : Oi w base A n c xs) : Ir w A xs := Rw.own h
theorem Oi.bd (h : Oi w base A n c xs) : Bd A w.heap.size := fun a e => (h.lt a.block (by rw [e]; rfl)).2
theorem Oi.lo (h : Oi w base A n c xs) : ∀ k, (Value.slice A n c).ownBlock = some k -> base <= k := fun k e => (h.lt k e).1
theorem Oi.below (h : Oi w base A n c xs) (hb : Below w.heap.size w w') : Oi w' base A n c xs := by
 refine ⟨h.1, ?_⟩
 rcases h.2 with h1 | ⟨g, cap, cur, h1, h2, h3, h4⟩
 ·
  exact .inl h1
 ·
  exact .inr ⟨g, cap, cur, h1, h2, (hb.block g (by
   rcases Nat.lt_or_ge g w.heap.size with hlt | hge
   ·
    exact hlt
   ·
    rw [Array.getElem?_eq_none hge] at h3; cases h3)).trans h3, h4⟩
theorem Oi.kept {B : Option Addr} {m d : Nat} (h : Oi w base A n c xs) (hg : w.grownBy w' (Value.slice B m d).ownBlock) (hB : Bd B base) : Oi w' base A n c xs :=
 World.ownsRow.kept h hg (by
  cases A with
  | none => exact .inl rfl
  | some a =>
   right
   cases B with
   | none => simp [Value.ownBlock]
   | some b =>
    intro e
    have h1 := h.lo a.block rfl
    have h2 := hB b rfl
    simp [Value.ownBlock] at e
    omega)
theorem Rw.keepB {vs : List Value} {B : Nat} (h : Rw w A vs) (hA : Bd A B) (hb : Below B w w') : Rw w' A vs := fun hp => by
 obtain ⟨b, off, e, hl, hc⟩ := h hp
 exact ⟨b, off, e, Nat.lt_of_lt_of_le hl hb.size, fun j v hj => (hb.cell (p := ⟨b, off + j, none⟩) (show b < B from hA ⟨b, off, none⟩ e)).trans (hc j v hj)⟩
theorem Ir.keepB {B : Nat} (h : Ir w A xs) (hA : Bd A B) (hb : Below B w w') : Ir w' A xs := Rw.keepB h hA hb
end
def NewInts (w : World) (xs : List Int) (e : Ending) (w' : World) : Prop :=
 ∃ A c, e = .returned (.slice A xs.length c) /\ Oi w' w.heap.size A xs.length c xs /\ Below w.heap.size w w'
def NewIntsC (w : World) (r : List Int × Int) (e : Ending) (w' : World) : Prop :=
 ∃ A c, e = .returned (.tuple #[.slice A r.1.length c, .int .i64 r.2]) /\ Oi w' w.heap.size A r.1.length c r.1 /\ Below w.heap.size w w'
theorem Oi.nil (w : World) (base : Nat) : Oi w base none 0 0 [] := World.ownsRow_nil _ _ _ _
def Gives (w : World) (v : Value) (e : Ending) (w' : World) : Prop := e = .returned v /\ Below w.heap.size w w'
theorem Oi.far {w w' : World} {base n c : Nat} {A : Option Addr} {xs : List Int} {B : Nat} (h : Oi w base A n c xs) (hg : w.grownBy w' (Value.slice A n c).ownBlock) (hB : B <= base) (hs : B <= w.heap.size) : Below B w w' :=
 (Below.refl _ _).grown hg hs (fun k e => Nat.le_trans hB (h.lo k e))
theorem snoc_of {α : Type} {xs : List α} {k : Nat} {x : α} (h : xs[k]? = some x) : xs.take (k + 1) = xs.take k ++ [x] := by
 rw [List.take_add_one, h]; rfl
theorem drop_of {α : Type} {xs : List α} {k : Nat} {x : α} (h : xs[k]? = some x) : xs.drop k = x :: xs.drop (k + 1) := by
 rcases Nat.lt_or_ge k xs.length with hk | hk
 ·
  rw [List.drop_eq_getElem_cons hk]
  rw [List.getElem?_eq_getElem hk] at h
  rw [Option.some.inj h]
 ·
  rw [List.getElem?_eq_none hk] at h; cases h
theorem take_all {α : Type} {xs : List α} {k : Nat} (hk : k <= xs.length) (h : ¬ k < xs.length) : xs.take k = xs := by
 rw [List.take_of_length_le (by omega)]
def amt (n : Int) : Bool := decide (0 <= n /\ n <= 1000000000)
theorem cO {α : Type} {x y z : α} {p q r : Bool} (u : x = y) (i : q = r -> y = z) (d : p = q) : p = r -> x = z := fun h => u.trans (i (d.symm.trans h))
theorem cL {α : Type} {x y z : α} {p q r : Bool} {L M : Prop} (u : x = y) (i : q = r -> L -> y = z) (d : p = q) (hL : L) : p = r -> M -> x = z := fun h _ => u.trans (i (d.symm.trans h) hL)
end Go.Proofs.YtjcklmhgjdmjoaaGreat
