import Derived.Test.YtjcklmhgjdmjoaaGreatBase
import Derived.BigQuiet
import Derived.Test.YtjcklmhgjdmjoaaGreatMRate
import Derived.Lib.ItoaNum
import Derived.Laws.IdiomStrings
import Derived.Sort.OwnSorted
namespace Go.Proofs.YtjcklmhgjdmjoaaGreat
open Go.ChangeShapes Go.WideShapes Go.ChangeAt Go.RowKit
set_option linter.unusedVariables false
structure Sub (S : World -> Prop) where
 w : World
 h : S w
theorem region_held {P : Program} {id : Nat} {Q : Exit -> Act -> World -> Prop} {a : Act} {w : World} {l : List Oper} (S : World -> Prop) (hm : P.follows .mixedOrders = true) (hB : Region.lexB .any l.toArray = true) (h0 : S w.drew)
  (h : wpQuiet P l.toArray (fun W => ∃ y : Sub S, W = y.w) (fun a' => ∀ w', (∃ y : Sub S, w' = y.w) -> Q .normal a' w') l a) : (Code.region id l.toArray true).wp P Q a w :=
 wp_region_quiet (C := fun W => ∃ y : Sub S, W = y.w) hm hB ⟨⟨_, h0⟩, rfl⟩ (by rw [List.toList_toArray]; exact h)
def Bel (w : World) (W : World) : Prop := Below w.heap.size w W
theorem Bel.drew (w : World) : Bel w w.drew := (Below.refl _ _).drew
theorem Bel.step {w w' : World} (y : Sub (Bel w)) (b : Below y.w.heap.size y.w w') : Bel w w' := belowGo y.h b
end Go.Proofs.YtjcklmhgjdmjoaaGreat

namespace Go.Proofs.YtjcklmhgjdmjoaaGreat
open Go.ChangeShapes Go.WideShapes Go.ChangeAt Go.RowKit
set_option linter.unusedVariables false
def mkT (k : Nat) : List UInt8 := 109 :: Lib.decDigits k
end Go.Proofs.YtjcklmhgjdmjoaaGreat

namespace Go.Proofs.YtjcklmhgjdmjoaaGreat
open Go.ChangeShapes Go.WideShapes Go.ChangeAt Go.RowKit
set_option linter.unusedVariables false
theorem strInfo : (Tryz.prog.info? 9).map (fun i => (i.zero, i.size, i.bytes)) = some (some (.string ⟨#[]⟩), 1, 16) := by kernel_rfl
def Sr (w : World) (A : Option Addr) (ws : List (List UInt8)) : Prop := Rw w A (ws.map encStr)
def Ost (w : World) (base : Nat) (A : Option Addr) (n c : Nat) (ws : List (List UInt8)) : Prop := w.ownsRow base 9 1 (.slice A n c) n (ws.map encStr)
theorem Sr.at {w : World} {A : Option Addr} {ws : List (List UInt8)} (h : Sr w A ws) {k : Nat} (hk : k < ws.length) :
  ∃ b off s, A = some ⟨b, off, none⟩ /\ b < w.heap.size /\ w.cell? ⟨b, off + k, none⟩ = some (.string ⟨s.toArray⟩) /\ Hid (ws[k]? = some s) := by
 obtain ⟨b, off, e, hl, hc⟩ := h (by simp; omega)
 exact ⟨b, off, ws[k], e, hl, hc k _ (by simp [hk, encStr]), Lib.hid (by simp [hk])⟩
section
variable {w w' : World} {base : Nat} {A : Option Addr} {n c : Nat} {ws : List (List UInt8)}
theorem Sr.below (h : Sr w A ws) (hb : Below w.heap.size w w') : Sr w' A ws := Rw.below h hb
theorem Sr.keepB {B : Nat} (h : Sr w A ws) (hA : Bd A B) (hb : Below B w w') : Sr w' A ws := Rw.keepB h hA hb
theorem Ost.len (h : Ost w base A n c ws) : ws.length = n := by have := h.1; simpa using this
theorem Ost.sr (h : Ost w base A n c ws) : Sr w A ws := Rw.ownS h
theorem Ost.bd (h : Ost w base A n c ws) : Bd A w.heap.size := fun a e => (h.lt a.block (by rw [e]; rfl)).2
theorem Ost.lo (h : Ost w base A n c ws) : ∀ k, (Value.slice A n c).ownBlock = some k -> base <= k := fun k e => (h.lt k e).1
theorem Ost.below (h : Ost w base A n c ws) (hb : Below w.heap.size w w') : Ost w' base A n c ws := own_below h hb
theorem Ost.kept {B : Option Addr} {m d : Nat} (h : Ost w base A n c ws) (hg : w.grownBy w' (Value.slice B m d).ownBlock) (hB : Bd B base) : Ost w' base A n c ws :=
 World.ownsRow.kept h hg (by
  cases A with
  | none => exact .inl rfl
  | some a =>
   right
   cases B with
   | none => simp [Value.ownBlock]
   | some b =>
    intro e
    have h1 := h.lo a.block rfl
    have h2 := hB b rfl
    simp [Value.ownBlock] at e
    omega)
theorem Ost.far {B : Nat} (h : Ost w base A n c ws) (hg : w.grownBy w' (Value.slice A n c).ownBlock) (hB : B <= base) (hs : B <= w.heap.size) : Below B w w' :=
 (Below.refl _ _).grown hg hs (fun k e => Nat.le_trans hB (h.lo k e))
end
theorem Ost.nil (w : World) (base : Nat) : Ost w base none 0 0 [] := World.ownsRow_nil _ _ _ _
theorem own_take {w : World} {base : Nat} {e : TypeId} {A : Option Addr} {n c m : Nat} {xs : List Value} (h : w.ownsRow base e 1 (.slice A n c) n xs) (hm : m <= n) : w.ownsRow base e 1 (.slice A m c) m (xs.take m) := by
 refine ⟨by have := h.1; rw [List.length_take]; omega, ?_⟩
 rcases h.2 with ⟨h1, h2⟩ | ⟨g, cap, cur, h1, h2, h3, h4, h5, h6, h7⟩
 ·
  injection h1 with h1 _ h8
  subst h1 h8
  exact .inl ⟨by rw [show m = 0 by omega], by omega⟩
 ·
  injection h1 with h1 _ h8
  subst h1 h8
  exact .inr ⟨g, c, cur, rfl, h2, h3, by omega, h5, h6, by rw [<- h7, List.take_take]; congr 1; omega⟩
def NewStrsC (w : World) (r : List (List UInt8) × Int) (e : Ending) (w' : World) : Prop :=
 ∃ A c, e = .returned (.tuple #[.slice A r.1.length c, .int .i64 r.2]) /\ Ost w' w.heap.size A r.1.length c r.1 /\ Below w.heap.size w w'
end Go.Proofs.YtjcklmhgjdmjoaaGreat

