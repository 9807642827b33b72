import Derived.Test.YtjcklmhgjdmjoabBase
import Derived.BigQuiet
import Derived.Test.YtjcklmhgjdmjoabMRate
import Derived.Lib.ItoaNum
import Derived.Laws.IdiomStrings
import Derived.Sort.OwnSorted
/- A region that draws its order, with calls that make memory and guards: one walk in the order of the text, over a class of worlds. -/
namespace Go.Proofs.Ytjcklmhgjdmjoab
open Go.ChangeShapes Go.WideShapes Go.ChangeAt Go.RowKit
set_option linter.unusedVariables false

/-- A world of which S holds. -/
structure Sub (S : World → Prop) where
  w : World
  h : S w
/-- A region that draws its order, each of whose operations yields one value in all worlds of S and leaves such a world. -/
theorem region_held {P : Program} {id : Nat} {Q : Exit → Act → World → Prop} {a : Act} {w : World} {l : List Oper} (S : World → Prop) (hm : P.follows .mixedOrders = true) (hB : Region.lexB .any l.toArray = true) (h0 : S w.drew)
    (h : wpQuiet P l.toArray (fun W => ∃ y : Sub S, W = y.w) (fun a' => ∀ w', (∃ y : Sub S, w' = y.w) → Q .normal a' w') l a) : (Code.region id l.toArray true).wp P Q a w :=
  wp_region_quiet (C := fun W => ∃ y : Sub S, W = y.w) hm hB ⟨⟨_, h0⟩, rfl⟩ (by rw [List.toList_toArray]; exact h)

/-- The class 'nothing below is written'. -/
def Bel (w : World) (W : World) : Prop := Below w.heap.size w W
theorem Bel.drew (w : World) : Bel w w.drew := (Below.refl _ _).drew
theorem Bel.step {w w' : World} (y : Sub (Bel w)) (b : Below y.w.heap.size y.w w') : Bel w w' := belowGo y.h b
end Go.Proofs.Ytjcklmhgjdmjoab

/- laws.markText; markRateS, heldRateS. -/
namespace Go.Proofs.Ytjcklmhgjdmjoab
open Go.ChangeShapes Go.WideShapes Go.ChangeAt Go.RowKit
set_option linter.unusedVariables false

/-- What is still to be written of a number, ahead of what is written. -/
def mk0 (k : Nat) (l : List UInt8) : List UInt8 := if k = 0 then l else Lib.decDigits k ++ l
/-- The text of a mark. -/
def mkT (k : Nat) : List UInt8 := 109 :: Lib.decDigits k
theorem mk0_step {k : Nat} (hk : 0 < k) (l : List UInt8) : mk0 (k / 10) (UInt8.ofNat (48 + k % 10) :: l) = mk0 k l := by
  unfold mk0
  rw [if_neg (by omega : ¬ k = 0)]
  by_cases h : k < 10
  · rw [if_pos (by omega), Lib.decDigits_one h, Nat.mod_eq_of_lt h]; rfl
  · rw [if_neg (by omega)]
    conv => rhs; rw [Lib.decDigits, dif_neg h]
    simp
theorem mdec_len (k : Nat) : ∀ n, n < 10 ^ k → (Lib.decDigits n).length ≤ k + 1 := by
  induction k with
  | zero => intro n h; rw [Lib.decDigits_one (by simp at h; omega)]; simp
  | succ k ih =>
    intro n h
    by_cases hn : n < 10
    · rw [Lib.decDigits_one hn]; simp
    · have e : Lib.decDigits n = Lib.decDigits (n / 10) ++ [UInt8.ofNat (48 + n % 10)] := by
        conv => lhs; rw [Lib.decDigits, dif_neg hn]
      rw [e]
      have := ih (n / 10) (by rw [Nat.pow_succ] at h; omega)
      simp; omega
theorem mk0_len {k : Nat} {l m : List UInt8} (h : mk0 k l = m) : l.length ≤ m.length := by
  subst h; unfold mk0; split
  · exact Nat.le_refl _
  · rw [List.length_append]; omega
theorem str1 (b : UInt8) (l : List UInt8) : (⟨#[b]⟩ ++ ⟨l.toArray⟩ : ByteArray) = ⟨(b :: l).toArray⟩ := by
  apply ByteArray.ext
  simp [ByteArray.data_append]

/-! ### rows of rates -/
def markR (k : Nat) : Rt := ⟨mkT k, (k : Int) + 1, (k : Int) + 2, (k : Int) + 3⟩
def marksR (k : Nat) (n : Nat) : List Rt := (List.range n).map fun j => markR (k + 4 * j)
theorem marksR_len (k : Nat) (n : Nat) : (marksR k n).length = n := by simp [marksR]
theorem marksR_at {k : Nat} {n j : Nat} (h : j < n) : (marksR k n)[j]? = some (markR (k + 4 * j)) := by simp [marksR, h]
theorem marksR_succ (k : Nat) (n : Nat) : marksR k (n + 1) = marksR k n ++ [markR (k + 4 * n)] := by simp [marksR, List.range_succ]
theorem grown_below' {w wr w' : World} {g : Option Nat} (h : w.grownBy wr g) (hb : Below w.heap.size wr w') : w.grownBy w' g :=
  ⟨hb.os.trans h.os, hb.tape.trans h.tape, hb.output.trans h.output, Nat.le_trans h.size hb.size, fun k hk hn => (hb.block k hk).trans (h.block k hk hn)⟩

end Go.Proofs.Ytjcklmhgjdmjoab

/- Rows of strings: laws.eqStringS, markStringS, heldStringS. -/
namespace Go.Proofs.Ytjcklmhgjdmjoab
open Go.ChangeShapes Go.WideShapes Go.ChangeAt Go.RowKit
set_option linter.unusedVariables false

theorem strInfo : (Try.prog.info? 9).map (fun i => (i.zero, i.size, i.bytes)) = some (some (.string ⟨#[]⟩), 1, 16) := by kernel_rfl
def Sr (w : World) (A : Option Addr) (ws : List (List UInt8)) : Prop := Rw w A (ws.map encStr)
def Ost (w : World) (base : Nat) (A : Option Addr) (n c : Nat) (ws : List (List UInt8)) : Prop := w.ownsRow base 9 1 (.slice A n c) n (ws.map encStr)
theorem Sr.at {w : World} {A : Option Addr} {ws : List (List UInt8)} (h : Sr w A ws) {k : Nat} (hk : k < ws.length) :
    ∃ b off s, A = some ⟨b, off, none⟩ ∧ b < w.heap.size ∧ w.cell? ⟨b, off + k, none⟩ = some (.string ⟨s.toArray⟩) ∧ Hid (ws[k]? = some s) := by
  obtain ⟨b, off, e, hl, hc⟩ := h (by simp; omega)
  exact ⟨b, off, ws[k], e, hl, hc k _ (by simp [hk, encStr]), Lib.hid (by simp [hk])⟩
section
variable {w w' : World} {base : Nat} {A : Option Addr} {n c : Nat} {ws : List (List UInt8)}
theorem Sr.below (h : Sr w A ws) (hb : Below w.heap.size w w') : Sr w' A ws := Rw.below h hb
theorem Sr.keepB {B : Nat} (h : Sr w A ws) (hA : Bd A B) (hb : Below B w w') : Sr w' A ws := Rw.keepB h hA hb
theorem Ost.len (h : Ost w base A n c ws) : ws.length = n := by have := h.1; simpa using this
theorem Ost.sr (h : Ost w base A n c ws) : Sr w A ws := Rw.ownS h
theorem Ost.bd (h : Ost w base A n c ws) : Bd A w.heap.size := fun a e => (h.lt a.block (by rw [e]; rfl)).2
theorem Ost.lo (h : Ost w base A n c ws) : ∀ k, (Value.slice A n c).ownBlock = some k → base ≤ k := fun k e => (h.lt k e).1
theorem Ost.below (h : Ost w base A n c ws) (hb : Below w.heap.size w w') : Ost w' base A n c ws := own_below h hb
theorem Ost.kept {B : Option Addr} {m d : Nat} (h : Ost w base A n c ws) (hg : w.grownBy w' (Value.slice B m d).ownBlock) (hB : Bd B base) : Ost w' base A n c ws :=
  World.ownsRow.kept h hg (by
    cases A with
    | none => exact .inl rfl
    | some a =>
      right
      cases B with
      | none => simp [Value.ownBlock]
      | some b =>
        intro e
        have h1 := h.lo a.block rfl
        have h2 := hB b rfl
        simp [Value.ownBlock] at e
        omega)
theorem Ost.far {B : Nat} (h : Ost w base A n c ws) (hg : w.grownBy w' (Value.slice A n c).ownBlock) (hB : B ≤ base) (hs : B ≤ w.heap.size) : Below B w w' :=
  (Below.refl _ _).grown hg hs (fun k e => Nat.le_trans hB (h.lo k e))
theorem Ost.wrote {W : World} {B : Nat} (hW : Below B W w) (h : Ost w base A n c ws) (hg : w.grownBy w' (Value.slice A n c).ownBlock) (hB : B ≤ base) (hs : B ≤ w.heap.size) : Below B W w' :=
  hW.grown hg hs (fun k e => Nat.le_trans hB (h.lo k e))
end
theorem Ost.nil (w : World) (base : Nat) : Ost w base none 0 0 [] := World.ownsRow_nil _ _ _ _
/-- The first m of a row. -/
theorem own_take {w : World} {base : Nat} {e : TypeId} {A : Option Addr} {n c m : Nat} {xs : List Value} (h : w.ownsRow base e 1 (.slice A n c) n xs) (hm : m ≤ n) : w.ownsRow base e 1 (.slice A m c) m (xs.take m) := by
  refine ⟨by have := h.1; rw [List.length_take]; omega, ?_⟩
  rcases h.2 with ⟨h1, h2⟩ | ⟨g, cap, cur, h1, h2, h3, h4, h5, h6, h7⟩
  · injection h1 with h1 _ h8
    subst h1 h8
    exact .inl ⟨by rw [show m = 0 by omega], by omega⟩
  · injection h1 with h1 _ h8
    subst h1 h8
    exact .inr ⟨g, c, cur, rfl, h2, h3, by omega, h5, h6, by rw [← h7, List.take_take]; congr 1; omega⟩
/-- What a function that hands back new strings with a code leaves. -/
def NewStrsC (w : World) (r : List (List UInt8) × Int) (e : Ending) (w' : World) : Prop :=
  ∃ A c, e = .returned (.tuple #[.slice A r.1.length c, .int .i64 r.2]) ∧ Ost w' w.heap.size A r.1.length c r.1 ∧ Below w.heap.size w w'

def marksS (k : Nat) (n : Nat) : List (List UInt8) := (List.range n).map fun j => mkT (k + j)
theorem marksS_len (k : Nat) (n : Nat) : (marksS k n).length = n := by simp [marksS]
theorem marksS_at {k : Nat} {n j : Nat} (h : j < n) : (marksS k n)[j]? = some (mkT (k + j)) := by simp [marksS, h]
theorem marksS_succ (k : Nat) (n : Nat) : marksS k (n + 1) = marksS k n ++ [mkT (k + n)] := by simp [marksS, List.range_succ]
def MarkedS (w : World) (base : Nat) (A : Option Addr) (n c : Nat) (k : Nat) (e : Ending) (w' : World) : Prop :=
  e = .returned (.int .i64 ((k + n : Nat) : Int)) ∧ Ost w' base A n c (marksS k n) ∧ w.grownBy w' (Value.slice A n c).ownBlock
theorem set_take1 {ys : List Value} {k : Nat} {v : Value} (hk : k < ys.length) : (ys.set k v).take (k + 1) = ys.take k ++ [v] := by
  rw [List.take_add_one, List.take_set_of_le (Nat.le_refl k)]
  simp [hk]

end Go.Proofs.Ytjcklmhgjdmjoab

