/- laws.toEvent, szEvent, eqEvent, markEventS, heldEventS and their slices (by gen_struct.py). -/
import Derived.Test.YtpdkgjmppknbpaaEvt
import Derived.Test.YtpdkgjmppknbpaaMark
import Derived.Test.YtpdkgjmppknbpaaHeld
import Derived.Deep.QuietTactic
import Derived.Deep.RegionHeld3
namespace Go.Proofs.Ytpdkgjmppknbpaa
open Go.ChangeShapes Go.WideShapes Go.ChangeAt Go.RowKit
set_option linter.unusedVariables false

theorem eqEvent_same (r : Evt) (w : World) : Calls Try.prog 49 #[.agg #[.int .i64 r.d, .int .i64 r.k, .string ⟨r.c.toArray⟩, .int .i64 r.a, .bool r.p, .bool r.v, .bool r.r], .agg #[.int .i64 r.d, .int .i64 r.k, .string ⟨r.c.toArray⟩, .int .i64 r.a, .bool r.p, .bool r.v, .bool r.r]] w (Gives w (.bool true)) := by
  have B : ∀ o p, Hid (Below w.heap.size w ((w.alloc o).alloc p)) := fun o p => Lib.hid (((Below.refl _ _).alloc (Nat.le_refl _) _).alloc (by simp) _)
  have d0 : (r.d != r.d) = false := by simp
  have d1 : (r.k != r.k) = false := by simp
  have d2 : (r.c == r.c) = true := by simp
  have d3 : (r.a != r.a) = false := by simp
  have d4 : (r.p != r.p) = false := by simp
  have d5 : (r.v != r.v) = false := by simp
  have d6 : (r.r != r.r) = false := by simp
  go_enter Try.func49, Try.ntmps49
  go_wp2_with fail
  go_ret
  exact ⟨rfl, (B _ _).out⟩
def Evt.szl : List Evt → Int → Int
  | [], n => n
  | r :: rs, n => if n < 0 then n else Evt.szl rs (if n - (r.sz : Int) < 0 then -1 else n - (r.sz : Int))
def Evt.szT (rs : List Evt) (n : Int) : Int := if n - rs.length < 0 then -1 else Evt.szl rs (n - rs.length)
theorem Evt.szl_neg (rs : List Evt) : Evt.szl rs (-1) = -1 := by cases rs <;> rfl
theorem Evt.szl_bd : ∀ (rs : List Evt) (n : Int), 0 ≤ Evt.szl rs n → Evt.szl rs n ≤ n ∧ ∀ r ∈ rs, (r.sz : Int) ≤ n
  | [], n, h => ⟨Int.le_refl _, fun r hr => by cases hr⟩
  | r :: rs, n, h => by
    unfold Evt.szl at h ⊢
    by_cases hn : n < 0
    · rw [if_pos hn] at h; omega
    · rw [if_neg hn] at h ⊢
      by_cases h1 : n - (r.sz : Int) < 0
      · rw [if_pos h1, Evt.szl_neg] at h; omega
      · rw [if_neg h1] at h ⊢
        obtain ⟨h2, h3⟩ := Evt.szl_bd rs _ h
        refine ⟨by omega, fun q hq => ?_⟩
        rcases List.mem_cons.1 hq with rfl | hq
        · omega
        · have := h3 q hq; omega
theorem Evt.szT_bd {rs : List Evt} {n : Int} (h : 0 ≤ Evt.szT rs n) : Evt.szT rs n ≤ n ∧ (rs.length : Int) ≤ n ∧ ∀ r ∈ rs, (r.sz : Int) ≤ n := by
  unfold Evt.szT at h ⊢
  by_cases h1 : n - rs.length < 0
  · rw [if_pos h1] at h; omega
  · rw [if_neg h1] at h ⊢
    obtain ⟨h2, h3⟩ := Evt.szl_bd rs _ h
    exact ⟨by omega, by omega, fun r hr => by have := h3 r hr; omega⟩
theorem Evt.szT_ok {rs : List Evt} (h : ¬ Evt.szT rs 1048576 < 0) : rs.length ≤ 1048576 ∧ (∀ r ∈ rs, r.sz ≤ 1048576) ∧ Evt.szT rs 1048576 ≤ 1048576 := by
  obtain ⟨h0, h1, h2⟩ := Evt.szT_bd (by omega : 0 ≤ Evt.szT rs 1048576)
  exact ⟨by omega, fun r hr => by have := h2 r hr; omega, h0⟩
theorem Evt.szl_cons {r : Evt} {rs : List Evt} {m : Int} (hm : 0 ≤ m) : Evt.szl (r :: rs) m = Evt.szl rs (if m - (r.sz : Int) < 0 then -1 else m - (r.sz : Int)) := by rw [Evt.szl, if_neg (by omega)]
/-! ### a row of the call's own -/
theorem evtInfo : (Try.prog.info? 72).map (fun i => (i.zero, i.size, i.bytes)) = some (some (.agg #[.int .i64 0, .int .i64 0, .string ⟨#[]⟩, .int .i64 0, .bool false, .bool false, .bool false]), 7, 48) := by kernel_rfl
def EvtO (w : World) (base : Nat) (A : Option Addr) (n c : Nat) (rs : List Evt) : Prop := w.ownsRow base 72 7 (.slice A n c) n (rs.flatMap Evt.cells)
section
variable {w w' : World} {base : Nat} {A : Option Addr} {n c : Nat} {rs : List Evt}
theorem EvtO.len (h : EvtO w base A n c rs) : rs.length = n := by
  have := h.1; rw [flat_len Evt.cells 7 (fun _ => rfl)] at this; omega
theorem EvtO.row (h : EvtO w base A n c rs) : EvtR w A rs := Rw.ownS h
theorem EvtO.bd (h : EvtO w base A n c rs) : Bd A w.heap.size := fun a e => (h.lt a.block (by rw [e]; rfl)).2
theorem EvtO.lo (h : EvtO w base A n c rs) : ∀ k, (Value.slice A n c).ownBlock = some k → base ≤ k := fun k e => (h.lt k e).1
theorem EvtO.below (h : EvtO w base A n c rs) (hb : Below w.heap.size w w') : EvtO w' base A n c rs := own_below h hb
theorem EvtO.mono {base' : Nat} (h : EvtO w base A n c rs) (hb : base' ≤ base) : EvtO w base' A n c rs := by
  refine ⟨h.1, h.2.imp id ?_⟩
  rintro ⟨g, cap, cur, h1, h2, h3⟩
  exact ⟨g, cap, cur, h1, by omega, h3⟩
theorem EvtO.kept {B : Option Addr} {m d : Nat} (h : EvtO w base A n c rs) (hg : w.grownBy w' (Value.slice B m d).ownBlock) (hB : Bd B base) : EvtO w' base A n c rs :=
  World.ownsRow.kept h hg (by
    cases A with
    | none => exact .inl rfl
    | some a =>
      right
      cases B with
      | none => simp [Value.ownBlock]
      | some b =>
        intro e
        have h1 := h.lo a.block rfl
        have h2 := hB b rfl
        simp [Value.ownBlock] at e
        omega)
theorem EvtO.far {B : Nat} (h : EvtO w base A n c rs) (hg : w.grownBy w' (Value.slice A n c).ownBlock) (hB : B ≤ base) (hs : B ≤ w.heap.size) : Below B w w' :=
  (Below.refl _ _).grown hg hs (fun k e => Nat.le_trans hB (h.lo k e))
theorem EvtO.wrote {W : World} {B : Nat} (hW : Below B W w) (h : EvtO w base A n c rs) (hg : w.grownBy w' (Value.slice A n c).ownBlock) (hB : B ≤ base) (hs : B ≤ w.heap.size) : Below B W w' :=
  hW.grown hg hs (fun k e => Nat.le_trans hB (h.lo k e))
end
def NewEvts (w : World) (rs : List Evt) (e : Ending) (w' : World) : Prop :=
  ∃ A c, e = .returned (.slice A rs.length c) ∧ EvtO w' w.heap.size A rs.length c rs ∧ Below w.heap.size w w'
def NewEvtsC (w : World) (p : List Evt × Int) (e : Ending) (w' : World) : Prop :=
  ∃ A c, e = .returned (.tuple #[.slice A p.1.length c, .int .i64 p.2]) ∧ EvtO w' w.heap.size A p.1.length c p.1 ∧ Below w.heap.size w w'
theorem set_evt {ys : List Value} {k : Nat} (hk : k * 7 + 6 < ys.length) {v0 v1 v2 v3 v4 v5 v6 : Value} {P : List Value} (h : ys.take (k * 7) = P) :
    (((((((ys.set (k * 7) (v0)).set (k * 7 + 1) (v1)).set (k * 7 + 2) (v2)).set (k * 7 + 3) (v3)).set (k * 7 + 4) (v4)).set (k * 7 + 5) (v5)).set (k * 7 + 6) (v6)).take ((k + 1) * 7) = P ++ [v0, v1, v2, v3, v4, v5, v6] := by
  apply List.ext_getElem?
  intro j
  subst h
  rw [List.getElem?_take, List.getElem?_append, List.length_take, Nat.min_eq_left (by omega)]
  by_cases h1 : j < k * 7
  · rw [if_pos (by omega), if_pos h1, List.getElem?_take, if_pos h1]
    rw [List.getElem?_set_ne (by omega), List.getElem?_set_ne (by omega), List.getElem?_set_ne (by omega), List.getElem?_set_ne (by omega), List.getElem?_set_ne (by omega), List.getElem?_set_ne (by omega), List.getElem?_set_ne (by omega)]
  · rw [if_neg h1]
    by_cases h2 : j < (k + 1) * 7
    · rw [if_pos h2]
      have : j = k * 7 ∨ j = k * 7 + 1 ∨ j = k * 7 + 2 ∨ j = k * 7 + 3 ∨ j = k * 7 + 4 ∨ j = k * 7 + 5 ∨ j = k * 7 + 6 := by omega
      rcases this with rfl | rfl | rfl | rfl | rfl | rfl | rfl
      · rw [List.getElem?_set_ne (by omega), List.getElem?_set_ne (by omega), List.getElem?_set_ne (by omega), List.getElem?_set_ne (by omega), List.getElem?_set_ne (by omega), List.getElem?_set_ne (by omega), List.getElem?_set_self (by (try simp only [List.length_set]); omega), Nat.sub_self]; rfl
      · rw [List.getElem?_set_ne (by omega), List.getElem?_set_ne (by omega), List.getElem?_set_ne (by omega), List.getElem?_set_ne (by omega), List.getElem?_set_ne (by omega), List.getElem?_set_self (by (try simp only [List.length_set]); omega), show k * 7 + 1 - k * 7 = 1 by omega]; rfl
      · rw [List.getElem?_set_ne (by omega), List.getElem?_set_ne (by omega), List.getElem?_set_ne (by omega), List.getElem?_set_ne (by omega), List.getElem?_set_self (by (try simp only [List.length_set]); omega), show k * 7 + 2 - k * 7 = 2 by omega]; rfl
      · rw [List.getElem?_set_ne (by omega), List.getElem?_set_ne (by omega), List.getElem?_set_ne (by omega), List.getElem?_set_self (by (try simp only [List.length_set]); omega), show k * 7 + 3 - k * 7 = 3 by omega]; rfl
      · rw [List.getElem?_set_ne (by omega), List.getElem?_set_ne (by omega), List.getElem?_set_self (by (try simp only [List.length_set]); omega), show k * 7 + 4 - k * 7 = 4 by omega]; rfl
      · rw [List.getElem?_set_ne (by omega), List.getElem?_set_self (by (try simp only [List.length_set]); omega), show k * 7 + 5 - k * 7 = 5 by omega]; rfl
      · rw [List.getElem?_set_self (by (try simp only [List.length_set]); omega), show k * 7 + 6 - k * 7 = 6 by omega]; rfl
    · rw [if_neg h2, List.getElem?_eq_none (by simp; omega)]
theorem stored_evt {w : World} {base g n c : Nat} {e : TypeId} {xs : List Value} (h : w.ownsRow base e 7 (.slice (some ⟨g, 0, none⟩) n c) n xs) (j : Nat) (v0 v1 v2 v3 v4 v5 v6 : Value) :
    (((((((w.setCell ⟨g, j, none⟩ (v0)).setCell ⟨g, j + 1, none⟩ (v1)).setCell ⟨g, j + 2, none⟩ (v2)).setCell ⟨g, j + 3, none⟩ (v3)).setCell ⟨g, j + 4, none⟩ (v4)).setCell ⟨g, j + 5, none⟩ (v5)).setCell ⟨g, j + 6, none⟩ (v6)).ownsRow base e 7 (.slice (some ⟨g, 0, none⟩) n c) n (((((((xs.set (j) (v0)).set (j + 1) (v1)).set (j + 2) (v2)).set (j + 3) (v3)).set (j + 4) (v4)).set (j + 5) (v5)).set (j + 6) (v6)) ∧
    w.grownBy (((((((w.setCell ⟨g, j, none⟩ (v0)).setCell ⟨g, j + 1, none⟩ (v1)).setCell ⟨g, j + 2, none⟩ (v2)).setCell ⟨g, j + 3, none⟩ (v3)).setCell ⟨g, j + 4, none⟩ (v4)).setCell ⟨g, j + 5, none⟩ (v5)).setCell ⟨g, j + 6, none⟩ (v6)) (some g) := by
  have h1 := h.stored (j) v0
  have h2 := h1.1.stored (j + 1) v1
  have h3 := h2.1.stored (j + 2) v2
  have h4 := h3.1.stored (j + 3) v3
  have h5 := h4.1.stored (j + 4) v4
  have h6 := h5.1.stored (j + 5) v5
  have h7 := h6.1.stored (j + 6) v6
  exact ⟨h7.1, ((((((h1.2.trans h2.2).trans h3.2).trans h4.2).trans h5.2).trans h6.2).trans h7.2)⟩
/-- The mark of a bool. -/
def mkB (n : Int) : Bool := n.tmod 3 == 0
theorem mkB_no {n m : Int} (h : 0 ≤ n) (e : n = m) : (!(mkB n == (m % 3 == 0))) = false := by
  subst e; unfold mkB; rw [Int.tmod_eq_emod_of_nonneg h]; simp
def Evt.mark (k : Nat) : Evt := ⟨(k : Int), (k : Int) + 1, mkT (k + 2), (k : Int) + 3, mkB ((k : Int) + 4), mkB ((k : Int) + 5), mkB ((k : Int) + 6)⟩
def Evt.marks (k : Nat) (n : Nat) : List Evt := (List.range n).map fun j => Evt.mark (k + 7 * j)
theorem Evt.marks_len (k : Nat) (n : Nat) : (Evt.marks k n).length = n := by simp [Evt.marks]
theorem Evt.marks_at {k : Nat} {n j : Nat} (h : j < n) : (Evt.marks k n)[j]? = some (Evt.mark (k + 7 * j)) := by simp [Evt.marks, h]
theorem Evt.marks_succ (k : Nat) (n : Nat) : Evt.marks k (n + 1) = Evt.marks k n ++ [Evt.mark (k + 7 * n)] := by simp [Evt.marks, List.range_succ]
def MarkedEvt (w : World) (base : Nat) (A : Option Addr) (n c : Nat) (k : Nat) (e : Ending) (w' : World) : Prop :=
  e = .returned (.int .i64 ((k + 7 * n : Nat) : Int)) ∧ EvtO w' base A n c (Evt.marks k n) ∧ w.grownBy w' (Value.slice A n c).ownBlock
end Go.Proofs.Ytpdkgjmppknbpaa
