/- laws.toClause, szClause, eqClause, markClauseS, heldClauseS and their slices (by gen_struct.py). -/
import Derived.Test.YtmhlkbocejnpoaaDoorCls
import Derived.Test.YtmhlkbocejnpoaaDoorMark
import Derived.Test.YtmhlkbocejnpoaaDoorHeld
import Derived.Deep.QuietTactic
import Derived.Deep.RegionHeld3
namespace Go.Proofs.YtmhlkbocejnpoaaDoor
open Go.ChangeShapes Go.WideShapes Go.ChangeAt Go.RowKit
set_option linter.unusedVariables false

theorem toClause_l (r : Cls) (w : World) : Calls Tryd.prog 15 #[.agg #[.string ⟨r.c.toArray⟩, .int .i64 r.k, .int .i64 r.p, .int .i64 r.v, .int .i64 r.r, .int .i64 r.e, .string ⟨r.t.toArray⟩]] w (Gives w (.agg #[.string ⟨r.c.toArray⟩, .int .i64 r.k, .int .i64 r.p, .int .i64 r.v, .int .i64 r.r, .int .i64 r.e, .string ⟨r.t.toArray⟩])) := by
  have B : ∀ o p q, Hid (Below w.heap.size w (((w.alloc o).alloc p).alloc q)) := fun o p q => Lib.hid ((((Below.refl _ _).alloc (Nat.le_refl _) _).alloc (by simp) _).alloc (by simp; omega) _)
  go_enter Tryd.func15, Tryd.ntmps15
  go_wp2_with fail
  exact bodyPost_ret (v := .agg #[.string ⟨r.c.toArray⟩, .int .i64 r.k, .int .i64 r.p, .int .i64 r.v, .int .i64 r.r, .int .i64 r.e, .string ⟨r.t.toArray⟩]) (by simp [results, Tryd.results15, go_sem]) rfl ⟨rfl, (B _ _ _).out⟩
theorem eqClause_same (r : Cls) (w : World) : Calls Tryd.prog 16 #[.agg #[.string ⟨r.c.toArray⟩, .int .i64 r.k, .int .i64 r.p, .int .i64 r.v, .int .i64 r.r, .int .i64 r.e, .string ⟨r.t.toArray⟩], .agg #[.string ⟨r.c.toArray⟩, .int .i64 r.k, .int .i64 r.p, .int .i64 r.v, .int .i64 r.r, .int .i64 r.e, .string ⟨r.t.toArray⟩]] w (Gives w (.bool true)) := by
  have B : ∀ o p, Hid (Below w.heap.size w ((w.alloc o).alloc p)) := fun o p => Lib.hid (((Below.refl _ _).alloc (Nat.le_refl _) _).alloc (by simp) _)
  have d0 : (r.c == r.c) = true := by simp
  have d1 : (r.k != r.k) = false := by simp
  have d2 : (r.p != r.p) = false := by simp
  have d3 : (r.v != r.v) = false := by simp
  have d4 : (r.r != r.r) = false := by simp
  have d5 : (r.e != r.e) = false := by simp
  have d6 : (r.t == r.t) = true := by simp
  go_enter Tryd.func16, Tryd.ntmps16
  go_wp2_with fail
  go_ret
  exact ⟨rfl, (B _ _).out⟩
theorem szClause_l (r : Cls) (n : Int) (w : World) (h0 : 0 ≤ n) (h1 : n ≤ 2000000) (hl : r.wf) :
    Calls Tryd.prog 14 #[.agg #[.string ⟨r.c.toArray⟩, .int .i64 r.k, .int .i64 r.p, .int .i64 r.v, .int .i64 r.r, .int .i64 r.e, .string ⟨r.t.toArray⟩], .int .i64 n] w (Gives w (.int .i64 (if n - (r.sz : Int) < 0 then -1 else n - (r.sz : Int)))) := by
  have hw := hl
  unfold Cls.wf maxLen at hl
  have hz0 : (⟨r.c.toArray⟩ : ByteArray).size = r.c.length := rfl
  have l0 : r.c.length ≤ 9223372036854775807 := by omega
  have hz1 : (⟨r.t.toArray⟩ : ByteArray).size = r.t.length := rfl
  have l1 : r.t.length ≤ 9223372036854775807 := by omega
  have B : ∀ o, Hid (Below w.heap.size w (w.alloc o)) := fun o => Lib.hid ((Below.refl _ _).alloc (Nat.le_refl _) _)
  obtain ⟨M, hM⟩ : ∃ M, M = (if n - (r.sz : Int) < 0 then -1 else n - (r.sz : Int)) := ⟨_, rfl⟩
  rw [← hM]
  have HM := Lib.hid hM
  clear hw hl hM
  by_cases n0 : n - r.c.length < 0
  · have E : Hid (M = -1) := Lib.hid (by rw [HM.out]; unfold Cls.sz; rw [if_pos (by omega)])
    go_enter Tryd.func14, Tryd.ntmps14
    go_wp2_with fail
    go_ret
    exact ⟨by first | rfl | exact congrArg (fun x => Ending.returned (Value.int .i64 x)) E.out.symm, (B _).out⟩
  · skip
    by_cases n1 : n - r.c.length - r.t.length < 0
    · have E : Hid (M = -1) := Lib.hid (by rw [HM.out]; unfold Cls.sz; rw [if_pos (by omega)])
      go_enter Tryd.func14, Tryd.ntmps14
      go_wp2_with fail
      go_ret
      exact ⟨by first | rfl | exact congrArg (fun x => Ending.returned (Value.int .i64 x)) E.out.symm, (B _).out⟩
    · skip
      have E : Hid (M = n - r.c.length - r.t.length) := Lib.hid (by rw [HM.out]; unfold Cls.sz; rw [if_neg (by omega)]; try omega)
      go_enter Tryd.func14, Tryd.ntmps14
      go_wp2_with fail
      go_ret
      exact ⟨by first | rfl | exact congrArg (fun x => Ending.returned (Value.int .i64 x)) E.out.symm, (B _).out⟩
def Cls.szl : List Cls → Int → Int
  | [], n => n
  | r :: rs, n => if n < 0 then n else Cls.szl rs (if n - (r.sz : Int) < 0 then -1 else n - (r.sz : Int))
def Cls.szT (rs : List Cls) (n : Int) : Int := if n - rs.length < 0 then -1 else Cls.szl rs (n - rs.length)
theorem Cls.szl_neg (rs : List Cls) : Cls.szl rs (-1) = -1 := by cases rs <;> rfl
theorem Cls.szl_bd : ∀ (rs : List Cls) (n : Int), 0 ≤ Cls.szl rs n → Cls.szl rs n ≤ n ∧ ∀ r ∈ rs, (r.sz : Int) ≤ n
  | [], n, h => ⟨Int.le_refl _, fun r hr => by cases hr⟩
  | r :: rs, n, h => by
    unfold Cls.szl at h ⊢
    by_cases hn : n < 0
    · rw [if_pos hn] at h; omega
    · rw [if_neg hn] at h ⊢
      by_cases h1 : n - (r.sz : Int) < 0
      · rw [if_pos h1, Cls.szl_neg] at h; omega
      · rw [if_neg h1] at h ⊢
        obtain ⟨h2, h3⟩ := Cls.szl_bd rs _ h
        refine ⟨by omega, fun q hq => ?_⟩
        rcases List.mem_cons.1 hq with rfl | hq
        · omega
        · have := h3 q hq; omega
theorem Cls.szT_bd {rs : List Cls} {n : Int} (h : 0 ≤ Cls.szT rs n) : Cls.szT rs n ≤ n ∧ (rs.length : Int) ≤ n ∧ ∀ r ∈ rs, (r.sz : Int) ≤ n := by
  unfold Cls.szT at h ⊢
  by_cases h1 : n - rs.length < 0
  · rw [if_pos h1] at h; omega
  · rw [if_neg h1] at h ⊢
    obtain ⟨h2, h3⟩ := Cls.szl_bd rs _ h
    exact ⟨by omega, by omega, fun r hr => by have := h3 r hr; omega⟩
theorem Cls.szT_ok {rs : List Cls} (h : ¬ Cls.szT rs 1048576 < 0) : rs.length ≤ 1048576 ∧ (∀ r ∈ rs, r.sz ≤ 1048576) ∧ Cls.szT rs 1048576 ≤ 1048576 := by
  obtain ⟨h0, h1, h2⟩ := Cls.szT_bd (by omega : 0 ≤ Cls.szT rs 1048576)
  exact ⟨by omega, fun r hr => by have := h2 r hr; omega, h0⟩
theorem Cls.szl_cons {r : Cls} {rs : List Cls} {m : Int} (hm : 0 ≤ m) : Cls.szl (r :: rs) m = Cls.szl rs (if m - (r.sz : Int) < 0 then -1 else m - (r.sz : Int)) := by rw [Cls.szl, if_neg (by omega)]
/-! ### a row of the call's own -/
theorem clsInfo : (Tryd.prog.info? 25).map (fun i => (i.zero, i.size, i.bytes)) = some (some (.agg #[.string ⟨#[]⟩, .int .i64 0, .int .i64 0, .int .i64 0, .int .i64 0, .int .i64 0, .string ⟨#[]⟩]), 7, 72) := by kernel_rfl
def ClsO (w : World) (base : Nat) (A : Option Addr) (n c : Nat) (rs : List Cls) : Prop := w.ownsRow base 25 7 (.slice A n c) n (rs.flatMap Cls.cells)
section
variable {w w' : World} {base : Nat} {A : Option Addr} {n c : Nat} {rs : List Cls}
theorem ClsO.len (h : ClsO w base A n c rs) : rs.length = n := by
  have := h.1; rw [flat_len Cls.cells 7 (fun _ => rfl)] at this; omega
theorem ClsO.row (h : ClsO w base A n c rs) : ClsR w A rs := Rw.ownS h
theorem ClsO.bd (h : ClsO w base A n c rs) : Bd A w.heap.size := fun a e => (h.lt a.block (by rw [e]; rfl)).2
theorem ClsO.lo (h : ClsO w base A n c rs) : ∀ k, (Value.slice A n c).ownBlock = some k → base ≤ k := fun k e => (h.lt k e).1
theorem ClsO.below (h : ClsO w base A n c rs) (hb : Below w.heap.size w w') : ClsO w' base A n c rs := own_below h hb
theorem ClsO.mono {base' : Nat} (h : ClsO w base A n c rs) (hb : base' ≤ base) : ClsO w base' A n c rs := by
  refine ⟨h.1, h.2.imp id ?_⟩
  rintro ⟨g, cap, cur, h1, h2, h3⟩
  exact ⟨g, cap, cur, h1, by omega, h3⟩
theorem ClsO.kept {B : Option Addr} {m d : Nat} (h : ClsO w base A n c rs) (hg : w.grownBy w' (Value.slice B m d).ownBlock) (hB : Bd B base) : ClsO w' base A n c rs :=
  World.ownsRow.kept h hg (by
    cases A with
    | none => exact .inl rfl
    | some a =>
      right
      cases B with
      | none => simp [Value.ownBlock]
      | some b =>
        intro e
        have h1 := h.lo a.block rfl
        have h2 := hB b rfl
        simp [Value.ownBlock] at e
        omega)
theorem ClsO.far {B : Nat} (h : ClsO w base A n c rs) (hg : w.grownBy w' (Value.slice A n c).ownBlock) (hB : B ≤ base) (hs : B ≤ w.heap.size) : Below B w w' :=
  (Below.refl _ _).grown hg hs (fun k e => Nat.le_trans hB (h.lo k e))
theorem ClsO.wrote {W : World} {B : Nat} (hW : Below B W w) (h : ClsO w base A n c rs) (hg : w.grownBy w' (Value.slice A n c).ownBlock) (hB : B ≤ base) (hs : B ≤ w.heap.size) : Below B W w' :=
  hW.grown hg hs (fun k e => Nat.le_trans hB (h.lo k e))
end
def NewClss (w : World) (rs : List Cls) (e : Ending) (w' : World) : Prop :=
  ∃ A c, e = .returned (.slice A rs.length c) ∧ ClsO w' w.heap.size A rs.length c rs ∧ Below w.heap.size w w'
def NewClssC (w : World) (p : List Cls × Int) (e : Ending) (w' : World) : Prop :=
  ∃ A c, e = .returned (.tuple #[.slice A p.1.length c, .int .i64 p.2]) ∧ ClsO w' w.heap.size A p.1.length c p.1 ∧ Below w.heap.size w w'
theorem set_cls {ys : List Value} {k : Nat} (hk : k * 7 + 6 < ys.length) {v0 v1 v2 v3 v4 v5 v6 : Value} {P : List Value} (h : ys.take (k * 7) = P) :
    (((((((ys.set (k * 7) (v0)).set (k * 7 + 1) (v1)).set (k * 7 + 2) (v2)).set (k * 7 + 3) (v3)).set (k * 7 + 4) (v4)).set (k * 7 + 5) (v5)).set (k * 7 + 6) (v6)).take ((k + 1) * 7) = P ++ [v0, v1, v2, v3, v4, v5, v6] := by
  apply List.ext_getElem?
  intro j
  subst h
  rw [List.getElem?_take, List.getElem?_append, List.length_take, Nat.min_eq_left (by omega)]
  by_cases h1 : j < k * 7
  · rw [if_pos (by omega), if_pos h1, List.getElem?_take, if_pos h1]
    rw [List.getElem?_set_ne (by omega), List.getElem?_set_ne (by omega), List.getElem?_set_ne (by omega), List.getElem?_set_ne (by omega), List.getElem?_set_ne (by omega), List.getElem?_set_ne (by omega), List.getElem?_set_ne (by omega)]
  · rw [if_neg h1]
    by_cases h2 : j < (k + 1) * 7
    · rw [if_pos h2]
      have : j = k * 7 ∨ j = k * 7 + 1 ∨ j = k * 7 + 2 ∨ j = k * 7 + 3 ∨ j = k * 7 + 4 ∨ j = k * 7 + 5 ∨ j = k * 7 + 6 := by omega
      rcases this with rfl | rfl | rfl | rfl | rfl | rfl | rfl
      · rw [List.getElem?_set_ne (by omega), List.getElem?_set_ne (by omega), List.getElem?_set_ne (by omega), List.getElem?_set_ne (by omega), List.getElem?_set_ne (by omega), List.getElem?_set_ne (by omega), List.getElem?_set_self (by (try simp only [List.length_set]); omega), Nat.sub_self]; rfl
      · rw [List.getElem?_set_ne (by omega), List.getElem?_set_ne (by omega), List.getElem?_set_ne (by omega), List.getElem?_set_ne (by omega), List.getElem?_set_ne (by omega), List.getElem?_set_self (by (try simp only [List.length_set]); omega), show k * 7 + 1 - k * 7 = 1 by omega]; rfl
      · rw [List.getElem?_set_ne (by omega), List.getElem?_set_ne (by omega), List.getElem?_set_ne (by omega), List.getElem?_set_ne (by omega), List.getElem?_set_self (by (try simp only [List.length_set]); omega), show k * 7 + 2 - k * 7 = 2 by omega]; rfl
      · rw [List.getElem?_set_ne (by omega), List.getElem?_set_ne (by omega), List.getElem?_set_ne (by omega), List.getElem?_set_self (by (try simp only [List.length_set]); omega), show k * 7 + 3 - k * 7 = 3 by omega]; rfl
      · rw [List.getElem?_set_ne (by omega), List.getElem?_set_ne (by omega), List.getElem?_set_self (by (try simp only [List.length_set]); omega), show k * 7 + 4 - k * 7 = 4 by omega]; rfl
      · rw [List.getElem?_set_ne (by omega), List.getElem?_set_self (by (try simp only [List.length_set]); omega), show k * 7 + 5 - k * 7 = 5 by omega]; rfl
      · rw [List.getElem?_set_self (by (try simp only [List.length_set]); omega), show k * 7 + 6 - k * 7 = 6 by omega]; rfl
    · rw [if_neg h2, List.getElem?_eq_none (by simp; omega)]
theorem stored_cls {w : World} {base g n c : Nat} {e : TypeId} {xs : List Value} (h : w.ownsRow base e 7 (.slice (some ⟨g, 0, none⟩) n c) n xs) (j : Nat) (v0 v1 v2 v3 v4 v5 v6 : Value) :
    (((((((w.setCell ⟨g, j, none⟩ (v0)).setCell ⟨g, j + 1, none⟩ (v1)).setCell ⟨g, j + 2, none⟩ (v2)).setCell ⟨g, j + 3, none⟩ (v3)).setCell ⟨g, j + 4, none⟩ (v4)).setCell ⟨g, j + 5, none⟩ (v5)).setCell ⟨g, j + 6, none⟩ (v6)).ownsRow base e 7 (.slice (some ⟨g, 0, none⟩) n c) n (((((((xs.set (j) (v0)).set (j + 1) (v1)).set (j + 2) (v2)).set (j + 3) (v3)).set (j + 4) (v4)).set (j + 5) (v5)).set (j + 6) (v6)) ∧
    w.grownBy (((((((w.setCell ⟨g, j, none⟩ (v0)).setCell ⟨g, j + 1, none⟩ (v1)).setCell ⟨g, j + 2, none⟩ (v2)).setCell ⟨g, j + 3, none⟩ (v3)).setCell ⟨g, j + 4, none⟩ (v4)).setCell ⟨g, j + 5, none⟩ (v5)).setCell ⟨g, j + 6, none⟩ (v6)) (some g) := by
  have h1 := h.stored (j) v0
  have h2 := h1.1.stored (j + 1) v1
  have h3 := h2.1.stored (j + 2) v2
  have h4 := h3.1.stored (j + 3) v3
  have h5 := h4.1.stored (j + 4) v4
  have h6 := h5.1.stored (j + 5) v5
  have h7 := h6.1.stored (j + 6) v6
  exact ⟨h7.1, ((((((h1.2.trans h2.2).trans h3.2).trans h4.2).trans h5.2).trans h6.2).trans h7.2)⟩
def Cls.mark (k : Nat) : Cls := ⟨mkT (k), (k : Int) + 1, (k : Int) + 2, (k : Int) + 3, (k : Int) + 4, (k : Int) + 5, mkT (k + 6)⟩
def Cls.marks (k : Nat) (n : Nat) : List Cls := (List.range n).map fun j => Cls.mark (k + 7 * j)
theorem Cls.marks_len (k : Nat) (n : Nat) : (Cls.marks k n).length = n := by simp [Cls.marks]
theorem Cls.marks_at {k : Nat} {n j : Nat} (h : j < n) : (Cls.marks k n)[j]? = some (Cls.mark (k + 7 * j)) := by simp [Cls.marks, h]
theorem Cls.marks_succ (k : Nat) (n : Nat) : Cls.marks k (n + 1) = Cls.marks k n ++ [Cls.mark (k + 7 * n)] := by simp [Cls.marks, List.range_succ]
def MarkedCls (w : World) (base : Nat) (A : Option Addr) (n c : Nat) (k : Nat) (e : Ending) (w' : World) : Prop :=
  e = .returned (.int .i64 ((k + 7 * n : Nat) : Int)) ∧ ClsO w' base A n c (Cls.marks k n) ∧ w.grownBy w' (Value.slice A n c).ownBlock
end Go.Proofs.YtmhlkbocejnpoaaDoor
