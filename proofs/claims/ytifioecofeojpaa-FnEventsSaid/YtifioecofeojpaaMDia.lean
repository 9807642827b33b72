import Derived.Test.YtifioecofeojpaaDrawm
import Derived.Test.YtifioecofeojpaaMan
import Derived.Test.YtifioecofeojpaaRin
import Derived.Maps.AppendAt
/- The draws of chapter 6: codes, valid manifests. (by gen_dia.py) -/
namespace Go.Proofs.Ytifioecofeojpaa
open Go.ChangeShapes Go.WideShapes Go.ChangeAt Go.RowKit
set_option linter.unusedVariables false

def tI12 : List (List UInt8) := [[97, 108, 98, 97], [98, 111, 114, 111], [99, 97, 112, 101], [100, 111, 114, 97], [101, 108, 105, 110], [97, 108, 98, 97], [98, 111, 114, 111], [99, 97, 112, 101], [100, 111, 114, 97], [], [65, 108, 98, 97], [116, 111, 111, 108, 111, 110, 103]]
def tI11 : List (List UInt8) := [[99, 111, 97, 108], [99, 111, 114, 110], [102, 117, 101, 108], [104, 105, 114, 101], [105, 114, 111, 110], [115, 104, 105, 112], [119, 111, 111, 108], [105, 114, 111, 110], [119, 111, 111, 108], [110, 111, 110, 101], []]
def tI7 : List (List UInt8) := [[99, 111, 97, 108], [99, 111, 114, 110], [102, 117, 101, 108], [104, 105, 114, 101], [105, 114, 111, 110], [115, 104, 105, 112], [119, 111, 111, 108]]
def tI4 : List (List UInt8) := [[97, 108, 98, 97], [98, 111, 114, 111], [99, 97, 112, 101], [100, 111, 114, 97]]
def strI (s : List UInt8) : Value := .string ⟨s.toArray⟩
theorem lt_ofI {wr : World} {g : Nat} {o : Obj} (h : wr.heap[g]? = some o) : g < wr.heap.size := lt_some h
theorem getD_repI (n k : Nat) : (Array.replicate n false).getD k false = false := by
  rcases Nat.lt_or_ge k n with h | h
  · simp [h]
  · simp [Array.getElem?_eq_none, h]
theorem text_atI {ts : List (List UInt8)} (h : ∀ s ∈ ts, s.length ≤ 7) {k : Nat} (hk : k < ts.length) : ∃ s : List UInt8, s.length ≤ 7 ∧ (ts.map strI)[k]? = some (.string ⟨s.toArray⟩) :=
  ⟨ts[k], h _ (List.getElem_mem hk), by simp [hk, strI]⟩
def DrewT (w : World) (base g : Nat) (A : Option Addr) (c : Nat) (bs : List Int) (e : Ending) (w' : World) : Prop :=
  ∃ s : List UInt8, e = .returned (.string ⟨s.toArray⟩) ∧ s.length ≤ 7 ∧ Src w' base g A c bs ∧ w.grownBy w' (some g)

theorem code12_any (g : Nat) (base : Nat) (A : Option Addr) (c : Nat) (bs : List Int) (w : World) (h : Src w base g A c bs) :
    Calls Try.prog 87 #[.pointer (some ⟨g, 0, none⟩)] w (DrewT w base g A c bs) := by
  have hgl := h.lt
  have hrow : (w.alloc (.cells (tI12.map strI).toArray 9)).heap[w.heap.size]? = some (.cells (tI12.map strI).toArray 9 (0, 0)) := heap_alloc_new w _
  go_enter Try.func87, Try.ntmps87
  go_wp2_with fail
  refine (next_any g _ base A c bs _ (h.alloc _) (by omega)).mono ?_
  rintro e w1 ⟨r, rfl, r0, r1, h1, g1⟩
  obtain ⟨k, rfl⟩ := Int.eq_ofNat_of_zero_le r0
  have hk : k < 12 := by omega
  obtain ⟨s, hs, hv⟩ := text_atI (ts := tI12) (by decide) (k := k) hk
  have hB := keepG g1 hrow (by omega)
  have hcell : w1.cell? ⟨w.heap.size, k, none⟩ = some (.string ⟨s.toArray⟩) := by rw [cell_of_row _ _ _ _ _ _ hB]; simpa using hv
  clear hB hrow hv
  go_wp2_with fail
  go_ret
  exact ⟨s, rfl, hs, h1, (World.grownBy_alloc _ _ _).trans g1⟩
theorem code11_any (g : Nat) (base : Nat) (A : Option Addr) (c : Nat) (bs : List Int) (w : World) (h : Src w base g A c bs) :
    Calls Try.prog 60 #[.pointer (some ⟨g, 0, none⟩)] w (DrewT w base g A c bs) := by
  have hgl := h.lt
  have hrow : (w.alloc (.cells (tI11.map strI).toArray 9)).heap[w.heap.size]? = some (.cells (tI11.map strI).toArray 9 (0, 0)) := heap_alloc_new w _
  go_enter Try.func60, Try.ntmps60
  go_wp2_with fail
  refine (next_any g _ base A c bs _ (h.alloc _) (by omega)).mono ?_
  rintro e w1 ⟨r, rfl, r0, r1, h1, g1⟩
  obtain ⟨k, rfl⟩ := Int.eq_ofNat_of_zero_le r0
  have hk : k < 11 := by omega
  obtain ⟨s, hs, hv⟩ := text_atI (ts := tI11) (by decide) (k := k) hk
  have hB := keepG g1 hrow (by omega)
  have hcell : w1.cell? ⟨w.heap.size, k, none⟩ = some (.string ⟨s.toArray⟩) := by rw [cell_of_row _ _ _ _ _ _ hB]; simpa using hv
  clear hB hrow hv
  go_wp2_with fail
  go_ret
  exact ⟨s, rfl, hs, h1, (World.grownBy_alloc _ _ _).trans g1⟩
/-! ### spec.l06Valid: one round's drawn region -/
def updV (us : Nat → Value) (j : Nat) (v : Value) : Nat → Value := fun n => if n = j then v else us n
def frV (us : Nat → Value) : Act := { tmps := #[us 0, us 1, us 2, us 3, us 4, us 5, us 6, us 7, us 8, us 9, us 10, us 11, us 12, us 13, us 14, us 15, us 16, us 17, us 18, us 19, us 20, us 21, us 22, us 23, us 24, us 25, us 26, us 27, us 28, us 29, us 30, us 31, us 32, us 33, us 34, us 35, us 36, us 37, us 38, us 39, us 40, us 41, us 42, us 43, us 44, us 45, us 46, us 47, us 48, us 49, us 50, us 51, us 52, us 53, us 54, us 55, us 56, us 57, us 58, us 59], defers := [] }
theorem frV_of {x0 x1 x2 x3 x4 x5 x6 x7 x8 x9 x10 x11 x12 x13 x14 x15 x16 x17 x18 x19 x20 x21 x22 x23 x24 x25 x26 x27 x28 x29 x30 x31 x32 x33 x34 x35 x36 x37 x38 x39 x40 x41 x42 x43 x44 x45 x46 x47 x48 x49 x50 x51 x52 x53 x54 x55 x56 x57 x58 x59 : Value} : ({ tmps := #[x0, x1, x2, x3, x4, x5, x6, x7, x8, x9, x10, x11, x12, x13, x14, x15, x16, x17, x18, x19, x20, x21, x22, x23, x24, x25, x26, x27, x28, x29, x30, x31, x32, x33, x34, x35, x36, x37, x38, x39, x40, x41, x42, x43, x44, x45, x46, x47, x48, x49, x50, x51, x52, x53, x54, x55, x56, x57, x58, x59], defers := [] } : Act) = frV (fun k => #[x0, x1, x2, x3, x4, x5, x6, x7, x8, x9, x10, x11, x12, x13, x14, x15, x16, x17, x18, x19, x20, x21, x22, x23, x24, x25, x26, x27, x28, x29, x30, x31, x32, x33, x34, x35, x36, x37, x38, x39, x40, x41, x42, x43, x44, x45, x46, x47, x48, x49, x50, x51, x52, x53, x54, x55, x56, x57, x58, x59].getD k undef) := rfl
/-- What the region only reads. -/
structure FixV (g B3 B5 i : Nat) (V4 V9 : Value) (us : Nat → Value) : Prop where
  u0 : us 0 = .pointer (some ⟨g, 0, none⟩)
  u1 : us 1 = undef
  u2 : us 2 = .slice none 0 0
  u3 : us 3 = .slice (some ⟨B3, 0, none⟩) 4 4
  u4 : us 4 = V4
  u5 : us 5 = .slice (some ⟨B5, 0, none⟩) 7 7
  u6 : us 6 = .int .i64 i
  u8 : us 8 = .slice (some ⟨B3, 0, none⟩) 4 4
  u9 : us 9 = V9
  u10 : us 10 = .slice (some ⟨B5, 0, none⟩) 7 7
  u59 : us 59 = undef
theorem FixV.upd {g B3 B5 i : Nat} {V4 V9 : Value} {us : Nat → Value} (h : FixV g B3 B5 i V4 V9 us) {j : Nat} (hj : j = 7 ∨ (17 ≤ j ∧ j ≤ 28)) (v : Value) : FixV g B3 B5 i V4 V9 (updV us j v) :=
  ⟨by unfold updV; rw [if_neg (by omega)]; exact h.u0, by unfold updV; rw [if_neg (by omega)]; exact h.u1, by unfold updV; rw [if_neg (by omega)]; exact h.u2, by unfold updV; rw [if_neg (by omega)]; exact h.u3, by unfold updV; rw [if_neg (by omega)]; exact h.u4, by unfold updV; rw [if_neg (by omega)]; exact h.u5, by unfold updV; rw [if_neg (by omega)]; exact h.u6, by unfold updV; rw [if_neg (by omega)]; exact h.u8, by unfold updV; rw [if_neg (by omega)]; exact h.u9, by unfold updV; rw [if_neg (by omega)]; exact h.u10, by unfold updV; rw [if_neg (by omega)]; exact h.u59⟩
def Row5 (W : World) (C : Nat) (x0 x1 x2 x3 x4 : Value) : Prop := W.heap[C]? = some (.cells #[x0, x1, x2, x3, x4] 95 (0, 0))
/-- What a drawn interest keeps to. -/
def Iok (q : Ist) : Prop := q.c.length ≤ 7 ∧ q.o.length ≤ 7 ∧ -1 ≤ q.v ∧ q.v ≤ 1000000001
def Ioc (q : Ist) : Prop := Iok q ∧ q.k = 3 ∧ q.a = 0
def Iov (q : Ist) : Prop := Iok q ∧ (0 ≤ q.k ∧ q.k ≤ 3) ∧ 0 ≤ q.a ∧ q.a ≤ 60
def GoodV (g lo B3 B5 i : Nat) (s0 : List UInt8) (k : Nat) (v : Value) (W : World) : Prop :=
  match k with
  | 0 => v = .slice (some ⟨B5, 0, none⟩) 7 7
  | 1 => v = .int .i64 i
  | 2 => v = .pointer (some ⟨B5, i, none⟩)
  | 3 => v = .string ⟨s0.toArray⟩
  | 4 => v = .slice (some ⟨B3, 0, none⟩) 4 4
  | 5 => v = .pointer (some ⟨g, 0, none⟩)
  | 6 => ∃ r : Nat, r < 4 ∧ v = .int .i64 r
  | 7 => ∃ r : Nat, r < 4 ∧ v = .pointer (some ⟨B3, r, none⟩)
  | 8 => ∃ s : List UInt8, v = .string ⟨s.toArray⟩ ∧ s.length ≤ 7
  | 9 => v = .pointer (some ⟨g, 0, none⟩)
  | 10 => ∃ x : Int, -1 ≤ x ∧ x ≤ 1000000001 ∧ v = .int .i64 x
  | 11 => ∃ q : Ist, v = .agg #[.string ⟨q.c.toArray⟩, .int .i64 q.k, .string ⟨q.o.toArray⟩, .int .i64 q.v, .int .i64 q.a] ∧ Ioc q
  | _ => ∃ C x0 x1 x2 x3 x4, v = .pointer (some ⟨C, 0, none⟩) ∧ Row5 W C x0 x1 x2 x3 x4 ∧ lo ≤ C ∧ C ≠ g
theorem GoodV.mono {g lo B3 B5 i k : Nat} {s0 : List UInt8} {v : Value} {W W' : World} (h : GoodV g lo B3 B5 i s0 k v W) (hg : W.grownBy W' (some g)) : GoodV g lo B3 B5 i s0 k v W' := by
  unfold GoodV at *
  split at h
  all_goals first
    | exact h
    | (obtain ⟨C, x0, x1, x2, x3, x4, e, h1, h2, h3⟩ := h
       exact ⟨C, x0, x1, x2, x3, x4, e, keepG hg h1 h3, h2, h3⟩)
def dstV (k : Nat) : Nat := if k = 12 then 7 else k + 17
theorem goodV_set {g lo B3 B5 i j : Nat} {s0 : List UInt8} {d : Array Bool} {us : Nat → Value} {v : Value} {W W' : World} (hj : j < 13) (h : ∀ k, k < 13 → d.getD k false = true → GoodV g lo B3 B5 i s0 k (us (dstV k)) W) (hg : W.grownBy W' (some g)) (hn : GoodV g lo B3 B5 i s0 j v W') :
    ∀ k, k < 13 → (d.setIfInBounds j true).getD k false = true → GoodV g lo B3 B5 i s0 k (updV us (dstV j) v (dstV k)) W' := by
  intro k hk hd
  by_cases e : j = k
  · subst e; unfold updV; rw [if_pos rfl]; exact hn
  · rw [getD_set_ne false e] at hd
    have hne : dstV k ≠ dstV j := by unfold dstV; split <;> split <;> omega
    unfold updV
    rw [if_neg hne]
    exact (h k hk hd).mono hg
/-- The condition. -/
def RInvV (w : World) (base g : Nat) (A : Option Addr) (c : Nat) (bs : List Int) (B3 B5 i : Nat) (V4 V9 : Value) (s0 : List UInt8) (d : Array Bool) (a : Act) (W : World) : Prop :=
  ∃ us, a = frV us ∧ FixV g B3 B5 i V4 V9 us ∧ Src W base g A c bs ∧ w.grownBy W (some g) ∧
    ((d.getD 13 false = false ∧ ∀ k, k < 13 → d.getD k false = true → GoodV g w.heap.size B3 B5 i s0 k (us (dstV k)) W) ∨
     ((∀ k, k < 14 → d.getD k true = true) ∧ ∃ C q, us 7 = .pointer (some ⟨C, 0, none⟩) ∧ Row5 W C (.string ⟨(q : Ist).c.toArray⟩) (.int .i64 q.k) (.string ⟨q.o.toArray⟩) (.int .i64 q.v) (.int .i64 q.a) ∧ Ioc q ∧ w.heap.size ≤ C ∧ C ≠ g))
theorem row5_at {W : World} {C : Nat} {x0 x1 x2 x3 x4 : Value} (h : Row5 W C x0 x1 x2 x3 x4) :
    (W.cell? ⟨C, 0, none⟩ = some x0 ∧ W.cell? ⟨C, 1, none⟩ = some x1 ∧ W.cell? ⟨C, 2, none⟩ = some x2 ∧ W.cell? ⟨C, 3, none⟩ = some x3 ∧ W.cell? ⟨C, 4, none⟩ = some x4) ∧
    W.frozen? ⟨C, 0, none⟩ = false ∧ W.frozen? ⟨C, 1, none⟩ = false ∧ W.frozen? ⟨C, 2, none⟩ = false ∧ W.frozen? ⟨C, 3, none⟩ = false ∧ W.frozen? ⟨C, 4, none⟩ = false :=
  ⟨⟨by rw [cell_of_row _ _ _ _ _ _ h]; rfl, by rw [cell_of_row _ _ _ _ _ _ h]; rfl, by rw [cell_of_row _ _ _ _ _ _ h]; rfl, by rw [cell_of_row _ _ _ _ _ _ h]; rfl, by rw [cell_of_row _ _ _ _ _ _ h]; rfl⟩,
   frozen_of_row W C 0 _ _ h, frozen_of_row W C 1 _ _ h, frozen_of_row W C 2 _ _ h, frozen_of_row W C 3 _ _ h, frozen_of_row W C 4 _ _ h⟩
/-- The stores of one whole interest. -/
def put5 (W : World) (C : Nat) (a0 a1 a2 a3 a4 : Value) : World := ((((W.setCell ⟨C, 0, none⟩ a0).setCell ⟨C, 1, none⟩ a1).setCell ⟨C, 2, none⟩ a2).setCell ⟨C, 3, none⟩ a3).setCell ⟨C, 4, none⟩ a4
theorem put5_row {W : World} {C : Nat} {x0 x1 x2 x3 x4 : Value} (h : Row5 W C x0 x1 x2 x3 x4) (a0 a1 a2 a3 a4 : Value) : Row5 (put5 W C a0 a1 a2 a3 a4) C a0 a1 a2 a3 a4 := by
  have h1 : Row5 (W.setCell ⟨C, 0, none⟩ a0) C a0 x1 x2 x3 x4 := by unfold Row5; rw [heap_setCell_same W C 0 _ _ _ h]; rfl
  have h2 : Row5 ((W.setCell ⟨C, 0, none⟩ a0).setCell ⟨C, 1, none⟩ a1) C a0 a1 x2 x3 x4 := by unfold Row5; rw [heap_setCell_same _ C 1 _ _ _ h1]; rfl
  have h3 : Row5 (((W.setCell ⟨C, 0, none⟩ a0).setCell ⟨C, 1, none⟩ a1).setCell ⟨C, 2, none⟩ a2) C a0 a1 a2 x3 x4 := by unfold Row5; rw [heap_setCell_same _ C 2 _ _ _ h2]; rfl
  have h4 : Row5 ((((W.setCell ⟨C, 0, none⟩ a0).setCell ⟨C, 1, none⟩ a1).setCell ⟨C, 2, none⟩ a2).setCell ⟨C, 3, none⟩ a3) C a0 a1 a2 a3 x4 := by unfold Row5; rw [heap_setCell_same _ C 3 _ _ _ h3]; rfl
  unfold Row5 put5
  rw [heap_setCell_same _ C 4 _ _ _ h4]; rfl
theorem put5_below {W : World} {n C : Nat} (hn : n ≤ C) (a0 a1 a2 a3 a4 : Value) : Below n W (put5 W C a0 a1 a2 a3 a4) :=
  (((((Below.refl n W).setCell (p := ⟨C, 0, none⟩) hn _).setCell (p := ⟨C, 1, none⟩) hn _).setCell (p := ⟨C, 2, none⟩) hn _).setCell (p := ⟨C, 3, none⟩) hn _).setCell (p := ⟨C, 4, none⟩) hn _
theorem getD_ftI {d : Array Bool} {i : Nat} (h : d.getD i false = true) : d.getD i true = true := by
  rcases Nat.lt_or_ge i d.size with h1 | h1
  · simp [h1] at h ⊢; exact h
  · simp [Array.getElem?_eq_none h1] at h ⊢

/-- What a round's end needs: the drawn source, the row at hand, the box. -/
structure Stv (w : World) (base g : Nat) (A : Option Addr) (c : Nat) (bs : List Int) (lo : Nat) (v : Value) (n : Nat) (xs : List Value) (C : Nat) (q : Ist) (W : World) : Prop where
  src : Src W base g A c bs
  gr : w.grownBy W (some g)
  own : W.ownsRow lo 95 5 v n xs
  row : Row5 W C (.string ⟨q.c.toArray⟩) (.int .i64 q.k) (.string ⟨q.o.toArray⟩) (.int .i64 q.v) (.int .i64 q.a)
  cg : C ≠ g
  gC : g < C
  wC : w.heap.size ≤ C
  cv : v.ownBlock ≠ some C
  gl : g < lo
theorem own_srcI {w w' : World} {base g n : Nat} {e : TypeId} {k : Nat} {v : Value} {xs : List Value} (h : w.ownsRow base e k v n xs) (hg : w.grownBy w' (some g)) (hl : g < base) : w'.ownsRow base e k v n xs := by
  refine World.ownsRow.kept h hg ?_
  cases hv : v.ownBlock with
  | none => exact .inl rfl
  | some k => right; intro e; have := (h.lt k hv).1; injection e with e; omega
theorem grown_cellI (w : World) (b i : Nat) (v : Value) : w.grownBy (w.setCell ⟨b, i, none⟩ v) (some b) :=
  ⟨rfl, rfl, rfl, by simp [World.setCell], fun k _ hk => heap_setCell_other w _ k v (fun e => hk (by rw [e]))⟩
section
variable {w : World} {base g : Nat} {A : Option Addr} {c : Nat} {bs : List Int} {lo : Nat} {v : Value} {n : Nat} {xs : List Value} {C : Nat} {q : Ist} {W W' : World}
theorem Stv.call (h : Stv w base g A c bs lo v n xs C q W) (hs : Src W' base g A c bs) (hg : W.grownBy W' (some g)) : Stv w base g A c bs lo v n xs C q W' :=
  ⟨hs, h.gr.trans hg, own_srcI h.own hg h.gl, keepG hg h.row h.cg, h.cg, h.gC, h.wC, h.cv, h.gl⟩
theorem Stv.kind (h : Stv w base g A c bs lo v n xs C q W) (k : Int) : Stv w base g A c bs lo v n xs C { q with k := k } (W.setCell ⟨C, 1, none⟩ (.int .i64 k)) :=
  ⟨h.src.keep ((Below.refl _ _).setCell (p := ⟨C, 1, none⟩) h.gC _), grown_below h.gr ((Below.refl _ _).setCell (p := ⟨C, 1, none⟩) h.wC _), World.ownsRow.kept h.own (grown_cellI W C 1 _) (.inr h.cv), by unfold Row5; rw [heap_setCell_same W C 1 _ _ _ h.row]; rfl, h.cg, h.gC, h.wC, h.cv, h.gl⟩
theorem Stv.age (h : Stv w base g A c bs lo v n xs C q W) (k : Int) : Stv w base g A c bs lo v n xs C { q with a := k } (W.setCell ⟨C, 4, none⟩ (.int .i64 k)) :=
  ⟨h.src.keep ((Below.refl _ _).setCell (p := ⟨C, 4, none⟩) h.gC _), grown_below h.gr ((Below.refl _ _).setCell (p := ⟨C, 4, none⟩) h.wC _), World.ownsRow.kept h.own (grown_cellI W C 4 _) (.inr h.cv), by unfold Row5; rw [heap_setCell_same W C 4 _ _ _ h.row]; rfl, h.cg, h.gC, h.wC, h.cv, h.gl⟩
end
theorem wpList_append_at5 (w : World) {ops : Array Oper} {rest : List Oper} {o : Oper} {a : Act} {Q : Exit → Act → World → Prop} (hgd : o.guard = none) (s x : Operand)
    (ho : o.op = .call { callee := .builtin .append, args := #[s, x], argTypes := #[41, 41] }) (lo : Nat) (v : Value) (n : Nat) (xs : List Value) (hs : a.eval s = v) (hown : w.ownsRow lo 95 5 v n xs)
    (ad : Addr) (m c : Nat) (news : List Value) (hx : a.eval x = .slice (some ad) m c) (hl : news.length = m * 5) (hnews : ∀ j u, news[j]? = some u → w.cell? (ad.add j) = some u) (h1 : ∀ u ∈ news, u.oneCell' = true) (h63 : n + m ≤ 1000) (hbase : lo ≤ w.heap.size)
    (h : ∀ v' w', w'.ownsRow lo 95 5 v' (n + m) (xs ++ news) → w.grownBy w' v.ownBlock → (v'.ownBlock = v.ownBlock ∨ v'.ownBlock = some w.heap.size) → wpList Try.prog ops Q rest (a.put o.dst v') w') : wpList Try.prog ops Q (o :: rest) a w := by
  obtain ⟨i0, hi, hz0, hz1, hz2⟩ := info_parts istInfo
  obtain ⟨v', w', hr, h2, h3, h4, h5⟩ := run_append_own_at (P := Try.prog) w lo 41 o.type 95 i0 _ 5 56 Try.underlying41 hi hz0 hz1 hz2 rfl (by decide) v n xs hown ad m c news hl hnews h1 (by unfold maxLen; omega) (by omega) hbase
  refine wpList_plain hgd fun K hK => ?_
  unfold Oper.wp execOp
  simp only [ho, resolve, invoke, builtin, Sem.run_bind, Sem.run_pure, Result.andThen_ok, List.map_toArray, List.map_cons, List.map_nil, hs, hx, hr]
  exact hK _ _ (h v' w' h2 h3 h5)
theorem box_cells5 {W : World} {vb : Nat} {x0 x1 x2 x3 x4 : Value} (h : Row5 W vb x0 x1 x2 x3 x4) : ∀ j u, [x0, x1, x2, x3, x4][j]? = some u → W.cell? ((⟨vb, 0, none⟩ : Addr).add j) = some u := fun j u hu => by
  have e : ((⟨vb, 0, none⟩ : Addr).add j) = ⟨vb, j, none⟩ := by unfold Addr.add; split <;> simp_all
  rw [e, cell_of_row _ _ _ _ _ _ h, ← hu]
  simp
/-- Behind the append of a round. -/
theorem after_push {w wr W w' : World} {base g : Nat} {A : Option Addr} {c : Nat} {bs : List Int} {v v' : Value} {n C : Nat} {xs : List Value} {q : Ist} {o : Obj} (st : Stv wr base g A c bs w.heap.size v n xs C q W) (HW : w.grownBy wr (some g)) (hvb : ∀ k, v.ownBlock = some k → k ≠ w.heap.size + 1 + 1 ∧ k ≠ w.heap.size)
    {r3 r5 : Obj} (h3 : wr.heap[w.heap.size]? = some r3) (h5 : wr.heap[w.heap.size + 1 + 1]? = some r5) (h3g : w.heap.size ≠ g) (h5g : w.heap.size + 1 + 1 ≠ g) (hsz : w.heap.size + 3 ≤ wr.heap.size)
    (hg : (W.alloc o).grownBy w' v.ownBlock) (hv' : v'.ownBlock = v.ownBlock ∨ v'.ownBlock = some (W.alloc o).heap.size) :
    Src w' base g A c bs ∧ w.grownBy w' (some g) ∧ w'.heap[w.heap.size]? = some r3 ∧ w'.heap[w.heap.size + 1 + 1]? = some r5 ∧ w.heap.size + 3 ≤ w'.heap.size ∧ ∀ k, v'.ownBlock = some k → k ≠ w.heap.size + 1 + 1 ∧ k ≠ w.heap.size := by
  have hs1 := st.gr.size
  have hsA : (W.alloc o).heap.size = W.heap.size + 1 := by simp
  have hb : Below w.heap.size (W.alloc o) w' := (Below.refl _ _).grown hg (by omega) (fun k hk => (st.own.lt k hk).1)
  have k3 := keepG st.gr h3 h3g
  have k5 := keepG st.gr h5 h5g
  have a3 : (W.alloc o).heap[w.heap.size]? = some r3 := by rw [heap_alloc_old _ _ (by omega)]; exact k3
  have a5 : (W.alloc o).heap[w.heap.size + 1 + 1]? = some r5 := by rw [heap_alloc_old _ _ (by omega)]; exact k5
  refine ⟨(st.src.alloc o).keep (hb.mono (by have := st.gl; omega)), grown_below (grown_alloc (HW.trans st.gr) o) hb, ?_, ?_, by have := hg.size; omega, ?_⟩
  · rw [hg.block _ (by omega) (fun e => (hvb _ e.symm).2 rfl)]; exact a3
  · rw [hg.block _ (by omega) (fun e => (hvb _ e.symm).1 rfl)]; exact a5
  · intro k hk
    rcases hv' with e | e
    · exact hvb k (e ▸ hk)
    · rw [e] at hk; injection hk with hk; omega
theorem after_skip {w wr W : World} {base g : Nat} {A : Option Addr} {c : Nat} {bs : List Int} {v : Value} {n C : Nat} {xs : List Value} {q : Ist} (st : Stv wr base g A c bs w.heap.size v n xs C q W) (HW : w.grownBy wr (some g))
    {r3 r5 : Obj} (h3 : wr.heap[w.heap.size]? = some r3) (h5 : wr.heap[w.heap.size + 1 + 1]? = some r5) (h3g : w.heap.size ≠ g) (h5g : w.heap.size + 1 + 1 ≠ g) (hsz : w.heap.size + 3 ≤ wr.heap.size) :
    Src W base g A c bs ∧ w.grownBy W (some g) ∧ W.heap[w.heap.size]? = some r3 ∧ W.heap[w.heap.size + 1 + 1]? = some r5 ∧ w.heap.size + 3 ≤ W.heap.size :=
  ⟨st.src, HW.trans st.gr, keepG st.gr h3 h3g, keepG st.gr h5 h5g, by have := st.gr.size; omega⟩
def IDr (w : World) (lo : Nat) (B : Option Addr) (d : Nat) (ps : List Ist) : Prop := 0 < ps.length ∧ ps.length ≤ 40 ∧ IstO w lo B ps.length d ps ∧ ∀ p ∈ ps, Iok p
theorem snoc_iok {ps : List Ist} {x : Ist} (h : ∀ p ∈ ps, Iok p) (hx : Iok x) : ∀ p ∈ ps ++ [x], Iok p := by
  intro p hp
  rcases List.mem_append.1 hp with h2 | h2
  · exact h p h2
  · rw [List.mem_singleton.1 h2]; exact hx
theorem snoc_iov {ps : List Ist} {x : Ist} (h : ∀ p ∈ ps, Iov p) (hx : Iov x) : ∀ p ∈ ps ++ [x], Iov p := by
  intro p hp
  rcases List.mem_append.1 hp with h2 | h2
  · exact h p h2
  · rw [List.mem_singleton.1 h2]; exact hx
end Go.Proofs.Ytifioecofeojpaa

/- spec.l06Valid: a valid manifest is drawn. (by gen_dia.py) -/
namespace Go.Proofs.Ytifioecofeojpaa
open Go.ChangeShapes Go.WideShapes Go.ChangeAt Go.RowKit
set_option linter.unusedVariables false

set_option maxRecDepth 100000 in
set_option maxHeartbeats 16000000 in
theorem valid_anyI (g : Nat) (base : Nat) (A : Option Addr) (c : Nat) (bs : List Int) (w : World) (h : Src w base g A c bs) :
    Calls Try.prog 86 #[.pointer (some ⟨g, 0, none⟩)] w (fun e w' => ∃ B d ps, e = .returned (.slice B (List.length ps) d) ∧ ps.length ≤ 7 ∧ IDr w' w.heap.size B d ps ∧ Src w' base g A c bs ∧ w.grownBy w' (some g) ∧ ∀ p ∈ ps, Iov p) := by
  obtain ⟨i0, hi, hz0, hz1, hz2⟩ := info_parts istInfo
  have hgl := h.lt
  obtain ⟨X1, hX1⟩ : ∃ X, X = w.alloc (.cells (tI4.map strI).toArray 9) := ⟨_, rfl⟩
  obtain ⟨X2, hX2⟩ : ∃ X, X = X1.alloc (.cells #[] 95) := ⟨_, rfl⟩
  obtain ⟨X3, hX3⟩ : ∃ X, X = X2.alloc (.cells (tI7.map strI).toArray 9) := ⟨_, rfl⟩
  have e1 : X1.heap.size = w.heap.size + 1 := by rw [hX1]; simp
  have e2 : X2.heap.size = w.heap.size + 1 + 1 := by rw [hX2]; simp [e1]
  have e3 : X3.heap.size = w.heap.size + 3 := by rw [hX3]; simp [e2]
  have k1 : X1.heap[w.heap.size]? = some (.cells (tI4.map strI).toArray 9 (0, 0)) := by rw [hX1]; exact heap_alloc_new _ _
  have k3 : X3.heap[w.heap.size]? = some (.cells (tI4.map strI).toArray 9 (0, 0)) := by
    rw [hX3, hX2, heap_alloc_old _ _ (by rw [← hX2]; omega), heap_alloc_old _ _ (by omega)]; exact k1
  have k5 : X3.heap[w.heap.size + 1 + 1]? = some (.cells (tI7.map strI).toArray 9 (0, 0)) := by rw [hX3, ← e2]; exact heap_alloc_new _ _
  have H0 : X3.ownsRow w.heap.size 95 5 (.slice (some ⟨w.heap.size + 1, 0, none⟩) 0 0) 0 [] := by
    have := (World.ownsRow_made (e := 95) (size := 5) X1 #[] 0 (base := w.heap.size) (by omega) (by decide) (by simp)).alloc (.cells (tI7.map strI).toArray 9)
    rw [hX3, hX2, ← e1]; exact this
  have S3 : Src X3 base g A c bs := by rw [hX3, hX2, hX1]; exact ((h.alloc _).alloc _).alloc _
  have G3 : w.grownBy X3 (some g) := by rw [hX3, hX2, hX1]; exact grown_alloc (grown_alloc (World.grownBy_alloc _ _ _) _) _
  have HX := Lib.hid (show ((w.alloc (.cells (tI4.map strI).toArray 9)).alloc (.cells #[] 95)).alloc (.cells (tI7.map strI).toArray 9) = X3 by rw [hX3, hX2, hX1])
  clear k1 hX1 hX2 hX3 e1 e2
  go_enter Try.func86, Try.ntmps86
  go_wp2_with fail
  go_loopw [4, 6] (fun v n wr => ∃ (i d : Nat) (B : Option Addr) (ps : List Ist), n = .int .i64 i ∧ v = .slice B ps.length d ∧ i ≤ 7 ∧ ps.length ≤ i ∧ (5 < i → 0 < ps.length) ∧ IstO wr w.heap.size B ps.length d ps ∧ Hid (∀ p ∈ ps, Iov p) ∧ Src wr base g A c bs ∧ w.grownBy wr (some g) ∧
    wr.heap[w.heap.size]? = some (.cells (tI4.map strI).toArray 9 (0, 0)) ∧ wr.heap[w.heap.size + 1 + 1]? = some (.cells (tI7.map strI).toArray 9 (0, 0)) ∧ w.heap.size + 3 ≤ wr.heap.size ∧ Hid (∀ k, (Value.slice B ps.length d).ownBlock = some k → k ≠ w.heap.size + 1 + 1 ∧ k ≠ w.heap.size)) (fun _ n _ => (7 - intOf n).toNat)
  case atStart =>
    have e := HX.out
    exact ⟨0, 0, some ⟨w.heap.size + 1, 0, none⟩, [], rfl, rfl, by omega, by simp, by omega, by show World.ownsRow _ _ _ _ _ _ _; first | exact e ▸ H0 | (rw [show _ = X3 from e]; exact H0), Lib.hid (by simp), e ▸ S3, e ▸ G3, e ▸ k3, e ▸ k5, by simp, Lib.hid (fun k hk => by simp [Value.ownBlock] at hk; omega)⟩
  case round =>
    obtain ⟨i, d, B, ps, rfl, rfl, hi7, hpl, hp5, hown, hok, hs, hg, h3, h5, hsz, hvb⟩ := hrel
    by_cases hlt : i < 7
    · obtain ⟨s0, hs0, h50⟩ := text_atI (ts := tI7) (by decide) (k := i) hlt
      have hship : i = 5 → s0 = [115, 104, 105, 112] := fun e => by
        subst e
        have h9 : (tI7.map strI)[5]? = some (.string ⟨#[115, 104, 105, 112]⟩) := rfl
        rw [h9] at h50
        have h8 := congrArg (fun x : Option Value => match x with | some (.string b) => b.data.toList | _ => []) h50
        exact h8.symm
      have hgr := hs.lt
      have h3g : w.heap.size ≠ g := by omega
      have h5g : w.heap.size + 1 + 1 ≠ g := by omega
      have hownL := fun k e => (World.ownsRow.lt hown k e)
      have c5 : wr.cell? ⟨w.heap.size + 1 + 1, i, none⟩ = some (.string ⟨s0.toArray⟩) := by rw [cell_of_row _ _ _ _ _ _ h5]; simpa using h50
      have HOK := Lib.hid hok.out
      have HSH := Lib.hid hship
      have HP5 := Lib.hid hp5
      clear hok hship h X3 HX S3 G3 k3 k5 H0 e3 hp5
      go_wp2_with fail
      refine region_inv (by kernel_rfl) (by kernel_rfl) (RInvV wr base g A c bs w.heap.size (w.heap.size + 1 + 1) i (.slice B ps.length d) (.slice (some ⟨w.heap.size + 1, 0, none⟩) 0 0) s0) ?_ ?_ ?_
      · exact ⟨_, frV_of, ⟨rfl, rfl, rfl, rfl, rfl, rfl, rfl, rfl, rfl, rfl, rfl⟩, hs, ⟨rfl, rfl, rfl, Nat.le_refl _, fun _ _ _ => rfl⟩, .inl ⟨getD_repI _ _, fun k hk hd => by rw [getD_repI] at hd; cases hd⟩⟩
      · intro j dd a W hj hI
        obtain ⟨hun, oi, hoi, hall⟩ := mem_ready.1 hj
        have hj14 : j < 14 := (Array.getElem?_eq_some_iff.1 hoi).1
        obtain ⟨us, rfl, hF, hs, hG, ⟨hd13, hI⟩ | ⟨hI, _⟩⟩ := hI
        · have h3 := keepG hG h3 h3g
          have h5 := keepG hG h5 h5g
          have e0 := hF.u0
          have e3 := hF.u3
          have e5 := hF.u5
          have e6 := hF.u6
          rcases (by omega : j = 0 ∨ j = 1 ∨ j = 2 ∨ j = 3 ∨ j = 4 ∨ j = 5 ∨ j = 6 ∨ j = 7 ∨ j = 8 ∨ j = 9 ∨ j = 10 ∨ j = 11 ∨ j = 12 ∨ j = 13) with rfl | rfl | rfl | rfl | rfl | rfl | rfl | rfl | rfl | rfl | rfl | rfl | rfl | rfl
          all_goals
            obtain rfl := Option.some.inj hoi
            clear hoi hj14 hj hun
          · skip
            refine wpOp_step rfl (fun K hK => ?_)
            simp only [frV, e0, e3, e5, e6]
            go_simp
            refine hK _ _ ⟨updV us 17 (.slice (some ⟨w.heap.size + 1 + 1, 0, none⟩) 7 7), by simp [frV, updV, e0, e3, e5, e6], hF.upd (by decide) _, hs, hG, .inl ⟨(getD_set_ne false (by decide)).trans hd13, goodV_set (j := 0) (by omega) hI (World.grownBy.refl _ _) rfl⟩⟩
          · skip
            refine wpOp_step rfl (fun K hK => ?_)
            simp only [frV, e0, e3, e5, e6]
            go_simp
            refine hK _ _ ⟨updV us 18 (.int .i64 (i : Int)), by simp [frV, updV, e0, e3, e5, e6], hF.upd (by decide) _, hs, hG, .inl ⟨(getD_set_ne false (by decide)).trans hd13, goodV_set (j := 1) (by omega) hI (World.grownBy.refl _ _) rfl⟩⟩
          · have e17 : us 17 = .slice (some ⟨w.heap.size + 1 + 1, 0, none⟩) 7 7 := hI 0 (by omega) (hall ⟨0, .data⟩ (by simp) rfl)
            have e18 : us 18 = .int .i64 (i : Int) := hI 1 (by omega) (hall ⟨1, .data⟩ (by simp) rfl)
            refine wpOp_step rfl (fun K hK => ?_)
            simp only [frV, e17, e18]
            go_simp
            try (rw [if_pos (by omega)]; go_simp)
            refine hK _ _ ⟨updV us 19 (.pointer (some ⟨w.heap.size + 1 + 1, i, none⟩)), by simp [frV, updV, e0, e3, e5, e6, e17, e18], hF.upd (by decide) _, hs, hG, .inl ⟨(getD_set_ne false (by decide)).trans hd13, goodV_set (j := 2) (by omega) hI (World.grownBy.refl _ _) rfl⟩⟩
          · have e19 : us 19 = .pointer (some ⟨w.heap.size + 1 + 1, i, none⟩) := hI 2 (by omega) (hall ⟨2, .data⟩ (by simp) rfl)
            have hcell : W.cell? ⟨w.heap.size + 1 + 1, i, none⟩ = some (.string ⟨s0.toArray⟩) := by rw [cell_of_row _ _ _ _ _ _ h5]; simpa using h50
            refine wpOp_step rfl (fun K hK => ?_)
            simp only [frV, e19]
            go_simp
            refine hK _ _ ⟨updV us 20 (.string ⟨s0.toArray⟩), by simp [frV, updV, e0, e3, e5, e6, e19], hF.upd (by decide) _, hs, hG, .inl ⟨(getD_set_ne false (by decide)).trans hd13, goodV_set (j := 3) (by omega) hI (World.grownBy.refl _ _) rfl⟩⟩
          · skip
            refine wpOp_step rfl (fun K hK => ?_)
            simp only [frV, e0, e3, e5, e6]
            go_simp
            refine hK _ _ ⟨updV us 21 (.slice (some ⟨w.heap.size, 0, none⟩) 4 4), by simp [frV, updV, e0, e3, e5, e6], hF.upd (by decide) _, hs, hG, .inl ⟨(getD_set_ne false (by decide)).trans hd13, goodV_set (j := 4) (by omega) hI (World.grownBy.refl _ _) rfl⟩⟩
          · skip
            refine wpOp_step rfl (fun K hK => ?_)
            simp only [frV, e0, e3, e5, e6]
            go_simp
            refine hK _ _ ⟨updV us 22 (.pointer (some ⟨g, 0, none⟩)), by simp [frV, updV, e0, e3, e5, e6], hF.upd (by decide) _, hs, hG, .inl ⟨(getD_set_ne false (by decide)).trans hd13, goodV_set (j := 5) (by omega) hI (World.grownBy.refl _ _) rfl⟩⟩
          · have e22 : us 22 = .pointer (some ⟨g, 0, none⟩) := hI 5 (by omega) (hall ⟨5, .data⟩ (by simp) rfl)
            refine wpOp_step rfl (fun K hK => ?_)
            simp only [frV, e22]
            go_simp
            go_wp2_with (go_at_call 63; refine (next_any g _ base A c bs _ hs (by omega)).mono ?_; rintro e W2 ⟨r, rfl, r0, r1, hs2, hg2⟩)
            exact ⟨updV us 23 (.int .i64 r), by simp [frV, updV, e0, e3, e5, e6, e22], hF.upd (by decide) _, hs2, (hG.trans hg2), .inl ⟨(getD_set_ne false (by decide)).trans hd13, goodV_set (j := 6) (by omega) hI hg2 (by obtain ⟨m, rfl⟩ := Int.eq_ofNat_of_zero_le r0; exact ⟨m, by omega, rfl⟩)⟩⟩
          · have e21 : us 21 = .slice (some ⟨w.heap.size, 0, none⟩) 4 4 := hI 4 (by omega) (hall ⟨4, .data⟩ (by simp) rfl)
            obtain ⟨r, hr, e23⟩ : ∃ r : Nat, r < 4 ∧ us 23 = .int .i64 r := hI 6 (by omega) (hall ⟨6, .data⟩ (by simp) rfl)
            refine wpOp_step rfl (fun K hK => ?_)
            simp only [frV, e21, e23]
            go_simp
            try (rw [if_pos (by omega)]; go_simp)
            refine hK _ _ ⟨updV us 24 (.pointer (some ⟨w.heap.size, r, none⟩)), by simp [frV, updV, e0, e3, e5, e6, e21, e23], hF.upd (by decide) _, hs, hG, .inl ⟨(getD_set_ne false (by decide)).trans hd13, goodV_set (j := 7) (by omega) hI (World.grownBy.refl _ _) ⟨r, hr, rfl⟩⟩⟩
          · obtain ⟨r, hr, e24⟩ : ∃ r : Nat, r < 4 ∧ us 24 = .pointer (some ⟨w.heap.size, r, none⟩) := hI 7 (by omega) (hall ⟨7, .data⟩ (by simp) rfl)
            obtain ⟨s, hsl, hv⟩ := text_atI (ts := tI4) (by decide) (k := r) hr
            have hcell : W.cell? ⟨w.heap.size, r, none⟩ = some (.string ⟨s.toArray⟩) := by rw [cell_of_row _ _ _ _ _ _ h3]; simpa using hv
            refine wpOp_step rfl (fun K hK => ?_)
            simp only [frV, e24]
            go_simp
            refine hK _ _ ⟨updV us 25 (.string ⟨s.toArray⟩), by simp [frV, updV, e0, e3, e5, e6, e24], hF.upd (by decide) _, hs, hG, .inl ⟨(getD_set_ne false (by decide)).trans hd13, goodV_set (j := 8) (by omega) hI (World.grownBy.refl _ _) ⟨s, rfl, hsl⟩⟩⟩
          · skip
            refine wpOp_step rfl (fun K hK => ?_)
            simp only [frV, e0, e3, e5, e6]
            go_simp
            refine hK _ _ ⟨updV us 26 (.pointer (some ⟨g, 0, none⟩)), by simp [frV, updV, e0, e3, e5, e6], hF.upd (by decide) _, hs, hG, .inl ⟨(getD_set_ne false (by decide)).trans hd13, goodV_set (j := 9) (by omega) hI (World.grownBy.refl _ _) rfl⟩⟩
          · have e26 : us 26 = .pointer (some ⟨g, 0, none⟩) := hI 9 (by omega) (hall ⟨9, .data⟩ (by simp) rfl)
            refine wpOp_step rfl (fun K hK => ?_)
            simp only [frV, e26]
            go_simp
            go_wp2_with (go_at_call 80; refine (good_any g base A c bs _ hs).mono ?_; rintro e W2 ⟨r, rfl, r0, r1, hs2, hg2⟩)
            exact ⟨updV us 27 (.int .i64 r), by simp [frV, updV, e0, e3, e5, e6, e26], hF.upd (by decide) _, hs2, (hG.trans hg2), .inl ⟨(getD_set_ne false (by decide)).trans hd13, goodV_set (j := 10) (by omega) hI hg2 ⟨r, r0, r1, rfl⟩⟩⟩
          · have e20 : us 20 = .string ⟨s0.toArray⟩ := hI 3 (by omega) (hall ⟨3, .data⟩ (by simp) rfl)
            obtain ⟨s, e25, hsl⟩ : ∃ s : List UInt8, us 25 = .string ⟨s.toArray⟩ ∧ s.length ≤ 7 := hI 8 (by omega) (hall ⟨8, .data⟩ (by simp) rfl)
            obtain ⟨x, x0, x1, e27⟩ : ∃ x : Int, -1 ≤ x ∧ x ≤ 1000000001 ∧ us 27 = .int .i64 x := hI 10 (by omega) (hall ⟨10, .data⟩ (by simp) rfl)
            refine wpOp_step rfl (fun K hK => ?_)
            simp only [frV, e20, e25, e27]
            go_simp
            refine hK _ _ ⟨updV us 28 (.agg #[.string ⟨s0.toArray⟩, .int .i64 3, .string ⟨s.toArray⟩, .int .i64 x, .int .i64 0]), by simp [frV, updV, e0, e3, e5, e6, e20, e25, e27], hF.upd (by decide) _, hs, hG, .inl ⟨(getD_set_ne false (by decide)).trans hd13, goodV_set (j := 11) (by omega) hI (World.grownBy.refl _ _) ⟨⟨s0, 3, s, x, 0⟩, rfl, ⟨hs0, hsl, x0, x1⟩, rfl, rfl⟩⟩⟩
          · skip
            refine wpOp_step rfl (fun K hK => ?_)
            simp only [frV]
            go_simp
            refine hK _ _ ⟨updV us 7 (.pointer (some ⟨W.heap.size, 0, none⟩)), by simp [frV, updV, e0, e3, e5, e6], hF.upd (by decide) _, (hs.alloc _), (hG.trans (World.grownBy_alloc _ _ _)), .inl ⟨(getD_set_ne false (by decide)).trans hd13, goodV_set (j := 12) (by omega) hI (World.grownBy_alloc _ _ _) ⟨_, _, _, _, _, _, rfl, heap_alloc_new W _, hG.size, by have := hs.lt; omega⟩⟩⟩
          · obtain ⟨q, e28, hq⟩ : ∃ q : Ist, us 28 = .agg #[.string ⟨q.c.toArray⟩, .int .i64 q.k, .string ⟨q.o.toArray⟩, .int .i64 q.v, .int .i64 q.a] ∧ Ioc q := hI 11 (by omega) (hall ⟨11, .data⟩ (by simp) rfl)
            obtain ⟨C, x0, x1, x2, x3, x4, e7, hC, hlo, hCg⟩ : ∃ C x0 x1 x2 x3 x4, us 7 = .pointer (some ⟨C, 0, none⟩) ∧ Row5 W C x0 x1 x2 x3 x4 ∧ wr.heap.size ≤ C ∧ C ≠ g := hI 12 (by omega) (hall ⟨12, .data⟩ (by simp) rfl)
            refine wpOp_step rfl (fun K hK => ?_)
            simp only [frV, e28, e7]
            obtain ⟨⟨c0, c1, c2, c3, c4⟩, f0, f1, f2, f3, f4⟩ := row5_at hC
            have hRow := put5_row hC (.string ⟨q.c.toArray⟩) (.int .i64 q.k) (.string ⟨q.o.toArray⟩) (.int .i64 q.v) (.int .i64 q.a)
            have hS := hs.keep (put5_below (W := W) (n := g + 1) (C := C) (by omega) (.string ⟨q.c.toArray⟩) (.int .i64 q.k) (.string ⟨q.o.toArray⟩) (.int .i64 q.v) (.int .i64 q.a))
            have hGr := grown_below hG (put5_below (W := W) (n := wr.heap.size) (C := C) hlo (.string ⟨q.c.toArray⟩) (.int .i64 q.k) (.string ⟨q.o.toArray⟩) (.int .i64 q.v) (.int .i64 q.a))
            unfold put5 at hRow hS hGr
            have hall2 : ∀ k, k < 14 → (dd.setIfInBounds 13 true).getD k true = true := by
              intro k hk
              rcases (by omega : k = 0 ∨ k = 1 ∨ k = 2 ∨ k = 3 ∨ k = 4 ∨ k = 5 ∨ k = 6 ∨ k = 7 ∨ k = 8 ∨ k = 9 ∨ k = 10 ∨ k = 11 ∨ k = 12 ∨ k = 13) with rfl | rfl | rfl | rfl | rfl | rfl | rfl | rfl | rfl | rfl | rfl | rfl | rfl | rfl
              all_goals first
                | exact (getD_set_ne true (by decide)).trans (getD_ftI (hall ⟨_, .phase⟩ (by simp) rfl))
                | exact (getD_set_ne true (by decide)).trans (getD_ftI (hall ⟨_, .data⟩ (by simp) rfl))
                | (by_cases hz : 13 < dd.size <;> simp [hz])
            clear hall
            go_simp
            refine hK _ _ ⟨us, by simp [frV, e0, e3, e5, e6, e28, e7], hF, hS, hGr, .inr ⟨hall2, C, q, e7, hRow, hq, hlo, hCg⟩⟩
        · have := hI j hj14
          rw [hun] at this; cases this
      · rintro dd a W hsz2 hall ⟨us, rfl, hF, hs2, hG, ⟨hd13, _⟩ | ⟨_, C, q, e7, hC, hq, hlo, hCg⟩⟩
        · exfalso
          have h9 := hall 13 (by simp)
          have : 13 < dd.size := by rw [hsz2]; simp
          simp [this] at hd13 h9
          rw [hd13] at h9; cases h9
        · have h3' := keepG hG h3 h3g
          have h5' := keepG hG h5 h5g
          have e0 := hF.u0
          have e3 := hF.u3
          have e4 := hF.u4
          have e5 := hF.u5
          have e6 := hF.u6
          have e1 := hF.u1
          have e2 := hF.u2
          have e8 := hF.u8
          have e9 := hF.u9
          have e10 := hF.u10
          have e59 := hF.u59
          have st : Stv wr base g A c bs w.heap.size (.slice B ps.length d) ps.length (ps.flatMap Ist.cells) C q W :=
            ⟨hs2, hG, own_srcI hown hG hgl, hC, hCg, by omega, hlo, fun e => by have := (hownL C e).2; omega, hgl⟩
          have HH := Lib.hid (And.intro h3 h5)
          have HQ := Lib.hid hq
          have HST := Lib.hid st
          have HW := Lib.hid hg
          have hszW := hG.size
          clear hall hsz2 hC hs2 hs hG h3 h5 h3' c5 hown hq st hg
          simp only [frV, e0, e1, e2, e3, e4, e5, e6, e7, e8, e9, e10, e59]
          have c5 : W.cell? ⟨w.heap.size + 1 + 1, i, none⟩ = some (.string ⟨s0.toArray⟩) := by rw [cell_of_row _ _ _ _ _ _ h5']; simpa using h50
          clear h5'
          rcases Bool.eq_false_or_eq_true (s0 == [115, 104, 105, 112]) with hS | hS
          · have st := HST.out
            obtain ⟨⟨r0, r1, r2, r3, r4⟩, f0, f1, f2, f3, f4⟩ := row5_at st.row
            have st1 := st.kind 0
            have S1 := Lib.hid st1
            go_wp2_with fail
            refine (next_any g 25 base A c bs _ S1.out.src (by omega)).mono ?_
            rintro e w2 ⟨r, rfl, ra, rb, s2, g2⟩
            have st2 := S1.out.call s2 g2
            clear st1 s2 g2 st c5
            clear r0 r1 r2 r3 r4 f0 f1 f2 f3 f4
            obtain ⟨⟨r0, r1, r2, r3, r4⟩, f0, f1, f2, f3, f4⟩ := row5_at st2.row
            have c5 : w2.cell? ⟨w.heap.size + 1 + 1, i, none⟩ = some (.string ⟨s0.toArray⟩) := by rw [cell_of_row _ _ _ _ _ _ (keepG st2.gr HH.out.2 h5g)]; simpa using h50
            have hC2 : ¬ C = w.heap.size + 1 + 1 := by have := st2.wC; omega
            have st3 := st2.age r
            clear st2
            have HOA := Lib.hid (st3.own.alloc (.cells #[.string ⟨q.c.toArray⟩, .int .i64 0, .string ⟨q.o.toArray⟩, .int .i64 q.v, .int .i64 r] 95))
            have HRA : Hid (Row5 ((w2.setCell ⟨C, 4, none⟩ (.int .i64 r)).alloc (.cells #[.string ⟨q.c.toArray⟩, .int .i64 0, .string ⟨q.o.toArray⟩, .int .i64 q.v, .int .i64 r] 95)) w2.heap.size (.string ⟨q.c.toArray⟩) (.int .i64 0) (.string ⟨q.o.toArray⟩) (.int .i64 q.v) (.int .i64 r)) := Lib.hid (by have h9 := heap_alloc_new (w2.setCell ⟨C, 4, none⟩ (.int .i64 r)) (.cells #[.string ⟨q.c.toArray⟩, .int .i64 0, .string ⟨q.o.toArray⟩, .int .i64 q.v, .int .i64 r] 95); rw [show (w2.setCell ⟨C, 4, none⟩ (.int .i64 r)).heap.size = w2.heap.size by simp [World.setCell]] at h9; exact h9)
            have HSB : Hid (w.heap.size ≤ ((w2.setCell ⟨C, 4, none⟩ (.int .i64 r)).alloc (.cells #[.string ⟨q.c.toArray⟩, .int .i64 0, .string ⟨q.o.toArray⟩, .int .i64 q.v, .int .i64 r] 95)).heap.size) := Lib.hid (by have h1 := st3.gr.size; have h2 := (below_alloc (w2.setCell ⟨C, 4, none⟩ (.int .i64 r)) (.cells #[.string ⟨q.c.toArray⟩, .int .i64 0, .string ⟨q.o.toArray⟩, .int .i64 q.v, .int .i64 r] 95)).size; omega)
            have HAP := Lib.hid (fun v' w' => after_push (w' := w') (v' := v') (o := (.cells #[.string ⟨q.c.toArray⟩, .int .i64 0, .string ⟨q.o.toArray⟩, .int .i64 q.v, .int .i64 r] 95)) st3 HW.out hvb.out HH.out.1 HH.out.2 h3g h5g hsz)
            clear st3
            go_wp2_with (at_builtin; refine wpList_append_at5 _ rfl (.tmp 55) (.tmp 57) rfl w.heap.size _ ps.length _ rfl HOA.out ⟨w2.heap.size, 0, none⟩ 1 1 [.string ⟨q.c.toArray⟩, .int .i64 0, .string ⟨q.o.toArray⟩, .int .i64 q.v, .int .i64 r] rfl rfl (box_cells5 HRA.out) (by simp [Value.oneCell']) (by omega) HSB.out ?_; intro v' w' hown' hgb hvv)
            obtain ⟨B', d', rfl⟩ := own_form hown'
            obtain ⟨p1, p2, p3, p4, p5, p6⟩ := HAP.out _ _ hgb hvv
            go_roundw
            case rel => exact ⟨i + 1, d', B', ps ++ [⟨q.c, 0, q.o, q.v, r⟩], by go_num, by simp, by omega, by simp; omega, by simp, by simpa [IstO, Ist.cells] using hown', Lib.hid (snoc_iov HOK.out ⟨HQ.out.1, ⟨by have h1 := HQ.out.2.1; simp only; omega, by have h1 := HQ.out.2.1; simp only; omega⟩, by have h1 := HQ.out.2.2; simp only; omega, by have h1 := HQ.out.2.2; simp only; omega⟩), p1, p2, p3, p4, p5, Lib.hid (by simpa using p6)⟩
            case measure => simp [intOf]; omega
          · have hi5 : i ≠ 5 := fun e => by rw [HSH.out e] at hS; simp at hS
            have st := HST.out
            rcases Bool.eq_false_or_eq_true (s0 == [104, 105, 114, 101]) with hH | hH
            · obtain ⟨⟨r0, r1, r2, r3, r4⟩, f0, f1, f2, f3, f4⟩ := row5_at st.row
              have st1 := st.kind 1
              have hC2 : ¬ C = w.heap.size + 1 + 1 := by have := st1.wC; omega
              have S1 := Lib.hid st1
              clear st st1
              go_wp2_with fail
              refine (next_any g 3 base A c bs _ S1.out.src (by omega)).mono ?_
              rintro e w2 ⟨r, rfl, ra, rb, s2, g2⟩
              have st2 := S1.out.call s2 g2
              clear s2 g2 S1 c5
              clear r0 r1 r2 r3 r4 f0 f1 f2 f3 f4
              by_cases hr : 0 < r
              · obtain ⟨⟨r0, r1, r2, r3, r4⟩, f0, f1, f2, f3, f4⟩ := row5_at st2.row
                have HOA := Lib.hid (st2.own.alloc (.cells #[.string ⟨q.c.toArray⟩, .int .i64 1, .string ⟨q.o.toArray⟩, .int .i64 q.v, .int .i64 q.a] 95))
                have HRA : Hid (Row5 (w2.alloc (.cells #[.string ⟨q.c.toArray⟩, .int .i64 1, .string ⟨q.o.toArray⟩, .int .i64 q.v, .int .i64 q.a] 95)) w2.heap.size (.string ⟨q.c.toArray⟩) (.int .i64 1) (.string ⟨q.o.toArray⟩) (.int .i64 q.v) (.int .i64 q.a)) := Lib.hid (by have h9 := heap_alloc_new w2 (.cells #[.string ⟨q.c.toArray⟩, .int .i64 1, .string ⟨q.o.toArray⟩, .int .i64 q.v, .int .i64 q.a] 95); exact h9)
                have HSB : Hid (w.heap.size ≤ (w2.alloc (.cells #[.string ⟨q.c.toArray⟩, .int .i64 1, .string ⟨q.o.toArray⟩, .int .i64 q.v, .int .i64 q.a] 95)).heap.size) := Lib.hid (by have h1 := st2.gr.size; have h2 := (below_alloc w2 (.cells #[.string ⟨q.c.toArray⟩, .int .i64 1, .string ⟨q.o.toArray⟩, .int .i64 q.v, .int .i64 q.a] 95)).size; omega)
                have HAP := Lib.hid (fun v' w' => after_push (w' := w') (v' := v') (o := (.cells #[.string ⟨q.c.toArray⟩, .int .i64 1, .string ⟨q.o.toArray⟩, .int .i64 q.v, .int .i64 q.a] 95)) st2 HW.out hvb.out HH.out.1 HH.out.2 h3g h5g hsz)
                clear st2
                go_wp2_with (at_builtin; refine wpList_append_at5 _ rfl (.tmp 55) (.tmp 57) rfl w.heap.size _ ps.length _ rfl HOA.out ⟨w2.heap.size, 0, none⟩ 1 1 [.string ⟨q.c.toArray⟩, .int .i64 1, .string ⟨q.o.toArray⟩, .int .i64 q.v, .int .i64 q.a] rfl rfl (box_cells5 HRA.out) (by simp [Value.oneCell']) (by omega) HSB.out ?_; intro v' w' hown' hgb hvv)
                obtain ⟨B', d', rfl⟩ := own_form hown'
                obtain ⟨p1, p2, p3, p4, p5, p6⟩ := HAP.out _ _ hgb hvv
                go_roundw
                case rel => exact ⟨i + 1, d', B', ps ++ [⟨q.c, 1, q.o, q.v, q.a⟩], by go_num, by simp, by omega, by simp; omega, by simp, by simpa [IstO, Ist.cells] using hown', Lib.hid (snoc_iov HOK.out ⟨HQ.out.1, ⟨by have h1 := HQ.out.2.1; simp only; omega, by have h1 := HQ.out.2.1; simp only; omega⟩, by have h1 := HQ.out.2.2; simp only; omega, by have h1 := HQ.out.2.2; simp only; omega⟩), p1, p2, p3, p4, p5, Lib.hid (by simpa using p6)⟩
                case measure => simp [intOf]; omega
              · have HAP := Lib.hid (after_skip st2 HW.out HH.out.1 HH.out.2 h3g h5g hsz)
                have HOW := Lib.hid st2.own
                clear st2
                go_wp2_with fail
                obtain ⟨p1, p2, p3, p4, p5⟩ := HAP.out
                go_roundw
                case rel => exact ⟨i + 1, d, B, ps, by go_num, rfl, by omega, by omega, fun h9 => HP5.out (by omega), HOW.out, HOK, p1, p2, p3, p4, p5, hvb⟩
                case measure => simp [intOf]; omega
            · rcases Bool.eq_false_or_eq_true (s0 == [102, 117, 101, 108]) with hF | hF
              · obtain ⟨⟨r0, r1, r2, r3, r4⟩, f0, f1, f2, f3, f4⟩ := row5_at st.row
                have st1 := st.kind 2
                have hC2 : ¬ C = w.heap.size + 1 + 1 := by have := st1.wC; omega
                have S1 := Lib.hid st1
                clear st st1
                go_wp2_with fail
                refine (next_any g 3 base A c bs _ S1.out.src (by omega)).mono ?_
                rintro e w2 ⟨r, rfl, ra, rb, s2, g2⟩
                have st2 := S1.out.call s2 g2
                clear s2 g2 S1 c5
                clear r0 r1 r2 r3 r4 f0 f1 f2 f3 f4
                by_cases hr : 0 < r
                · obtain ⟨⟨r0, r1, r2, r3, r4⟩, f0, f1, f2, f3, f4⟩ := row5_at st2.row
                  have HOA := Lib.hid (st2.own.alloc (.cells #[.string ⟨q.c.toArray⟩, .int .i64 2, .string ⟨q.o.toArray⟩, .int .i64 q.v, .int .i64 q.a] 95))
                  have HRA : Hid (Row5 (w2.alloc (.cells #[.string ⟨q.c.toArray⟩, .int .i64 2, .string ⟨q.o.toArray⟩, .int .i64 q.v, .int .i64 q.a] 95)) w2.heap.size (.string ⟨q.c.toArray⟩) (.int .i64 2) (.string ⟨q.o.toArray⟩) (.int .i64 q.v) (.int .i64 q.a)) := Lib.hid (by have h9 := heap_alloc_new w2 (.cells #[.string ⟨q.c.toArray⟩, .int .i64 2, .string ⟨q.o.toArray⟩, .int .i64 q.v, .int .i64 q.a] 95); exact h9)
                  have HSB : Hid (w.heap.size ≤ (w2.alloc (.cells #[.string ⟨q.c.toArray⟩, .int .i64 2, .string ⟨q.o.toArray⟩, .int .i64 q.v, .int .i64 q.a] 95)).heap.size) := Lib.hid (by have h1 := st2.gr.size; have h2 := (below_alloc w2 (.cells #[.string ⟨q.c.toArray⟩, .int .i64 2, .string ⟨q.o.toArray⟩, .int .i64 q.v, .int .i64 q.a] 95)).size; omega)
                  have HAP := Lib.hid (fun v' w' => after_push (w' := w') (v' := v') (o := (.cells #[.string ⟨q.c.toArray⟩, .int .i64 2, .string ⟨q.o.toArray⟩, .int .i64 q.v, .int .i64 q.a] 95)) st2 HW.out hvb.out HH.out.1 HH.out.2 h3g h5g hsz)
                  clear st2
                  go_wp2_with (at_builtin; refine wpList_append_at5 _ rfl (.tmp 55) (.tmp 57) rfl w.heap.size _ ps.length _ rfl HOA.out ⟨w2.heap.size, 0, none⟩ 1 1 [.string ⟨q.c.toArray⟩, .int .i64 2, .string ⟨q.o.toArray⟩, .int .i64 q.v, .int .i64 q.a] rfl rfl (box_cells5 HRA.out) (by simp [Value.oneCell']) (by omega) HSB.out ?_; intro v' w' hown' hgb hvv)
                  obtain ⟨B', d', rfl⟩ := own_form hown'
                  obtain ⟨p1, p2, p3, p4, p5, p6⟩ := HAP.out _ _ hgb hvv
                  go_roundw
                  case rel => exact ⟨i + 1, d', B', ps ++ [⟨q.c, 2, q.o, q.v, q.a⟩], by go_num, by simp, by omega, by simp; omega, by simp, by simpa [IstO, Ist.cells] using hown', Lib.hid (snoc_iov HOK.out ⟨HQ.out.1, ⟨by have h1 := HQ.out.2.1; simp only; omega, by have h1 := HQ.out.2.1; simp only; omega⟩, by have h1 := HQ.out.2.2; simp only; omega, by have h1 := HQ.out.2.2; simp only; omega⟩), p1, p2, p3, p4, p5, Lib.hid (by simpa using p6)⟩
                  case measure => simp [intOf]; omega
                · have HAP := Lib.hid (after_skip st2 HW.out HH.out.1 HH.out.2 h3g h5g hsz)
                  have HOW := Lib.hid st2.own
                  clear st2
                  go_wp2_with fail
                  obtain ⟨p1, p2, p3, p4, p5⟩ := HAP.out
                  go_roundw
                  case rel => exact ⟨i + 1, d, B, ps, by go_num, rfl, by omega, by omega, fun h9 => HP5.out (by omega), HOW.out, HOK, p1, p2, p3, p4, p5, hvb⟩
                  case measure => simp [intOf]; omega
              · have S1 := Lib.hid st
                clear st
                go_wp2_with fail
                refine (next_any g 3 base A c bs _ S1.out.src (by omega)).mono ?_
                rintro e w2 ⟨r, rfl, ra, rb, s2, g2⟩
                have st2 := S1.out.call s2 g2
                clear s2 g2 S1 c5
                by_cases hr : 0 < r
                · obtain ⟨⟨r0, r1, r2, r3, r4⟩, f0, f1, f2, f3, f4⟩ := row5_at st2.row
                  have HOA := Lib.hid (st2.own.alloc (.cells #[.string ⟨q.c.toArray⟩, .int .i64 q.k, .string ⟨q.o.toArray⟩, .int .i64 q.v, .int .i64 q.a] 95))
                  have HRA : Hid (Row5 (w2.alloc (.cells #[.string ⟨q.c.toArray⟩, .int .i64 q.k, .string ⟨q.o.toArray⟩, .int .i64 q.v, .int .i64 q.a] 95)) w2.heap.size (.string ⟨q.c.toArray⟩) (.int .i64 q.k) (.string ⟨q.o.toArray⟩) (.int .i64 q.v) (.int .i64 q.a)) := Lib.hid (by have h9 := heap_alloc_new w2 (.cells #[.string ⟨q.c.toArray⟩, .int .i64 q.k, .string ⟨q.o.toArray⟩, .int .i64 q.v, .int .i64 q.a] 95); exact h9)
                  have HSB : Hid (w.heap.size ≤ (w2.alloc (.cells #[.string ⟨q.c.toArray⟩, .int .i64 q.k, .string ⟨q.o.toArray⟩, .int .i64 q.v, .int .i64 q.a] 95)).heap.size) := Lib.hid (by have h1 := st2.gr.size; have h2 := (below_alloc w2 (.cells #[.string ⟨q.c.toArray⟩, .int .i64 q.k, .string ⟨q.o.toArray⟩, .int .i64 q.v, .int .i64 q.a] 95)).size; omega)
                  have HAP := Lib.hid (fun v' w' => after_push (w' := w') (v' := v') (o := (.cells #[.string ⟨q.c.toArray⟩, .int .i64 q.k, .string ⟨q.o.toArray⟩, .int .i64 q.v, .int .i64 q.a] 95)) st2 HW.out hvb.out HH.out.1 HH.out.2 h3g h5g hsz)
                  clear st2
                  go_wp2_with (at_builtin; refine wpList_append_at5 _ rfl (.tmp 55) (.tmp 57) rfl w.heap.size _ ps.length _ rfl HOA.out ⟨w2.heap.size, 0, none⟩ 1 1 [.string ⟨q.c.toArray⟩, .int .i64 q.k, .string ⟨q.o.toArray⟩, .int .i64 q.v, .int .i64 q.a] rfl rfl (box_cells5 HRA.out) (by simp [Value.oneCell']) (by omega) HSB.out ?_; intro v' w' hown' hgb hvv)
                  obtain ⟨B', d', rfl⟩ := own_form hown'
                  obtain ⟨p1, p2, p3, p4, p5, p6⟩ := HAP.out _ _ hgb hvv
                  go_roundw
                  case rel => exact ⟨i + 1, d', B', ps ++ [⟨q.c, q.k, q.o, q.v, q.a⟩], by go_num, by simp, by omega, by simp; omega, by simp, by simpa [IstO, Ist.cells] using hown', Lib.hid (snoc_iov HOK.out ⟨HQ.out.1, ⟨by have h1 := HQ.out.2.1; simp only; omega, by have h1 := HQ.out.2.1; simp only; omega⟩, by have h1 := HQ.out.2.2; simp only; omega, by have h1 := HQ.out.2.2; simp only; omega⟩), p1, p2, p3, p4, p5, Lib.hid (by simpa using p6)⟩
                  case measure => simp [intOf]; omega
                · have HAP := Lib.hid (after_skip st2 HW.out HH.out.1 HH.out.2 h3g h5g hsz)
                  have HOW := Lib.hid st2.own
                  clear st2
                  go_wp2_with fail
                  obtain ⟨p1, p2, p3, p4, p5⟩ := HAP.out
                  go_roundw
                  case rel => exact ⟨i + 1, d, B, ps, by go_num, rfl, by omega, by omega, fun h9 => HP5.out (by omega), HOW.out, HOK, p1, p2, p3, p4, p5, hvb⟩
                  case measure => simp [intOf]; omega
    · have e7 : i = 7 := by omega
      have hok2 := hok.out
      clear hok h X3 HX S3 G3 k3 k5 H0 e3
      go_wp2_with fail
      go_ret
      exact ⟨B, d, ps, rfl, by omega, ⟨hp5 (by omega), by omega, hown, fun p hp => (hok2 p hp).1⟩, hs, hg, hok2⟩
end Go.Proofs.Ytifioecofeojpaa

/- spec.l06Draw: a manifest or another list is drawn. (by gen_did.py) -/
namespace Go.Proofs.Ytifioecofeojpaa
open Go.ChangeShapes Go.WideShapes Go.ChangeAt Go.RowKit
set_option linter.unusedVariables false

theorem str_appI (a b : List UInt8) : (⟨a.toArray⟩ : ByteArray) ++ (⟨b.toArray⟩ : ByteArray) = ⟨(a ++ b).toArray⟩ := ByteArray.mk_append_mk ..
def alphI : List UInt8 := [97, 98, 99, 100, 101, 102, 103, 104, 105, 106, 107, 108]
theorem zcodeI (k : Nat) : ∃ s : List UInt8, s.length ≤ 2 ∧ (⟨#[122]⟩ : ByteArray) ++ (⟨alphI.toArray⟩ : ByteArray).extract k (k + 1) = ⟨s.toArray⟩ := by
  refine ⟨122 :: (alphI.drop k).take 1, by rw [List.length_cons, List.length_take]; omega, ?_⟩
  have e : (⟨alphI.toArray⟩ : ByteArray).extract k (k + 1) = ⟨((alphI.drop k).take 1).toArray⟩ := by
    apply ByteArray.ext
    simp [ByteArray.data_extract, List.extract_eq_take_drop, show k + 1 - k = 1 by omega]
  rw [e, show (⟨#[122]⟩ : ByteArray) = ⟨[122].toArray⟩ from rfl, str_appI]; simp
theorem flat_set_j {ps : List Ist} {k : Nat} {x y : Ist} {j : Nat} {u : Value} (hx : ps[k]? = some x) (hy : y.cells = x.cells.set j u) (hj : j < 5) : (ps.set k y).flatMap Ist.cells = (ps.flatMap Ist.cells).set (k * 5 + j) u := by
  induction ps generalizing k with
  | nil => simp at hx
  | cons p ps ih =>
    cases k with
    | zero =>
      simp only [List.getElem?_cons_zero, Option.some.injEq] at hx
      subst hx
      rw [List.set_cons_zero, List.flatMap_cons, List.flatMap_cons, hy, Nat.zero_mul, Nat.zero_add, List.set_append, if_pos (by show j < 5; exact hj)]
    | succ k =>
      simp only [List.getElem?_cons_succ] at hx
      have e : (k + 1) * 5 + j = p.cells.length + (k * 5 + j) := by show _ = 5 + (k * 5 + j); omega
      rw [List.set_cons_succ, List.flatMap_cons, List.flatMap_cons, ih hx, e, List.set_append, if_neg (by omega), Nat.add_sub_cancel_left]
theorem set_iok {ps : List Ist} {k : Nat} {y : Ist} (h : ∀ p ∈ ps, Iok p) (hy : Iok y) : ∀ p ∈ ps.set k y, Iok p := fun p hp => by
  rcases List.mem_or_eq_of_mem_set hp with h1 | h1
  · exact h p h1
  · rw [h1]; exact hy
theorem own_someI {w : World} {base n q : Nat} {O : Option Addr} {L : List Ist} (h : IstO w base O n q L) (hn : 0 < n) : ∃ g, O = some ⟨g, 0, none⟩ := by
  rcases h.2 with ⟨_, h2⟩ | ⟨g, cap, cur, h1, _⟩
  · omega
  · injection h1 with h1 _ _; exact ⟨g, h1⟩
/-- A drawn element is changed in one cell. -/
theorem set_drawn {w W : World} {base g b d k : Nat} {A : Option Addr} {c : Nat} {bs : List Int} {ps : List Ist} {x y : Ist} {j : Nat} {u : Value} (ho : IstO W w.heap.size (some ⟨b, 0, none⟩) ps.length d ps) (hs : Src W base g A c bs) (hG : w.grownBy W (some g)) (hgl : g < w.heap.size)
    (hx : ps[k]? = some x) (hy : y.cells = x.cells.set j u) (hj : j < 5) (hok : ∀ p ∈ ps, Iok p) (hyk : Iok y) (h0 : 0 < ps.length) (h40 : ps.length ≤ 40) :
    IDr (W.setCell ⟨b, k * 5 + j, none⟩ u) w.heap.size (some ⟨b, 0, none⟩) d (ps.set k y) ∧ (ps.set k y).length = ps.length ∧ Src (W.setCell ⟨b, k * 5 + j, none⟩ u) base g A c bs ∧ w.grownBy (W.setCell ⟨b, k * 5 + j, none⟩ u) (some g) := by
  have hb := (ho.lt b rfl).1
  have hst := (ho.stored (k * 5 + j) u).1
  rw [← flat_set_j hx hy hj] at hst
  refine ⟨⟨by rw [List.length_set]; exact h0, by rw [List.length_set]; exact h40, by rw [List.length_set]; exact hst, set_iok hok hyk⟩, List.length_set, hs.keep ((Below.refl _ _).setCell (p := ⟨b, k * 5 + j, none⟩) (by show g + 1 ≤ b; omega) _), grown_below hG ((Below.refl _ _).setCell (p := ⟨b, k * 5 + j, none⟩) hb _)⟩
def NewID (w : World) (base g : Nat) (A : Option Addr) (c : Nat) (bs : List Int) (e : Ending) (w' : World) : Prop :=
  ∃ B d ps, e = .returned (.slice B (List.length ps) d) ∧ IDr w' w.heap.size B d ps ∧ Src w' base g A c bs ∧ w.grownBy w' (some g)
set_option maxRecDepth 100000 in
set_option maxHeartbeats 8000000 in
theorem draw_id (g : Nat) (base : Nat) (A : Option Addr) (c : Nat) (bs : List Int) (w : World) (h : Src w base g A c bs) :
    Calls Try.prog 62 #[.pointer (some ⟨g, 0, none⟩)] w (NewID w base g A c bs) := by
  obtain ⟨i0, hi, hz0, hz1, hz2⟩ := info_parts istInfo
  have hgl := h.lt
  go_enter Try.func62, Try.ntmps62
  go_wp2_with fail
  refine (valid_anyI g base A c bs _ h).mono ?_
  rintro e w1 ⟨B, d, ps, rfl, hp7, ⟨hp0, hp40, o1, hok⟩, s1, g1, _⟩
  have HOK := Lib.hid hok
  clear h hok hp40
  go_wp2_with fail
  refine (next_any g _ base A c bs _ s1 (by omega)).mono ?_
  rintro e w2 ⟨kz, rfl, ka, kb, s2, g2⟩
  obtain ⟨k, rfl⟩ := Int.eq_ofNat_of_zero_le ka
  have hk : k < ps.length := by omega
  have o2 := own_srcI o1 g2 hgl
  have G2 := g1.trans g2
  clear o1 s1 g1 g2
  go_wp2_with fail
  refine (next_any g _ base A c bs _ s2 (by omega)).mono ?_
  rintro e w3 ⟨r, rfl, ra, rb, s3, g3⟩
  have o3 : IstO w3 w.heap.size B ps.length d ps := own_srcI o2 g3 hgl
  have G3 := G2.trans g3
  clear o2 s2 G2 g3 kb
  obtain ⟨b, rfl⟩ := own_someI o3 hp0
  obtain ⟨x, hx⟩ : ∃ x, ps[k]? = some x := ⟨_, List.getElem?_eq_getElem hk⟩
  have hxk := HOK.out x (List.mem_of_getElem? hx)
  have HX := Lib.hid hx
  have hkj : ∀ j, j < 5 → k * 5 + j < ps.length * 5 := fun j hj => by omega
  clear hx
  rcases (by omega : r = 0 ∨ r = 1 ∨ r = 2 ∨ r = 3 ∨ r = 4 ∨ 4 < r) with rfl | rfl | rfl | rfl | rfl | hr
  · go_wp2_with fail
    refine (next_any g 6 base A c bs _ s3 (by omega)).mono ?_
    rintro e w4 ⟨y, rfl, ya, yb, s4, g4⟩
    have o4 : IstO w4 w.heap.size (some ⟨b, 0, none⟩) ps.length d ps := own_srcI o3 g4 hgl
    have HD := Lib.hid (set_drawn (j := 1) (u := .int .i64 (y - 1)) (y := { x with k := y - 1 }) o4 s4 (G3.trans g4) hgl HX.out rfl (by decide) HOK.out hxk hp0 (by omega))
    have c0 : w4.cell? ⟨b, k * 5 + 1, none⟩ = some (.int .i64 x.k) := by
      rw [o4.cellAt (k * 5 + 1) (hkj 1 (by decide))]
      exact flat_at Ist.cells 5 (fun _ => rfl) ps k 1 _ HX.out (by decide)
    have f0 := o4.frozenAt (k * 5 + 1)
    clear o3 s3 G3 g4 o4 s4 hkj
    go_wp2_with fail
    go_ret
    obtain ⟨p1, p2, p3, p4⟩ := HD.out
    exact ⟨some ⟨b, 0, none⟩, d, _, p2 ▸ rfl, p1, p3, p4⟩
  · go_wp2_with fail
    refine (amount_any g base A c bs _ s3).mono ?_
    rintro e w4 ⟨y, rfl, ya, yb, s4, g4⟩
    have o4 : IstO w4 w.heap.size (some ⟨b, 0, none⟩) ps.length d ps := own_srcI o3 g4 hgl
    have HD := Lib.hid (set_drawn (j := 3) (u := .int .i64 y) (y := { x with v := y }) o4 s4 (G3.trans g4) hgl HX.out rfl (by decide) HOK.out ⟨hxk.1, hxk.2.1, ya, yb⟩ hp0 (by omega))
    have c0 : w4.cell? ⟨b, k * 5 + 3, none⟩ = some (.int .i64 x.v) := by
      rw [o4.cellAt (k * 5 + 3) (hkj 3 (by decide))]
      exact flat_at Ist.cells 5 (fun _ => rfl) ps k 3 _ HX.out (by decide)
    have f0 := o4.frozenAt (k * 5 + 3)
    clear o3 s3 G3 g4 o4 s4 hkj
    go_wp2_with fail
    go_ret
    obtain ⟨p1, p2, p3, p4⟩ := HD.out
    exact ⟨some ⟨b, 0, none⟩, d, _, p2 ▸ rfl, p1, p3, p4⟩
  · have hc := (IstO.row o3).at hk
    obtain ⟨b', off, q, e, hl, hq, hq4⟩ := hc
    obtain rfl : x = q := by have h1 := HX.out; have h2 := hq.out; rw [h1] at h2; exact Option.some.inj h2
    simp only [Option.some.injEq, Addr.mk.injEq, and_true] at e
    obtain ⟨rfl, rfl⟩ := e
    have c0 := hq4.c0; have c1 := hq4.c1; have c2 := hq4.c2; have c3 := hq4.c3; have c4 := hq4.c4
    simp only [Nat.zero_add] at c0 c1 c2 c3 c4
    have HO := Lib.hid o3
    have HG := Lib.hid G3
    have HS := Lib.hid s3
    clear hq hq4 hkj o3 G3 s3
    go_wp2_with (at_builtin; refine wpList_push _ rfl (.tmp 33) (.tmp 38) 41 rfl w.heap.size 95 i0 _ 5 56 Try.underlying41 hi hz0 hz1 hz2 rfl (by decide) (.slice (some ⟨b, 0, none⟩) ps.length d) ps.length _ rfl HO.out [.string ⟨x.c.toArray⟩, .int .i64 x.k, .string ⟨x.o.toArray⟩, .int .i64 x.v, .int .i64 x.a] rfl (by simp [Value.oneCell']) rfl (by unfold maxLen; omega) (by omega) HG.out.size ?_; intro v' w' hown' hb')
    go_ret
    obtain ⟨B', d', rfl⟩ := own_form hown'
    exact ⟨B', d', ps ++ [x], by simp, ⟨by simp, by simp; omega, by simpa [IstO, Ist.cells] using hown', snoc_iok HOK.out hxk⟩, HS.out.keep (hb'.mono (by omega)), grown_below HG.out hb'⟩
  · go_wp2_with fail
    refine (code12_any g base A c bs _ s3).mono ?_
    rintro e w4 ⟨s, rfl, sl, s4, g4⟩
    have o4 : IstO w4 w.heap.size (some ⟨b, 0, none⟩) ps.length d ps := own_srcI o3 g4 hgl
    have HD := Lib.hid (set_drawn (j := 2) (u := .string ⟨s.toArray⟩) (y := { x with o := s }) o4 s4 (G3.trans g4) hgl HX.out rfl (by decide) HOK.out ⟨hxk.1, sl, hxk.2.2⟩ hp0 (by omega))
    have c0 : w4.cell? ⟨b, k * 5 + 2, none⟩ = some (.string ⟨x.o.toArray⟩) := by
      rw [o4.cellAt (k * 5 + 2) (hkj 2 (by decide))]
      exact flat_at Ist.cells 5 (fun _ => rfl) ps k 2 _ HX.out (by decide)
    have f0 := o4.frozenAt (k * 5 + 2)
    clear o3 s3 G3 g4 o4 s4 hkj
    go_wp2_with fail
    go_ret
    obtain ⟨p1, p2, p3, p4⟩ := HD.out
    exact ⟨some ⟨b, 0, none⟩, d, _, p2 ▸ rfl, p1, p3, p4⟩
  · go_wp2_with fail
    go_loopw [3, 5] (fun v n wr => ∃ (k : Nat) (B : Option Addr) (d : Nat) (ps : List Ist), n = .int .i64 k ∧ v = .slice B ps.length d ∧ k ≤ 12 ∧ 0 < ps.length ∧ ps.length ≤ 7 + k ∧ IstO wr w.heap.size B ps.length d ps ∧ Hid (∀ p ∈ ps, Iok p) ∧ Src wr base g A c bs ∧ w.grownBy wr (some g)) (fun _ n _ => (12 - intOf n).toNat)
    case atStart => exact ⟨0, _, _, ps, rfl, rfl, by omega, hp0, by omega, o3, HOK, s3, G3⟩
    case round =>
      clear o3 HOK s3 G3 hp7 hp0 hk HX hxk hkj ka
      obtain ⟨k, B, d, ps, rfl, rfl, k1, hp0, kl, hown, ht, hs, hg⟩ := hrel
      go_wp2_with fail
      refine (next_any g _ base A c bs _ hs (by omega)).mono ?_
      rintro e w3 ⟨r3, rfl, a3, b3, h3, g3⟩
      have o3 : IstO w3 w.heap.size B ps.length d ps := own_srcI hown g3 hgl
      have G3 := hg.trans g3
      clear hown hg g3 hs
      by_cases hc : (ps.length : Int) < 10 + r3 ∧ (k : Int) < 12
      · obtain ⟨hc1, hc2⟩ := hc
        obtain ⟨s, hsl, hse⟩ := zcodeI k
        have HSE := Lib.hid hse
        clear hse
        have z0 : (⟨#[97, 98, 99, 100, 101, 102, 103, 104, 105, 106, 107, 108]⟩ : ByteArray).size = 12 := rfl
        have q1 : (k : Int) ≤ (k : Int) + 1 ∧ (k : Int) + 1 ≤ 12 := by omega
        have q4 : ((k : Int) + 1).toNat = k + 1 := by omega
        go_wp2_with (at_builtin; refine wpList_push _ rfl (.tmp 62) (.tmp 69) 41 rfl w.heap.size 95 i0 _ 5 56 Try.underlying41 hi hz0 hz1 hz2 rfl (by decide) (.slice B ps.length d) ps.length _ rfl o3 [.string ((⟨#[122]⟩ : ByteArray) ++ (⟨alphI.toArray⟩ : ByteArray).extract k (k + 1)), .int .i64 3, .string ⟨#[97, 108, 98, 97]⟩, .int .i64 100, .int .i64 0] rfl (by simp [Value.oneCell']) rfl (by unfold maxLen; omega) (by omega) G3.size ?_; intro v' w' hown' hb')
        rw [HSE.out] at hown'
        obtain ⟨B', d', rfl⟩ := own_form hown'
        go_wp2_with fail
        go_roundw
        case rel => exact ⟨k + 1, B', d', ps ++ [⟨s, 3, [97, 108, 98, 97], 100, 0⟩], by go_num, by simp, by omega, by simp, by simp; omega, by simpa [IstO, Ist.cells] using hown', Lib.hid (snoc_iok ht.out ⟨by simp; omega, by simp, by simp, by simp⟩), h3.keep (hb'.mono (by omega)), grown_below G3 hb'⟩
        case measure => simp [intOf]; omega
      · by_cases hc1 : (ps.length : Int) < 10 + r3
        · have hc2 : ¬ (k : Int) < 12 := fun h => hc ⟨hc1, h⟩
          clear hc
          go_wp2_with fail
          go_ret
          exact ⟨B, d, ps, rfl, ⟨hp0, by omega, o3, ht.out⟩, h3, G3⟩
        · clear hc
          go_wp2_with fail
          go_ret
          exact ⟨B, d, ps, rfl, ⟨hp0, by omega, o3, ht.out⟩, h3, G3⟩
  · have n0 : (r == 0) = false := beq_eq_false_iff_ne.2 (by omega)
    have n1 : (r == 1) = false := beq_eq_false_iff_ne.2 (by omega)
    have n2 : (r == 2) = false := beq_eq_false_iff_ne.2 (by omega)
    have n3 : (r == 3) = false := beq_eq_false_iff_ne.2 (by omega)
    have n4 : (r == 4) = false := beq_eq_false_iff_ne.2 (by omega)
    have hok := HOK.out
    clear HX HOK
    go_wp2_with fail
    go_ret
    exact ⟨some ⟨b, 0, none⟩, d, ps, rfl, ⟨hp0, by omega, o3, hok⟩, s3, G3⟩
end Go.Proofs.Ytifioecofeojpaa

