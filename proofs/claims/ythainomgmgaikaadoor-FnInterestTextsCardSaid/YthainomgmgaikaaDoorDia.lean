/- The draws of chapter 6: codes, valid manifests. (by gen_dia.py) -/
import Derived.Test.YthainomgmgaikaaDoorDrawm
import Derived.Test.YthainomgmgaikaaDoorMan
import Derived.Test.YthainomgmgaikaaDoorRin
import Derived.Maps.AppendAt
namespace Go.Proofs.YthainomgmgaikaaDoor
open Go.ChangeShapes Go.WideShapes Go.ChangeAt Go.RowKit
set_option linter.unusedVariables false

def tI12 : List (List UInt8) := [[97, 108, 98, 97], [98, 111, 114, 111], [99, 97, 112, 101], [100, 111, 114, 97], [101, 108, 105, 110], [97, 108, 98, 97], [98, 111, 114, 111], [99, 97, 112, 101], [100, 111, 114, 97], [], [65, 108, 98, 97], [116, 111, 111, 108, 111, 110, 103]]
def tI11 : List (List UInt8) := [[99, 111, 97, 108], [99, 111, 114, 110], [102, 117, 101, 108], [104, 105, 114, 101], [105, 114, 111, 110], [115, 104, 105, 112], [119, 111, 111, 108], [105, 114, 111, 110], [119, 111, 111, 108], [110, 111, 110, 101], []]
def tI7 : List (List UInt8) := [[99, 111, 97, 108], [99, 111, 114, 110], [102, 117, 101, 108], [104, 105, 114, 101], [105, 114, 111, 110], [115, 104, 105, 112], [119, 111, 111, 108]]
def tI4 : List (List UInt8) := [[97, 108, 98, 97], [98, 111, 114, 111], [99, 97, 112, 101], [100, 111, 114, 97]]
def strI (s : List UInt8) : Value := .string ⟨s.toArray⟩
theorem lt_ofI {wr : World} {g : Nat} {o : Obj} (h : wr.heap[g]? = some o) : g < wr.heap.size := lt_some h
theorem getD_repI (n k : Nat) : (Array.replicate n false).getD k false = false := by
  rcases Nat.lt_or_ge k n with h | h
  · simp [h]
  · simp [Array.getElem?_eq_none, h]
theorem text_atI {ts : List (List UInt8)} (h : ∀ s ∈ ts, s.length ≤ 7) {k : Nat} (hk : k < ts.length) : ∃ s : List UInt8, s.length ≤ 7 ∧ (ts.map strI)[k]? = some (.string ⟨s.toArray⟩) :=
  ⟨ts[k], h _ (List.getElem_mem hk), by simp [hk, strI]⟩
def DrewT (w : World) (base g : Nat) (A : Option Addr) (c : Nat) (bs : List Int) (e : Ending) (w' : World) : Prop :=
  ∃ s : List UInt8, e = .returned (.string ⟨s.toArray⟩) ∧ s.length ≤ 7 ∧ Src w' base g A c bs ∧ w.grownBy w' (some g)

theorem code12_any (g : Nat) (base : Nat) (A : Option Addr) (c : Nat) (bs : List Int) (w : World) (h : Src w base g A c bs) :
    Calls Tryd.prog 56 #[.pointer (some ⟨g, 0, none⟩)] w (DrewT w base g A c bs) := by
  have hgl := h.lt
  have hrow : (w.alloc (.cells (tI12.map strI).toArray 9)).heap[w.heap.size]? = some (.cells (tI12.map strI).toArray 9 (0, 0)) := heap_alloc_new w _
  go_enter Tryd.func56, Tryd.ntmps56
  go_wp2_with fail
  refine (next_any g _ base A c bs _ (h.alloc _) (by omega)).mono ?_
  rintro e w1 ⟨r, rfl, r0, r1, h1, g1⟩
  obtain ⟨k, rfl⟩ := Int.eq_ofNat_of_zero_le r0
  have hk : k < 12 := by omega
  obtain ⟨s, hs, hv⟩ := text_atI (ts := tI12) (by decide) (k := k) hk
  have hB := keepG g1 hrow (by omega)
  have hcell : w1.cell? ⟨w.heap.size, k, none⟩ = some (.string ⟨s.toArray⟩) := by rw [cell_of_row _ _ _ _ _ _ hB]; simpa using hv
  clear hB hrow hv
  go_wp2_with fail
  go_ret
  exact ⟨s, rfl, hs, h1, (World.grownBy_alloc _ _ _).trans g1⟩
/-! ### spec.l06Valid: one round's drawn region -/
def updV (us : Nat → Value) (j : Nat) (v : Value) : Nat → Value := fun n => if n = j then v else us n
def frV (us : Nat → Value) : Act := { tmps := #[us 0, us 1, us 2, us 3, us 4, us 5, us 6, us 7, us 8, us 9, us 10, us 11, us 12, us 13, us 14, us 15, us 16, us 17, us 18, us 19, us 20, us 21, us 22, us 23, us 24, us 25, us 26, us 27, us 28, us 29, us 30, us 31, us 32, us 33, us 34, us 35, us 36, us 37, us 38, us 39, us 40, us 41, us 42, us 43, us 44, us 45, us 46, us 47, us 48, us 49, us 50, us 51, us 52, us 53, us 54, us 55, us 56, us 57, us 58, us 59], defers := [] }
theorem frV_of {x0 x1 x2 x3 x4 x5 x6 x7 x8 x9 x10 x11 x12 x13 x14 x15 x16 x17 x18 x19 x20 x21 x22 x23 x24 x25 x26 x27 x28 x29 x30 x31 x32 x33 x34 x35 x36 x37 x38 x39 x40 x41 x42 x43 x44 x45 x46 x47 x48 x49 x50 x51 x52 x53 x54 x55 x56 x57 x58 x59 : Value} : ({ tmps := #[x0, x1, x2, x3, x4, x5, x6, x7, x8, x9, x10, x11, x12, x13, x14, x15, x16, x17, x18, x19, x20, x21, x22, x23, x24, x25, x26, x27, x28, x29, x30, x31, x32, x33, x34, x35, x36, x37, x38, x39, x40, x41, x42, x43, x44, x45, x46, x47, x48, x49, x50, x51, x52, x53, x54, x55, x56, x57, x58, x59], defers := [] } : Act) = frV (fun k => #[x0, x1, x2, x3, x4, x5, x6, x7, x8, x9, x10, x11, x12, x13, x14, x15, x16, x17, x18, x19, x20, x21, x22, x23, x24, x25, x26, x27, x28, x29, x30, x31, x32, x33, x34, x35, x36, x37, x38, x39, x40, x41, x42, x43, x44, x45, x46, x47, x48, x49, x50, x51, x52, x53, x54, x55, x56, x57, x58, x59].getD k undef) := rfl
/-- What the region only reads. -/
structure FixV (g B3 B5 i : Nat) (V4 V9 : Value) (us : Nat → Value) : Prop where
  u0 : us 0 = .pointer (some ⟨g, 0, none⟩)
  u1 : us 1 = undef
  u2 : us 2 = .slice none 0 0
  u3 : us 3 = .slice (some ⟨B3, 0, none⟩) 4 4
  u4 : us 4 = V4
  u5 : us 5 = .slice (some ⟨B5, 0, none⟩) 7 7
  u6 : us 6 = .int .i64 i
  u8 : us 8 = .slice (some ⟨B3, 0, none⟩) 4 4
  u9 : us 9 = V9
  u10 : us 10 = .slice (some ⟨B5, 0, none⟩) 7 7
  u59 : us 59 = undef
theorem FixV.upd {g B3 B5 i : Nat} {V4 V9 : Value} {us : Nat → Value} (h : FixV g B3 B5 i V4 V9 us) {j : Nat} (hj : j = 7 ∨ (17 ≤ j ∧ j ≤ 28)) (v : Value) : FixV g B3 B5 i V4 V9 (updV us j v) :=
  ⟨by unfold updV; rw [if_neg (by omega)]; exact h.u0, by unfold updV; rw [if_neg (by omega)]; exact h.u1, by unfold updV; rw [if_neg (by omega)]; exact h.u2, by unfold updV; rw [if_neg (by omega)]; exact h.u3, by unfold updV; rw [if_neg (by omega)]; exact h.u4, by unfold updV; rw [if_neg (by omega)]; exact h.u5, by unfold updV; rw [if_neg (by omega)]; exact h.u6, by unfold updV; rw [if_neg (by omega)]; exact h.u8, by unfold updV; rw [if_neg (by omega)]; exact h.u9, by unfold updV; rw [if_neg (by omega)]; exact h.u10, by unfold updV; rw [if_neg (by omega)]; exact h.u59⟩
def Row5 (W : World) (C : Nat) (x0 x1 x2 x3 x4 : Value) : Prop := W.heap[C]? = some (.cells #[x0, x1, x2, x3, x4] 25 (0, 0))
/-- What a drawn interest keeps to. -/
def Iok (q : Ist) : Prop := q.c.length ≤ 7 ∧ q.o.length ≤ 7 ∧ -1 ≤ q.v ∧ q.v ≤ 1000000001
def Ioc (q : Ist) : Prop := Iok q ∧ q.k = 3 ∧ q.a = 0
def Iov (q : Ist) : Prop := Iok q ∧ (0 ≤ q.k ∧ q.k ≤ 3) ∧ 0 ≤ q.a ∧ q.a ≤ 60
def GoodV (g lo B3 B5 i : Nat) (s0 : List UInt8) (k : Nat) (v : Value) (W : World) : Prop :=
  match k with
  | 0 => v = .slice (some ⟨B5, 0, none⟩) 7 7
  | 1 => v = .int .i64 i
  | 2 => v = .pointer (some ⟨B5, i, none⟩)
  | 3 => v = .string ⟨s0.toArray⟩
  | 4 => v = .slice (some ⟨B3, 0, none⟩) 4 4
  | 5 => v = .pointer (some ⟨g, 0, none⟩)
  | 6 => ∃ r : Nat, r < 4 ∧ v = .int .i64 r
  | 7 => ∃ r : Nat, r < 4 ∧ v = .pointer (some ⟨B3, r, none⟩)
  | 8 => ∃ s : List UInt8, v = .string ⟨s.toArray⟩ ∧ s.length ≤ 7
  | 9 => v = .pointer (some ⟨g, 0, none⟩)
  | 10 => ∃ x : Int, -1 ≤ x ∧ x ≤ 1000000001 ∧ v = .int .i64 x
  | 11 => ∃ q : Ist, v = .agg #[.string ⟨q.c.toArray⟩, .int .i64 q.k, .string ⟨q.o.toArray⟩, .int .i64 q.v, .int .i64 q.a] ∧ Ioc q
  | _ => ∃ C x0 x1 x2 x3 x4, v = .pointer (some ⟨C, 0, none⟩) ∧ Row5 W C x0 x1 x2 x3 x4 ∧ lo ≤ C ∧ C ≠ g
theorem GoodV.mono {g lo B3 B5 i k : Nat} {s0 : List UInt8} {v : Value} {W W' : World} (h : GoodV g lo B3 B5 i s0 k v W) (hg : W.grownBy W' (some g)) : GoodV g lo B3 B5 i s0 k v W' := by
  unfold GoodV at *
  split at h
  all_goals first
    | exact h
    | (obtain ⟨C, x0, x1, x2, x3, x4, e, h1, h2, h3⟩ := h
       exact ⟨C, x0, x1, x2, x3, x4, e, keepG hg h1 h3, h2, h3⟩)
def dstV (k : Nat) : Nat := if k = 12 then 7 else k + 17
theorem goodV_set {g lo B3 B5 i j : Nat} {s0 : List UInt8} {d : Array Bool} {us : Nat → Value} {v : Value} {W W' : World} (hj : j < 13) (h : ∀ k, k < 13 → d.getD k false = true → GoodV g lo B3 B5 i s0 k (us (dstV k)) W) (hg : W.grownBy W' (some g)) (hn : GoodV g lo B3 B5 i s0 j v W') :
    ∀ k, k < 13 → (d.setIfInBounds j true).getD k false = true → GoodV g lo B3 B5 i s0 k (updV us (dstV j) v (dstV k)) W' := by
  intro k hk hd
  by_cases e : j = k
  · subst e; unfold updV; rw [if_pos rfl]; exact hn
  · rw [getD_set_ne false e] at hd
    have hne : dstV k ≠ dstV j := by unfold dstV; split <;> split <;> omega
    unfold updV
    rw [if_neg hne]
    exact (h k hk hd).mono hg
/-- The condition. -/
def RInvV (w : World) (base g : Nat) (A : Option Addr) (c : Nat) (bs : List Int) (B3 B5 i : Nat) (V4 V9 : Value) (s0 : List UInt8) (d : Array Bool) (a : Act) (W : World) : Prop :=
  ∃ us, a = frV us ∧ FixV g B3 B5 i V4 V9 us ∧ Src W base g A c bs ∧ w.grownBy W (some g) ∧
    ((d.getD 13 false = false ∧ ∀ k, k < 13 → d.getD k false = true → GoodV g w.heap.size B3 B5 i s0 k (us (dstV k)) W) ∨
     ((∀ k, k < 14 → d.getD k true = true) ∧ ∃ C q, us 7 = .pointer (some ⟨C, 0, none⟩) ∧ Row5 W C (.string ⟨(q : Ist).c.toArray⟩) (.int .i64 q.k) (.string ⟨q.o.toArray⟩) (.int .i64 q.v) (.int .i64 q.a) ∧ Ioc q ∧ w.heap.size ≤ C ∧ C ≠ g))
theorem row5_at {W : World} {C : Nat} {x0 x1 x2 x3 x4 : Value} (h : Row5 W C x0 x1 x2 x3 x4) :
    (W.cell? ⟨C, 0, none⟩ = some x0 ∧ W.cell? ⟨C, 1, none⟩ = some x1 ∧ W.cell? ⟨C, 2, none⟩ = some x2 ∧ W.cell? ⟨C, 3, none⟩ = some x3 ∧ W.cell? ⟨C, 4, none⟩ = some x4) ∧
    W.frozen? ⟨C, 0, none⟩ = false ∧ W.frozen? ⟨C, 1, none⟩ = false ∧ W.frozen? ⟨C, 2, none⟩ = false ∧ W.frozen? ⟨C, 3, none⟩ = false ∧ W.frozen? ⟨C, 4, none⟩ = false :=
  ⟨⟨by rw [cell_of_row _ _ _ _ _ _ h]; rfl, by rw [cell_of_row _ _ _ _ _ _ h]; rfl, by rw [cell_of_row _ _ _ _ _ _ h]; rfl, by rw [cell_of_row _ _ _ _ _ _ h]; rfl, by rw [cell_of_row _ _ _ _ _ _ h]; rfl⟩,
   frozen_of_row W C 0 _ _ h, frozen_of_row W C 1 _ _ h, frozen_of_row W C 2 _ _ h, frozen_of_row W C 3 _ _ h, frozen_of_row W C 4 _ _ h⟩
/-- The stores of one whole interest. -/
def put5 (W : World) (C : Nat) (a0 a1 a2 a3 a4 : Value) : World := ((((W.setCell ⟨C, 0, none⟩ a0).setCell ⟨C, 1, none⟩ a1).setCell ⟨C, 2, none⟩ a2).setCell ⟨C, 3, none⟩ a3).setCell ⟨C, 4, none⟩ a4
theorem put5_row {W : World} {C : Nat} {x0 x1 x2 x3 x4 : Value} (h : Row5 W C x0 x1 x2 x3 x4) (a0 a1 a2 a3 a4 : Value) : Row5 (put5 W C a0 a1 a2 a3 a4) C a0 a1 a2 a3 a4 := by
  have h1 : Row5 (W.setCell ⟨C, 0, none⟩ a0) C a0 x1 x2 x3 x4 := by unfold Row5; rw [heap_setCell_same W C 0 _ _ _ h]; rfl
  have h2 : Row5 ((W.setCell ⟨C, 0, none⟩ a0).setCell ⟨C, 1, none⟩ a1) C a0 a1 x2 x3 x4 := by unfold Row5; rw [heap_setCell_same _ C 1 _ _ _ h1]; rfl
  have h3 : Row5 (((W.setCell ⟨C, 0, none⟩ a0).setCell ⟨C, 1, none⟩ a1).setCell ⟨C, 2, none⟩ a2) C a0 a1 a2 x3 x4 := by unfold Row5; rw [heap_setCell_same _ C 2 _ _ _ h2]; rfl
  have h4 : Row5 ((((W.setCell ⟨C, 0, none⟩ a0).setCell ⟨C, 1, none⟩ a1).setCell ⟨C, 2, none⟩ a2).setCell ⟨C, 3, none⟩ a3) C a0 a1 a2 a3 x4 := by unfold Row5; rw [heap_setCell_same _ C 3 _ _ _ h3]; rfl
  unfold Row5 put5
  rw [heap_setCell_same _ C 4 _ _ _ h4]; rfl
theorem put5_below {W : World} {n C : Nat} (hn : n ≤ C) (a0 a1 a2 a3 a4 : Value) : Below n W (put5 W C a0 a1 a2 a3 a4) :=
  (((((Below.refl n W).setCell (p := ⟨C, 0, none⟩) hn _).setCell (p := ⟨C, 1, none⟩) hn _).setCell (p := ⟨C, 2, none⟩) hn _).setCell (p := ⟨C, 3, none⟩) hn _).setCell (p := ⟨C, 4, none⟩) hn _
theorem getD_ftI {d : Array Bool} {i : Nat} (h : d.getD i false = true) : d.getD i true = true := by
  rcases Nat.lt_or_ge i d.size with h1 | h1
  · simp [h1] at h ⊢; exact h
  · simp [Array.getElem?_eq_none h1] at h ⊢

/-- What a round's end needs: the drawn source, the row at hand, the box. -/
structure Stv (w : World) (base g : Nat) (A : Option Addr) (c : Nat) (bs : List Int) (lo : Nat) (v : Value) (n : Nat) (xs : List Value) (C : Nat) (q : Ist) (W : World) : Prop where
  src : Src W base g A c bs
  gr : w.grownBy W (some g)
  own : W.ownsRow lo 25 5 v n xs
  row : Row5 W C (.string ⟨q.c.toArray⟩) (.int .i64 q.k) (.string ⟨q.o.toArray⟩) (.int .i64 q.v) (.int .i64 q.a)
  cg : C ≠ g
  gC : g < C
  wC : w.heap.size ≤ C
  cv : v.ownBlock ≠ some C
  gl : g < lo
theorem own_srcI {w w' : World} {base g n : Nat} {e : TypeId} {k : Nat} {v : Value} {xs : List Value} (h : w.ownsRow base e k v n xs) (hg : w.grownBy w' (some g)) (hl : g < base) : w'.ownsRow base e k v n xs := by
  refine World.ownsRow.kept h hg ?_
  cases hv : v.ownBlock with
  | none => exact .inl rfl
  | some k => right; intro e; have := (h.lt k hv).1; injection e with e; omega
theorem grown_cellI (w : World) (b i : Nat) (v : Value) : w.grownBy (w.setCell ⟨b, i, none⟩ v) (some b) :=
  ⟨rfl, rfl, rfl, by simp [World.setCell], fun k _ hk => heap_setCell_other w _ k v (fun e => hk (by rw [e]))⟩
section
variable {w : World} {base g : Nat} {A : Option Addr} {c : Nat} {bs : List Int} {lo : Nat} {v : Value} {n : Nat} {xs : List Value} {C : Nat} {q : Ist} {W W' : World}
theorem Stv.call (h : Stv w base g A c bs lo v n xs C q W) (hs : Src W' base g A c bs) (hg : W.grownBy W' (some g)) : Stv w base g A c bs lo v n xs C q W' :=
  ⟨hs, h.gr.trans hg, own_srcI h.own hg h.gl, keepG hg h.row h.cg, h.cg, h.gC, h.wC, h.cv, h.gl⟩
theorem Stv.kind (h : Stv w base g A c bs lo v n xs C q W) (k : Int) : Stv w base g A c bs lo v n xs C { q with k := k } (W.setCell ⟨C, 1, none⟩ (.int .i64 k)) :=
  ⟨h.src.keep ((Below.refl _ _).setCell (p := ⟨C, 1, none⟩) h.gC _), grown_below h.gr ((Below.refl _ _).setCell (p := ⟨C, 1, none⟩) h.wC _), World.ownsRow.kept h.own (grown_cellI W C 1 _) (.inr h.cv), by unfold Row5; rw [heap_setCell_same W C 1 _ _ _ h.row]; rfl, h.cg, h.gC, h.wC, h.cv, h.gl⟩
theorem Stv.age (h : Stv w base g A c bs lo v n xs C q W) (k : Int) : Stv w base g A c bs lo v n xs C { q with a := k } (W.setCell ⟨C, 4, none⟩ (.int .i64 k)) :=
  ⟨h.src.keep ((Below.refl _ _).setCell (p := ⟨C, 4, none⟩) h.gC _), grown_below h.gr ((Below.refl _ _).setCell (p := ⟨C, 4, none⟩) h.wC _), World.ownsRow.kept h.own (grown_cellI W C 4 _) (.inr h.cv), by unfold Row5; rw [heap_setCell_same W C 4 _ _ _ h.row]; rfl, h.cg, h.gC, h.wC, h.cv, h.gl⟩
end
theorem wpList_append_at5 (w : World) {ops : Array Oper} {rest : List Oper} {o : Oper} {a : Act} {Q : Exit → Act → World → Prop} (hgd : o.guard = none) (s x : Operand)
    (ho : o.op = .call { callee := .builtin .append, args := #[s, x], argTypes := #[47, 47] }) (lo : Nat) (v : Value) (n : Nat) (xs : List Value) (hs : a.eval s = v) (hown : w.ownsRow lo 25 5 v n xs)
    (ad : Addr) (m c : Nat) (news : List Value) (hx : a.eval x = .slice (some ad) m c) (hl : news.length = m * 5) (hnews : ∀ j u, news[j]? = some u → w.cell? (ad.add j) = some u) (h1 : ∀ u ∈ news, u.oneCell' = true) (h63 : n + m ≤ 1000) (hbase : lo ≤ w.heap.size)
    (h : ∀ v' w', w'.ownsRow lo 25 5 v' (n + m) (xs ++ news) → w.grownBy w' v.ownBlock → (v'.ownBlock = v.ownBlock ∨ v'.ownBlock = some w.heap.size) → wpList Tryd.prog ops Q rest (a.put o.dst v') w') : wpList Tryd.prog ops Q (o :: rest) a w := by
  obtain ⟨i0, hi, hz0, hz1, hz2⟩ := info_parts istInfo
  obtain ⟨v', w', hr, h2, h3, h4, h5⟩ := run_append_own_at (P := Tryd.prog) w lo 47 o.type 25 i0 _ 5 56 Tryd.underlying47 hi hz0 hz1 hz2 rfl (by decide) v n xs hown ad m c news hl hnews h1 (by unfold maxLen; omega) (by omega) hbase
  refine wpList_plain hgd fun K hK => ?_
  unfold Oper.wp execOp
  simp only [ho, resolve, invoke, builtin, Sem.run_bind, Sem.run_pure, Result.andThen_ok, List.map_toArray, List.map_cons, List.map_nil, hs, hx, hr]
  exact hK _ _ (h v' w' h2 h3 h5)
theorem box_cells5 {W : World} {vb : Nat} {x0 x1 x2 x3 x4 : Value} (h : Row5 W vb x0 x1 x2 x3 x4) : ∀ j u, [x0, x1, x2, x3, x4][j]? = some u → W.cell? ((⟨vb, 0, none⟩ : Addr).add j) = some u := fun j u hu => by
  have e : ((⟨vb, 0, none⟩ : Addr).add j) = ⟨vb, j, none⟩ := by unfold Addr.add; split <;> simp_all
  rw [e, cell_of_row _ _ _ _ _ _ h, ← hu]
  simp
/-- Behind the append of a round. -/
theorem after_push {w wr W w' : World} {base g : Nat} {A : Option Addr} {c : Nat} {bs : List Int} {v v' : Value} {n C : Nat} {xs : List Value} {q : Ist} {o : Obj} (st : Stv wr base g A c bs w.heap.size v n xs C q W) (HW : w.grownBy wr (some g)) (hvb : ∀ k, v.ownBlock = some k → k ≠ w.heap.size + 1 + 1 ∧ k ≠ w.heap.size)
    {r3 r5 : Obj} (h3 : wr.heap[w.heap.size]? = some r3) (h5 : wr.heap[w.heap.size + 1 + 1]? = some r5) (h3g : w.heap.size ≠ g) (h5g : w.heap.size + 1 + 1 ≠ g) (hsz : w.heap.size + 3 ≤ wr.heap.size)
    (hg : (W.alloc o).grownBy w' v.ownBlock) (hv' : v'.ownBlock = v.ownBlock ∨ v'.ownBlock = some (W.alloc o).heap.size) :
    Src w' base g A c bs ∧ w.grownBy w' (some g) ∧ w'.heap[w.heap.size]? = some r3 ∧ w'.heap[w.heap.size + 1 + 1]? = some r5 ∧ w.heap.size + 3 ≤ w'.heap.size ∧ ∀ k, v'.ownBlock = some k → k ≠ w.heap.size + 1 + 1 ∧ k ≠ w.heap.size := by
  have hs1 := st.gr.size
  have hsA : (W.alloc o).heap.size = W.heap.size + 1 := by simp
  have hb : Below w.heap.size (W.alloc o) w' := (Below.refl _ _).grown hg (by omega) (fun k hk => (st.own.lt k hk).1)
  have k3 := keepG st.gr h3 h3g
  have k5 := keepG st.gr h5 h5g
  have a3 : (W.alloc o).heap[w.heap.size]? = some r3 := by rw [heap_alloc_old _ _ (by omega)]; exact k3
  have a5 : (W.alloc o).heap[w.heap.size + 1 + 1]? = some r5 := by rw [heap_alloc_old _ _ (by omega)]; exact k5
  refine ⟨(st.src.alloc o).keep (hb.mono (by have := st.gl; omega)), grown_below (grown_alloc (HW.trans st.gr) o) hb, ?_, ?_, by have := hg.size; omega, ?_⟩
  · rw [hg.block _ (by omega) (fun e => (hvb _ e.symm).2 rfl)]; exact a3
  · rw [hg.block _ (by omega) (fun e => (hvb _ e.symm).1 rfl)]; exact a5
  · intro k hk
    rcases hv' with e | e
    · exact hvb k (e ▸ hk)
    · rw [e] at hk; injection hk with hk; omega
theorem after_skip {w wr W : World} {base g : Nat} {A : Option Addr} {c : Nat} {bs : List Int} {v : Value} {n C : Nat} {xs : List Value} {q : Ist} (st : Stv wr base g A c bs w.heap.size v n xs C q W) (HW : w.grownBy wr (some g))
    {r3 r5 : Obj} (h3 : wr.heap[w.heap.size]? = some r3) (h5 : wr.heap[w.heap.size + 1 + 1]? = some r5) (h3g : w.heap.size ≠ g) (h5g : w.heap.size + 1 + 1 ≠ g) (hsz : w.heap.size + 3 ≤ wr.heap.size) :
    Src W base g A c bs ∧ w.grownBy W (some g) ∧ W.heap[w.heap.size]? = some r3 ∧ W.heap[w.heap.size + 1 + 1]? = some r5 ∧ w.heap.size + 3 ≤ W.heap.size :=
  ⟨st.src, HW.trans st.gr, keepG st.gr h3 h3g, keepG st.gr h5 h5g, by have := st.gr.size; omega⟩
def IDr (w : World) (lo : Nat) (B : Option Addr) (d : Nat) (ps : List Ist) : Prop := 0 < ps.length ∧ ps.length ≤ 40 ∧ IstO w lo B ps.length d ps ∧ ∀ p ∈ ps, Iok p
theorem snoc_iok {ps : List Ist} {x : Ist} (h : ∀ p ∈ ps, Iok p) (hx : Iok x) : ∀ p ∈ ps ++ [x], Iok p := by
  intro p hp
  rcases List.mem_append.1 hp with h2 | h2
  · exact h p h2
  · rw [List.mem_singleton.1 h2]; exact hx
theorem snoc_iov {ps : List Ist} {x : Ist} (h : ∀ p ∈ ps, Iov p) (hx : Iov x) : ∀ p ∈ ps ++ [x], Iov p := by
  intro p hp
  rcases List.mem_append.1 hp with h2 | h2
  · exact h p h2
  · rw [List.mem_singleton.1 h2]; exact hx
end Go.Proofs.YthainomgmgaikaaDoor
