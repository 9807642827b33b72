import Derived.Test.YtjcklmhgjdmjoaaMDrwE
import Derived.Test.YtjcklmhgjdmjoaaMDate
import Derived.Test.YtjcklmhgjdmjoaaMEvt
import Derived.Test.YtjcklmhgjdmjoaaRin
import Derived.Laws.ResultCell
import Derived.Test.YtjcklmhgjdmjoaaMEvr
import Derived.Test.YtjcklmhgjdmjoaaMRate
/- A drawn code; a drawn event. (by gen_dre.py) -/
namespace Go.Proofs.Ytjcklmhgjdmjoaa
open Go.ChangeShapes Go.WideShapes Go.ChangeAt Go.RowKit
set_option linter.unusedVariables false

def textsE11 : List (List UInt8) := [[99, 111, 97, 108], [99, 111, 114, 110], [102, 117, 101, 108], [104, 105, 114, 101], [105, 114, 111, 110], [115, 104, 105, 112], [119, 111, 111, 108], [105, 114, 111, 110], [119, 111, 111, 108], [110, 111, 110, 101], []]
def textsE7 : List (List UInt8) := [[115, 104, 105, 112], [115, 104, 105, 112], [99, 111, 114, 110], [105, 114, 111, 110], [119, 111, 111, 108], [104, 105, 114, 101], [102, 117, 101, 108]]
def strE (s : List UInt8) : Value := .string ⟨s.toArray⟩
theorem getD_repE (n k : Nat) : (Array.replicate n false).getD k false = false := by
  rcases Nat.lt_or_ge k n with h | h
  · simp [h]
  · simp [Array.getElem?_eq_none, h]
theorem text_atE {ts : List (List UInt8)} (h : ∀ s ∈ ts, s.length ≤ 7) {k : Nat} (hk : k < ts.length) : ∃ s : List UInt8, s.length ≤ 7 ∧ (ts.map strE)[k]? = some (.string ⟨s.toArray⟩) :=
  ⟨ts[k], h _ (List.getElem_mem hk), by simp [hk, strE]⟩
def DrewE (w : World) (base g : Nat) (A : Option Addr) (c : Nat) (bs : List Int) (e : Ending) (w' : World) : Prop :=
  ∃ s : List UInt8, e = .returned (.string ⟨s.toArray⟩) ∧ s.length ≤ 7 ∧ Src w' base g A c bs ∧ w.grownBy w' (some g)
theorem codeE_any (g : Nat) (base : Nat) (A : Option Addr) (c : Nat) (bs : List Int) (w : World) (h : Src w base g A c bs) :
    Calls Try.prog 107 #[.pointer (some ⟨g, 0, none⟩)] w (DrewE w base g A c bs) := by
  have hgl := h.lt
  have hrow : (w.alloc (.cells (textsE11.map strE).toArray 9)).heap[w.heap.size]? = some (.cells (textsE11.map strE).toArray 9 (0, 0)) := heap_alloc_new w _
  go_enter Try.func107, Try.ntmps107
  go_wp2_with fail
  refine (next_any g _ base A c bs _ (h.alloc _) (by omega)).mono ?_
  rintro e w1 ⟨r, rfl, r0, r1, h1, g1⟩
  obtain ⟨k, rfl⟩ := Int.eq_ofNat_of_zero_le r0
  have hk : k < 11 := by omega
  obtain ⟨s, hs, hv⟩ := text_atE (ts := textsE11) (by decide) (k := k) hk
  have hB := keepG g1 hrow (by omega)
  have hcell : w1.cell? ⟨w.heap.size, k, none⟩ = some (.string ⟨s.toArray⟩) := by rw [cell_of_row _ _ _ _ _ _ hB]; simpa using hv
  clear hB hrow hv
  go_wp2_with fail
  go_ret
  exact ⟨s, rfl, hs, h1, (World.grownBy_alloc _ _ _).trans g1⟩

/-- The codes lie in block B. -/
def StrE (W : World) (B : Nat) : Prop := W.heap[B]? = some (.cells (textsE7.map strE).toArray 9 (0, 0))
def RowE (W : World) (C : Nat) (x0 x1 x2 x3 x4 x5 x6 : Value) : Prop := W.heap[C]? = some (.cells #[x0, x1, x2, x3, x4, x5, x6] 26 (0, 0))
/-- What a drawn event keeps to. -/
def Deq (q : Evt) : Prop := q.c.length ≤ 7
/-- What operation k has left in its slot. -/
def GoodE (g lo : Nat) (k : Nat) (v : Value) (W : World) : Prop :=
  match k with
  | 0 => v = .pointer (some ⟨g, 0, none⟩)
  | 1 => ∃ r : Int, 0 ≤ r ∧ r ≤ 29 ∧ v = .int .i64 r
  | 2 => ∃ r : Int, v = .int .i64 r
  | 3 => v = .pointer (some ⟨g, 0, none⟩)
  | 4 => ∃ r : Int, 0 ≤ r ∧ r ≤ 6 ∧ v = .int .i64 r
  | 5 => ∃ B, v = .slice (some ⟨B, 0, none⟩) 7 7 ∧ StrE W B ∧ B ≠ g
  | 6 => v = .pointer (some ⟨g, 0, none⟩)
  | 7 => ∃ r : Nat, r < 7 ∧ v = .int .i64 r
  | 8 => ∃ B r : Nat, r < 7 ∧ v = .pointer (some ⟨B, r, none⟩) ∧ StrE W B ∧ B ≠ g
  | 9 => ∃ s : List UInt8, v = .string ⟨s.toArray⟩ ∧ s.length ≤ 7
  | 10 => v = .pointer (some ⟨g, 0, none⟩)
  | 11 => ∃ r : Int, v = .int .i64 r
  | 12 => v = .pointer (some ⟨g, 0, none⟩)
  | 13 => ∃ r : Int, 0 ≤ r ∧ r ≤ 3 ∧ v = .int .i64 r
  | 14 => ∃ b : Bool, v = .bool b
  | 15 => v = .pointer (some ⟨g, 0, none⟩)
  | 16 => ∃ r : Int, 0 ≤ r ∧ r ≤ 2 ∧ v = .int .i64 r
  | 17 => ∃ b : Bool, v = .bool b
  | 18 => v = .pointer (some ⟨g, 0, none⟩)
  | 19 => ∃ r : Int, 0 ≤ r ∧ r ≤ 3 ∧ v = .int .i64 r
  | 20 => ∃ b : Bool, v = .bool b
  | 21 => ∃ q : Evt, v = .agg #[.int .i64 q.d, .int .i64 q.k, .string ⟨q.c.toArray⟩, .int .i64 q.a, .bool q.p, .bool q.v, .bool q.r] ∧ Deq q
  | _ => ∃ C x0 x1 x2 x3 x4 x5 x6, v = .pointer (some ⟨C, 0, none⟩) ∧ RowE W C x0 x1 x2 x3 x4 x5 x6 ∧ lo ≤ C ∧ C ≠ g
theorem GoodE.mono {g lo k : Nat} {v : Value} {W W' : World} (h : GoodE g lo k v W) (hg : W.grownBy W' (some g)) : GoodE g lo k v W' := by
  unfold GoodE at *
  split at h
  all_goals first
    | exact h
    | (obtain ⟨B, e, h1, h2⟩ := h; exact ⟨B, e, keepG hg h1 h2, h2⟩)
    | (obtain ⟨B, r, h0, e, h1, h2⟩ := h; exact ⟨B, r, h0, e, keepG hg h1 h2, h2⟩)
    | (obtain ⟨C, x0, x1, x2, x3, x4, x5, x6, e, h1, h2, h3⟩ := h
       exact ⟨C, x0, x1, x2, x3, x4, x5, x6, e, keepG hg h1 h3, h2, h3⟩)
def dstE (k : Nat) : Nat := if k = 22 then 3 else k + 4
def updE (vs : Nat → Value) (j : Nat) (v : Value) : Nat → Value := fun n => if n = j then v else vs n
def frmE (g R : Nat) (vs : Nat → Value) : Act := { tmps := #[.pointer (some ⟨g, 0, none⟩), undef, .pointer (some ⟨R, 0, none⟩), vs 3, vs 4, vs 5, vs 6, vs 7, vs 8, vs 9, vs 10, vs 11, vs 12, vs 13, vs 14, vs 15, vs 16, vs 17, vs 18, vs 19, vs 20, vs 21, vs 22, vs 23, vs 24, vs 25, undef, undef, undef, undef, undef, undef, undef, undef, undef, undef, undef, undef, undef, undef, undef, undef, undef, undef, undef, undef, undef, undef, undef, undef], defers := [] }
theorem goodE_set {g lo i : Nat} {d : Array Bool} {vs : Nat → Value} {v : Value} {W W' : World} (hi : i < 23) (h : ∀ k, k < 23 → d.getD k false = true → GoodE g lo k (vs (dstE k)) W) (hg : W.grownBy W' (some g)) (hn : GoodE g lo i v W') :
    ∀ k, k < 23 → (d.setIfInBounds i true).getD k false = true → GoodE g lo k (updE vs (dstE i) v (dstE k)) W' := by
  intro k hk hd
  by_cases e : i = k
  · subst e; unfold updE; rw [if_pos rfl]; exact hn
  · rw [getD_set_ne false e] at hd
    have hne : dstE k ≠ dstE i := by unfold dstE; split <;> split <;> omega
    unfold updE
    rw [if_neg hne]
    exact (h k hk hd).mono hg
/-- The condition. -/
def RInvE (w : World) (base g : Nat) (A : Option Addr) (c : Nat) (bs : List Int) (R : Nat) (d : Array Bool) (a : Act) (W : World) : Prop :=
  ∃ vs, a = frmE g R vs ∧ Src W base g A c bs ∧ w.grownBy W (some g) ∧
    ((d.getD 23 false = false ∧ ∀ k, k < 23 → d.getD k false = true → GoodE g w.heap.size k (vs (dstE k)) W) ∨
     ((∀ k, k < 24 → d.getD k true = true) ∧ ∃ C q, vs 3 = .pointer (some ⟨C, 0, none⟩) ∧ RowE W C (.int .i64 (q : Evt).d) (.int .i64 (q : Evt).k) (.string ⟨(q : Evt).c.toArray⟩) (.int .i64 (q : Evt).a) (.bool (q : Evt).p) (.bool (q : Evt).v) (.bool (q : Evt).r) ∧ Deq q ∧ w.heap.size ≤ C ∧ C ≠ g))
theorem evtSz : (Try.prog.info? 26).map (·.size) = some 7 := by kernel_rfl
structure CelE (W : World) (g : Nat) (v0 v1 v2 v3 v4 v5 v6 : Value) : Prop where
  c0 : W.cell? ⟨g, 0, none⟩ = some v0
  c1 : W.cell? ⟨g, 1, none⟩ = some v1
  c2 : W.cell? ⟨g, 2, none⟩ = some v2
  c3 : W.cell? ⟨g, 3, none⟩ = some v3
  c4 : W.cell? ⟨g, 4, none⟩ = some v4
  c5 : W.cell? ⟨g, 5, none⟩ = some v5
  c6 : W.cell? ⟨g, 6, none⟩ = some v6
  f0 : W.frozen? ⟨g, 0, none⟩ = false
  f1 : W.frozen? ⟨g, 1, none⟩ = false
  f2 : W.frozen? ⟨g, 2, none⟩ = false
  f3 : W.frozen? ⟨g, 3, none⟩ = false
  f4 : W.frozen? ⟨g, 4, none⟩ = false
  f5 : W.frozen? ⟨g, 5, none⟩ = false
  f6 : W.frozen? ⟨g, 6, none⟩ = false
theorem celE {W : World} {g : Nat} {v0 v1 v2 v3 v4 v5 v6 : Value} (h : RowE W g v0 v1 v2 v3 v4 v5 v6) : CelE W g v0 v1 v2 v3 v4 v5 v6 :=
  ⟨by rw [cell_of_row _ _ _ _ _ _ h]; rfl, by rw [cell_of_row _ _ _ _ _ _ h]; rfl, by rw [cell_of_row _ _ _ _ _ _ h]; rfl, by rw [cell_of_row _ _ _ _ _ _ h]; rfl, by rw [cell_of_row _ _ _ _ _ _ h]; rfl, by rw [cell_of_row _ _ _ _ _ _ h]; rfl, by rw [cell_of_row _ _ _ _ _ _ h]; rfl, frozen_of_row W _ 0 _ _ h, frozen_of_row W _ 1 _ _ h, frozen_of_row W _ 2 _ _ h, frozen_of_row W _ 3 _ _ h, frozen_of_row W _ 4 _ _ h, frozen_of_row W _ 5 _ _ h, frozen_of_row W _ 6 _ _ h⟩
theorem putE {W : World} {C : Nat} {x0 x1 x2 x3 x4 x5 x6 : Value} (hrow : RowE W C x0 x1 x2 x3 x4 x5 x6) (a b c d e f h : Value) :
    ∃ W2, (((((((W.setCell ⟨C, 0, none⟩ a).setCell ⟨C, 1, none⟩ b).setCell ⟨C, 2, none⟩ c).setCell ⟨C, 3, none⟩ d).setCell ⟨C, 4, none⟩ e).setCell ⟨C, 5, none⟩ f).setCell ⟨C, 6, none⟩ h) = W2 ∧ RowE W2 C a b c d e f h ∧ ∀ n, n ≤ C → Below n W W2 := by
  have h1 : RowE (W.setCell ⟨C, 0, none⟩ a) C a x1 x2 x3 x4 x5 x6 := by unfold RowE; rw [heap_setCell_same _ _ _ _ _ _ hrow]; rfl
  have h2 : RowE ((W.setCell ⟨C, 0, none⟩ a).setCell ⟨C, 1, none⟩ b) C a b x2 x3 x4 x5 x6 := by unfold RowE; rw [heap_setCell_same _ _ _ _ _ _ h1]; rfl
  have h3 : RowE (((W.setCell ⟨C, 0, none⟩ a).setCell ⟨C, 1, none⟩ b).setCell ⟨C, 2, none⟩ c) C a b c x3 x4 x5 x6 := by unfold RowE; rw [heap_setCell_same _ _ _ _ _ _ h2]; rfl
  have h4 : RowE ((((W.setCell ⟨C, 0, none⟩ a).setCell ⟨C, 1, none⟩ b).setCell ⟨C, 2, none⟩ c).setCell ⟨C, 3, none⟩ d) C a b c d x4 x5 x6 := by unfold RowE; rw [heap_setCell_same _ _ _ _ _ _ h3]; rfl
  have h5 : RowE (((((W.setCell ⟨C, 0, none⟩ a).setCell ⟨C, 1, none⟩ b).setCell ⟨C, 2, none⟩ c).setCell ⟨C, 3, none⟩ d).setCell ⟨C, 4, none⟩ e) C a b c d e x5 x6 := by unfold RowE; rw [heap_setCell_same _ _ _ _ _ _ h4]; rfl
  have h6 : RowE ((((((W.setCell ⟨C, 0, none⟩ a).setCell ⟨C, 1, none⟩ b).setCell ⟨C, 2, none⟩ c).setCell ⟨C, 3, none⟩ d).setCell ⟨C, 4, none⟩ e).setCell ⟨C, 5, none⟩ f) C a b c d e f x6 := by unfold RowE; rw [heap_setCell_same _ _ _ _ _ _ h5]; rfl
  have h7 : RowE (((((((W.setCell ⟨C, 0, none⟩ a).setCell ⟨C, 1, none⟩ b).setCell ⟨C, 2, none⟩ c).setCell ⟨C, 3, none⟩ d).setCell ⟨C, 4, none⟩ e).setCell ⟨C, 5, none⟩ f).setCell ⟨C, 6, none⟩ h) C a b c d e f h := by unfold RowE; rw [heap_setCell_same _ _ _ _ _ _ h6]; rfl
  exact ⟨_, rfl, h7, fun n hn => (((((((Below.refl n W).setCell (p := ⟨C, 0, none⟩) hn _).setCell (p := ⟨C, 1, none⟩) hn _).setCell (p := ⟨C, 2, none⟩) hn _).setCell (p := ⟨C, 3, none⟩) hn _).setCell (p := ⟨C, 4, none⟩) hn _).setCell (p := ⟨C, 5, none⟩) hn _).setCell (p := ⟨C, 6, none⟩) hn _⟩
theorem put1E {w W : World} {base g C R : Nat} {A : Option Addr} {c : Nat} {bs : List Int} {o : Obj} (hs : Src W base g A c bs) (hG : w.grownBy W (some g)) (hgC : g < C) (hwC : w.heap.size ≤ C) (hRC : R ≠ C) (hR : W.heap[R]? = some o) (j : Nat) (u : Value) :
    Src (W.setCell ⟨C, j, none⟩ u) base g A c bs ∧ w.grownBy (W.setCell ⟨C, j, none⟩ u) (some g) ∧ (W.setCell ⟨C, j, none⟩ u).heap[R]? = some o :=
  ⟨hs.keep ((Below.refl _ _).setCell (p := ⟨C, j, none⟩) hgC _), grown_below hG ((Below.refl _ _).setCell (p := ⟨C, j, none⟩) hwC _), (heap_setCell_other W ⟨C, j, none⟩ R u (fun e => hRC (by simpa using e))).trans hR⟩
set_option maxRecDepth 100000 in
set_option maxHeartbeats 16000000 in
theorem event_any (g : Nat) (base : Nat) (A : Option Addr) (c : Nat) (bs : List Int) (w : World) (h : Src w base g A c bs) :
    Calls Try.prog 67 #[.pointer (some ⟨g, 0, none⟩)] w (fun e w' => ∃ q : Evt, e = .returned (.agg #[.int .i64 q.d, .int .i64 q.k, .string ⟨q.c.toArray⟩, .int .i64 q.a, .bool q.p, .bool q.v, .bool q.r]) ∧ Deq q ∧ Src w' base g A c bs ∧ w.grownBy w' (some g)) := by
  go_enter Try.func67, Try.ntmps67
  go_wp2_with fail
  have hgR : g < (w.alloc (.cells #[.int .i64 0, .int .i64 0, .string ⟨#[]⟩, .int .i64 0, .bool false, .bool false, .bool false] 26)).heap.size := by have := h.lt; simp; omega
  refine region_inv (by kernel_rfl) (by kernel_rfl) (RInvE (w.alloc (.cells #[.int .i64 0, .int .i64 0, .string ⟨#[]⟩, .int .i64 0, .bool false, .bool false, .bool false] 26)) base g A c bs w.heap.size) ?_ ?_ ?_
  · exact ⟨fun _ => undef, rfl, h.alloc _, ⟨rfl, rfl, rfl, Nat.le_refl _, fun _ _ _ => rfl⟩, .inl ⟨rfl, fun k hk hd => by rw [getD_repE] at hd; cases hd⟩⟩
  · clear h
    generalize w.heap.size = R at *
    generalize w.alloc (.cells #[.int .i64 0, .int .i64 0, .string ⟨#[]⟩, .int .i64 0, .bool false, .bool false, .bool false] 26) = w at *
    intro i d a W hi hI
    obtain ⟨hun, oi, hoi, hall⟩ := mem_ready.1 hi
    have hlt : i < 24 := (Array.getElem?_eq_some_iff.1 hoi).1
    obtain ⟨vs, rfl, hs, hG, ⟨hd9, hI⟩ | ⟨hI, _⟩⟩ := hI
    · rcases (by omega : i = 0 ∨ i = 1 ∨ i = 2 ∨ i = 3 ∨ i = 4 ∨ i = 5 ∨ i = 6 ∨ i = 7 ∨ i = 8 ∨ i = 9 ∨ i = 10 ∨ i = 11 ∨ i = 12 ∨ i = 13 ∨ i = 14 ∨ i = 15 ∨ i = 16 ∨ i = 17 ∨ i = 18 ∨ i = 19 ∨ i = 20 ∨ i = 21 ∨ i = 22 ∨ i = 23) with rfl | rfl | rfl | rfl | rfl | rfl | rfl | rfl | rfl | rfl | rfl | rfl | rfl | rfl | rfl | rfl | rfl | rfl | rfl | rfl | rfl | rfl | rfl | rfl
      all_goals
        obtain rfl := Option.some.inj hoi
        clear hoi hlt hi hun
      · skip
        refine wpOp_step rfl (fun K hK => ?_)
        simp only [frmE]
        go_simp
        refine hK _ _ ⟨updE vs 4 (.pointer (some ⟨g, 0, none⟩)), by simp [frmE, updE], hs, hG, .inl ⟨(getD_set_ne false (by decide)).trans hd9, goodE_set (i := 0) (by omega) hI (World.grownBy.refl _ _) rfl⟩⟩
      · skip
        have p0 := hall ⟨0, .data⟩ (by simp) rfl
        have e4 : vs 4 = .pointer (some ⟨g, 0, none⟩) := hI 0 (by omega) p0
        refine wpOp_step rfl (fun K hK => ?_)
        simp only [frmE, e4]
        go_simp
        go_wp2_with (go_at_call 80; refine (next_any g _ base A c bs _ hs (by omega)).mono ?_; rintro e W2 ⟨r, rfl, r0, r1, hs2, hg2⟩)
        exact ⟨updE vs 5 (.int .i64 r), by simp [frmE, updE, e4], hs2, (hG.trans hg2), .inl ⟨(getD_set_ne false (by decide)).trans hd9, goodE_set (i := 1) (by omega) hI hg2 ⟨r, r0, by omega, rfl⟩⟩⟩
      · skip
        have p1 := hall ⟨1, .data⟩ (by simp) rfl
        obtain ⟨z1, za1, zb1, e5⟩ : ∃ r : Int, 0 ≤ r ∧ r ≤ 29 ∧ vs 5 = .int .i64 r := hI 1 (by omega) p1
        refine wpOp_step rfl (fun K hK => ?_)
        simp only [frmE, e5]
        go_simp
        refine hK _ _ ⟨updE vs 6 (.int .i64 (IntKind.i64.wrap (20000 + z1))), by simp [frmE, updE, e5], hs, hG, .inl ⟨(getD_set_ne false (by decide)).trans hd9, goodE_set (i := 2) (by omega) hI (World.grownBy.refl _ _) ⟨_, rfl⟩⟩⟩
      · skip
        refine wpOp_step rfl (fun K hK => ?_)
        simp only [frmE]
        go_simp
        refine hK _ _ ⟨updE vs 7 (.pointer (some ⟨g, 0, none⟩)), by simp [frmE, updE], hs, hG, .inl ⟨(getD_set_ne false (by decide)).trans hd9, goodE_set (i := 3) (by omega) hI (World.grownBy.refl _ _) rfl⟩⟩
      · skip
        have p3 := hall ⟨3, .data⟩ (by simp) rfl
        have e7 : vs 7 = .pointer (some ⟨g, 0, none⟩) := hI 3 (by omega) p3
        refine wpOp_step rfl (fun K hK => ?_)
        simp only [frmE, e7]
        go_simp
        go_wp2_with (go_at_call 80; refine (next_any g _ base A c bs _ hs (by omega)).mono ?_; rintro e W2 ⟨r, rfl, r0, r1, hs2, hg2⟩)
        exact ⟨updE vs 8 (.int .i64 r), by simp [frmE, updE, e7], hs2, (hG.trans hg2), .inl ⟨(getD_set_ne false (by decide)).trans hd9, goodE_set (i := 4) (by omega) hI hg2 ⟨r, r0, by omega, rfl⟩⟩⟩
      · skip
        refine wpOp_step rfl (fun K hK => ?_)
        simp only [frmE]
        go_simp
        refine hK _ _ ⟨updE vs 9 (.slice (some ⟨W.heap.size, 0, none⟩) 7 7), by simp [frmE, updE], (hs.alloc _), (hG.trans (World.grownBy_alloc _ _ _)), .inl ⟨(getD_set_ne false (by decide)).trans hd9, goodE_set (i := 5) (by omega) hI (World.grownBy_alloc _ _ _) ⟨_, rfl, heap_alloc_new W _, by have := hs.lt; omega⟩⟩⟩
      · skip
        refine wpOp_step rfl (fun K hK => ?_)
        simp only [frmE]
        go_simp
        refine hK _ _ ⟨updE vs 10 (.pointer (some ⟨g, 0, none⟩)), by simp [frmE, updE], hs, hG, .inl ⟨(getD_set_ne false (by decide)).trans hd9, goodE_set (i := 6) (by omega) hI (World.grownBy.refl _ _) rfl⟩⟩
      · skip
        have p6 := hall ⟨6, .data⟩ (by simp) rfl
        have e10 : vs 10 = .pointer (some ⟨g, 0, none⟩) := hI 6 (by omega) p6
        refine wpOp_step rfl (fun K hK => ?_)
        simp only [frmE, e10]
        go_simp
        go_wp2_with (go_at_call 80; refine (next_any g _ base A c bs _ hs (by omega)).mono ?_; rintro e W2 ⟨r, rfl, r0, r1, hs2, hg2⟩)
        exact ⟨updE vs 11 (.int .i64 r), by simp [frmE, updE, e10], hs2, (hG.trans hg2), .inl ⟨(getD_set_ne false (by decide)).trans hd9, goodE_set (i := 7) (by omega) hI hg2 (by obtain ⟨m, rfl⟩ := Int.eq_ofNat_of_zero_le r0; exact ⟨m, by omega, rfl⟩)⟩⟩
      · skip
        have p5 := hall ⟨5, .data⟩ (by simp) rfl
        obtain ⟨B, e9, hB, hBg⟩ : ∃ B, vs 9 = .slice (some ⟨B, 0, none⟩) 7 7 ∧ StrE W B ∧ B ≠ g := hI 5 (by omega) p5
        have p7 := hall ⟨7, .data⟩ (by simp) rfl
        obtain ⟨r, hr, e11⟩ : ∃ r : Nat, r < 7 ∧ vs 11 = .int .i64 r := hI 7 (by omega) p7
        refine wpOp_step rfl (fun K hK => ?_)
        simp only [frmE, e9, e11]
        go_simp
        rw [if_pos (by omega)]
        go_simp
        refine hK _ _ ⟨updE vs 12 (.pointer (some ⟨B, r, none⟩)), by simp [frmE, updE, e9, e11], hs, hG, .inl ⟨(getD_set_ne false (by decide)).trans hd9, goodE_set (i := 8) (by omega) hI (World.grownBy.refl _ _) ⟨B, r, hr, rfl, hB, hBg⟩⟩⟩
      · skip
        have p8 := hall ⟨8, .data⟩ (by simp) rfl
        obtain ⟨B, r, hr, e12, hB, hBg⟩ : ∃ B r : Nat, r < 7 ∧ vs 12 = .pointer (some ⟨B, r, none⟩) ∧ StrE W B ∧ B ≠ g := hI 8 (by omega) p8
        obtain ⟨s, hsl, hv⟩ := text_atE (ts := textsE7) (by decide) (k := r) hr
        have hcell : W.cell? ⟨B, r, none⟩ = some (.string ⟨s.toArray⟩) := by rw [cell_of_row _ _ _ _ _ _ hB]; simpa using hv
        refine wpOp_step rfl (fun K hK => ?_)
        simp only [frmE, e12]
        go_simp
        refine hK _ _ ⟨updE vs 13 (.string ⟨s.toArray⟩), by simp [frmE, updE, e12], hs, hG, .inl ⟨(getD_set_ne false (by decide)).trans hd9, goodE_set (i := 9) (by omega) hI (World.grownBy.refl _ _) ⟨s, rfl, hsl⟩⟩⟩
      · skip
        refine wpOp_step rfl (fun K hK => ?_)
        simp only [frmE]
        go_simp
        refine hK _ _ ⟨updE vs 14 (.pointer (some ⟨g, 0, none⟩)), by simp [frmE, updE], hs, hG, .inl ⟨(getD_set_ne false (by decide)).trans hd9, goodE_set (i := 10) (by omega) hI (World.grownBy.refl _ _) rfl⟩⟩
      · skip
        have p10 := hall ⟨10, .data⟩ (by simp) rfl
        have e14 : vs 14 = .pointer (some ⟨g, 0, none⟩) := hI 10 (by omega) p10
        refine wpOp_step rfl (fun K hK => ?_)
        simp only [frmE, e14]
        go_simp
        go_wp2_with (go_at_call 106; refine (good_any g base A c bs _ hs).mono ?_; rintro e W2 ⟨r, rfl, r0, r1, hs2, hg2⟩)
        exact ⟨updE vs 15 (.int .i64 r), by simp [frmE, updE, e14], hs2, (hG.trans hg2), .inl ⟨(getD_set_ne false (by decide)).trans hd9, goodE_set (i := 11) (by omega) hI hg2 ⟨r, rfl⟩⟩⟩
      · skip
        refine wpOp_step rfl (fun K hK => ?_)
        simp only [frmE]
        go_simp
        refine hK _ _ ⟨updE vs 16 (.pointer (some ⟨g, 0, none⟩)), by simp [frmE, updE], hs, hG, .inl ⟨(getD_set_ne false (by decide)).trans hd9, goodE_set (i := 12) (by omega) hI (World.grownBy.refl _ _) rfl⟩⟩
      · skip
        have p12 := hall ⟨12, .data⟩ (by simp) rfl
        have e16 : vs 16 = .pointer (some ⟨g, 0, none⟩) := hI 12 (by omega) p12
        refine wpOp_step rfl (fun K hK => ?_)
        simp only [frmE, e16]
        go_simp
        go_wp2_with (go_at_call 80; refine (next_any g _ base A c bs _ hs (by omega)).mono ?_; rintro e W2 ⟨r, rfl, r0, r1, hs2, hg2⟩)
        exact ⟨updE vs 17 (.int .i64 r), by simp [frmE, updE, e16], hs2, (hG.trans hg2), .inl ⟨(getD_set_ne false (by decide)).trans hd9, goodE_set (i := 13) (by omega) hI hg2 ⟨r, r0, by omega, rfl⟩⟩⟩
      · skip
        have p13 := hall ⟨13, .data⟩ (by simp) rfl
        obtain ⟨z13, za13, zb13, e17⟩ : ∃ r : Int, 0 ≤ r ∧ r ≤ 3 ∧ vs 17 = .int .i64 r := hI 13 (by omega) p13
        refine wpOp_step rfl (fun K hK => ?_)
        simp only [frmE, e17]
        go_simp
        refine hK _ _ ⟨updE vs 18 (.bool (decide (0 < z13))), by simp [frmE, updE, e17], hs, hG, .inl ⟨(getD_set_ne false (by decide)).trans hd9, goodE_set (i := 14) (by omega) hI (World.grownBy.refl _ _) ⟨_, rfl⟩⟩⟩
      · skip
        refine wpOp_step rfl (fun K hK => ?_)
        simp only [frmE]
        go_simp
        refine hK _ _ ⟨updE vs 19 (.pointer (some ⟨g, 0, none⟩)), by simp [frmE, updE], hs, hG, .inl ⟨(getD_set_ne false (by decide)).trans hd9, goodE_set (i := 15) (by omega) hI (World.grownBy.refl _ _) rfl⟩⟩
      · skip
        have p15 := hall ⟨15, .data⟩ (by simp) rfl
        have e19 : vs 19 = .pointer (some ⟨g, 0, none⟩) := hI 15 (by omega) p15
        refine wpOp_step rfl (fun K hK => ?_)
        simp only [frmE, e19]
        go_simp
        go_wp2_with (go_at_call 80; refine (next_any g _ base A c bs _ hs (by omega)).mono ?_; rintro e W2 ⟨r, rfl, r0, r1, hs2, hg2⟩)
        exact ⟨updE vs 20 (.int .i64 r), by simp [frmE, updE, e19], hs2, (hG.trans hg2), .inl ⟨(getD_set_ne false (by decide)).trans hd9, goodE_set (i := 16) (by omega) hI hg2 ⟨r, r0, by omega, rfl⟩⟩⟩
      · skip
        have p16 := hall ⟨16, .data⟩ (by simp) rfl
        obtain ⟨z16, za16, zb16, e20⟩ : ∃ r : Int, 0 ≤ r ∧ r ≤ 2 ∧ vs 20 = .int .i64 r := hI 16 (by omega) p16
        refine wpOp_step rfl (fun K hK => ?_)
        simp only [frmE, e20]
        go_simp
        refine hK _ _ ⟨updE vs 21 (.bool (decide (0 < z16))), by simp [frmE, updE, e20], hs, hG, .inl ⟨(getD_set_ne false (by decide)).trans hd9, goodE_set (i := 17) (by omega) hI (World.grownBy.refl _ _) ⟨_, rfl⟩⟩⟩
      · skip
        refine wpOp_step rfl (fun K hK => ?_)
        simp only [frmE]
        go_simp
        refine hK _ _ ⟨updE vs 22 (.pointer (some ⟨g, 0, none⟩)), by simp [frmE, updE], hs, hG, .inl ⟨(getD_set_ne false (by decide)).trans hd9, goodE_set (i := 18) (by omega) hI (World.grownBy.refl _ _) rfl⟩⟩
      · skip
        have p18 := hall ⟨18, .data⟩ (by simp) rfl
        have e22 : vs 22 = .pointer (some ⟨g, 0, none⟩) := hI 18 (by omega) p18
        refine wpOp_step rfl (fun K hK => ?_)
        simp only [frmE, e22]
        go_simp
        go_wp2_with (go_at_call 80; refine (next_any g _ base A c bs _ hs (by omega)).mono ?_; rintro e W2 ⟨r, rfl, r0, r1, hs2, hg2⟩)
        exact ⟨updE vs 23 (.int .i64 r), by simp [frmE, updE, e22], hs2, (hG.trans hg2), .inl ⟨(getD_set_ne false (by decide)).trans hd9, goodE_set (i := 19) (by omega) hI hg2 ⟨r, r0, by omega, rfl⟩⟩⟩
      · skip
        have p19 := hall ⟨19, .data⟩ (by simp) rfl
        obtain ⟨z19, za19, zb19, e23⟩ : ∃ r : Int, 0 ≤ r ∧ r ≤ 3 ∧ vs 23 = .int .i64 r := hI 19 (by omega) p19
        refine wpOp_step rfl (fun K hK => ?_)
        simp only [frmE, e23]
        go_simp
        refine hK _ _ ⟨updE vs 24 (.bool (decide (0 < z19))), by simp [frmE, updE, e23], hs, hG, .inl ⟨(getD_set_ne false (by decide)).trans hd9, goodE_set (i := 20) (by omega) hI (World.grownBy.refl _ _) ⟨_, rfl⟩⟩⟩
      · skip
        have p2 := hall ⟨2, .data⟩ (by simp) rfl
        obtain ⟨z2, e6⟩ : ∃ r : Int, vs 6 = .int .i64 r := hI 2 (by omega) p2
        have p4 := hall ⟨4, .data⟩ (by simp) rfl
        obtain ⟨z4, za4, zb4, e8⟩ : ∃ r : Int, 0 ≤ r ∧ r ≤ 6 ∧ vs 8 = .int .i64 r := hI 4 (by omega) p4
        have p9 := hall ⟨9, .data⟩ (by simp) rfl
        obtain ⟨s, e13, hsl⟩ : ∃ s : List UInt8, vs 13 = .string ⟨s.toArray⟩ ∧ s.length ≤ 7 := hI 9 (by omega) p9
        have p11 := hall ⟨11, .data⟩ (by simp) rfl
        obtain ⟨z11, e15⟩ : ∃ r : Int, vs 15 = .int .i64 r := hI 11 (by omega) p11
        have p14 := hall ⟨14, .data⟩ (by simp) rfl
        obtain ⟨z14, e18⟩ : ∃ b : Bool, vs 18 = .bool b := hI 14 (by omega) p14
        have p17 := hall ⟨17, .data⟩ (by simp) rfl
        obtain ⟨z17, e21⟩ : ∃ b : Bool, vs 21 = .bool b := hI 17 (by omega) p17
        have p20 := hall ⟨20, .data⟩ (by simp) rfl
        obtain ⟨z20, e24⟩ : ∃ b : Bool, vs 24 = .bool b := hI 20 (by omega) p20
        refine wpOp_step rfl (fun K hK => ?_)
        simp only [frmE, e6, e8, e13, e15, e18, e21, e24]
        go_simp
        refine hK _ _ ⟨updE vs 25 (.agg #[.int .i64 z2, .int .i64 z4, .string ⟨s.toArray⟩, .int .i64 z11, .bool z14, .bool z17, .bool z20]), by simp [frmE, updE, e6, e8, e13, e15, e18, e21, e24], hs, hG, .inl ⟨(getD_set_ne false (by decide)).trans hd9, goodE_set (i := 21) (by omega) hI (World.grownBy.refl _ _) ⟨⟨z2, z4, s, z11, z14, z17, z20⟩, rfl, hsl⟩⟩⟩
      · skip
        refine wpOp_step rfl (fun K hK => ?_)
        simp only [frmE]
        go_simp
        refine hK _ _ ⟨updE vs 3 (.pointer (some ⟨W.heap.size, 0, none⟩)), by simp [frmE, updE], (hs.alloc _), (hG.trans (World.grownBy_alloc _ _ _)), .inl ⟨(getD_set_ne false (by decide)).trans hd9, goodE_set (i := 22) (by omega) hI (World.grownBy_alloc _ _ _) ⟨_, _, _, _, _, _, _, _, rfl, heap_alloc_new W _, hG.size, by have := hs.lt; omega⟩⟩⟩
      · have p21 := hall ⟨21, .data⟩ (by simp) rfl
        have p22 := hall ⟨22, .data⟩ (by simp) rfl
        obtain ⟨q, e25, hq⟩ : ∃ q : Evt, vs 25 = .agg #[.int .i64 q.d, .int .i64 q.k, .string ⟨q.c.toArray⟩, .int .i64 q.a, .bool q.p, .bool q.v, .bool q.r] ∧ Deq q := hI 21 (by omega) p21
        obtain ⟨C, x0, x1, x2, x3, x4, x5, x6, e3, hC, hlo, hCg⟩ : ∃ C x0 x1 x2 x3 x4 x5 x6, vs 3 = .pointer (some ⟨C, 0, none⟩) ∧ RowE W C x0 x1 x2 x3 x4 x5 x6 ∧ w.heap.size ≤ C ∧ C ≠ g := hI 22 (by omega) p22
        refine wpOp_step rfl (fun K hK => ?_)
        simp only [frmE, e25, e3]
        obtain ⟨c0, c1, c2, c3, c4, c5, c6, f0, f1, f2, f3, f4, f5, f6⟩ := celE hC
        obtain ⟨W2, hW2, hRow, hbl⟩ := putE hC (.int .i64 q.d) (.int .i64 q.k) (.string ⟨q.c.toArray⟩) (.int .i64 q.a) (.bool q.p) (.bool q.v) (.bool q.r)
        have hall2 : ∀ k, k < 24 → (d.setIfInBounds 23 true).getD k true = true := by
          intro k hk
          rcases (by omega : k = 0 ∨ k = 1 ∨ k = 2 ∨ k = 3 ∨ k = 4 ∨ k = 5 ∨ k = 6 ∨ k = 7 ∨ k = 8 ∨ k = 9 ∨ k = 10 ∨ k = 11 ∨ k = 12 ∨ k = 13 ∨ k = 14 ∨ k = 15 ∨ k = 16 ∨ k = 17 ∨ k = 18 ∨ k = 19 ∨ k = 20 ∨ k = 21 ∨ k = 22 ∨ k = 23) with rfl | rfl | rfl | rfl | rfl | rfl | rfl | rfl | rfl | rfl | rfl | rfl | rfl | rfl | rfl | rfl | rfl | rfl | rfl | rfl | rfl | rfl | rfl | rfl
          all_goals first
            | exact (getD_set_ne true (by decide)).trans (getD_ft (hall ⟨_, .phase⟩ (by simp) rfl))
            | exact (getD_set_ne true (by decide)).trans (getD_ft (hall ⟨_, .data⟩ (by simp) rfl))
            | (by_cases hz : 23 < d.size <;> simp [hz])
        clear hall
        go_simp
        try rw [hW2]
        refine hK _ _ ⟨vs, by simp [frmE, e25, e3], hs.keep (hbl _ (by omega)), grown_below hG (hbl _ hlo), .inr ⟨hall2, C, q, e3, hRow, hq, hlo, hCg⟩⟩
    · have := hI i hlt
      rw [hun] at this; cases this
  · rintro d a W hsz hall ⟨vs, rfl, hs, hG, ⟨hd9, _⟩ | ⟨_, C, q, e3, hC, hq, hlo, hCg⟩⟩
    · exfalso
      have h9 := hall 23 (by simp)
      have : 23 < d.size := by rw [hsz]; simp
      simp [this] at hd9 h9
      rw [hd9] at h9; cases h9
    · have hlo' : w.heap.size < C := by simp at hlo; omega
      have hRow := keepG hG (heap_alloc_new w (.cells #[.int .i64 0, .int .i64 0, .string ⟨#[]⟩, .int .i64 0, .bool false, .bool false, .bool false] 26)) (by have := h.lt; omega)
      have hGw : w.grownBy W (some g) := (World.grownBy_alloc w _ _).trans hG
      have hgl := h.lt
      clear hG hall hsz
      simp only [frmE, e3]
      go_wp2_with fail
      refine (next_any g _ base A c bs _ hs (by omega)).mono ?_
      rintro e w2 ⟨k2, rfl, ka, kb, s2, g2⟩
      have hC2 : RowE w2 C _ _ _ _ _ _ _ := keepG g2 hC hCg
      have hR2 : RowE w2 w.heap.size _ _ _ _ _ _ _ := keepG g2 hRow (by omega)
      have G2 := hGw.trans g2
      clear hs hC hRow hGw g2
      rcases (by omega : k2 = 0 ∨ k2 = 1 ∨ k2 = 2 ∨ k2 = 3 ∨ 3 < k2) with rfl | rfl | rfl | rfl | hk
      · go_wp2_with fail
        refine (next_any g _ base A c bs _ s2 (by omega)).mono ?_
        rintro e w3 ⟨y, rfl, y0, y1, s3, g3⟩
        have hC3 : RowE w3 C _ _ _ _ _ _ _ := keepG g3 hC2 hCg
        have hR3 : RowE w3 w.heap.size _ _ _ _ _ _ _ := keepG g3 hR2 (by omega)
        have G3 := G2.trans g3
        clear hC2 hR2 G2 g3 s2
        obtain ⟨c0, c1, c2, c3, c4, c5, c6, f0, f1, f2, f3, f4, f5, f6⟩ := celE hC3
        obtain ⟨r0, r1, r2, r3, r4, r5, r6, d0, d1, d2, d3, d4, d5, d6⟩ := celE hR3
        obtain ⟨s4, G4, hR4⟩ := put1E (C := C) s3 G3 (show g < C by omega) (show w.heap.size ≤ C by omega) (show w.heap.size ≠ C by omega) hR3 1 (.int .i64 (y - 1))
        obtain ⟨W5, hW5, hR5, bl5⟩ := putE hR4 (.int .i64 q.d) (.int .i64 (y - 1)) (.string ⟨q.c.toArray⟩) (.int .i64 q.a) (.bool q.p) (.bool q.v) (.bool q.r)
        have s5 := s4.keep (bl5 _ (by omega)); have G5 := grown_below G4 (bl5 _ (Nat.le_refl _))
        have HE := Lib.hid hR5; have HS := Lib.hid s5; have HG := Lib.hid G5
        clear hC3 hR3 hR4 s4 G4 s3 G3 hR5 s5 G5 bl5
        go_wp2_with fail
        try rw [hW5]
        refine bodyPost_ret (v := .agg #[.int .i64 q.d, .int .i64 (y - 1), .string ⟨q.c.toArray⟩, .int .i64 q.a, .bool q.p, .bool q.v, .bool q.r]) ?_ ?_ ?_
        · exact results_cell_row (p := 2) rfl _ _ w.heap.size 26 _ (0, 0) _ rfl HE.out Try.underlying26 rfl evtSz
        · rfl
        · exact ⟨⟨q.d, y - 1, q.c, q.a, q.p, q.v, q.r⟩, rfl, by first | exact hq | exact hsl, HS.out, HG.out⟩
      · go_wp2_with fail
        refine (codeE_any g base A c bs _ s2).mono ?_
        rintro e w3 ⟨s, rfl, hsl, s3, g3⟩
        have hC3 : RowE w3 C _ _ _ _ _ _ _ := keepG g3 hC2 hCg
        have hR3 : RowE w3 w.heap.size _ _ _ _ _ _ _ := keepG g3 hR2 (by omega)
        have G3 := G2.trans g3
        clear hC2 hR2 G2 g3 s2
        obtain ⟨c0, c1, c2, c3, c4, c5, c6, f0, f1, f2, f3, f4, f5, f6⟩ := celE hC3
        obtain ⟨r0, r1, r2, r3, r4, r5, r6, d0, d1, d2, d3, d4, d5, d6⟩ := celE hR3
        obtain ⟨s4, G4, hR4⟩ := put1E (C := C) s3 G3 (show g < C by omega) (show w.heap.size ≤ C by omega) (show w.heap.size ≠ C by omega) hR3 2 (.string ⟨s.toArray⟩)
        obtain ⟨W5, hW5, hR5, bl5⟩ := putE hR4 (.int .i64 q.d) (.int .i64 q.k) (.string ⟨s.toArray⟩) (.int .i64 q.a) (.bool q.p) (.bool q.v) (.bool q.r)
        have s5 := s4.keep (bl5 _ (by omega)); have G5 := grown_below G4 (bl5 _ (Nat.le_refl _))
        have HE := Lib.hid hR5; have HS := Lib.hid s5; have HG := Lib.hid G5
        clear hC3 hR3 hR4 s4 G4 s3 G3 hR5 s5 G5 bl5
        go_wp2_with fail
        try rw [hW5]
        refine bodyPost_ret (v := .agg #[.int .i64 q.d, .int .i64 q.k, .string ⟨s.toArray⟩, .int .i64 q.a, .bool q.p, .bool q.v, .bool q.r]) ?_ ?_ ?_
        · exact results_cell_row (p := 2) rfl _ _ w.heap.size 26 _ (0, 0) _ rfl HE.out Try.underlying26 rfl evtSz
        · rfl
        · exact ⟨⟨q.d, q.k, s, q.a, q.p, q.v, q.r⟩, rfl, by first | exact hq | exact hsl, HS.out, HG.out⟩
      · go_wp2_with fail
        refine (amount_any g base A c bs _ s2).mono ?_
        rintro e w3 ⟨y, rfl, y0, y1, s3, g3⟩
        have hC3 : RowE w3 C _ _ _ _ _ _ _ := keepG g3 hC2 hCg
        have hR3 : RowE w3 w.heap.size _ _ _ _ _ _ _ := keepG g3 hR2 (by omega)
        have G3 := G2.trans g3
        clear hC2 hR2 G2 g3 s2
        obtain ⟨c0, c1, c2, c3, c4, c5, c6, f0, f1, f2, f3, f4, f5, f6⟩ := celE hC3
        obtain ⟨r0, r1, r2, r3, r4, r5, r6, d0, d1, d2, d3, d4, d5, d6⟩ := celE hR3
        obtain ⟨s4, G4, hR4⟩ := put1E (C := C) s3 G3 (show g < C by omega) (show w.heap.size ≤ C by omega) (show w.heap.size ≠ C by omega) hR3 3 (.int .i64 y)
        obtain ⟨W5, hW5, hR5, bl5⟩ := putE hR4 (.int .i64 q.d) (.int .i64 q.k) (.string ⟨q.c.toArray⟩) (.int .i64 y) (.bool q.p) (.bool q.v) (.bool q.r)
        have s5 := s4.keep (bl5 _ (by omega)); have G5 := grown_below G4 (bl5 _ (Nat.le_refl _))
        have HE := Lib.hid hR5; have HS := Lib.hid s5; have HG := Lib.hid G5
        clear hC3 hR3 hR4 s4 G4 s3 G3 hR5 s5 G5 bl5
        go_wp2_with fail
        try rw [hW5]
        refine bodyPost_ret (v := .agg #[.int .i64 q.d, .int .i64 q.k, .string ⟨q.c.toArray⟩, .int .i64 y, .bool q.p, .bool q.v, .bool q.r]) ?_ ?_ ?_
        · exact results_cell_row (p := 2) rfl _ _ w.heap.size 26 _ (0, 0) _ rfl HE.out Try.underlying26 rfl evtSz
        · rfl
        · exact ⟨⟨q.d, q.k, q.c, y, q.p, q.v, q.r⟩, rfl, by first | exact hq | exact hsl, HS.out, HG.out⟩
      · go_wp2_with fail
        refine (day_any g base A c bs _ s2).mono ?_
        rintro e w3 ⟨y, rfl, y0, y1, s3, g3⟩
        have hC3 : RowE w3 C _ _ _ _ _ _ _ := keepG g3 hC2 hCg
        have hR3 : RowE w3 w.heap.size _ _ _ _ _ _ _ := keepG g3 hR2 (by omega)
        have G3 := G2.trans g3
        clear hC2 hR2 G2 g3 s2
        obtain ⟨c0, c1, c2, c3, c4, c5, c6, f0, f1, f2, f3, f4, f5, f6⟩ := celE hC3
        obtain ⟨r0, r1, r2, r3, r4, r5, r6, d0, d1, d2, d3, d4, d5, d6⟩ := celE hR3
        obtain ⟨s4, G4, hR4⟩ := put1E (C := C) s3 G3 (show g < C by omega) (show w.heap.size ≤ C by omega) (show w.heap.size ≠ C by omega) hR3 0 (.int .i64 y)
        obtain ⟨W5, hW5, hR5, bl5⟩ := putE hR4 (.int .i64 y) (.int .i64 q.k) (.string ⟨q.c.toArray⟩) (.int .i64 q.a) (.bool q.p) (.bool q.v) (.bool q.r)
        have s5 := s4.keep (bl5 _ (by omega)); have G5 := grown_below G4 (bl5 _ (Nat.le_refl _))
        have HE := Lib.hid hR5; have HS := Lib.hid s5; have HG := Lib.hid G5
        clear hC3 hR3 hR4 s4 G4 s3 G3 hR5 s5 G5 bl5
        go_wp2_with fail
        try rw [hW5]
        refine bodyPost_ret (v := .agg #[.int .i64 y, .int .i64 q.k, .string ⟨q.c.toArray⟩, .int .i64 q.a, .bool q.p, .bool q.v, .bool q.r]) ?_ ?_ ?_
        · exact results_cell_row (p := 2) rfl _ _ w.heap.size 26 _ (0, 0) _ rfl HE.out Try.underlying26 rfl evtSz
        · rfl
        · exact ⟨⟨y, q.k, q.c, q.a, q.p, q.v, q.r⟩, rfl, by first | exact hq | exact hsl, HS.out, HG.out⟩
      · have n0 : ((k2 : Int) == 0) = false := beq_eq_false_iff_ne.2 (by omega)
        have n1 : ((k2 : Int) == 1) = false := beq_eq_false_iff_ne.2 (by omega)
        have n2 : ((k2 : Int) == 2) = false := beq_eq_false_iff_ne.2 (by omega)
        have n3 : ((k2 : Int) == 3) = false := beq_eq_false_iff_ne.2 (by omega)
        obtain ⟨c0, c1, c2, c3, c4, c5, c6, f0, f1, f2, f3, f4, f5, f6⟩ := celE hC2
        obtain ⟨r0, r1, r2, r3, r4, r5, r6, d0, d1, d2, d3, d4, d5, d6⟩ := celE hR2
        obtain ⟨W5, hW5, hR5, bl5⟩ := putE hR2 (.int .i64 q.d) (.int .i64 q.k) (.string ⟨q.c.toArray⟩) (.int .i64 q.a) (.bool q.p) (.bool q.v) (.bool q.r)
        have s5 := s2.keep (bl5 _ (by omega)); have G5 := grown_below G2 (bl5 _ (Nat.le_refl _))
        have HE := Lib.hid hR5; have HS := Lib.hid s5; have HG := Lib.hid G5
        clear hC2 hR2 s2 G2 hR5 s5 G5 bl5
        go_wp2_with fail
        try rw [hW5]
        refine bodyPost_ret (v := .agg #[.int .i64 q.d, .int .i64 q.k, .string ⟨q.c.toArray⟩, .int .i64 q.a, .bool q.p, .bool q.v, .bool q.r]) ?_ ?_ ?_
        · exact results_cell_row (p := 2) rfl _ _ w.heap.size 26 _ (0, 0) _ rfl HE.out Try.underlying26 rfl evtSz
        · rfl
        · exact ⟨⟨q.d, q.k, q.c, q.a, q.p, q.v, q.r⟩, rfl, by first | exact hq | exact hsl, HS.out, HG.out⟩
end Go.Proofs.Ytjcklmhgjdmjoaa

/- The draws of chapter 8: a valid log, a log or another list. -/
namespace Go.Proofs.Ytjcklmhgjdmjoaa
open Go.ChangeShapes Go.WideShapes Go.ChangeAt Go.RowKit
set_option linter.unusedVariables false

theorem own_srcE {w w' : World} {W : Nat} {e : TypeId} {g n size : Nat} {v : Value} {xs : List Value} (h : w.ownsRow W e size v n xs) (hg : w.grownBy w' (some g)) (hW : g < W) : w'.ownsRow W e size v n xs := by
  refine World.ownsRow.kept h hg ?_
  cases hv : v.ownBlock with
  | none => exact .inl rfl
  | some k => right; intro e; have := (h.lt k hv).1; injection e with e; omega
theorem lt_ofE {wr : World} {g : Nat} {o : Obj} (h : wr.heap[g]? = some o) : g < wr.heap.size := lt_some h
theorem snoc_deq {ps : List Evt} {x : Evt} (h : ∀ p ∈ ps, Deq p) (hx : Deq x) : ∀ p ∈ ps ++ [x], Deq p := by
  intro p hp
  rcases List.mem_append.1 hp with h2 | h2
  · exact h p h2
  · rw [List.mem_singleton.1 h2]; exact hx
theorem add_deq {ps : List Evt} {x : Evt} (h : ∀ p ∈ ps, Deq p) (hx : Deq x) : ∀ p ∈ (addR ps x).1, Deq p := by
  intro p hp
  unfold addR at hp
  split at hp
  · split at hp
    · simp at hp
    · simp only [addE, List.mem_append, List.mem_cons] at hp
      rcases hp with h2 | rfl | h2
      · exact h p (List.mem_of_mem_take h2)
      · exact hx
      · exact h p (List.mem_of_mem_drop h2)
  · simp at hp
theorem sz_deq {p : Evt} (h : Deq p) : p.sz ≤ 1048576 := by unfold Deq at h; unfold Evt.sz; omega
def EDr (w : World) (lo : Nat) (B : Option Addr) (d : Nat) (ps : List Evt) : Prop := ps.length ≤ 16 ∧ EvtO w lo B ps.length d ps ∧ ∀ p ∈ ps, Deq p
def NewEV (w : World) (base g : Nat) (A : Option Addr) (c : Nat) (bs : List Int) (e : Ending) (w' : World) : Prop :=
  ∃ B d ps, e = .returned (.slice B (List.length ps) d) ∧ ps.length ≤ 7 ∧ EvtO w' w.heap.size B ps.length d ps ∧ (∀ p ∈ ps, Deq p) ∧ Src w' base g A c bs ∧ w.grownBy w' (some g)
def NewED (w : World) (base g : Nat) (A : Option Addr) (c : Nat) (bs : List Int) (e : Ending) (w' : World) : Prop :=
  ∃ B d ps, e = .returned (.slice B (List.length ps) d) ∧ EDr w' w.heap.size B d ps ∧ Src w' base g A c bs ∧ w.grownBy w' (some g)
set_option maxRecDepth 100000 in
set_option maxHeartbeats 4000000 in
theorem valid_e (g : Nat) (base : Nat) (A : Option Addr) (c : Nat) (bs : List Int) (w : World) (h : Src w base g A c bs) :
    Calls Try.prog 139 #[.pointer (some ⟨g, 0, none⟩)] w (NewEV w base g A c bs) := by
  have hgl := h.lt
  have H0 : (w.alloc (Obj.cells #[] 26)).ownsRow w.heap.size 26 7 (.slice (some ⟨w.heap.size, 0, none⟩) 0 0) 0 [] := World.ownsRow_made w #[] 0 (Nat.le_refl _) (by decide) (by simp)
  go_enter Try.func139, Try.ntmps139
  go_wp2_with fail
  refine (next_any g _ base A c bs _ (h.alloc _) (by omega)).mono ?_
  rintro e w1 ⟨r1, rfl, a1, b1, h1, g1⟩
  have H1 := own_srcE H0 g1 hgl
  have G1 : w.grownBy w1 (some g) := (World.grownBy_alloc w _ _).trans g1
  clear H0 g1
  go_wp2_with fail
  go_loopw [3, 4] (fun v n wr => ∃ (k : Int) (B : Option Addr) (d : Nat) (ys : List Evt), n = .int .i64 k ∧ v = .slice B ys.length d ∧ 0 ≤ k ∧ ys.length + k ≤ 7 ∧ Hid (∀ p ∈ ys, Deq p) ∧ EvtO wr w.heap.size B ys.length d ys ∧ Src wr base g A c bs ∧ w.grownBy wr (some g)) (fun _ n _ => (intOf n).toNat)
  case atStart => exact ⟨r1, some ⟨w.heap.size, 0, none⟩, 0, [], rfl, rfl, by omega, by simp; omega, Lib.hid (by simp), H1, h1, G1⟩
  case round =>
    obtain ⟨k, B, d, ys, rfl, rfl, k0, kl, hok, hown, hs, hg⟩ := hrel
    clear H1 h1 G1 h
    by_cases hk : 0 < k
    · go_wp2_with fail
      refine (event_any g base A c bs _ hs).mono ?_
      rintro e w3 ⟨q, rfl, hq, h3, g3⟩
      have hown3 : EvtO w3 w.heap.size B ys.length d ys := own_srcE hown g3 hgl
      have G3 := hg.trans g3
      clear hown hs hg g3
      have HA := Lib.hid (adde_s B d ys q w3 (etbl_of hown3 (fun p hp => sz_deq (hok.out p hp)) (by omega)) (by have := sz_deq hq; omega))
      have hlen := addR_len ys q
      have hdq := Lib.hid (add_deq hok.out hq)
      generalize addR ys q = pr at *
      obtain ⟨zs, code⟩ := pr
      simp only at hlen
      go_wp2_with fail
      refine HA.out.mono ?_
      rintro e w4 ⟨B4, d4, rfl, o4, b4⟩
      have h4 := h3.keep (b4.mono (by have := h3.lt; omega))
      have G4 := grown_below G3 (b4.mono G3.size)
      simp only at o4
      by_cases hz : code = 0
      · subst hz
        have o5 : EvtO w4 w.heap.size B4 zs.length d4 zs := o4.mono G3.size
        clear o4 hown3 b4 h3 HA
        go_wp2_with fail
        go_roundw
        case rel => exact ⟨k - 1, B4, d4, zs, rfl, rfl, by omega, by omega, hdq, o5, h4, G4⟩
        case measure => simp [intOf]; omega
      · have hz2 : (code == 0) = false := beq_eq_false_iff_ne.2 hz
        have o5 : EvtO w4 w.heap.size B ys.length d ys := hown3.below b4
        clear o4 hown3 b4 h3 HA hz
        go_wp2_with fail
        go_roundw
        case rel => exact ⟨k - 1, B, d, ys, rfl, rfl, by omega, by omega, hok, o5, h4, G4⟩
        case measure => simp [intOf]; omega
    · have hk0 : k = 0 := by omega
      subst hk0
      go_wp2_with fail
      go_ret
      exact ⟨B, d, ys, rfl, by omega, hown, hok.out, hs, hg⟩
def lnE : Value → Nat
  | .slice _ n _ => n
  | _ => 0
set_option maxRecDepth 100000 in
set_option maxHeartbeats 8000000 in
theorem draw_e (g : Nat) (base : Nat) (A : Option Addr) (c : Nat) (bs : List Int) (w : World) (h : Src w base g A c bs) :
    Calls Try.prog 122 #[.pointer (some ⟨g, 0, none⟩)] w (NewED w base g A c bs) := by
  obtain ⟨i0, hi, hz0, hz1, hz2⟩ := info_parts evtInfo
  have hgl := h.lt
  go_enter Try.func122, Try.ntmps122
  go_wp2_with fail
  refine (valid_e g base A c bs _ h).mono ?_
  rintro e w1 ⟨B, d, ps, rfl, hp7, o1, hok, s1, g1⟩
  have HOK := Lib.hid hok
  clear h hok
  go_wp2_with fail
  refine (next_any g _ base A c bs _ s1 (by omega)).mono ?_
  rintro e w3 ⟨r, rfl, ra, rb, s3, g3⟩
  have o3 : EvtO w3 w.heap.size B ps.length d ps := own_srcE o1 g3 hgl
  have G3 := g1.trans g3
  clear o1 s1 g1 g3
  rcases (by omega : r = 0 ∨ r = 1 ∨ 1 < r) with rfl | rfl | hr
  · go_wp2_with fail
    refine (event_any g base A c bs _ s3).mono ?_
    rintro e w4 ⟨q, rfl, hq, s4, g4⟩
    have o4 : EvtO w4 w.heap.size B ps.length d ps := own_srcE o3 g4 hgl
    have G4 := G3.trans g4
    clear o3 s3 G3 g4
    go_wp2_with (at_builtin; refine wpList_push _ rfl (.tmp 11) (.tmp 14) 34 rfl w.heap.size 26 i0 _ 7 48 Try.underlying34 hi hz0 hz1 hz2 rfl (by decide) (.slice B ps.length d) ps.length _ rfl o4 [.int .i64 q.d, .int .i64 q.k, .string ⟨q.c.toArray⟩, .int .i64 q.a, .bool q.p, .bool q.v, .bool q.r] rfl (by simp [Value.oneCell']) rfl (by unfold maxLen; omega) (by omega) G4.size ?_; intro v' w' hown' hb')
    go_ret
    obtain ⟨B', d', rfl⟩ := own_form hown'
    exact ⟨B', d', ps ++ [q], by simp, ⟨by simp; omega, by simpa [EvtO, Evt.cells] using hown', snoc_deq HOK.out hq⟩, s4.keep (hb'.mono (by omega)), grown_below G4 hb'⟩
  · have hC : RowE (w3.alloc (.cells #[.int .i64 20040, .int .i64 0, .string ⟨#[115, 104, 105, 112]⟩, .int .i64 100, .bool false, .bool false, .bool false] 26)) w3.heap.size (.int .i64 20040) (.int .i64 0) (.string ⟨#[115, 104, 105, 112]⟩) (.int .i64 100) (.bool false) (.bool false) (.bool false) := heap_alloc_new w3 _
    have oA : EvtO (w3.alloc (.cells #[.int .i64 20040, .int .i64 0, .string ⟨#[115, 104, 105, 112]⟩, .int .i64 100, .bool false, .bool false, .bool false] 26)) w.heap.size B ps.length d ps := o3.below (below_alloc w3 _)
    have hCg : w3.heap.size ≠ g := by have := s3.lt; omega
    have hCn : Hid (∀ k, (Value.slice B ps.length d).ownBlock = some k → k < w3.heap.size) := Lib.hid (fun k hk => (o3.lt k hk).2)
    have sA := s3.alloc (.cells #[.int .i64 20040, .int .i64 0, .string ⟨#[115, 104, 105, 112]⟩, .int .i64 100, .bool false, .bool false, .bool false] 26)
    have GA := grown_alloc G3 (.cells #[.int .i64 20040, .int .i64 0, .string ⟨#[115, 104, 105, 112]⟩, .int .i64 100, .bool false, .bool false, .bool false] 26)
    have hwC : w.heap.size ≤ w3.heap.size := G3.size
    clear o3 s3 G3
    go_wp2_with fail
    go_loopw [3] (fun v wr => ∃ (B : Option Addr) (d : Nat) (ps : List Evt), v = .slice B ps.length d ∧ ps.length ≤ 16 ∧ Hid (∀ p ∈ ps, Deq p) ∧ EvtO wr w.heap.size B ps.length d ps ∧ Hid (∀ k, v.ownBlock = some k → k ≠ w3.heap.size) ∧ RowE wr w3.heap.size (.int .i64 20040) (.int .i64 0) (.string ⟨#[115, 104, 105, 112]⟩) (.int .i64 100) (.bool false) (.bool false) (.bool false) ∧ Src wr base g A c bs ∧ w.grownBy wr (some g)) (fun v _ => 17 - lnE v)
    case atStart => exact ⟨B, d, ps, rfl, by omega, HOK, oA, Lib.hid (fun k hk => by have := hCn.out k hk; omega), hC, sA, GA⟩
    case round =>
      clear hC oA hCn sA GA HOK hp7
      obtain ⟨B, d, ps, rfl, hp16, hok, hown, hne, hC, hs, hg⟩ := hrel
      go_wp2_with fail
      refine (next_any g _ base A c bs _ hs (by omega)).mono ?_
      rintro e w4 ⟨r3, rfl, a3, b3, h3, g3⟩
      have o4 : EvtO w4 w.heap.size B ps.length d ps := own_srcE hown g3 hgl
      have G4 := hg.trans g3
      have C4 : RowE w4 w3.heap.size _ _ _ _ _ _ _ := keepG g3 hC hCg
      clear hown hg g3 hs hC
      by_cases hc : (ps.length : Int) < 15 + r3
      · obtain ⟨c0, c1, c2, c3, c4, c5, c6, _, _, _, _, _, _, _⟩ := celE C4
        go_wp2_with (at_builtin; refine wpList_push2 _ rfl (.tmp 25) (.tmp 27) 34 rfl w.heap.size 26 i0 _ 7 48 Try.underlying34 hi hz0 hz1 hz2 rfl (by decide) (.slice B ps.length d) ps.length _ rfl o4 [.int .i64 20040, .int .i64 0, .string ⟨#[115, 104, 105, 112]⟩, .int .i64 100, .bool false, .bool false, .bool false] rfl (by simp [Value.oneCell']) rfl (by unfold maxLen; omega) (by omega) G4.size ?_; intro v' w' hown' hb' hv')
        have hlo := fun k hk => (o4.lt k hk).1
        have hC5 : RowE w' w3.heap.size _ _ _ _ _ _ _ := (hb'.block _ (lt_ofE C4) (fun e => hne.out _ e.symm rfl)).trans C4
        have hb2 : Below w.heap.size w4 w' := (Below.refl _ _).grown hb' G4.size hlo
        have hne' : Hid (∀ k, v'.ownBlock = some k → k ≠ w3.heap.size) := Lib.hid (fun k hk => by
          rcases hv' with e | ⟨j, hj, e⟩
          · exact hne.out k (e ▸ hk)
          · rw [e] at hk; injection hk with hk; have := lt_ofE C4; omega)
        obtain ⟨B', d', rfl⟩ := own_form hown'
        go_wp2_with fail
        go_roundw
        case rel => exact ⟨B', d', ps ++ [⟨20040, 0, [115, 104, 105, 112], 100, false, false, false⟩], by simp, by simp; omega, Lib.hid (snoc_deq hok.out (by unfold Deq; decide)), by simpa [EvtO, Evt.cells] using hown', hne', hC5, h3.keep (hb2.mono (by omega)), grown_below G4 hb2⟩
        case measure => simp [lnE]; omega
      · go_wp2_with fail
        go_ret
        exact ⟨B, d, ps, rfl, ⟨hp16, o4, hok.out⟩, h3, G4⟩
  · have n0 : (r == 0) = false := beq_eq_false_iff_ne.2 (by omega)
    have n1 : (r == 1) = false := beq_eq_false_iff_ne.2 (by omega)
    have hok := HOK.out
    clear HOK
    go_wp2_with fail
    go_ret
    exact ⟨B, d, ps, rfl, ⟨by omega, o3, hok⟩, s3, G3⟩
end Go.Proofs.Ytjcklmhgjdmjoaa

