/- The draws of chapter 5: a code, a party. (by gen_dpa.py) -/
import Derived.Test.YtjgagiigpijaiaaDoorDrawt
import Derived.Test.YtjgagiigpijaiaaDoorPtyf
import Derived.Test.YtjgagiigpijaiaaDoorRin
import Derived.Deep.CutRange
import Derived.Laws.ResultCell
namespace Go.Proofs.YtjgagiigpijaiaaDoor
open Go.ChangeShapes Go.WideShapes Go.ChangeAt Go.RowKit
set_option linter.unusedVariables false

def texts12 : List (List UInt8) := [[97, 108, 98, 97], [98, 111, 114, 111], [99, 97, 112, 101], [100, 111, 114, 97], [101, 108, 105, 110], [97, 108, 98, 97], [98, 111, 114, 111], [99, 97, 112, 101], [100, 111, 114, 97], [], [65, 108, 98, 97], [116, 111, 111, 108, 111, 110, 103]]
def texts6 : List (List UInt8) := [[97, 108, 98, 97], [98, 111, 114, 111], [99, 97, 112, 101], [100, 111, 114, 97], [101, 108, 105, 110], [102, 97, 114, 111]]
def texts3 : List (List UInt8) := [[97, 108, 98, 97], [98, 111, 114, 111], [99, 97, 112, 101]]
def strV (s : List UInt8) : Value := .string ⟨s.toArray⟩
theorem lt_ofs {wr : World} {g : Nat} {o : Obj} (h : wr.heap[g]? = some o) : g < wr.heap.size := by
  rcases Nat.lt_or_ge g wr.heap.size with hlt | hge
  · exact hlt
  · rw [Array.getElem?_eq_none hge] at h; cases h
theorem getD_repf (n k : Nat) : (Array.replicate n false).getD k false = false := by
  rcases Nat.lt_or_ge k n with h | h
  · simp [h]
  · simp [Array.getElem?_eq_none, h]
theorem text_at {ts : List (List UInt8)} (h : ∀ s ∈ ts, s.length ≤ 7) {k : Nat} (hk : k < ts.length) : ∃ s : List UInt8, s.length ≤ 7 ∧ (ts.map strV)[k]? = some (.string ⟨s.toArray⟩) :=
  ⟨ts[k], h _ (List.getElem_mem hk), by simp [hk, strV]⟩
theorem code_any (g : Nat) (base : Nat) (A : Option Addr) (c : Nat) (bs : List Int) (w : World) (h : Src w base g A c bs) :
    Calls Tryd.prog 71 #[.pointer (some ⟨g, 0, none⟩)] w (DrewS w base g A c bs 7) := by
  have hgl := h.lt
  have hrow : (w.alloc (.cells (texts12.map strV).toArray 9)).heap[w.heap.size]? = some (.cells (texts12.map strV).toArray 9 (0, 0)) := heap_alloc_new w _
  go_enter Tryd.func71, Tryd.ntmps71
  go_wp2_with fail
  refine (next_any g _ base A c bs _ (h.alloc _) (by omega)).mono ?_
  rintro e w1 ⟨r, rfl, r0, r1, h1, g1⟩
  obtain ⟨k, rfl⟩ := Int.eq_ofNat_of_zero_le r0
  have hk : k < 12 := by omega
  obtain ⟨s, hs, hv⟩ := text_at (ts := texts12) (by decide) (k := k) hk
  have hB := keepG g1 hrow (by omega)
  have hcell : w1.cell? ⟨w.heap.size, k, none⟩ = some (.string ⟨s.toArray⟩) := by rw [cell_of_row _ _ _ _ _ _ hB]; simpa using hv
  clear hB hrow hv
  go_wp2_with fail
  go_ret
  exact ⟨s, rfl, hs, h1, (World.grownBy_alloc _ _ _).trans g1⟩

/-- The six codes lie in block B. -/
def StrR (W : World) (B : Nat) : Prop := W.heap[B]? = some (.cells (texts6.map strV).toArray 9 (0, 0))
def Row3 (W : World) (C : Nat) (x0 x1 x2 : Value) : Prop := W.heap[C]? = some (.cells #[x0, x1, x2] 35 (0, 0))
/-- What a drawn party keeps to. -/
def Dok (q : Pty) : Prop := q.c.length ≤ 7 ∧ q.a.length ≤ 7 ∧ -1 ≤ q.k ∧ q.k ≤ 5
/-- What operation k has left in its slot. -/
def Good (g lo : Nat) (k : Nat) (v : Value) (W : World) : Prop :=
  match k with
  | 0 => ∃ B, v = .slice (some ⟨B, 0, none⟩) 6 6 ∧ StrR W B ∧ B ≠ g
  | 1 => v = .pointer (some ⟨g, 0, none⟩)
  | 2 => ∃ r : Nat, r < 6 ∧ v = .int .i64 r
  | 3 => ∃ B r : Nat, r < 6 ∧ v = .pointer (some ⟨B, r, none⟩) ∧ StrR W B ∧ B ≠ g
  | 4 => ∃ s : List UInt8, v = .string ⟨s.toArray⟩ ∧ s.length ≤ 7
  | 5 => v = .pointer (some ⟨g, 0, none⟩)
  | 6 => ∃ r : Int, 0 ≤ r ∧ r ≤ 4 ∧ v = .int .i64 r
  | 7 => ∃ q : Pty, v = .agg #[.string ⟨q.c.toArray⟩, .int .i64 q.k, .string ⟨q.a.toArray⟩] ∧ Dok q
  | _ => ∃ C x0 x1 x2, v = .pointer (some ⟨C, 0, none⟩) ∧ Row3 W C x0 x1 x2 ∧ lo ≤ C ∧ C ≠ g
theorem Good.mono {g lo k : Nat} {v : Value} {W W' : World} (h : Good g lo k v W) (hg : W.grownBy W' (some g)) : Good g lo k v W' := by
  unfold Good at *
  split at h
  · obtain ⟨B, e, h1, h2⟩ := h; exact ⟨B, e, keepG hg h1 h2, h2⟩
  · exact h
  · exact h
  · obtain ⟨B, r, h0, e, h1, h2⟩ := h; exact ⟨B, r, h0, e, keepG hg h1 h2, h2⟩
  · exact h
  · exact h
  · exact h
  · exact h
  · obtain ⟨C, x0, x1, x2, e, h1, h2, h3⟩ := h
    exact ⟨C, x0, x1, x2, e, keepG hg h1 h3, h2, h3⟩
def dstN (k : Nat) : Nat := if k = 8 then 3 else k + 4
def updN (vs : Nat → Value) (j : Nat) (v : Value) : Nat → Value := fun n => if n = j then v else vs n
def frm (g R : Nat) (vs : Nat → Value) : Act := { tmps := #[.pointer (some ⟨g, 0, none⟩), undef, .pointer (some ⟨R, 0, none⟩), vs 3, vs 4, vs 5, vs 6, vs 7, vs 8, vs 9, vs 10, vs 11, undef, undef, undef, undef, undef, undef, undef, undef, undef, undef, undef, undef, undef, undef, undef, undef, undef, undef, undef, undef, undef, undef, undef, undef, undef, undef, undef, undef], defers := [] }
theorem good_set {g lo i : Nat} {d : Array Bool} {vs : Nat → Value} {v : Value} {W W' : World} (hi : i < 9) (h : ∀ k, k < 9 → d.getD k false = true → Good g lo k (vs (dstN k)) W) (hg : W.grownBy W' (some g)) (hn : Good g lo i v W') :
    ∀ k, k < 9 → (d.setIfInBounds i true).getD k false = true → Good g lo k (updN vs (dstN i) v (dstN k)) W' := by
  intro k hk hd
  by_cases e : i = k
  · subst e; unfold updN; rw [if_pos rfl]; exact hn
  · rw [getD_set_ne false e] at hd
    have hne : dstN k ≠ dstN i := by unfold dstN; split <;> split <;> omega
    unfold updN
    rw [if_neg hne]
    exact (h k hk hd).mono hg
/-- The condition. -/
def RInv (w : World) (base g : Nat) (A : Option Addr) (c : Nat) (bs : List Int) (R : Nat) (d : Array Bool) (a : Act) (W : World) : Prop :=
  ∃ vs, a = frm g R vs ∧ Src W base g A c bs ∧ w.grownBy W (some g) ∧
    ((d.getD 9 false = false ∧ ∀ k, k < 9 → d.getD k false = true → Good g w.heap.size k (vs (dstN k)) W) ∨
     ((∀ k, k < 10 → d.getD k true = true) ∧ ∃ C q, vs 3 = .pointer (some ⟨C, 0, none⟩) ∧ Row3 W C (.string ⟨(q : Pty).c.toArray⟩) (.int .i64 q.k) (.string ⟨q.a.toArray⟩) ∧ Dok q ∧ w.heap.size ≤ C ∧ C ≠ g))
theorem ptySz : (Tryd.prog.info? 35).map (·.size) = some 3 := by kernel_rfl

theorem row3_at {W : World} {C : Nat} {x0 x1 x2 : Value} (h : W.heap[C]? = some (.cells #[x0, x1, x2] 35 (0, 0))) :
    W.cell? ⟨C, 0, none⟩ = some x0 ∧ W.cell? ⟨C, 1, none⟩ = some x1 ∧ W.cell? ⟨C, 2, none⟩ = some x2 ∧ W.frozen? ⟨C, 0, none⟩ = false ∧ W.frozen? ⟨C, 1, none⟩ = false ∧ W.frozen? ⟨C, 2, none⟩ = false :=
  ⟨by rw [cell_of_row _ _ _ _ _ _ h]; rfl, by rw [cell_of_row _ _ _ _ _ _ h]; rfl, by rw [cell_of_row _ _ _ _ _ _ h]; rfl,
   frozen_of_row W C 0 _ _ h, frozen_of_row W C 1 _ _ h, frozen_of_row W C 2 _ _ h⟩
/-- Three stores into the result's box. -/
theorem fin3 {w W : World} {base g R : Nat} {A : Option Addr} {c : Nat} {bs : List Int} {x0 x1 x2 : Value} (h : W.heap[R]? = some (.cells #[x0, x1, x2] 35 (0, 0))) (hs : Src W base g A c bs) (hG : w.grownBy W (some g)) (hgR : g < R) (hwR : w.heap.size ≤ R) (a b e : Value) :
    (((W.setCell ⟨R, 0, none⟩ a).setCell ⟨R, 1, none⟩ b).setCell ⟨R, 2, none⟩ e).heap[R]? = some (.cells #[a, b, e] 35 (0, 0)) ∧
    Src (((W.setCell ⟨R, 0, none⟩ a).setCell ⟨R, 1, none⟩ b).setCell ⟨R, 2, none⟩ e) base g A c bs ∧ w.grownBy (((W.setCell ⟨R, 0, none⟩ a).setCell ⟨R, 1, none⟩ b).setCell ⟨R, 2, none⟩ e) (some g) := by
  have h1 : (W.setCell ⟨R, 0, none⟩ a).heap[R]? = some (.cells #[a, x1, x2] 35 (0, 0)) := by rw [heap_setCell_same W R 0 _ _ _ h]; rfl
  have h2 : ((W.setCell ⟨R, 0, none⟩ a).setCell ⟨R, 1, none⟩ b).heap[R]? = some (.cells #[a, b, x2] 35 (0, 0)) := by rw [heap_setCell_same _ R 1 _ _ _ h1]; rfl
  have hbl : ∀ n, n ≤ R → Below n W (((W.setCell ⟨R, 0, none⟩ a).setCell ⟨R, 1, none⟩ b).setCell ⟨R, 2, none⟩ e) := fun n hn =>
    (((Below.refl n W).setCell (p := ⟨R, 0, none⟩) hn _).setCell (p := ⟨R, 1, none⟩) hn _).setCell (p := ⟨R, 2, none⟩) hn _
  exact ⟨by rw [heap_setCell_same _ R 2 _ _ _ h2]; rfl, hs.keep (hbl _ (by omega)), grown_below hG (hbl _ hwR)⟩
/-- One store into the party's box. -/
theorem put1 {w W : World} {base g C R : Nat} {A : Option Addr} {c : Nat} {bs : List Int} {o : Obj} (hs : Src W base g A c bs) (hG : w.grownBy W (some g)) (hgC : g < C) (hwC : w.heap.size ≤ C) (hRC : R ≠ C) (hR : W.heap[R]? = some o) (j : Nat) (u : Value) :
    Src (W.setCell ⟨C, j, none⟩ u) base g A c bs ∧ w.grownBy (W.setCell ⟨C, j, none⟩ u) (some g) ∧ (W.setCell ⟨C, j, none⟩ u).heap[R]? = some o :=
  ⟨hs.keep ((Below.refl _ _).setCell (p := ⟨C, j, none⟩) hgC _), grown_below hG ((Below.refl _ _).setCell (p := ⟨C, j, none⟩) hwC _), (heap_setCell_other W ⟨C, j, none⟩ R u (fun e => hRC (by simpa using e))).trans hR⟩

set_option maxRecDepth 100000 in
set_option maxHeartbeats 8000000 in
theorem party_any (g : Nat) (base : Nat) (A : Option Addr) (c : Nat) (bs : List Int) (w : World) (h : Src w base g A c bs) :
    Calls Tryd.prog 66 #[.pointer (some ⟨g, 0, none⟩)] w (fun e w' => ∃ q : Pty, e = .returned (.agg #[.string ⟨q.c.toArray⟩, .int .i64 q.k, .string ⟨q.a.toArray⟩]) ∧ Dok q ∧ Src w' base g A c bs ∧ w.grownBy w' (some g)) := by
  go_enter Tryd.func66, Tryd.ntmps66
  go_wp2_with fail
  have hgR : g < (w.alloc (.cells #[.string ⟨#[]⟩, .int .i64 0, .string ⟨#[]⟩] 35)).heap.size := by have := h.lt; simp; omega
  refine region_inv (by kernel_rfl) (by kernel_rfl) (RInv (w.alloc (.cells #[.string ⟨#[]⟩, .int .i64 0, .string ⟨#[]⟩] 35)) base g A c bs w.heap.size) ?_ ?_ ?_
  · exact ⟨fun _ => undef, rfl, h.alloc _, ⟨rfl, rfl, rfl, Nat.le_refl _, fun _ _ _ => rfl⟩, .inl ⟨rfl, fun k hk hd => by rw [getD_repf] at hd; cases hd⟩⟩
  · clear h
    generalize w.heap.size = R at *
    generalize w.alloc (.cells #[.string ⟨#[]⟩, .int .i64 0, .string ⟨#[]⟩] 35) = w at *
    intro i d a W hi hI
    obtain ⟨hun, oi, hoi, hall⟩ := mem_ready.1 hi
    have hlt : i < 10 := (Array.getElem?_eq_some_iff.1 hoi).1
    obtain ⟨vs, rfl, hs, hG, ⟨hd9, hI⟩ | ⟨hI, _⟩⟩ := hI
    · rcases (by omega : i = 0 ∨ i = 1 ∨ i = 2 ∨ i = 3 ∨ i = 4 ∨ i = 5 ∨ i = 6 ∨ i = 7 ∨ i = 8 ∨ i = 9) with rfl | rfl | rfl | rfl | rfl | rfl | rfl | rfl | rfl | rfl
      all_goals
        obtain rfl := Option.some.inj hoi
        clear hoi hlt hi hun
      · skip
        refine wpOp_step rfl (fun K hK => ?_)
        simp only [frm]
        go_simp
        refine hK _ _ ⟨updN vs 4 (.slice (some ⟨W.heap.size, 0, none⟩) 6 6), by simp [frm, updN], (hs.alloc _), (hG.trans (World.grownBy_alloc _ _ _)), .inl ⟨(getD_set_ne false (by decide)).trans hd9, good_set (i := 0) (by omega) hI (World.grownBy_alloc _ _ _) ⟨_, rfl, heap_alloc_new W _, by have := hs.lt; omega⟩⟩⟩
      · skip
        refine wpOp_step rfl (fun K hK => ?_)
        simp only [frm]
        go_simp
        refine hK _ _ ⟨updN vs 5 (.pointer (some ⟨g, 0, none⟩)), by simp [frm, updN], hs, hG, .inl ⟨(getD_set_ne false (by decide)).trans hd9, good_set (i := 1) (by omega) hI (World.grownBy.refl _ _) rfl⟩⟩
      · have p1 := hall ⟨1, .data⟩ (by simp) rfl
        have e5 : vs 5 = .pointer (some ⟨g, 0, none⟩) := hI 1 (by omega) p1
        refine wpOp_step rfl (fun K hK => ?_)
        simp only [frm, e5]
        go_simp
        go_wp2_with (go_at_call 68; refine (next_any g _ base A c bs _ hs (by omega)).mono ?_; rintro e W2 ⟨r, rfl, r0, r1, hs2, hg2⟩)
        exact ⟨updN vs 6 (.int .i64 r), by simp [frm, updN, e5], hs2, (hG.trans hg2), .inl ⟨(getD_set_ne false (by decide)).trans hd9, good_set (i := 2) (by omega) hI hg2 (by obtain ⟨m, rfl⟩ := Int.eq_ofNat_of_zero_le r0; exact ⟨m, by omega, rfl⟩)⟩⟩
      · have p0 := hall ⟨0, .data⟩ (by simp) rfl
        have p2 := hall ⟨2, .data⟩ (by simp) rfl
        obtain ⟨B, e4, hB, hBg⟩ : ∃ B, vs 4 = .slice (some ⟨B, 0, none⟩) 6 6 ∧ StrR W B ∧ B ≠ g := hI 0 (by omega) p0
        obtain ⟨r, hr, e6⟩ : ∃ r : Nat, r < 6 ∧ vs 6 = .int .i64 r := hI 2 (by omega) p2
        refine wpOp_step rfl (fun K hK => ?_)
        simp only [frm, e4, e6]
        go_simp
        rw [if_pos (by omega)]
        go_simp
        refine hK _ _ ⟨updN vs 7 (.pointer (some ⟨B, r, none⟩)), by simp [frm, updN, e4, e6], hs, hG, .inl ⟨(getD_set_ne false (by decide)).trans hd9, good_set (i := 3) (by omega) hI (World.grownBy.refl _ _) ⟨B, r, hr, rfl, hB, hBg⟩⟩⟩
      · have p3 := hall ⟨3, .data⟩ (by simp) rfl
        obtain ⟨B, r, hr, e7, hB, hBg⟩ : ∃ B r : Nat, r < 6 ∧ vs 7 = .pointer (some ⟨B, r, none⟩) ∧ StrR W B ∧ B ≠ g := hI 3 (by omega) p3
        obtain ⟨s, hsl, hv⟩ := text_at (ts := texts6) (by decide) (k := r) hr
        have hcell : W.cell? ⟨B, r, none⟩ = some (.string ⟨s.toArray⟩) := by rw [cell_of_row _ _ _ _ _ _ hB]; simpa using hv
        refine wpOp_step rfl (fun K hK => ?_)
        simp only [frm, e7]
        go_simp
        refine hK _ _ ⟨updN vs 8 (.string ⟨s.toArray⟩), by simp [frm, updN, e7], hs, hG, .inl ⟨(getD_set_ne false (by decide)).trans hd9, good_set (i := 4) (by omega) hI (World.grownBy.refl _ _) ⟨s, rfl, hsl⟩⟩⟩
      · skip
        refine wpOp_step rfl (fun K hK => ?_)
        simp only [frm]
        go_simp
        refine hK _ _ ⟨updN vs 9 (.pointer (some ⟨g, 0, none⟩)), by simp [frm, updN], hs, hG, .inl ⟨(getD_set_ne false (by decide)).trans hd9, good_set (i := 5) (by omega) hI (World.grownBy.refl _ _) rfl⟩⟩
      · have p5 := hall ⟨5, .data⟩ (by simp) rfl
        have e9 : vs 9 = .pointer (some ⟨g, 0, none⟩) := hI 5 (by omega) p5
        refine wpOp_step rfl (fun K hK => ?_)
        simp only [frm, e9]
        go_simp
        go_wp2_with (go_at_call 68; refine (next_any g _ base A c bs _ hs (by omega)).mono ?_; rintro e W2 ⟨r, rfl, r0, r1, hs2, hg2⟩)
        exact ⟨updN vs 10 (.int .i64 r), by simp [frm, updN, e9], hs2, (hG.trans hg2), .inl ⟨(getD_set_ne false (by decide)).trans hd9, good_set (i := 6) (by omega) hI hg2 ⟨r, r0, by omega, rfl⟩⟩⟩
      · have p4 := hall ⟨4, .data⟩ (by simp) rfl
        have p6 := hall ⟨6, .data⟩ (by simp) rfl
        obtain ⟨s, e8, hsl⟩ : ∃ s : List UInt8, vs 8 = .string ⟨s.toArray⟩ ∧ s.length ≤ 7 := hI 4 (by omega) p4
        obtain ⟨x, x0, x1, e10⟩ : ∃ r : Int, 0 ≤ r ∧ r ≤ 4 ∧ vs 10 = .int .i64 r := hI 6 (by omega) p6
        refine wpOp_step rfl (fun K hK => ?_)
        simp only [frm, e8, e10]
        go_simp
        refine hK _ _ ⟨updN vs 11 (.agg #[.string ⟨s.toArray⟩, .int .i64 x, .string ⟨#[]⟩]), by simp [frm, updN, e8, e10], hs, hG, .inl ⟨(getD_set_ne false (by decide)).trans hd9, good_set (i := 7) (by omega) hI (World.grownBy.refl _ _) ⟨⟨s, x, []⟩, rfl, hsl, by simp, by simp; omega, by simp; omega⟩⟩⟩
      · skip
        refine wpOp_step rfl (fun K hK => ?_)
        simp only [frm]
        go_simp
        refine hK _ _ ⟨updN vs 3 (.pointer (some ⟨W.heap.size, 0, none⟩)), by simp [frm, updN], (hs.alloc _), (hG.trans (World.grownBy_alloc _ _ _)), .inl ⟨(getD_set_ne false (by decide)).trans hd9, good_set (i := 8) (by omega) hI (World.grownBy_alloc _ _ _) ⟨_, _, _, _, rfl, heap_alloc_new W _, hG.size, by have := hs.lt; omega⟩⟩⟩
      · have p7 := hall ⟨7, .data⟩ (by simp) rfl
        have p8 := hall ⟨8, .data⟩ (by simp) rfl
        obtain ⟨q, e11, hq⟩ : ∃ q : Pty, vs 11 = .agg #[.string ⟨q.c.toArray⟩, .int .i64 q.k, .string ⟨q.a.toArray⟩] ∧ Dok q := hI 7 (by omega) p7
        obtain ⟨C, x0, x1, x2, e3, hC, hlo, hCg⟩ : ∃ C x0 x1 x2, vs 3 = .pointer (some ⟨C, 0, none⟩) ∧ Row3 W C x0 x1 x2 ∧ w.heap.size ≤ C ∧ C ≠ g := hI 8 (by omega) p8
        refine wpOp_step rfl (fun K hK => ?_)
        simp only [frm, e11, e3]
        obtain ⟨c0, c1, c2, f0, f1, f2⟩ := row3_at hC
        have hRow : Row3 (((W.setCell ⟨C, 0, none⟩ (.string ⟨q.c.toArray⟩)).setCell ⟨C, 1, none⟩ (.int .i64 q.k)).setCell ⟨C, 2, none⟩ (.string ⟨q.a.toArray⟩)) C (.string ⟨q.c.toArray⟩) (.int .i64 q.k) (.string ⟨q.a.toArray⟩) := by
          have h1 : (W.setCell ⟨C, 0, none⟩ (.string ⟨q.c.toArray⟩)).heap[C]? = some (.cells #[.string ⟨q.c.toArray⟩, x1, x2] 35 (0, 0)) := by rw [heap_setCell_same W C 0 _ _ _ hC]; rfl
          have h2 : ((W.setCell ⟨C, 0, none⟩ (.string ⟨q.c.toArray⟩)).setCell ⟨C, 1, none⟩ (.int .i64 q.k)).heap[C]? = some (.cells #[.string ⟨q.c.toArray⟩, .int .i64 q.k, x2] 35 (0, 0)) := by rw [heap_setCell_same _ C 1 _ _ _ h1]; rfl
          unfold Row3
          rw [heap_setCell_same _ C 2 _ _ _ h2]; rfl
        have hbl : ∀ n, n ≤ C → Below n W (((W.setCell ⟨C, 0, none⟩ (.string ⟨q.c.toArray⟩)).setCell ⟨C, 1, none⟩ (.int .i64 q.k)).setCell ⟨C, 2, none⟩ (.string ⟨q.a.toArray⟩)) := fun n hn =>
          (((Below.refl n W).setCell (p := ⟨C, 0, none⟩) hn _).setCell (p := ⟨C, 1, none⟩) hn _).setCell (p := ⟨C, 2, none⟩) hn _
        have hall2 : ∀ k, k < 10 → (d.setIfInBounds 9 true).getD k true = true := by
          intro k hk
          rcases (by omega : k = 0 ∨ k = 1 ∨ k = 2 ∨ k = 3 ∨ k = 4 ∨ k = 5 ∨ k = 6 ∨ k = 7 ∨ k = 8 ∨ k = 9) with rfl | rfl | rfl | rfl | rfl | rfl | rfl | rfl | rfl | rfl
          all_goals first
            | exact (getD_set_ne true (by decide)).trans (getD_ft (hall ⟨_, .phase⟩ (by simp) rfl))
            | exact (getD_set_ne true (by decide)).trans (getD_ft (hall ⟨_, .data⟩ (by simp) rfl))
            | (by_cases hz : 9 < d.size <;> simp [hz])
        clear hall
        go_simp
        refine hK _ _ ⟨vs, by simp [frm, e11, e3], hs.keep (hbl _ (by omega)), grown_below hG (hbl _ hlo), .inr ⟨hall2, C, q, e3, hRow, hq, hlo, hCg⟩⟩
    · have := hI i hlt
      rw [hun] at this; cases this
  · rintro d a W hsz hall ⟨vs, rfl, hs, hG, ⟨hd9, _⟩ | ⟨_, C, q, e3, hC, hq, hlo, hCg⟩⟩
    · exfalso
      have h9 := hall 9 (by simp)
      have : 9 < d.size := by rw [hsz]; simp
      simp [this] at hd9 h9
      rw [hd9] at h9; cases h9
    · have hlo' : w.heap.size < C := by simp at hlo; omega
      have hRow := keepG hG (heap_alloc_new w (.cells #[.string ⟨#[]⟩, .int .i64 0, .string ⟨#[]⟩] 35)) (by have := h.lt; omega)
      have hGw : w.grownBy W (some g) := (World.grownBy_alloc w _ _).trans hG
      have hgl := h.lt
      obtain ⟨qc, qa, qk, qK⟩ := hq
      clear hG hall hsz
      simp only [frm, e3]
      go_wp2_with fail
      refine (next_any g _ base A c bs _ hs (by omega)).mono ?_
      rintro e w2 ⟨k2, rfl, ka, kb, s2, g2⟩
      have hC2 : Row3 w2 C _ _ _ := keepG g2 hC hCg
      have hR2 := keepG g2 hRow (by omega)
      have G2 := hGw.trans g2
      clear hs hC hRow hGw g2
      rcases (by omega : (k2 = 0 ∨ k2 = 1) ∨ k2 = 2 ∨ k2 = 3 ∨ k2 = 4 ∨ 4 < k2) with hk | rfl | rfl | rfl | hk
      · have hrow : (w2.alloc (.cells (texts3.map strV).toArray 9)).heap[w2.heap.size]? = some (.cells (texts3.map strV).toArray 9 (0, 0)) := heap_alloc_new w2 _
        have hgl2 := s2.lt
        have s2a := Lib.hid (s2.alloc (.cells (texts3.map strV).toArray 9))
        have HN := Lib.hid (fun (W : World) (e : W.heap = (w2.alloc (.cells (texts3.map strV).toArray 9)).heap) => next_any g 3 base A c bs W (s2a.out.same e) (by omega))
        have hC2a : Row3 (w2.alloc (.cells (texts3.map strV).toArray 9)) C _ _ _ := (Below.heap_alloc w2 _ _ (lt_ofs hC2)).trans hC2
        have hR2a := (Below.heap_alloc w2 (.cells (texts3.map strV).toArray 9) _ (lt_ofs hR2)).trans hR2
        have G2a := grown_alloc G2 (.cells (texts3.map strV).toArray 9)
        have hC0 := lt_ofs hC2
        have hR0 := lt_ofs hR2
        have X : ∀ w3 : World, (w2.alloc (.cells (texts3.map strV).toArray 9)).grownBy w3 (some g) → (∀ k, k < 3 → ∃ s : List UInt8, s.length ≤ 7 ∧ w3.cell? ⟨w2.heap.size, k, none⟩ = some (.string ⟨s.toArray⟩)) ∧ Row3 w3 C (.string ⟨q.c.toArray⟩) (.int .i64 q.k) (.string ⟨q.a.toArray⟩) ∧ w3.heap[w.heap.size]? = some (.cells #[.string ⟨#[]⟩, .int .i64 0, .string ⟨#[]⟩] 35 (0, 0)) ∧ w.grownBy w3 (some g) := fun w3 g3 => by
          refine ⟨fun k hk => ?_, keepG g3 hC2a hCg, keepG g3 hR2a (by omega), G2a.trans g3⟩
          obtain ⟨s, hs, hv⟩ := text_at (ts := texts3) (by decide) (k := k) hk
          exact ⟨s, hs, by rw [cell_of_row _ _ _ _ _ _ (keepG g3 hrow (by omega))]; simpa using hv⟩
        clear hrow hC2 hR2 G2 s2 hC2a hR2a G2a
        rcases hk with rfl | rfl
        all_goals
          go_wp2_with fail
          refine (HN.out _ (by rfl)).mono ?_
          rintro e w3 ⟨r3, rfl, a3, b3, s3, g3⟩
          obtain ⟨k3, rfl⟩ := Int.eq_ofNat_of_zero_le a3
          have hk3 : k3 < 3 := by omega
          obtain ⟨hX, hC3, hR3, G3⟩ := X w3 ⟨g3.os, g3.tape, g3.output, g3.size, g3.block⟩
          obtain ⟨s, hsl, hcell⟩ := hX k3 hk3
          clear X hX s2a HN g3
          obtain ⟨c0, c1, c2, f0, f1, f2⟩ := row3_at hC3
          obtain ⟨r0, r1, r2, d0, d1, d2⟩ := row3_at hR3
          obtain ⟨s4, G4, hR4⟩ := put1 (C := C) s3 G3 (show g < C by omega) (show w.heap.size ≤ C by omega) (show w.heap.size ≠ C by omega) hR3 2 (.string ⟨s.toArray⟩)
          obtain ⟨hR5, s5, G5⟩ := fin3 hR4 s4 G4 hgl (Nat.le_refl _) (.string ⟨q.c.toArray⟩) (.int .i64 q.k) (.string ⟨s.toArray⟩)
          have HE := Lib.hid hR5; have HS := Lib.hid s5; have HG := Lib.hid G5
          clear hC3 hR3 hR4 s4 G4 hR5 s5 G5
          go_wp2_with fail
          refine bodyPost_ret (v := .agg #[.string ⟨q.c.toArray⟩, .int .i64 q.k, .string ⟨s.toArray⟩]) ?_ ?_ ?_
          · exact results_cell_row (p := 2) rfl _ _ w.heap.size 35 _ (0, 0) _ rfl HE.out Tryd.underlying35 rfl ptySz
          · rfl
          · exact ⟨⟨q.c, q.k, s⟩, rfl, ⟨by first | assumption | (simp; omega), by first | assumption | (simp; omega), by first | assumption | (simp; omega), by first | assumption | (simp; omega)⟩, HS.out, HG.out⟩
      · go_wp2_with fail
        refine (code_any g base A c bs _ s2).mono ?_
        rintro e w3 ⟨s, rfl, hsl, s3, g3⟩
        have hC3 : Row3 w3 C _ _ _ := keepG g3 hC2 hCg
        have hR3 := keepG g3 hR2 (by omega)
        have G3 := G2.trans g3
        clear hC2 hR2 G2 g3 s2
        obtain ⟨c0, c1, c2, f0, f1, f2⟩ := row3_at hC3
        obtain ⟨r0, r1, r2, d0, d1, d2⟩ := row3_at hR3
        obtain ⟨s4, G4, hR4⟩ := put1 (C := C) s3 G3 (show g < C by omega) (show w.heap.size ≤ C by omega) (show w.heap.size ≠ C by omega) hR3 2 (.string ⟨s.toArray⟩)
        obtain ⟨hR5, s5, G5⟩ := fin3 hR4 s4 G4 hgl (Nat.le_refl _) (.string ⟨q.c.toArray⟩) (.int .i64 q.k) (.string ⟨s.toArray⟩)
        have HE := Lib.hid hR5; have HS := Lib.hid s5; have HG := Lib.hid G5
        clear hC3 hR3 hR4 s4 G4 hR5 s5 G5
        go_wp2_with fail
        refine bodyPost_ret (v := .agg #[.string ⟨q.c.toArray⟩, .int .i64 q.k, .string ⟨s.toArray⟩]) ?_ ?_ ?_
        · exact results_cell_row (p := 2) rfl _ _ w.heap.size 35 _ (0, 0) _ rfl HE.out Tryd.underlying35 rfl ptySz
        · rfl
        · exact ⟨⟨q.c, q.k, s⟩, rfl, ⟨by first | assumption | (simp; omega), by first | assumption | (simp; omega), by first | assumption | (simp; omega), by first | assumption | (simp; omega)⟩, HS.out, HG.out⟩
      · go_wp2_with fail
        refine (next_any g _ base A c bs _ s2 (by omega)).mono ?_
        rintro e w3 ⟨y, rfl, y0, y1, s3, g3⟩
        have hC3 : Row3 w3 C _ _ _ := keepG g3 hC2 hCg
        have hR3 := keepG g3 hR2 (by omega)
        have G3 := G2.trans g3
        clear hC2 hR2 G2 g3 s2
        obtain ⟨c0, c1, c2, f0, f1, f2⟩ := row3_at hC3
        obtain ⟨r0, r1, r2, d0, d1, d2⟩ := row3_at hR3
        obtain ⟨s4, G4, hR4⟩ := put1 (C := C) s3 G3 (show g < C by omega) (show w.heap.size ≤ C by omega) (show w.heap.size ≠ C by omega) hR3 1 (.int .i64 (y - 1))
        obtain ⟨hR5, s5, G5⟩ := fin3 hR4 s4 G4 hgl (Nat.le_refl _) (.string ⟨q.c.toArray⟩) (.int .i64 (y - 1)) (.string ⟨q.a.toArray⟩)
        have HE := Lib.hid hR5; have HS := Lib.hid s5; have HG := Lib.hid G5
        clear hC3 hR3 hR4 s4 G4 hR5 s5 G5
        go_wp2_with fail
        refine bodyPost_ret (v := .agg #[.string ⟨q.c.toArray⟩, .int .i64 (y - 1), .string ⟨q.a.toArray⟩]) ?_ ?_ ?_
        · exact results_cell_row (p := 2) rfl _ _ w.heap.size 35 _ (0, 0) _ rfl HE.out Tryd.underlying35 rfl ptySz
        · rfl
        · exact ⟨⟨q.c, (y - 1), q.a⟩, rfl, ⟨by first | assumption | (simp; omega), by first | assumption | (simp; omega), by first | assumption | (simp; omega), by first | assumption | (simp; omega)⟩, HS.out, HG.out⟩
      · go_wp2_with fail
        refine (code_any g base A c bs _ s2).mono ?_
        rintro e w3 ⟨s, rfl, hsl, s3, g3⟩
        have hC3 : Row3 w3 C _ _ _ := keepG g3 hC2 hCg
        have hR3 := keepG g3 hR2 (by omega)
        have G3 := G2.trans g3
        clear hC2 hR2 G2 g3 s2
        obtain ⟨c0, c1, c2, f0, f1, f2⟩ := row3_at hC3
        obtain ⟨r0, r1, r2, d0, d1, d2⟩ := row3_at hR3
        obtain ⟨s4, G4, hR4⟩ := put1 (C := C) s3 G3 (show g < C by omega) (show w.heap.size ≤ C by omega) (show w.heap.size ≠ C by omega) hR3 0 (.string ⟨s.toArray⟩)
        obtain ⟨hR5, s5, G5⟩ := fin3 hR4 s4 G4 hgl (Nat.le_refl _) (.string ⟨s.toArray⟩) (.int .i64 q.k) (.string ⟨q.a.toArray⟩)
        have HE := Lib.hid hR5; have HS := Lib.hid s5; have HG := Lib.hid G5
        clear hC3 hR3 hR4 s4 G4 hR5 s5 G5
        go_wp2_with fail
        refine bodyPost_ret (v := .agg #[.string ⟨s.toArray⟩, .int .i64 q.k, .string ⟨q.a.toArray⟩]) ?_ ?_ ?_
        · exact results_cell_row (p := 2) rfl _ _ w.heap.size 35 _ (0, 0) _ rfl HE.out Tryd.underlying35 rfl ptySz
        · rfl
        · exact ⟨⟨s, q.k, q.a⟩, rfl, ⟨by first | assumption | (simp; omega), by first | assumption | (simp; omega), by first | assumption | (simp; omega), by first | assumption | (simp; omega)⟩, HS.out, HG.out⟩
      · have n0 : ((k2 : Int) == 0) = false := beq_eq_false_iff_ne.2 (by omega)
        have n1 : ((k2 : Int) == 1) = false := beq_eq_false_iff_ne.2 (by omega)
        have n2 : ((k2 : Int) == 2) = false := beq_eq_false_iff_ne.2 (by omega)
        have n3 : ((k2 : Int) == 3) = false := beq_eq_false_iff_ne.2 (by omega)
        have n4 : ((k2 : Int) == 4) = false := beq_eq_false_iff_ne.2 (by omega)
        obtain ⟨c0, c1, c2, f0, f1, f2⟩ := row3_at hC2
        obtain ⟨r0, r1, r2, d0, d1, d2⟩ := row3_at hR2
        obtain ⟨hR5, s5, G5⟩ := fin3 hR2 s2 G2 hgl (Nat.le_refl _) (.string ⟨q.c.toArray⟩) (.int .i64 q.k) (.string ⟨q.a.toArray⟩)
        have HE := Lib.hid hR5; have HS := Lib.hid s5; have HG := Lib.hid G5
        clear hC2 hR2 hR5 s5 G5
        go_wp2_with fail
        refine bodyPost_ret (v := .agg #[.string ⟨q.c.toArray⟩, .int .i64 q.k, .string ⟨q.a.toArray⟩]) ?_ ?_ ?_
        · exact results_cell_row (p := 2) rfl _ _ w.heap.size 35 _ (0, 0) _ rfl HE.out Tryd.underlying35 rfl ptySz
        · rfl
        · exact ⟨⟨q.c, q.k, q.a⟩, rfl, ⟨by first | assumption | (simp; omega), by first | assumption | (simp; omega), by first | assumption | (simp; omega), by first | assumption | (simp; omega)⟩, HS.out, HG.out⟩
end Go.Proofs.YtjgagiigpijaiaaDoor
