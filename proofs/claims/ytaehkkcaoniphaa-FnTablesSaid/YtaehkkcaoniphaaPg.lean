import Derived.Test.YtaehkkcaoniphaaPf
import Derived.Deep.CutRange
import Derived.RegionTactic
/- Drawn amounts. -/
namespace Go.Proofs.Ytaehkkcaoniphaa
open Go.ChangeShapes Go.WideShapes Go.ChangeAt Go.RowKit
set_option linter.unusedVariables false

set_option maxHeartbeats 1000000 in
theorem amount_any (g : Nat) (base : Nat) (A : Option Addr) (c : Nat) (bs : List Int) (w : World) (h : Src w base g A c bs) :
    Calls Try.prog 43 #[.pointer (some ⟨g, 0, none⟩)] w (Drew w base g A c bs (-1) 1000000001) := by
  go_enter Try.func43, Try.ntmps43
  go_wp2_with fail
  refine (next_any g _ base A c bs _ h (by omega)).mono ?_
  rintro e w1 ⟨r1, rfl, a1, b1, h1, g1⟩
  go_wp2_with fail
  refine (next_any g _ base A c bs _ h1 (by omega)).mono ?_
  rintro e w2 ⟨r2, rfl, a2, b2, h2, g2⟩
  go_wp2_with fail
  refine (next_any g _ base A c bs _ h2 (by omega)).mono ?_
  rintro e w3 ⟨r3, rfl, a3, b3, h3, g3⟩
  go_wp2_with fail
  refine (next_any g _ base A c bs _ h3 (by omega)).mono ?_
  rintro e w4 ⟨r4, rfl, a4, b4, h4, g4⟩
  go_wp2_with fail
  refine (next_any g _ base A c bs _ h4 (by omega)).mono ?_
  rintro e w5 ⟨r5, rfl, a5, b5, h5, g5⟩
  go_wp2_with fail
  refine (next_any g _ base A c bs _ h5 (by omega)).mono ?_
  rintro e w6 ⟨r6, rfl, a6, b6, h6, g6⟩
  go_wp2_with fail
  refine (pick_new g 10 [r1, r2, r3, 100 * r4, 0, 1, r5, 1000000000, r6 - 1, 1000000001] (-1) 1000000001 base A c bs w6 h6 rfl (by omega) (by omega) ?_).mono ?_
  · intro x hx
    simp only [List.mem_cons, List.not_mem_nil, or_false] at hx
    omega
  rintro e w7 ⟨r7, rfl, a7, b7, h7, g7⟩
  go_wp2_with fail
  go_ret
  exact ⟨r7, rfl, a7, b7, h7, (((((g1.trans g2).trans g3).trans g4).trans g5).trans g6).trans g7⟩
end Go.Proofs.Ytaehkkcaoniphaa

/- The draws of chapter 3: codes, days, rates. -/
namespace Go.Proofs.Ytaehkkcaoniphaa
open Go.ChangeShapes Go.WideShapes Go.ChangeAt Go.RowKit
set_option linter.unusedVariables false

/-- What a draw of a text leaves: a short text. -/
def DrewS (w : World) (base g : Nat) (A : Option Addr) (c : Nat) (bs : List Int) (e : Ending) (w' : World) : Prop :=
  ∃ s : List UInt8, e = .returned (.string ⟨s.toArray⟩) ∧ s.length ≤ 3 ∧ Src w' base g A c bs ∧ w.grownBy w' (some g)
def texts10 : List (List UInt8) := [[88, 68, 82], [69, 85, 82], [74, 80, 89], [85, 83, 68], [85, 83, 68], [69, 85, 82], [71, 66, 80], [74, 80, 89], [69, 117, 114], [85, 83]]
def texts3 : List (List UInt8) := [[69, 85, 82], [74, 80, 89], [85, 83, 68]]
def strV (s : List UInt8) : Value := .string ⟨s.toArray⟩
theorem text_at {ts : List (List UInt8)} (h : ∀ s ∈ ts, s.length ≤ 3) {k : Nat} (hk : k < ts.length) : ∃ s : List UInt8, s.length ≤ 3 ∧ (ts.map strV)[k]? = some (.string ⟨s.toArray⟩) :=
  ⟨ts[k], h _ (List.getElem_mem hk), by simp [hk, strV]⟩
theorem code_any (g : Nat) (base : Nat) (A : Option Addr) (c : Nat) (bs : List Int) (w : World) (h : Src w base g A c bs) :
    Calls Try.prog 41 #[.pointer (some ⟨g, 0, none⟩)] w (DrewS w base g A c bs) := by
  have hgl := h.lt
  have hrow : (w.alloc (.cells (texts10.map strV).toArray 9)).heap[w.heap.size]? = some (.cells (texts10.map strV).toArray 9 (0, 0)) := heap_alloc_new w _
  go_enter Try.func41, Try.ntmps41
  go_wp2_with fail
  refine (next_any g _ base A c bs _ (h.alloc _) (by omega)).mono ?_
  rintro e w1 ⟨r, rfl, r0, r1, h1, g1⟩
  obtain ⟨k, rfl⟩ := Int.eq_ofNat_of_zero_le r0
  have hk : k < 10 := by omega
  obtain ⟨s, hs, hv⟩ := text_at (ts := texts10) (by decide) (k := k) hk
  have hB := keepG g1 hrow (by omega)
  have hcell : w1.cell? ⟨w.heap.size, k, none⟩ = some (.string ⟨s.toArray⟩) := by rw [cell_of_row _ _ _ _ _ _ hB]; simpa using hv
  clear hB hrow hv
  go_wp2_with fail
  go_ret
  exact ⟨s, rfl, hs, h1, (World.grownBy_alloc _ _ _).trans g1⟩
theorem lday_a (g : Nat) (base : Nat) (A : Option Addr) (c : Nat) (bs : List Int) (w : World) (h : Src w base g A c bs) :
    Calls Try.prog 67 #[.pointer (some ⟨g, 0, none⟩)] w (Drew w base g A c bs (-1) 36525) := by
  go_enter Try.func67, Try.ntmps67
  go_wp2_with fail
  refine (next_any g _ base A c bs _ h (by omega)).mono ?_
  rintro e w1 ⟨r1, rfl, a1, b1, h1, g1⟩
  go_wp2_with fail
  refine (next_any g _ base A c bs _ h1 (by omega)).mono ?_
  rintro e w2 ⟨r2, rfl, a2, b2, h2, g2⟩
  go_wp2_with fail
  refine (next_any g _ base A c bs _ h2 (by omega)).mono ?_
  rintro e w3 ⟨r3, rfl, a3, b3, h3, g3⟩
  go_wp2_with fail
  refine (next_any g _ base A c bs _ h3 (by omega)).mono ?_
  rintro e w4 ⟨r4, rfl, a4, b4, h4, g4⟩
  go_wp2_with fail
  refine (pick_new g 8 [r1, 18000 + r2, 0, 36524, 36525, -1, 18000 + r3, 18000 + r4] (-1) 36525 base A c bs w4 h4 rfl (by omega) (by omega) ?_).mono ?_
  · intro x hx
    simp only [List.mem_cons, List.not_mem_nil, or_false] at hx
    omega
  rintro e w7 ⟨r7, rfl, a7, b7, h7, g7⟩
  go_wp2_with fail
  go_ret
  exact ⟨r7, rfl, a7, b7, h7, (((g1.trans g2).trans g3).trans g4).trans g7⟩
theorem cday_any (g : Nat) (base : Nat) (A : Option Addr) (c : Nat) (bs : List Int) (w : World) (h : Src w base g A c bs) :
    Calls Try.prog 42 #[.pointer (some ⟨g, 0, none⟩)] w (Drew w base g A c bs (-1) 36525) := by
  go_enter Try.func42, Try.ntmps42
  go_wp2_with fail
  refine (next_any g _ base A c bs _ h (by omega)).mono ?_
  rintro e w1 ⟨r1, rfl, a1, b1, h1, g1⟩
  go_wp2_with fail
  refine (next_any g _ base A c bs _ h1 (by omega)).mono ?_
  rintro e w2 ⟨r2, rfl, a2, b2, h2, g2⟩
  go_wp2_with fail
  refine (lday_a g base A c bs _ h2).mono ?_
  rintro e w4 ⟨r4, rfl, a4, b4, h4, g4⟩
  go_wp2_with fail
  refine (pick_new g 4 [20000 + r1, 20000 + r2, 20020, r4] (-1) 36525 base A c bs w4 h4 rfl (by omega) (by omega) ?_).mono ?_
  · intro x hx
    simp only [List.mem_cons, List.not_mem_nil, or_false] at hx
    omega
  rintro e w7 ⟨r7, rfl, a7, b7, h7, g7⟩
  go_wp2_with fail
  go_ret
  exact ⟨r7, rfl, a7, b7, h7, ((g1.trans g2).trans g4).trans g7⟩
end Go.Proofs.Ytaehkkcaoniphaa

/- A region that draws its order: one step an operation, over a condition on what has come up. -/
namespace Go.Proofs.Ytaehkkcaoniphaa
open Go.ChangeShapes Go.WideShapes Go.ChangeAt Go.RowKit
set_option linter.unusedVariables false

/-- How many of the first n have not come up. -/
def undone (d : Array Bool) : Nat → Nat
  | 0 => 0
  | n + 1 => undone d n + (if d.getD n true = true then 0 else 1)
theorem undone_zero {d : Array Bool} : ∀ n, undone d n = 0 → ∀ i, i < n → d.getD i true = true := by
  intro n
  induction n with
  | zero => intro _ i hi; omega
  | succ n ih =>
    intro h i hi
    unfold undone at h
    by_cases e : i = n
    · subst e
      by_cases hd : d.getD i true = true
      · exact hd
      · rw [if_neg hd] at h; omega
    · exact ih (by omega) i (by omega)
theorem undone_set {d : Array Bool} {i : Nat} (hi : d.getD i true = false) : ∀ n, (i < n → undone (d.setIfInBounds i true) n + 1 = undone d n) ∧ (n ≤ i → undone (d.setIfInBounds i true) n = undone d n) := by
  have hsz : i < d.size := by
    rcases Nat.lt_or_ge i d.size with h | h
    · exact h
    · simp [Array.getElem?_eq_none h] at hi
  intro n
  induction n with
  | zero => exact ⟨fun h => by omega, fun _ => rfl⟩
  | succ n ih =>
    by_cases e : i = n
    · subst e
      have h1 := ih.2 (Nat.le_refl _)
      refine ⟨fun _ => ?_, fun h => by omega⟩
      unfold undone
      rw [h1, if_pos (by simp [hsz]), if_neg (by rw [hi]; exact Bool.false_ne_true)]
    · have hne : (d.setIfInBounds i true).getD n true = d.getD n true := getD_set_ne true e
      unfold undone
      rw [hne]
      exact ⟨fun h => by have := ih.1 (by omega); omega, fun h => by rw [ih.2 (by omega)]⟩
section
variable {P : Program} {ops : Array Oper} {Q : Exit → Act → World → Prop}
theorem any_inv (Inv : Array Bool → Act → World → Prop)
    (hstep : ∀ i d a w, i ∈ Region.ready .any ops d → Inv d a w → wpOp P ops Q i (fun a' w' => Inv (d.setIfInBounds i true) a' w') a w)
    (hend : ∀ d a w, Inv d a w → Region.ready .any ops d = [] → Q .normal a w) : ∀ (fuel : Nat) (d : Array Bool) (a : Act) (w : World), undone d ops.size ≤ fuel → Inv d a w → wpAny P .any ops Q fuel d a w := by
  intro fuel
  induction fuel with
  | zero =>
    intro d a w hf hI
    have hr : Region.ready .any ops d = [] := by
      cases h : Region.ready .any ops d with
      | nil => rfl
      | cons i rest =>
        have hi : i ∈ Region.ready .any ops d := by rw [h]; simp
        obtain ⟨hun, oi, hoi, _⟩ := mem_ready.1 hi
        have := undone_zero _ (Nat.le_zero.1 hf) i (Array.getElem?_eq_some_iff.1 hoi).1
        rw [this] at hun; cases hun
    exact ⟨hr, hend d a w hI hr⟩
  | succ fuel ih =>
    intro d a w hf hI
    refine ⟨fun hr => hend d a w hI hr, fun i hi => ?_⟩
    obtain ⟨hun, oi, hoi, _⟩ := mem_ready.1 hi
    have hlt := (undone_set hun ops.size).1 (Array.getElem?_eq_some_iff.1 hoi).1
    exact wpOp_mono (fun a' w' h => ih _ a' w' (by omega) h) (hstep i d a w hi hI)
theorem undone_le (d : Array Bool) : ∀ n, undone d n ≤ n := by
  intro n
  induction n with
  | zero => exact Nat.le_refl _
  | succ n ih => unfold undone; split <;> omega
/-- Each operation waits for earlier ones alone. -/
def backB (ops : Array Oper) : Bool := (List.range ops.size).all fun i => match ops[i]? with | some o => o.after.all (fun e => decide (e.on < i)) | none => true
theorem ready_nil {d : Array Bool} (hb : backB ops = true) (hsz : d.size = ops.size) (hr : Region.ready .any ops d = []) : ∀ i, i < ops.size → d.getD i true = true := by
  intro i
  induction i using Nat.strongRecOn with
  | _ i ih =>
    intro hi
    cases hd : d.getD i true with
    | true => rfl
    | false =>
      exfalso
      have hoi : ops[i]? = some ops[i] := Array.getElem?_eq_getElem hi
      have : i ∈ Region.ready .any ops d := by
        refine mem_ready.2 ⟨hd, _, hoi, fun e he _ => ?_⟩
        have h1 := List.all_eq_true.1 hb i (List.mem_range.2 hi)
        simp only [hoi] at h1
        have h2 : e.on < i := by
          have := Array.all_eq_true'.1 h1 e he
          simpa using this
        have h3 := ih e.on h2 (by omega)
        have hlt : e.on < d.size := by omega
        simp [hlt] at h3 ⊢
        exact h3
      rw [hr] at this; cases this
theorem region_inv {id : Nat} {a : Act} {w : World} (hm : P.follows .mixedOrders = true) (hb : backB ops = true) (Inv : Array Bool → Act → World → Prop) (h0 : Inv (Array.replicate ops.size false) a w.drew)
    (hstep : ∀ i d a w, i ∈ Region.ready .any ops d → Inv d a w → wpOp P ops Q i (fun a' w' => Inv (d.setIfInBounds i true) a' w') a w)
    (hend : ∀ d a w, d.size = ops.size → (∀ i, i < ops.size → d.getD i true = true) → Inv d a w → Q .normal a w) : (Code.region id ops true).wp P Q a w :=
  wp_region_any hm (any_inv (fun d a w => d.size = ops.size ∧ Inv d a w)
    (fun i d a w hi hI => wpOp_mono (fun a' w' h => ⟨by rw [Array.size_setIfInBounds]; exact hI.1, h⟩) (hstep i d a w hi hI.2))
    (fun d a w hI hr => hend d a w hI.1 (ready_nil hb hI.1 hr) hI.2) _ _ a w.drew (undone_le _ _) ⟨by simp, h0⟩)
theorem getD_ft {d : Array Bool} {k : Nat} (h : d.getD k false = true) : d.getD k true = true := by
  rcases Nat.lt_or_ge k d.size with hk | hk
  · simp [hk] at h ⊢; exact h
  · simp [Array.getElem?_eq_none hk] at h
end
end Go.Proofs.Ytaehkkcaoniphaa

/- A rate that is drawn: its first region, whatever its order. -/
namespace Go.Proofs.Ytaehkkcaoniphaa
open Go.ChangeShapes Go.WideShapes Go.ChangeAt Go.RowKit
set_option linter.unusedVariables false

/-- The three codes lie in block B. -/
def StrR (W : World) (B : Nat) : Prop := W.heap[B]? = some (.cells (texts3.map strV).toArray 9 (0, 0))
def Row4 (W : World) (C : Nat) (x0 x1 x2 x3 : Value) : Prop := W.heap[C]? = some (.cells #[x0, x1, x2, x3] 30 (0, 0))
/-- What operation k has left in its slot. -/
def Good (g lo : Nat) (k : Nat) (v : Value) (W : World) : Prop :=
  match k with
  | 0 => ∃ B, v = .slice (some ⟨B, 0, none⟩) 3 3 ∧ StrR W B ∧ B ≠ g
  | 1 => v = .pointer (some ⟨g, 0, none⟩)
  | 2 => ∃ r : Nat, r < 3 ∧ v = .int .i64 r
  | 3 => ∃ B r : Nat, r < 3 ∧ v = .pointer (some ⟨B, r, none⟩) ∧ StrR W B ∧ B ≠ g
  | 4 => ∃ s : List UInt8, v = .string ⟨s.toArray⟩ ∧ s.length ≤ 3
  | 5 => v = .pointer (some ⟨g, 0, none⟩)
  | 6 => ∃ r : Int, 0 ≤ r ∧ r ≤ 200 ∧ v = .int .i64 r
  | 7 => ∃ r : Int, v = .int .i64 r
  | 8 => v = .pointer (some ⟨g, 0, none⟩)
  | 9 => ∃ r : Int, 0 ≤ r ∧ r ≤ 200 ∧ v = .int .i64 r
  | 10 => ∃ r : Int, v = .int .i64 r
  | 11 => v = .pointer (some ⟨g, 0, none⟩)
  | 12 => ∃ r : Int, 0 ≤ r ∧ r ≤ 200 ∧ v = .int .i64 r
  | 13 => ∃ r : Int, v = .int .i64 r
  | 14 => ∃ q : Rt, v = .agg #[.string ⟨q.c.toArray⟩, .int .i64 q.day, .int .i64 q.num, .int .i64 q.den] ∧ q.c.length ≤ 3
  | _ => ∃ C x0 x1 x2 x3, v = .pointer (some ⟨C, 0, none⟩) ∧ Row4 W C x0 x1 x2 x3 ∧ lo ≤ C ∧ C ≠ g
theorem Good.mono {g lo k : Nat} {v : Value} {W W' : World} (h : Good g lo k v W) (hg : W.grownBy W' (some g)) : Good g lo k v W' := by
  unfold Good at *
  split at h
  · obtain ⟨B, e, h1, h2⟩ := h; exact ⟨B, e, keepG hg h1 h2, h2⟩
  · exact h
  · exact h
  · obtain ⟨B, r, h0, e, h1, h2⟩ := h; exact ⟨B, r, h0, e, keepG hg h1 h2, h2⟩
  · exact h
  · exact h
  · exact h
  · exact h
  · exact h
  · exact h
  · exact h
  · exact h
  · exact h
  · exact h
  · exact h
  · obtain ⟨C, x0, x1, x2, x3, e, h1, h2, h3⟩ := h
    exact ⟨C, x0, x1, x2, x3, e, keepG hg h1 h3, h2, h3⟩
def dstN (k : Nat) : Nat := if k = 15 then 3 else k + 4
def updN (vs : Nat → Value) (j : Nat) (v : Value) : Nat → Value := fun n => if n = j then v else vs n
def frm (g R : Nat) (vs : Nat → Value) : Act := { tmps := #[.pointer (some ⟨g, 0, none⟩), undef, .pointer (some ⟨R, 0, none⟩), vs 3, vs 4, vs 5, vs 6, vs 7, vs 8, vs 9, vs 10, vs 11, vs 12, vs 13, vs 14, vs 15, vs 16, vs 17, vs 18, undef, undef, undef, undef, undef, undef, undef, undef, undef, undef, undef, undef, undef, undef, undef, undef, undef, undef, undef], defers := [] }
theorem good_set {g lo i : Nat} {d : Array Bool} {vs : Nat → Value} {v : Value} {W W' : World} (hi : i < 16) (h : ∀ k, k < 16 → d.getD k false = true → Good g lo k (vs (dstN k)) W) (hg : W.grownBy W' (some g)) (hn : Good g lo i v W') :
    ∀ k, k < 16 → (d.setIfInBounds i true).getD k false = true → Good g lo k (updN vs (dstN i) v (dstN k)) W' := by
  intro k hk hd
  by_cases e : i = k
  · subst e; unfold updN; rw [if_pos rfl]; exact hn
  · rw [getD_set_ne false e] at hd
    have hne : dstN k ≠ dstN i := by unfold dstN; split <;> split <;> omega
    unfold updN
    rw [if_neg hne]
    exact (h k hk hd).mono hg
/-- The condition. -/
def RInv (w : World) (base g : Nat) (A : Option Addr) (c : Nat) (bs : List Int) (R : Nat) (d : Array Bool) (a : Act) (W : World) : Prop :=
  ∃ vs, a = frm g R vs ∧ Src W base g A c bs ∧ w.grownBy W (some g) ∧
    ((d.getD 16 false = false ∧ ∀ k, k < 16 → d.getD k false = true → Good g w.heap.size k (vs (dstN k)) W) ∨
     ((∀ k, k < 17 → d.getD k true = true) ∧ ∃ C q, vs 3 = .pointer (some ⟨C, 0, none⟩) ∧ Row4 W C (.string ⟨(q : Rt).c.toArray⟩) (.int .i64 q.day) (.int .i64 q.num) (.int .i64 q.den) ∧ q.c.length ≤ 3 ∧ w.heap.size ≤ C ∧ C ≠ g))

theorem row4_at {W : World} {C : Nat} {x0 x1 x2 x3 : Value} (h : W.heap[C]? = some (.cells #[x0, x1, x2, x3] 30 (0, 0))) :
    W.cell? ⟨C, 0, none⟩ = some x0 ∧ W.cell? ⟨C, 1, none⟩ = some x1 ∧ W.cell? ⟨C, 2, none⟩ = some x2 ∧ W.cell? ⟨C, 3, none⟩ = some x3 ∧ W.frozen? ⟨C, 0, none⟩ = false ∧ W.frozen? ⟨C, 1, none⟩ = false ∧ W.frozen? ⟨C, 2, none⟩ = false ∧ W.frozen? ⟨C, 3, none⟩ = false :=
  ⟨by rw [cell_of_row _ _ _ _ _ _ h]; rfl, by rw [cell_of_row _ _ _ _ _ _ h]; rfl, by rw [cell_of_row _ _ _ _ _ _ h]; rfl, by rw [cell_of_row _ _ _ _ _ _ h]; rfl,
   frozen_of_row W C 0 _ _ h, frozen_of_row W C 1 _ _ h, frozen_of_row W C 2 _ _ h, frozen_of_row W C 3 _ _ h⟩
/-- Four stores into the result's box. -/
theorem fin4 {w W : World} {base g R : Nat} {A : Option Addr} {c : Nat} {bs : List Int} {x0 x1 x2 x3 : Value} (h : W.heap[R]? = some (.cells #[x0, x1, x2, x3] 30 (0, 0))) (hs : Src W base g A c bs) (hG : w.grownBy W (some g)) (hgR : g < R) (hwR : w.heap.size ≤ R) (a b e f : Value) :
    ((((W.setCell ⟨R, 0, none⟩ a).setCell ⟨R, 1, none⟩ b).setCell ⟨R, 2, none⟩ e).setCell ⟨R, 3, none⟩ f).heap[R]? = some (.cells #[a, b, e, f] 30 (0, 0)) ∧
    Src ((((W.setCell ⟨R, 0, none⟩ a).setCell ⟨R, 1, none⟩ b).setCell ⟨R, 2, none⟩ e).setCell ⟨R, 3, none⟩ f) base g A c bs ∧ w.grownBy ((((W.setCell ⟨R, 0, none⟩ a).setCell ⟨R, 1, none⟩ b).setCell ⟨R, 2, none⟩ e).setCell ⟨R, 3, none⟩ f) (some g) := by
  have h1 : (W.setCell ⟨R, 0, none⟩ a).heap[R]? = some (.cells #[a, x1, x2, x3] 30 (0, 0)) := by rw [heap_setCell_same W R 0 _ _ _ h]; rfl
  have h2 : ((W.setCell ⟨R, 0, none⟩ a).setCell ⟨R, 1, none⟩ b).heap[R]? = some (.cells #[a, b, x2, x3] 30 (0, 0)) := by rw [heap_setCell_same _ R 1 _ _ _ h1]; rfl
  have h3 : (((W.setCell ⟨R, 0, none⟩ a).setCell ⟨R, 1, none⟩ b).setCell ⟨R, 2, none⟩ e).heap[R]? = some (.cells #[a, b, e, x3] 30 (0, 0)) := by rw [heap_setCell_same _ R 2 _ _ _ h2]; rfl
  have hbl : ∀ n, n ≤ R → Below n W ((((W.setCell ⟨R, 0, none⟩ a).setCell ⟨R, 1, none⟩ b).setCell ⟨R, 2, none⟩ e).setCell ⟨R, 3, none⟩ f) := fun n hn =>
    ((((Below.refl n W).setCell (p := ⟨R, 0, none⟩) hn _).setCell (p := ⟨R, 1, none⟩) hn _).setCell (p := ⟨R, 2, none⟩) hn _).setCell (p := ⟨R, 3, none⟩) hn _
  exact ⟨by rw [heap_setCell_same _ R 3 _ _ _ h3]; rfl, hs.keep (hbl _ (by omega)), grown_below hG (hbl _ hwR)⟩
/-- One store into the rate's box. -/
theorem put1 {w W : World} {base g C R : Nat} {A : Option Addr} {c : Nat} {bs : List Int} {o : Obj} (hs : Src W base g A c bs) (hG : w.grownBy W (some g)) (hgC : g < C) (hwC : w.heap.size ≤ C) (hRC : R ≠ C) (hR : W.heap[R]? = some o) (j : Nat) (u : Value) :
    Src (W.setCell ⟨C, j, none⟩ u) base g A c bs ∧ w.grownBy (W.setCell ⟨C, j, none⟩ u) (some g) ∧ (W.setCell ⟨C, j, none⟩ u).heap[R]? = some o :=
  ⟨hs.keep ((Below.refl _ _).setCell (p := ⟨C, j, none⟩) hgC _), grown_below hG ((Below.refl _ _).setCell (p := ⟨C, j, none⟩) hwC _), (heap_setCell_other W ⟨C, j, none⟩ R u (fun e => hRC (by simpa using e))).trans hR⟩

set_option maxRecDepth 100000 in
set_option maxHeartbeats 8000000 in
theorem rate_any (g : Nat) (base : Nat) (A : Option Addr) (c : Nat) (bs : List Int) (w : World) (h : Src w base g A c bs) :
    Calls Try.prog 50 #[.pointer (some ⟨g, 0, none⟩)] w (fun e w' => ∃ q : Rt, e = .returned (.agg #[.string ⟨q.c.toArray⟩, .int .i64 q.day, .int .i64 q.num, .int .i64 q.den]) ∧ q.c.length ≤ 3 ∧ Src w' base g A c bs ∧ w.grownBy w' (some g)) := by
  go_enter Try.func50, Try.ntmps50
  go_wp2_with fail
  have hgR : g < (w.alloc (.cells #[.string ⟨#[]⟩, .int .i64 0, .int .i64 0, .int .i64 0] 30)).heap.size := by have := h.lt; simp; omega
  refine region_inv (by kernel_rfl) (by kernel_rfl) (RInv (w.alloc (.cells #[.string ⟨#[]⟩, .int .i64 0, .int .i64 0, .int .i64 0] 30)) base g A c bs w.heap.size) ?_ ?_ ?_
  · exact ⟨fun _ => undef, rfl, h.alloc _, ⟨rfl, rfl, rfl, Nat.le_refl _, fun _ _ _ => rfl⟩, .inl ⟨rfl, fun k hk hd => by rw [getD_replicate_false] at hd; cases hd⟩⟩
  · clear h
    generalize w.heap.size = R at *
    generalize w.alloc (.cells #[.string ⟨#[]⟩, .int .i64 0, .int .i64 0, .int .i64 0] 30) = w at *
    intro i d a W hi hI
    obtain ⟨hun, oi, hoi, hall⟩ := mem_ready.1 hi
    have hlt : i < 17 := (Array.getElem?_eq_some_iff.1 hoi).1
    obtain ⟨vs, rfl, hs, hG, ⟨hd16, hI⟩ | ⟨hI, _⟩⟩ := hI
    · rcases (by omega : i = 0 ∨ i = 1 ∨ i = 2 ∨ i = 3 ∨ i = 4 ∨ i = 5 ∨ i = 6 ∨ i = 7 ∨ i = 8 ∨ i = 9 ∨ i = 10 ∨ i = 11 ∨ i = 12 ∨ i = 13 ∨ i = 14 ∨ i = 15 ∨ i = 16) with rfl | rfl | rfl | rfl | rfl | rfl | rfl | rfl | rfl | rfl | rfl | rfl | rfl | rfl | rfl | rfl | rfl
      all_goals
        obtain rfl := Option.some.inj hoi
        clear hoi hlt hi hun
      · refine wpOp_step rfl (fun K hK => ?_)
        simp only [frm]
        go_simp
        refine hK _ _ ⟨updN vs 4 (.slice (some ⟨W.heap.size, 0, none⟩) 3 3), by simp [frm, updN], (hs.alloc _), (hG.trans (World.grownBy_alloc _ _ _)), .inl ⟨(getD_set_ne false (by decide)).trans hd16, good_set (i := 0) (by omega) hI (World.grownBy_alloc _ _ _) ⟨_, rfl, heap_alloc_new W _, by have := hs.lt; omega⟩⟩⟩
      · refine wpOp_step rfl (fun K hK => ?_)
        simp only [frm]
        go_simp
        refine hK _ _ ⟨updN vs 5 (.pointer (some ⟨g, 0, none⟩)), by simp [frm, updN], hs, hG, .inl ⟨(getD_set_ne false (by decide)).trans hd16, good_set (i := 1) (by omega) hI (World.grownBy.refl _ _) rfl⟩⟩
      · have p1 := hall ⟨1, .data⟩ (by simp) rfl
        have e5 : vs 5 = .pointer (some ⟨g, 0, none⟩) := hI 1 (by omega) p1
        refine wpOp_step rfl (fun K hK => ?_)
        simp only [frm, e5]
        go_simp
        go_wp2_with (go_at_call 65; refine (next_any g _ base A c bs _ hs (by omega)).mono ?_; rintro e W2 ⟨r, rfl, r0, r1, hs2, hg2⟩)
        exact ⟨updN vs 6 (.int .i64 r), by simp [frm, updN, e5], hs2, (hG.trans hg2), .inl ⟨(getD_set_ne false (by decide)).trans hd16, good_set (i := 2) (by omega) hI hg2 (by obtain ⟨m, rfl⟩ := Int.eq_ofNat_of_zero_le r0; exact ⟨m, by omega, rfl⟩)⟩⟩
      · have p0 := hall ⟨0, .data⟩ (by simp) rfl
        have p2 := hall ⟨2, .data⟩ (by simp) rfl
        obtain ⟨B, e4, hB, hBg⟩ : ∃ B, vs 4 = .slice (some ⟨B, 0, none⟩) 3 3 ∧ StrR W B ∧ B ≠ g := hI 0 (by omega) p0
        obtain ⟨r, hr, e6⟩ : ∃ r : Nat, r < 3 ∧ vs 6 = .int .i64 r := hI 2 (by omega) p2
        refine wpOp_step rfl (fun K hK => ?_)
        simp only [frm, e4, e6]
        go_simp
        rw [if_pos (by omega)]
        go_simp
        refine hK _ _ ⟨updN vs 7 (.pointer (some ⟨B, r, none⟩)), by simp [frm, updN, e4, e6], hs, hG, .inl ⟨(getD_set_ne false (by decide)).trans hd16, good_set (i := 3) (by omega) hI (World.grownBy.refl _ _) ⟨B, r, hr, rfl, hB, hBg⟩⟩⟩
      · have p3 := hall ⟨3, .data⟩ (by simp) rfl
        obtain ⟨B, r, hr, e7, hB, hBg⟩ : ∃ B r : Nat, r < 3 ∧ vs 7 = .pointer (some ⟨B, r, none⟩) ∧ StrR W B ∧ B ≠ g := hI 3 (by omega) p3
        obtain ⟨s, hsl, hv⟩ := text_at (ts := texts3) (by decide) (k := r) hr
        have hcell : W.cell? ⟨B, r, none⟩ = some (.string ⟨s.toArray⟩) := by rw [cell_of_row _ _ _ _ _ _ hB]; simpa using hv
        refine wpOp_step rfl (fun K hK => ?_)
        simp only [frm, e7]
        go_simp
        refine hK _ _ ⟨updN vs 8 (.string ⟨s.toArray⟩), by simp [frm, updN, e7], hs, hG, .inl ⟨(getD_set_ne false (by decide)).trans hd16, good_set (i := 4) (by omega) hI (World.grownBy.refl _ _) ⟨s, rfl, hsl⟩⟩⟩
      · refine wpOp_step rfl (fun K hK => ?_)
        simp only [frm]
        go_simp
        refine hK _ _ ⟨updN vs 9 (.pointer (some ⟨g, 0, none⟩)), by simp [frm, updN], hs, hG, .inl ⟨(getD_set_ne false (by decide)).trans hd16, good_set (i := 5) (by omega) hI (World.grownBy.refl _ _) rfl⟩⟩
      · have p5 := hall ⟨5, .data⟩ (by simp) rfl
        have p2 := hall ⟨2, .chain⟩ (by simp) rfl
        have e9 : vs 9 = .pointer (some ⟨g, 0, none⟩) := hI 5 (by omega) p5
        refine wpOp_step rfl (fun K hK => ?_)
        simp only [frm, e9]
        go_simp
        go_wp2_with (go_at_call 65; refine (next_any g _ base A c bs _ hs (by omega)).mono ?_; rintro e W2 ⟨r, rfl, r0, r1, hs2, hg2⟩)
        exact ⟨updN vs 10 (.int .i64 r), by simp [frm, updN, e9], hs2, (hG.trans hg2), .inl ⟨(getD_set_ne false (by decide)).trans hd16, good_set (i := 6) (by omega) hI hg2 ⟨r, r0, by omega, rfl⟩⟩⟩
      · have p6 := hall ⟨6, .data⟩ (by simp) rfl
        obtain ⟨r, r0, r1, e10⟩ : ∃ r : Int, 0 ≤ r ∧ r ≤ 200 ∧ vs 10 = .int .i64 r := hI 6 (by omega) p6
        refine wpOp_step rfl (fun K hK => ?_)
        simp only [frm, e10]
        go_simp
        refine hK _ _ ⟨updN vs 11 (.int .i64 (IntKind.i64.wrap (20000 + r))), by simp [frm, updN, e10], hs, hG, .inl ⟨(getD_set_ne false (by decide)).trans hd16, good_set (i := 7) (by omega) hI (World.grownBy.refl _ _) ⟨_, rfl⟩⟩⟩
      · refine wpOp_step rfl (fun K hK => ?_)
        simp only [frm]
        go_simp
        refine hK _ _ ⟨updN vs 12 (.pointer (some ⟨g, 0, none⟩)), by simp [frm, updN], hs, hG, .inl ⟨(getD_set_ne false (by decide)).trans hd16, good_set (i := 8) (by omega) hI (World.grownBy.refl _ _) rfl⟩⟩
      · have p8 := hall ⟨8, .data⟩ (by simp) rfl
        have p6 := hall ⟨6, .chain⟩ (by simp) rfl
        have e12 : vs 12 = .pointer (some ⟨g, 0, none⟩) := hI 8 (by omega) p8
        refine wpOp_step rfl (fun K hK => ?_)
        simp only [frm, e12]
        go_simp
        go_wp2_with (go_at_call 65; refine (next_any g _ base A c bs _ hs (by omega)).mono ?_; rintro e W2 ⟨r, rfl, r0, r1, hs2, hg2⟩)
        exact ⟨updN vs 13 (.int .i64 r), by simp [frm, updN, e12], hs2, (hG.trans hg2), .inl ⟨(getD_set_ne false (by decide)).trans hd16, good_set (i := 9) (by omega) hI hg2 ⟨r, r0, by omega, rfl⟩⟩⟩
      · have p9 := hall ⟨9, .data⟩ (by simp) rfl
        obtain ⟨r, r0, r1, e13⟩ : ∃ r : Int, 0 ≤ r ∧ r ≤ 200 ∧ vs 13 = .int .i64 r := hI 9 (by omega) p9
        refine wpOp_step rfl (fun K hK => ?_)
        simp only [frm, e13]
        go_simp
        refine hK _ _ ⟨updN vs 14 (.int .i64 (IntKind.i64.wrap (1 + r))), by simp [frm, updN, e13], hs, hG, .inl ⟨(getD_set_ne false (by decide)).trans hd16, good_set (i := 10) (by omega) hI (World.grownBy.refl _ _) ⟨_, rfl⟩⟩⟩
      · refine wpOp_step rfl (fun K hK => ?_)
        simp only [frm]
        go_simp
        refine hK _ _ ⟨updN vs 15 (.pointer (some ⟨g, 0, none⟩)), by simp [frm, updN], hs, hG, .inl ⟨(getD_set_ne false (by decide)).trans hd16, good_set (i := 11) (by omega) hI (World.grownBy.refl _ _) rfl⟩⟩
      · have p11 := hall ⟨11, .data⟩ (by simp) rfl
        have p9 := hall ⟨9, .chain⟩ (by simp) rfl
        have e15 : vs 15 = .pointer (some ⟨g, 0, none⟩) := hI 11 (by omega) p11
        refine wpOp_step rfl (fun K hK => ?_)
        simp only [frm, e15]
        go_simp
        go_wp2_with (go_at_call 65; refine (next_any g _ base A c bs _ hs (by omega)).mono ?_; rintro e W2 ⟨r, rfl, r0, r1, hs2, hg2⟩)
        exact ⟨updN vs 16 (.int .i64 r), by simp [frm, updN, e15], hs2, (hG.trans hg2), .inl ⟨(getD_set_ne false (by decide)).trans hd16, good_set (i := 12) (by omega) hI hg2 ⟨r, r0, by omega, rfl⟩⟩⟩
      · have p12 := hall ⟨12, .data⟩ (by simp) rfl
        obtain ⟨r, r0, r1, e16⟩ : ∃ r : Int, 0 ≤ r ∧ r ≤ 200 ∧ vs 16 = .int .i64 r := hI 12 (by omega) p12
        refine wpOp_step rfl (fun K hK => ?_)
        simp only [frm, e16]
        go_simp
        refine hK _ _ ⟨updN vs 17 (.int .i64 (IntKind.i64.wrap (1 + r))), by simp [frm, updN, e16], hs, hG, .inl ⟨(getD_set_ne false (by decide)).trans hd16, good_set (i := 13) (by omega) hI (World.grownBy.refl _ _) ⟨_, rfl⟩⟩⟩
      · have p4 := hall ⟨4, .data⟩ (by simp) rfl
        have p7 := hall ⟨7, .data⟩ (by simp) rfl
        have p10 := hall ⟨10, .data⟩ (by simp) rfl
        have p13 := hall ⟨13, .data⟩ (by simp) rfl
        obtain ⟨s, e8, hsl⟩ : ∃ s : List UInt8, vs 8 = .string ⟨s.toArray⟩ ∧ s.length ≤ 3 := hI 4 (by omega) p4
        obtain ⟨x, e11⟩ : ∃ r : Int, vs 11 = .int .i64 r := hI 7 (by omega) p7
        obtain ⟨y, e14⟩ : ∃ r : Int, vs 14 = .int .i64 r := hI 10 (by omega) p10
        obtain ⟨z, e17⟩ : ∃ r : Int, vs 17 = .int .i64 r := hI 13 (by omega) p13
        refine wpOp_step rfl (fun K hK => ?_)
        simp only [frm, e8, e11, e14, e17]
        go_simp
        refine hK _ _ ⟨updN vs 18 (.agg #[.string ⟨s.toArray⟩, .int .i64 x, .int .i64 y, .int .i64 z]), by simp [frm, updN, e8, e11, e14, e17], hs, hG, .inl ⟨(getD_set_ne false (by decide)).trans hd16, good_set (i := 14) (by omega) hI (World.grownBy.refl _ _) ⟨⟨s, x, y, z⟩, rfl, hsl⟩⟩⟩
      · refine wpOp_step rfl (fun K hK => ?_)
        simp only [frm]
        go_simp
        refine hK _ _ ⟨updN vs 3 (.pointer (some ⟨W.heap.size, 0, none⟩)), by simp [frm, updN], (hs.alloc _), (hG.trans (World.grownBy_alloc _ _ _)), .inl ⟨(getD_set_ne false (by decide)).trans hd16, good_set (i := 15) (by omega) hI (World.grownBy_alloc _ _ _) ⟨_, _, _, _, _, rfl, heap_alloc_new W _, hG.size, by have := hs.lt; omega⟩⟩⟩
      · have p14 := hall ⟨14, .data⟩ (by simp) rfl
        have p15 := hall ⟨15, .data⟩ (by simp) rfl
        obtain ⟨q, e18, hq⟩ : ∃ q : Rt, vs 18 = .agg #[.string ⟨q.c.toArray⟩, .int .i64 q.day, .int .i64 q.num, .int .i64 q.den] ∧ q.c.length ≤ 3 := hI 14 (by omega) p14
        obtain ⟨C, x0, x1, x2, x3, e3, hC, hlo, hCg⟩ : ∃ C x0 x1 x2 x3, vs 3 = .pointer (some ⟨C, 0, none⟩) ∧ Row4 W C x0 x1 x2 x3 ∧ w.heap.size ≤ C ∧ C ≠ g := hI 15 (by omega) p15
        refine wpOp_step rfl (fun K hK => ?_)
        simp only [frm, e18, e3]
        have c0 := cell_of_row W C 0 _ _ _ hC
        have c1 := cell_of_row W C 1 _ _ _ hC
        have c2 := cell_of_row W C 2 _ _ _ hC
        have c3 := cell_of_row W C 3 _ _ _ hC
        simp only [List.getElem?_toArray, List.getElem?_cons_zero, List.getElem?_cons_succ] at c0 c1 c2 c3
        have f0 := frozen_of_row W C 0 _ _ hC
        have f1 := frozen_of_row W C 1 _ _ hC
        have f2 := frozen_of_row W C 2 _ _ hC
        have f3 := frozen_of_row W C 3 _ _ hC
        have hRow : Row4 ((((W.setCell ⟨C, 0, none⟩ (.string ⟨q.c.toArray⟩)).setCell ⟨C, 1, none⟩ (.int .i64 q.day)).setCell ⟨C, 2, none⟩ (.int .i64 q.num)).setCell ⟨C, 3, none⟩ (.int .i64 q.den)) C (.string ⟨q.c.toArray⟩) (.int .i64 q.day) (.int .i64 q.num) (.int .i64 q.den) := by
          have h1 : (W.setCell ⟨C, 0, none⟩ (.string ⟨q.c.toArray⟩)).heap[C]? = some (.cells #[.string ⟨q.c.toArray⟩, x1, x2, x3] 30 (0, 0)) := by rw [heap_setCell_same W C 0 _ _ _ hC]; rfl
          have h2 : ((W.setCell ⟨C, 0, none⟩ (.string ⟨q.c.toArray⟩)).setCell ⟨C, 1, none⟩ (.int .i64 q.day)).heap[C]? = some (.cells #[.string ⟨q.c.toArray⟩, .int .i64 q.day, x2, x3] 30 (0, 0)) := by rw [heap_setCell_same _ C 1 _ _ _ h1]; rfl
          have h3 : (((W.setCell ⟨C, 0, none⟩ (.string ⟨q.c.toArray⟩)).setCell ⟨C, 1, none⟩ (.int .i64 q.day)).setCell ⟨C, 2, none⟩ (.int .i64 q.num)).heap[C]? = some (.cells #[.string ⟨q.c.toArray⟩, .int .i64 q.day, .int .i64 q.num, x3] 30 (0, 0)) := by rw [heap_setCell_same _ C 2 _ _ _ h2]; rfl
          unfold Row4
          rw [heap_setCell_same _ C 3 _ _ _ h3]; rfl
        have hbl : ∀ n, n ≤ C → Below n W ((((W.setCell ⟨C, 0, none⟩ (.string ⟨q.c.toArray⟩)).setCell ⟨C, 1, none⟩ (.int .i64 q.day)).setCell ⟨C, 2, none⟩ (.int .i64 q.num)).setCell ⟨C, 3, none⟩ (.int .i64 q.den)) := fun n hn =>
          ((((Below.refl n W).setCell (p := ⟨C, 0, none⟩) hn _).setCell (p := ⟨C, 1, none⟩) hn _).setCell (p := ⟨C, 2, none⟩) hn _).setCell (p := ⟨C, 3, none⟩) hn _
        have hall2 : ∀ k, k < 17 → (d.setIfInBounds 16 true).getD k true = true := by
          intro k hk
          rcases (by omega : k = 0 ∨ k = 1 ∨ k = 2 ∨ k = 3 ∨ k = 4 ∨ k = 5 ∨ k = 6 ∨ k = 7 ∨ k = 8 ∨ k = 9 ∨ k = 10 ∨ k = 11 ∨ k = 12 ∨ k = 13 ∨ k = 14 ∨ k = 15 ∨ k = 16) with rfl | rfl | rfl | rfl | rfl | rfl | rfl | rfl | rfl | rfl | rfl | rfl | rfl | rfl | rfl | rfl | rfl
          all_goals first
            | exact (getD_set_ne true (by decide)).trans (getD_ft (hall ⟨_, .phase⟩ (by simp) rfl))
            | (by_cases hz : 16 < d.size <;> simp [hz])
        clear hall
        go_simp
        refine hK _ _ ⟨vs, by simp [frm, e18, e3], hs.keep (hbl _ (by omega)), grown_below hG (hbl _ hlo), .inr ⟨hall2, C, q, e3, hRow, hq, hlo, hCg⟩⟩
    · have := hI i hlt
      rw [hun] at this; cases this
  · rintro d a W hsz hall ⟨vs, rfl, hs, hG, ⟨hd16, _⟩ | ⟨_, C, q, e3, hC, hq, hlo, hCg⟩⟩
    · exfalso
      have h16 := hall 16 (by simp)
      have : 16 < d.size := by rw [hsz]; simp
      simp [this] at hd16 h16
      rw [hd16] at h16; cases h16
    · have hlo' : w.heap.size < C := by simp at hlo; omega
      have hRow := keepG hG (heap_alloc_new w (.cells #[.string ⟨#[]⟩, .int .i64 0, .int .i64 0, .int .i64 0] 30)) (by have := h.lt; omega)
      have hGw : w.grownBy W (some g) := (World.grownBy_alloc w _ _).trans hG
      have hgl := h.lt
      clear hG hall hsz
      simp only [frm, e3]
      go_wp2_with fail
      refine (next_any g _ base A c bs _ hs (by omega)).mono ?_
      rintro e w2 ⟨k2, rfl, ka, kb, s2, g2⟩
      have hC2 : Row4 w2 C _ _ _ _ := keepG g2 hC hCg
      have hR2 := keepG g2 hRow (by omega)
      have G2 := hGw.trans g2
      clear hs hC hRow hGw g2
      rcases (by omega : k2 = 0 ∨ k2 = 1 ∨ k2 = 2 ∨ 2 < k2) with rfl | rfl | rfl | hk
      · go_wp2_with fail
        refine (code_any g base A c bs _ s2).mono ?_
        rintro e w3 ⟨s, rfl, hsl, s3, g3⟩
        have hC3 : Row4 w3 C _ _ _ _ := keepG g3 hC2 hCg
        have hR3 := keepG g3 hR2 (by omega)
        have G3 := G2.trans g3
        clear hC2 hR2 G2 g3 s2
        obtain ⟨c0, c1, c2, c3, f0, f1, f2, f3⟩ := row4_at hC3
        obtain ⟨r0, r1, r2, r3, d0, d1, d2, d3⟩ := row4_at hR3
        obtain ⟨s4, G4, hR4⟩ := put1 (C := C) s3 G3 (show g < C by omega) (show w.heap.size ≤ C by omega) (show w.heap.size ≠ C by omega) hR3 0 (.string ⟨s.toArray⟩)
        obtain ⟨hR5, s5, G5⟩ := fin4 hR4 s4 G4 hgl (Nat.le_refl _) (.string ⟨s.toArray⟩) (.int .i64 q.day) (.int .i64 q.num) (.int .i64 q.den)
        have HE := Lib.hid hR5; have HS := Lib.hid s5; have HG := Lib.hid G5
        clear hC3 hR3 hR4 s4 G4 hR5 s5 G5
        go_wp2_with fail
        refine bodyPost_ret (v := .agg #[.string ⟨s.toArray⟩, .int .i64 q.day, .int .i64 q.num, .int .i64 q.den]) ?_ ?_ ?_
        · exact results_cell_row (p := 2) rfl _ _ w.heap.size 30 _ (0, 0) _ rfl HE.out Try.underlying30 rfl rateSz
        · rfl
        · exact ⟨⟨s, q.day, q.num, q.den⟩, rfl, hsl, HS.out, HG.out⟩
      · go_wp2_with fail
        refine (pick_new g 3 [0, 1000000, 1000001] 0 1000001 base A c bs w2 s2 rfl (by omega) (by omega) (by intro x hx; simp only [List.mem_cons, List.not_mem_nil, or_false] at hx; omega)).mono ?_
        rintro e w3 ⟨y, rfl, y0, y1, s3, g3⟩
        have hC3 : Row4 w3 C _ _ _ _ := keepG g3 hC2 hCg
        have hR3 := keepG g3 hR2 (by omega)
        have G3 := G2.trans g3
        clear hC2 hR2 G2 g3 s2
        obtain ⟨c0, c1, c2, c3, f0, f1, f2, f3⟩ := row4_at hC3
        obtain ⟨r0, r1, r2, r3, d0, d1, d2, d3⟩ := row4_at hR3
        obtain ⟨s4, G4, hR4⟩ := put1 (C := C) s3 G3 (show g < C by omega) (show w.heap.size ≤ C by omega) (show w.heap.size ≠ C by omega) hR3 2 (.int .i64 y)
        obtain ⟨hR5, s5, G5⟩ := fin4 hR4 s4 G4 hgl (Nat.le_refl _) (.string ⟨q.c.toArray⟩) (.int .i64 q.day) (.int .i64 y) (.int .i64 q.den)
        have HE := Lib.hid hR5; have HS := Lib.hid s5; have HG := Lib.hid G5
        clear hC3 hR3 hR4 s4 G4 hR5 s5 G5
        go_wp2_with fail
        refine bodyPost_ret (v := .agg #[.string ⟨q.c.toArray⟩, .int .i64 q.day, .int .i64 y, .int .i64 q.den]) ?_ ?_ ?_
        · exact results_cell_row (p := 2) rfl _ _ w.heap.size 30 _ (0, 0) _ rfl HE.out Try.underlying30 rfl rateSz
        · rfl
        · exact ⟨⟨q.c, q.day, y, q.den⟩, rfl, hq, HS.out, HG.out⟩
      · go_wp2_with fail
        refine (lday_a g base A c bs _ s2).mono ?_
        rintro e w3 ⟨y, rfl, y0, y1, s3, g3⟩
        have hC3 : Row4 w3 C _ _ _ _ := keepG g3 hC2 hCg
        have hR3 := keepG g3 hR2 (by omega)
        have G3 := G2.trans g3
        clear hC2 hR2 G2 g3 s2
        obtain ⟨c0, c1, c2, c3, f0, f1, f2, f3⟩ := row4_at hC3
        obtain ⟨r0, r1, r2, r3, d0, d1, d2, d3⟩ := row4_at hR3
        obtain ⟨s4, G4, hR4⟩ := put1 (C := C) s3 G3 (show g < C by omega) (show w.heap.size ≤ C by omega) (show w.heap.size ≠ C by omega) hR3 1 (.int .i64 y)
        obtain ⟨hR5, s5, G5⟩ := fin4 hR4 s4 G4 hgl (Nat.le_refl _) (.string ⟨q.c.toArray⟩) (.int .i64 y) (.int .i64 q.num) (.int .i64 q.den)
        have HE := Lib.hid hR5; have HS := Lib.hid s5; have HG := Lib.hid G5
        clear hC3 hR3 hR4 s4 G4 hR5 s5 G5
        go_wp2_with fail
        refine bodyPost_ret (v := .agg #[.string ⟨q.c.toArray⟩, .int .i64 y, .int .i64 q.num, .int .i64 q.den]) ?_ ?_ ?_
        · exact results_cell_row (p := 2) rfl _ _ w.heap.size 30 _ (0, 0) _ rfl HE.out Try.underlying30 rfl rateSz
        · rfl
        · exact ⟨⟨q.c, y, q.num, q.den⟩, rfl, hq, HS.out, HG.out⟩
      · have e0 : ((k2 : Int) == 0) = false := beq_eq_false_iff_ne.2 (by omega)
        have e1 : ((k2 : Int) == 1) = false := beq_eq_false_iff_ne.2 (by omega)
        have e2 : ((k2 : Int) == 2) = false := beq_eq_false_iff_ne.2 (by omega)
        obtain ⟨c0, c1, c2, c3, f0, f1, f2, f3⟩ := row4_at hC2
        obtain ⟨r0, r1, r2, r3, d0, d1, d2, d3⟩ := row4_at hR2
        obtain ⟨hR5, s5, G5⟩ := fin4 hR2 s2 G2 hgl (Nat.le_refl _) (.string ⟨q.c.toArray⟩) (.int .i64 q.day) (.int .i64 q.num) (.int .i64 q.den)
        have HE := Lib.hid hR5; have HS := Lib.hid s5; have HG := Lib.hid G5
        clear hC2 hR2 hR5 s5 G5
        go_wp2_with fail
        refine bodyPost_ret (v := .agg #[.string ⟨q.c.toArray⟩, .int .i64 q.day, .int .i64 q.num, .int .i64 q.den]) ?_ ?_ ?_
        · exact results_cell_row (p := 2) rfl _ _ w.heap.size 30 _ (0, 0) _ rfl HE.out Try.underlying30 rfl rateSz
        · rfl
        · exact ⟨⟨q.c, q.day, q.num, q.den⟩, rfl, hq, HS.out, HG.out⟩
end Go.Proofs.Ytaehkkcaoniphaa

/- The draws of chapter 3: a table of rates that holds, rarely another list of rates. -/
namespace Go.Proofs.Ytaehkkcaoniphaa
open Go.ChangeShapes Go.WideShapes Go.ChangeAt Go.RowKit
set_option linter.unusedVariables false

theorem own_srcT {w w' : World} {W : Nat} {e : TypeId} {g n size : Nat} {v : Value} {xs : List Value} (h : w.ownsRow W e size v n xs) (hg : w.grownBy w' (some g)) (hW : g < W) : w'.ownsRow W e size v n xs := by
  refine World.ownsRow.kept h hg ?_
  cases hv : v.ownBlock with
  | none => exact .inl rfl
  | some k => right; intro e; have := (h.lt k hv).1; injection e with e; omega
/-- A list of rates that was drawn, in a box of its own not below lo. -/
def Drt (w : World) (lo : Nat) (B : Option Addr) (d : Nat) (rs : List Rt) : Prop := rs.length ≤ 60 ∧ Or w lo B rs.length d rs ∧ ∀ r ∈ rs, r.c.length ≤ 3
theorem Drt.tbl {w : World} {lo d : Nat} {B : Option Addr} {rs : List Rt} (h : Drt w lo B d rs) : Tbl w B rs := ⟨h.2.1.rr, fun r hr => by have := h.2.2 r hr; omega, by have := h.1; omega⟩
theorem Drt.below {w w' : World} {lo d : Nat} {B : Option Addr} {rs : List Rt} (h : Drt w lo B d rs) (hb : Below w.heap.size w w') : Drt w' lo B d rs := ⟨h.1, h.2.1.below hb, h.2.2⟩
theorem Drt.src {w w' : World} {lo d g : Nat} {B : Option Addr} {rs : List Rt} (h : Drt w lo B d rs) (hg : w.grownBy w' (some g)) (hl : g < lo) : Drt w' lo B d rs := ⟨h.1, own_srcT h.2.1 hg hl, h.2.2⟩
theorem Drt.low {w : World} {lo lo' d : Nat} {B : Option Addr} {rs : List Rt} (h : Drt w lo B d rs) (hl : lo' ≤ lo) : Drt w lo' B d rs := ⟨h.1, h.2.1.mono hl, h.2.2⟩
def NewRt (w : World) (base g : Nat) (A : Option Addr) (c : Nat) (bs : List Int) (e : Ending) (w' : World) : Prop :=
  ∃ B d rs, e = .returned (.slice B (List.length rs) d) ∧ Drt w' w.heap.size B d rs ∧ Src w' base g A c bs ∧ w.grownBy w' (some g)
theorem addR_len20 {rs : List Rt} {r : Rt} : (addR rs r).1.length ≤ 20 ∧ ((addR rs r).2 = 0 ∨ (addR rs r).2 = 1) := by
  rcases Bool.eq_false_or_eq_true (tabB rs) with ht | ht
  · rcases Bool.eq_false_or_eq_true (tabB (addL rs r)) with h2 | h2
    · rw [addR_0 ht h2]; exact ⟨(tabB_iff.1 h2).2, .inl rfl⟩
    · rw [addR_1 ht h2]; exact ⟨by simp, .inr rfl⟩
  · rw [addR_no ht]; exact ⟨by simp, .inr rfl⟩
theorem addL_prop {rs : List Rt} {r : Rt} {P : Rt → Prop} (h : ∀ q ∈ rs, P q) (hr : P r) : ∀ q ∈ addL rs r, P q := by
  have h1 := addS_all hr rs h
  unfold addL
  split
  · exact h1
  · intro q hq
    rcases List.mem_append.1 hq with h2 | h2
    · exact h1 q h2
    · simp at h2; subst h2; exact hr
theorem addR_txt {rs : List Rt} {r : Rt} (h : ∀ q ∈ rs, q.c.length ≤ 3) (hr : r.c.length ≤ 3) : ∀ q ∈ (addR rs r).1, q.c.length ≤ 3 := by
  unfold addR
  split
  · split
    · exact addL_prop h hr
    · intro q hq; cases hq
  · intro q hq; cases hq

theorem snoc_txt {rs : List Rt} {r : Rt} (h : ∀ q ∈ rs, q.c.length ≤ 3) (hr : r.c.length ≤ 3) : ∀ q ∈ rs ++ [r], q.c.length ≤ 3 := by
  intro q hq
  rcases List.mem_append.1 hq with h2 | h2
  · exact h q h2
  · simp at h2; subst h2; exact hr
set_option maxRecDepth 100000 in
set_option maxHeartbeats 2000000 in
theorem valid_rt (g : Nat) (base : Nat) (A : Option Addr) (c : Nat) (bs : List Int) (w : World) (h : Src w base g A c bs) :
    Calls Try.prog 64 #[.pointer (some ⟨g, 0, none⟩)] w (fun e w' => ∃ B d rs, e = .returned (.slice B (List.length rs) d) ∧ rs.length ≤ 20 ∧ Or w' w.heap.size B rs.length d rs ∧ (∀ r ∈ rs, r.c.length ≤ 3) ∧ Src w' base g A c bs ∧ w.grownBy w' (some g)) := by
  have hgl := h.lt
  have H0 : Or (w.alloc (Obj.cells #[] 30)) w.heap.size (some ⟨w.heap.size, 0, none⟩) 0 0 [] := World.ownsRow_made w #[] 0 (Nat.le_refl _) (by decide) (by simp)
  go_enter Try.func64, Try.ntmps64
  go_wp2_with fail
  refine (next_any g _ base A c bs _ (h.alloc _) (by omega)).mono ?_
  rintro e w1 ⟨r1, rfl, a1, b1, h1, g1⟩
  have H1 : Or w1 w.heap.size (some ⟨w.heap.size, 0, none⟩) 0 0 [] := own_srcT H0 g1 hgl
  have G1 : w.grownBy w1 (some g) := (World.grownBy_alloc w _ _).trans g1
  clear H0 g1
  go_wp2_with fail
  go_loopw [3, 4] (fun v n wr => ∃ (k : Int) (B : Option Addr) (d : Nat) (rs : List Rt), n = .int .i64 k ∧ v = .slice B rs.length d ∧ 0 ≤ k ∧ k ≤ 7 ∧ rs.length ≤ 20 ∧ Or wr w.heap.size B rs.length d rs ∧ (∀ r ∈ rs, r.c.length ≤ 3) ∧ Src wr base g A c bs ∧ w.grownBy wr (some g)) (fun _ n _ => (intOf n).toNat)
  case atStart => exact ⟨r1, _, _, [], rfl, rfl, by omega, by omega, by simp, H1, by simp, h1, G1⟩
  case round =>
    obtain ⟨k, B, d, rs, rfl, rfl, k0, k7, kl, hown, ht, hs, hg⟩ := hrel
    clear H1 h1 G1 h
    by_cases hk : 0 < k
    · go_wp2_with fail
      refine (rate_any g base A c bs _ hs).mono ?_
      rintro e w3 ⟨q, rfl, hq, h3, g3⟩
      have hown3 : Or w3 w.heap.size B rs.length d rs := own_srcT hown g3 hgl
      have G3 := hg.trans g3
      clear hown hs hg g3
      go_wp2_with fail
      refine (addRate_s B d rs q _ ⟨hown3.rr, fun r hr => by have := ht r hr; omega, by omega⟩ (by omega)).mono ?_
      rintro e w4 ⟨B4, d4, rfl, o4, bl4⟩
      have h4 := h3.below bl4
      have G4 := grown_below G3 (bl4.mono G3.size)
      have hown4 := hown3.below bl4
      have o4' : Or w4 w.heap.size B4 _ d4 _ := o4.mono G3.size
      have hL := @addR_len20 rs q
      have hT := Lib.hid (addR_txt ht hq)
      have hT0 := Lib.hid ht
      clear h3 G3 hown3 o4 bl4 ht
      generalize addR rs q = p at *
      obtain ⟨zs, cd⟩ := p
      simp only at hL
      obtain ⟨hL, hc⟩ := hL
      rcases hc with rfl | rfl
      · go_wp2_with fail
        go_roundw
        case rel => exact ⟨k - 1, _, _, zs, rfl, rfl, by omega, by omega, hL, o4', hT.out, h4, G4⟩
        case measure => simp [intOf]; omega
      · go_wp2_with fail
        go_roundw
        case rel => exact ⟨k - 1, _, _, rs, rfl, rfl, by omega, by omega, by omega, hown4, hT0.out, h4, G4⟩
        case measure => simp [intOf]; omega
    · have hk0 : k = 0 := by omega
      subst hk0
      have hT0 := Lib.hid ht
      clear ht
      go_wp2_with fail
      go_ret
      exact ⟨B, d, rs, rfl, by omega, hown, hT0.out, hs, hg⟩

set_option maxRecDepth 100000 in
set_option maxHeartbeats 2000000 in
theorem draw_rt (g : Nat) (base : Nat) (A : Option Addr) (c : Nat) (bs : List Int) (w : World) (h : Src w base g A c bs) :
    Calls Try.prog 40 #[.pointer (some ⟨g, 0, none⟩)] w (NewRt w base g A c bs) := by
  obtain ⟨i0, hi, hz0, hz1, hz2⟩ := info_parts rateInfo
  have hgl := h.lt
  go_enter Try.func40, Try.ntmps40
  go_wp2_with fail
  refine (valid_rt g base A c bs _ h).mono ?_
  rintro e w1 ⟨B, d, rs, rfl, hl, o1, ht, h1, g1⟩
  go_wp2_with fail
  refine (next_any g _ base A c bs _ h1 (by omega)).mono ?_
  rintro e w2 ⟨r2, rfl, a2, b2, h2, g2⟩
  have o2 : Or w2 w.heap.size B rs.length d rs := own_srcT o1 g2 hgl
  have G2 := g1.trans g2
  clear o1 g1 g2 h1 h
  have hT := Lib.hid ht
  clear ht
  rcases (by omega : r2 = 0 ∨ r2 = 1 ∨ 1 < r2) with rfl | rfl | hr
  · go_wp2_with fail
    refine (rate_any g base A c bs _ h2).mono ?_
    rintro e w3 ⟨q, rfl, hq, h3, g3⟩
    have o3 : Or w3 w.heap.size B rs.length d rs := own_srcT o2 g3 hgl
    have G3 := G2.trans g3
    clear o2 G2 g3 h2
    go_wp2_with (at_builtin; refine wpList_push _ rfl (.tmp 11) (.tmp 14) 24 rfl w.heap.size 30 i0 _ 4 40 Try.underlying24 hi hz0 hz1 hz2 rfl (by decide) (.slice B rs.length d) rs.length _ rfl o3 [.string ⟨q.c.toArray⟩, .int .i64 q.day, .int .i64 q.num, .int .i64 q.den] rfl (by simp [Value.oneCell']) rfl (by unfold maxLen; omega) (by omega) G3.size ?_; intro v' w' hown' hb')
    go_ret
    obtain ⟨B', d', rfl⟩ := own_form hown'
    exact ⟨B', d', rs ++ [q], by simp, ⟨by simp; omega, by simpa [Or, Rt.cells] using hown', snoc_txt hT.out hq⟩, h3.keep (hb'.mono (by omega)), grown_below G3 hb'⟩
  · go_wp2_with fail
    go_loopw [3, 4] (fun v n wr => ∃ (k : Int) (B : Option Addr) (d : Nat) (rs : List Rt), n = .int .i64 k ∧ v = .slice B rs.length d ∧ 0 ≤ k ∧ k ≤ 30 ∧ rs.length ≤ 20 + k ∧ Or wr w.heap.size B rs.length d rs ∧ Hid (∀ r ∈ rs, r.c.length ≤ 3) ∧ Src wr base g A c bs ∧ w.grownBy wr (some g)) (fun _ n _ => (30 - intOf n).toNat)
    case atStart => exact ⟨0, _, _, rs, rfl, rfl, by omega, by omega, by omega, o2, hT, h2, G2⟩
    case round =>
      clear o2 hT h2 G2 hl
      obtain ⟨k, B, d, rs, rfl, rfl, k0, k1, kl, hown, ht, hs, hg⟩ := hrel
      go_wp2_with fail
      refine (next_any g _ base A c bs _ hs (by omega)).mono ?_
      rintro e w3 ⟨r3, rfl, a3, b3, h3, g3⟩
      have o3 : Or w3 w.heap.size B rs.length d rs := own_srcT hown g3 hgl
      have G3 := hg.trans g3
      clear hown hg g3 hs
      by_cases hc : (rs.length : Int) < 20 + r3 ∧ k < 30
      · obtain ⟨hc1, hc2⟩ := hc
        go_wp2_with (at_builtin; refine wpList_push _ rfl (.tmp 30) (.tmp 33) 24 rfl w.heap.size 30 i0 _ 4 40 Try.underlying24 hi hz0 hz1 hz2 rfl (by decide) (.slice B rs.length d) rs.length _ rfl o3 [.string ⟨#[90, 65, 82]⟩, .int .i64 k, .int .i64 1, .int .i64 1] rfl (by simp [Value.oneCell']) rfl (by unfold maxLen; omega) (by omega) G3.size ?_; intro v' w' hown' hb')
        obtain ⟨B', d', rfl⟩ := own_form hown'
        go_wp2_with fail
        go_roundw
        case rel => exact ⟨k + 1, B', d', rs ++ [⟨[90, 65, 82], k, 1, 1⟩], rfl, by simp, by omega, by omega, by simp; omega, by simpa [Or, Rt.cells] using hown', Lib.hid (snoc_txt ht.out (by simp)), h3.keep (hb'.mono (by omega)), grown_below G3 hb'⟩
        case measure => simp [intOf]; omega
      · by_cases hc1 : (rs.length : Int) < 20 + r3
        · have hc2 : ¬ k < 30 := fun h => hc ⟨hc1, h⟩
          clear hc
          go_wp2_with fail
          go_ret
          exact ⟨B, d, rs, rfl, ⟨by omega, o3, ht.out⟩, h3, G3⟩
        · clear hc
          go_wp2_with fail
          go_ret
          exact ⟨B, d, rs, rfl, ⟨by omega, o3, ht.out⟩, h3, G3⟩
  · have e0 : (r2 == 0) = false := beq_eq_false_iff_ne.2 (by omega)
    have e1 : (r2 == 1) = false := beq_eq_false_iff_ne.2 (by omega)
    go_wp2_with fail
    go_ret
    exact ⟨B, d, rs, rfl, ⟨by omega, o2, hT.out⟩, h2, G2⟩
end Go.Proofs.Ytaehkkcaoniphaa

