/- impl.byGreatestRest: the places by falling remainders, the first ones of equal remainders first. -/
import Derived.Test.YtgapkkkalandhaaSortm
import Derived.Test.YtgapkkkalandhaaCodes
import Derived.Test.YtgapkkkalandhaaDraw
import Derived.BigRegion
namespace Go.Proofs.Ytgapkkkalandhaa
open Go.ChangeShapes Go.WideShapes Go.ChangeAt Go.RowKit
set_option linter.unusedVariables false

def cmpI (a b : Int) : Int := if a < b then -1 else if b < a then 1 else 0
theorem cmpI_neg {a b : Int} : cmpI a b < 0 ↔ a < b := by unfold cmpI; split <;> (try split) <;> omega

theorem compare64 (a b : Int) (w : World) : Calls Try.prog 57 #[.int .i64 a, .int .i64 b] w fun e w' => e = .returned (.int .i64 (cmpI a b)) ∧ w' = w := by
  have ha : (a != a) = false := by simp
  have hb : (b != b) = false := by simp
  rcases (by omega : a < b ∨ b < a ∨ (¬ a < b ∧ ¬ b < a)) with h | h | ⟨h, h'⟩
  · have E : Hid (cmpI a b = -1) := Lib.hid (by unfold cmpI; rw [if_pos h])
    go_enter Try.func57, Try.ntmps57
    go_wp2
    go_ret
    exact ⟨by rw [E.out] <;> rfl, rfl⟩
  · have E : Hid (cmpI a b = 1) := Lib.hid (by unfold cmpI; rw [if_neg (by omega), if_pos h])
    go_enter Try.func57, Try.ntmps57
    go_wp2
    go_ret
    exact ⟨by rw [E.out] <;> rfl, rfl⟩
  · have E : Hid (cmpI a b = 0) := Lib.hid (by unfold cmpI; rw [if_neg (by omega), if_neg (by omega)])
    go_enter Try.func57, Try.ntmps57
    go_wp2
    go_ret
    exact ⟨by rw [E.out] <;> rfl, rfl⟩

theorem Ir.getD_at {w : World} {A : Option Addr} {xs : List Int} (h : Ir w A xs) {k : Nat} (hk : k < xs.length) :
    ∃ b off, A = some ⟨b, off, none⟩ ∧ w.cell? ⟨b, off + k, none⟩ = some (.int .i64 (xs.getD k 0)) := by
  obtain ⟨b, off, x, e, hc, hx⟩ := h.at hk
  have : xs.getD k 0 = x := by rw [List.getD_eq_getElem?_getD, hx.out]; rfl
  exact ⟨b, off, e, by rw [this]; exact hc⟩

/-- The closure compares the remainders of two places. -/
theorem closure_any (i j gc c n : Nat) (A : Option Addr) (rs : List Int) (w : World) (hi : i < rs.length) (hj : j < rs.length) (hl : rs.length = n) (hn : n ≤ 1000) (hc : w.cell? ⟨gc, 0, none⟩ = some (.slice A n c)) (hr : Ir w A rs) :
    Calls Try.prog 56 #[.int .i64 i, .int .i64 j, .pointer (some ⟨gc, 0, none⟩)] w fun e w' => e = .returned (.int .i64 (cmpI (rs.getD j 0) (rs.getD i 0))) ∧ ∃ n, w' = w.drewN n := by
  obtain ⟨b, off, rfl, h1⟩ := hr.getD_at hi
  obtain ⟨b2, off2, e, h2⟩ := hr.getD_at hj
  obtain ⟨rfl, rfl⟩ : b = b2 ∧ off = off2 := by injection e with e; injection e with e1 e2 _; exact ⟨e1, e2⟩
  have hin : i < n := by omega
  have hjn : j < n := by omega
  clear e hr hi hj hl
  generalize rs.getD i 0 = x at h1 ⊢
  generalize rs.getD j 0 = y at h2 ⊢
  go_enter Try.func56, Try.ntmps56
  go_wp2_with fail
  go_quiet ((go_at_call 57; exact Calls.quiet_of_same (compare64 _ _ _)))
  go_wp2_with fail
  go_ret
  exact ⟨rfl, _, rfl⟩

def natCells (ds : List Nat) : List Value := ds.map fun d : Nat => Value.int .i64 d
theorem natCells_at {ds : List Nat} {k x : Nat} (h : ds[k]? = some x) : (natCells ds)[k]? = some (Value.int .i64 (x : Int)) := by simp [natCells, h]
theorem natCells_set (ds : List Nat) (k x : Nat) : natCells (ds.set k x) = (natCells ds).set k (Value.int .i64 (x : Int)) := by simp [natCells, List.map_set]

/-- The places in order: all of them, by falling remainders. -/
def Ordered (rs : List Int) (n : Nat) (os : List Nat) : Prop := os.Perm (List.range n) ∧ os.Pairwise (prec rs)

def Sorted (w : World) (base g n c : Nat) (rs : List Int) (e : Ending) (w' : World) : Prop :=
  ∃ os, e = .returned (.tuple #[]) ∧ Ordered rs n os ∧ w'.ownsRow base 3 1 (.slice (some ⟨g, 0, none⟩) n c) n (natCells os) ∧ w.grownBy w' (some g)

set_option maxHeartbeats 2000000 in
theorem insertion_any (base g gc c cr n : Nat) (A : Option Addr) (rs : List Int) (w : World) (hl : rs.length = n) (hn : n ≤ 1000) (hgc : gc ≠ g) (hAg : ∀ a, A = some a → a.block ≠ g)
    (hc : w.cell? ⟨gc, 0, none⟩ = some (.slice A n cr)) (hr : Ir w A rs)
    (hown : w.ownsRow base 3 1 (.slice (some ⟨g, 0, none⟩) n c) n (natCells (List.range n))) :
    Calls Try.prog 60 #[.slice (some ⟨g, 0, none⟩) n c, .int .i64 0, .int .i64 n, .func (.func 56) #[] #[.pointer (some ⟨gc, 0, none⟩)]] w (Sorted w base g n c rs) := by
  by_cases hn0 : n = 0
  · have hO : Hid (natCells (List.range n) = natCells ([] : List Nat)) := Lib.hid (by rw [hn0]; rfl)
    have h1 : ¬ (1 : Int) < (n : Int) := by omega
    have hz := Lib.hid hn0
    clear hn0
    go_enter Try.func60, Try.ntmps60
    go_wp2_with fail
    go_loop [8] (fun i => i = .int .i64 1) (fun _ => 0)
    case atStart => rfl
    case round =>
      subst hrel
      go_wp2_with fail
      go_end0
      exact ⟨List.range n, rfl, ⟨List.Perm.refl _, by rw [hz.out]; simp⟩, hown, World.grownBy.refl w _⟩
  · have hcw : ∀ wr, w.grownBy wr (some g) → wr.cell? ⟨gc, 0, none⟩ = some (.slice A n cr) := fun wr hg => by
      exact hg.cell hc (by simpa using hgc)
    have HC : Hid (∀ wr, w.grownBy wr (some g) → ∀ i j : Nat, i < n → j < n → ∀ k, Calls Try.prog 56 #[.int .i64 i, .int .i64 j, .pointer (some ⟨gc, 0, none⟩)] (wr.drewN k) fun e w' => e = .returned (.int .i64 (cmpI (rs.getD j 0) (rs.getD i 0))) ∧ ∃ n, w' = (wr.drewN k).drewN n) :=
      Lib.hid fun wr hg i j hi hj k => closure_any i j gc cr n A rs (wr.drewN k) (by omega) (by omega) hl hn (hcw wr hg) ((hr.grown hg hAg).drewN k)
    have hO : Hid (natCells (List.range n) = natCells (List.range 1 ++ (List.range n).drop 1)) := Lib.hid (by
      obtain ⟨m, rfl⟩ : ∃ m, n = m + 1 := ⟨n - 1, by omega⟩
      rw [List.range_succ_eq_map]; rfl)
    rw [hO.out] at hown
    clear hO hcw hc hr hAg
    go_enter Try.func60, Try.ntmps60
    go_wp2_with fail
    go_loopw [8] (fun s wr => ∃ (i : Nat) (l : List Nat), 1 ≤ i ∧ i ≤ n ∧ s = .int .i64 i ∧ Hid (l.Perm (List.range i)) ∧ Hid (l.Pairwise (prec rs)) ∧
      wr.ownsRow base 3 1 (.slice (some ⟨g, 0, none⟩) n c) n (natCells (l ++ (List.range n).drop i)) ∧ w.grownBy wr (some g)) (fun s _ => n - (intOf s).toNat)
    case atStart => exact ⟨1, List.range 1, by omega, by omega, rfl, Lib.hid (List.Perm.refl _), Lib.hid (by simp [List.range_succ_eq_map]), hown, World.grownBy.refl w _⟩
    case round =>
      obtain ⟨i, l, i1, hi, rfl, hp, hs, hown1, hg1⟩ := hrel
      clear hown
      by_cases hlt : i < n
      · have hll : Hid (l.length = i) := Lib.hid (by have := hp.out.length_eq; simpa using this)
        have hD : Hid ((List.range n).drop i = i :: (List.range n).drop (i + 1)) := Lib.hid (by
          rw [List.drop_eq_getElem_cons (by simp; exact hlt)]; simp)
        obtain ⟨wo, rfl⟩ : ∃ wo : World, wo = wr := ⟨_, rfl⟩
        go_wp2_with fail
        go_loopw [9] (fun s wr => ∃ j : Nat, j ≤ i ∧ s = .int .i64 j ∧ wr.ownsRow base 3 1 (.slice (some ⟨g, 0, none⟩) n c) n (natCells (insAt l j i ++ (List.range n).drop (i + 1))) ∧
          Hid (∀ z ∈ l.drop j, rs.getD z 0 < rs.getD i 0) ∧ w.grownBy wr (some g)) (fun s _ => (intOf s).toNat)
        case atStart => exact ⟨i, Nat.le_refl _, rfl, by rw [← hll.out, insAt_top, hll.out, List.append_assoc]; rw [hD.out] at hown1; exact hown1, Lib.hid (by rw [List.drop_of_length_le (by have := hll.out; omega)]; simp), hg1⟩
        case round =>
          obtain ⟨j, hj, rfl, hown2, hdr, hg2⟩ := hrel
          clear hown1 hg1
          rcases Nat.eq_zero_or_pos j with h0 | h0
          · subst h0
            have hd : decide ((0 : Int) < 0) = false := by decide
            have HN := Lib.hid (ins_next hp.out hs.out (Nat.zero_le i) (fun k y e _ => absurd e (by omega)) hdr.out)
            clear hdr
            go_wp2_with fail
            go_quiet (fail)
            go_wp2_with fail
            go_roundw
            case rel => exact ⟨i + 1, insAt l 0 i, by omega, by omega, by go_num, Lib.hid HN.out.1, Lib.hid HN.out.2, hown2, grown_drewN hg2 _⟩
            case measure => simp [intOf]; omega
          · obtain ⟨k, rfl⟩ : ∃ k, j = k + 1 := ⟨j - 1, by omega⟩
            have hkl : k < l.length := by have := hll.out; omega
            have hy : Hid (l[k]? = some l[k]) := Lib.hid (List.getElem?_eq_getElem hkl)
            generalize l[k] = y at hy
            have hyi : y < i := by simpa using hp.out.mem_iff.1 (List.mem_of_getElem? hy.out)
            have hc1 : wr.cell? ⟨g, k + 1, none⟩ = some (.int .i64 (i : Int)) := by
              rw [hown2.cellAt (k + 1) (by omega)]; exact natCells_at (insAt_at (by omega) _)
            have hc0 : wr.cell? ⟨g, k, none⟩ = some (.int .i64 (y : Int)) := by
              rw [hown2.cellAt k (by omega)]; exact natCells_at (by rw [insAt_before hkl]; exact hy.out)
            have hf1 := hown2.frozenAt (k + 1)
            have hf0 := hown2.frozenAt k
            have HQ := Lib.hid (HC.out wr hg2 i y hlt (by omega))
            by_cases hlt2 : rs.getD y 0 < rs.getD i 0
            · have hd : decide (cmpI (rs.getD y 0) (rs.getD i 0) < 0) = true := by simp only [decide_eq_true_eq]; exact cmpI_neg.2 hlt2
              have HS := hown2.stored (k + 1) (.int .i64 (y : Int))
              have HS2 := HS.1.stored k (.int .i64 (i : Int))
              have HE : (((natCells (insAt l (k + 1) i ++ (List.range n).drop (i + 1))).set (k + 1) (.int .i64 (y : Int))).set k (.int .i64 (i : Int))) = natCells (insAt l k i ++ (List.range n).drop (i + 1)) := by
                rw [← natCells_set, ← natCells_set, insAt_step hy.out]
              rw [HE] at HS2
              have HG := Lib.hid ((hg2.trans HS.2).trans HS2.2)
              have HO := Lib.hid HS2.1
              have HD : Hid (∀ z ∈ l.drop k, rs.getD z 0 < rs.getD i 0) := Lib.hid (by
                intro z hz
                rw [drop_of hy.out] at hz
                rcases List.mem_cons.1 hz with rfl | hz
                · exact hlt2
                · exact hdr.out z hz)
              clear HS HS2 HE hdr hlt2 hown2
              generalize rs.getD y 0 = ry at HQ hd
              generalize rs.getD i 0 = ri at HQ hd HD
              have hd0 : decide ((0 : Int) < (k : Int) + 1) = true := decide_eq_true (by omega)
              have hin1 : (k : Int) + 1 < (n : Int) := by omega
              have hin0 : (k : Int) < (n : Int) := by omega
              have hk0 : (0 : Int) ≤ (k : Int) := by omega
              go_wp2_with fail
              rw [show ((k + 1 : Nat) : Int) = (k : Int) + 1 from by simp]
              go_quiet ((go_at_call 56; exact Calls.quiet_of (HQ.out _)))
              go_wp2_with fail
              go_region
              go_wp2_with fail
              go_roundw
              case rel => exact ⟨k, by omega, by go_num, HO.out, HD, grown_drewN HG.out _⟩
              case measure => simp [intOf]
            · have hd : decide (cmpI (rs.getD y 0) (rs.getD i 0) < 0) = false := by
                rw [decide_eq_false_iff_not]; intro h; exact hlt2 (cmpI_neg.1 h)
              have HN := Lib.hid (ins_next hp.out hs.out hj (fun k' y' e hy' => by
                obtain rfl : k = k' := by omega
                have := hy.out.symm.trans hy'; cases this; omega) hdr.out)
              clear hdr hlt2
              generalize rs.getD y 0 = ry at HQ hd
              generalize rs.getD i 0 = ri at HQ hd
              have hd0 : decide ((0 : Int) < (k : Int) + 1) = true := decide_eq_true (by omega)
              have hin1 : (k : Int) + 1 < (n : Int) := by omega
              have hin0 : (k : Int) < (n : Int) := by omega
              have hk0 : (0 : Int) ≤ (k : Int) := by omega
              go_wp2_with fail
              rw [show ((k + 1 : Nat) : Int) = (k : Int) + 1 from by simp]
              go_quiet ((go_at_call 56; exact Calls.quiet_of (HQ.out _)))
              go_wp2_with fail
              go_roundw
              case rel => exact ⟨i + 1, insAt l (k + 1) i, by omega, by omega, by go_num, Lib.hid HN.out.1, Lib.hid HN.out.2, hown2, grown_drewN hg2 _⟩
              case measure => simp [intOf]; omega
      · obtain rfl : i = n := by omega
        have hD : Hid ((List.range i).drop i = []) := Lib.hid (by rw [List.drop_of_length_le (by simp)])
        go_wp2_with fail
        go_end0
        refine ⟨l, rfl, ⟨hp.out, hs.out⟩, ?_, hg1⟩
        rw [hD.out, List.append_nil] at hown1; exact hown1

theorem stable_any (base g gc c cr n : Nat) (A : Option Addr) (rs : List Int) (w : World) (hl : rs.length = n) (hn : n ≤ 19) (hgc : gc ≠ g) (hAg : ∀ a, A = some a → a.block ≠ g)
    (hc : w.cell? ⟨gc, 0, none⟩ = some (.slice A n cr)) (hr : Ir w A rs)
    (hown : w.ownsRow base 3 1 (.slice (some ⟨g, 0, none⟩) n c) n (natCells (List.range n))) :
    Calls Try.prog 58 #[.slice (some ⟨g, 0, none⟩) n c, .int .i64 n, .func (.func 56) #[] #[.pointer (some ⟨gc, 0, none⟩)]] w (Sorted w base g n c rs) := by
  have HI := Lib.hid (insertion_any base g gc c cr n A rs w hl (by omega) hgc hAg hc hr hown)
  have h20 : ¬ (20 : Int) ≤ (n : Int) := by omega
  clear hc hr hown hAg hl
  go_enter Try.func58, Try.ntmps58
  go_wp2_with fail
  go_loop [7, 8] (fun a b => a = .int .i64 0 ∧ b = .int .i64 20) (fun _ _ => 0)
  case atStart => exact ⟨rfl, rfl⟩
  case round =>
    obtain ⟨rfl, rfl⟩ := hrel
    go_wp2_with (go_at_call 60; refine HI.out.mono ?_; rintro e w1 ⟨os, rfl, ho, hown, hg⟩)
    go_loop [6] (fun a => a = .int .i64 20) (fun _ => 0)
    case atStart => rfl
    case round =>
      subst hrel
      go_wp2_with fail
      go_end0
      exact ⟨os, rfl, ho, hown, hg⟩

theorem sortStable_any (base g gc c cr n : Nat) (A : Option Addr) (rs : List Int) (w : World) (hl : rs.length = n) (hn : n ≤ 19) (hgc : gc ≠ g) (hAg : ∀ a, A = some a → a.block ≠ g)
    (hc : w.cell? ⟨gc, 0, none⟩ = some (.slice A n cr)) (hr : Ir w A rs)
    (hown : w.ownsRow base 3 1 (.slice (some ⟨g, 0, none⟩) n c) n (natCells (List.range n))) :
    Calls Try.prog 55 #[.slice (some ⟨g, 0, none⟩) n c, .func (.func 56) #[] #[.pointer (some ⟨gc, 0, none⟩)]] w (Sorted w base g n c rs) := by
  have HI := Lib.hid (stable_any base g gc c cr n A rs w hl hn hgc hAg hc hr hown)
  clear hc hr hown hAg hl
  go_enter Try.func55, Try.ntmps55
  go_wp2_with (go_at_call 58; refine HI.out.mono ?_; rintro e w1 ⟨os, rfl, ho, hown, hg⟩)
  go_end0
  exact ⟨os, rfl, ho, hown, hg⟩

theorem intInfo3 : (Try.prog.info? 3).map (fun i => (i.zero, i.size, i.bytes)) = some (some (.int .i64 0), 1, 8) := by kernel_rfl

def NewOrder (w : World) (rs : List Int) (n : Nat) (e : Ending) (w' : World) : Prop :=
  ∃ g os, e = .returned (.slice (some ⟨g, 0, none⟩) n n) ∧ Ordered rs n os ∧ w'.ownsRow w.heap.size 3 1 (.slice (some ⟨g, 0, none⟩) n n) n (natCells os) ∧ Below w.heap.size w w'

set_option maxHeartbeats 1000000 in
theorem order_any (A : Option Addr) (c n : Nat) (rs : List Int) (w : World) (hl : rs.length = n) (hn : n ≤ 19) (hA : Bd A w.heap.size) (hr : Ir w A rs) :
    Calls Try.prog 42 #[.slice A n c] w (NewOrder w rs n) := by
  obtain ⟨i0, hi, hz0, hz1, hz2⟩ := info_parts intInfo3
  have hmf : ∀ (fn : Fn) (first cap : Array Value) (w : World), (Instr.makeFunc fn first cap).run Try.prog w = .ok (.func fn first cap) w := fun _ _ _ _ => rfl
  have hc0 : (w.alloc (.cells #[.slice A n c] 24)).cell? ⟨w.heap.size, 0, none⟩ = some (.slice A n c) := by rw [cell_of_row _ _ _ _ _ _ (heap_alloc_new w _)]; rfl
  have hr0 : Ir (w.alloc (.cells #[.slice A n c] 24)) A rs := hr.below ((Below.refl _ _).alloc (Nat.le_refl _) _)
  have hb0 : Below w.heap.size w (w.alloc (.cells #[.slice A n c] 24)) := (Below.refl _ _).alloc (Nat.le_refl _) _
  have hsz : (w.alloc (.cells #[.slice A n c] 24)).heap.size = w.heap.size + 1 := by simp
  have HL := Lib.hid hl
  have H0 : Hid (w.heap.size < w.heap.size + 1) := Lib.hid (by omega)
  clear hr hl
  go_enter Try.func42, Try.ntmps42
  go_wp2_with (at_make; refine wpList_make_full _ rfl _ _ 56 rfl (w.heap.size + 1) 3 i0 _ 1 Try.underlying56 hi hz0 hz1 .i64 .i64 _ _ n rfl rfl rfl rfl (by rw [hz2]; omega) (by unfold maxLen; omega) (by rw [hsz]; exact Nat.le_refl _) ?_; intro w1 hown1 hg1)
  have hb1 : Below w.heap.size w w1 := hb0.grown hg1 (by rw [hsz]; omega) (by simp)
  have hc1 : w1.cell? ⟨w.heap.size, 0, none⟩ = some (.slice A n c) := hg1.cell hc0 (by simp)
  rw [hsz] at hown1
  have hr1 : Ir w1 A rs := (hr0.below (Below.refl _ _ |>.grown hg1 (Nat.le_refl _) (by simp)))
  clear hg1 hc0 hr0 hb0 hsz
  go_loopw [10] (fun i wr => ∃ (k : Nat) (ys : List Value), k ≤ n ∧ i = .int .i64 k ∧ wr.ownsRow (w.heap.size + 1) 3 1 (.slice (some ⟨w.heap.size + 1, 0, none⟩) n n) n ys ∧
    Hid (ys.take k = natCells (List.range k)) ∧ w1.grownBy wr (some (w.heap.size + 1))) (fun i _ => n - (intOf i).toNat)
  case atStart => exact ⟨0, _, Nat.zero_le _, rfl, hown1, Lib.hid rfl, World.grownBy.refl _ _⟩
  case round =>
    obtain ⟨k, ys, hk, rfl, hown, ht, hg⟩ := hrel
    clear hown1
    by_cases hlt : k < n
    · have hyl : k < ys.length := by have := hown.1; omega
      obtain ⟨old, hold⟩ : ∃ v, wr.cell? ⟨w.heap.size + 1, k, none⟩ = some v := ⟨ys[k], by rw [hown.cellAt k (by omega)]; simp [hyl]⟩
      have hfz := hown.frozenAt k
      have HS := Lib.hid (hown.stored k (.int .i64 (k : Int)))
      have HT : Hid ((ys.set k (.int .i64 (k : Int))).take (k + 1) = natCells (List.range (k + 1))) := Lib.hid (by
        rw [List.range_succ, List.take_add_one, List.take_set_of_le (Nat.le_refl k), ht.out]; simp [natCells, hyl])
      clear ht hown hc1 hr1
      go_wp2_with fail
      go_roundw
      case rel => exact ⟨k + 1, _, by omega, by go_num, HS.out.1, HT, hg.trans HS.out.2⟩
      case measure => simp [intOf]; omega
    · obtain rfl : k = n := by omega
      have HT : Hid (ys = natCells (List.range k)) := Lib.hid (by
        have h1 := ht.out; have h2 := hown.1
        rwa [List.take_of_length_le (by omega)] at h1)
      have hAg : ∀ a, A = some a → a.block ≠ w.heap.size + 1 := fun a e => by have := hA a e; omega
      have HC := Lib.hid (sortStable_any (w.heap.size + 1) (w.heap.size + 1) w.heap.size k c k A rs wr HL.out hn (by omega) hAg (hg.cell hc1 (by simp)) (hr1.grown hg hAg) (by have := HT.out; subst this; exact hown))
      have hb := hb1.grown hg hb1.size (by simp)
      clear ht hown hc1 hr1 hAg
      go_wp2_with (go_at_call 55; refine HC.out.mono ?_; rintro e w2 ⟨os, rfl, ho, hown2, hg2⟩)
      go_ret
      refine ⟨w.heap.size + 1, os, rfl, ho, ⟨hown2.1, ?_⟩, hb.grown hg2 hb.size (by simp)⟩
      rcases hown2.2 with h | ⟨g, cap, cur, h1, h2, h3⟩
      · exact .inl h
      · exact .inr ⟨g, cap, cur, h1, by omega, h3⟩
end Go.Proofs.Ytgapkkkalandhaa
