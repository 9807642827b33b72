/- laws.toStop, szStop, eqStop, markStopS, heldStopS and their slices (by gen_struct.py). -/
import Derived.Test.YtklhcofonkmiiaaSto
import Derived.Test.YtklhcofonkmiiaaMark
import Derived.Test.YtklhcofonkmiiaaHeld
import Derived.Deep.QuietTactic
import Derived.Deep.RegionHeld3
namespace Go.Proofs.Ytklhcofonkmiiaa
open Go.ChangeShapes Go.WideShapes Go.ChangeAt Go.RowKit
set_option linter.unusedVariables false

theorem toStop_l (r : Sto) (w : World) : Calls Try.prog 36 #[.agg #[.string ⟨r.p.toArray⟩, .int .i64 r.i, .int .i64 r.o]] w (Gives w (.agg #[.string ⟨r.p.toArray⟩, .int .i64 r.i, .int .i64 r.o])) := by
  have B : ∀ o p q, Hid (Below w.heap.size w (((w.alloc o).alloc p).alloc q)) := fun o p q => Lib.hid ((((Below.refl _ _).alloc (Nat.le_refl _) _).alloc (by simp) _).alloc (by simp; omega) _)
  go_enter Try.func36, Try.ntmps36
  go_wp2_with fail
  exact bodyPost_ret (v := .agg #[.string ⟨r.p.toArray⟩, .int .i64 r.i, .int .i64 r.o]) (by simp [results, Try.results36, go_sem]) rfl ⟨rfl, (B _ _ _).out⟩
theorem eqStop_same (r : Sto) (w : World) : Calls Try.prog 57 #[.agg #[.string ⟨r.p.toArray⟩, .int .i64 r.i, .int .i64 r.o], .agg #[.string ⟨r.p.toArray⟩, .int .i64 r.i, .int .i64 r.o]] w (Gives w (.bool true)) := by
  have B : ∀ o p, Hid (Below w.heap.size w ((w.alloc o).alloc p)) := fun o p => Lib.hid (((Below.refl _ _).alloc (Nat.le_refl _) _).alloc (by simp) _)
  have d0 : (r.p == r.p) = true := by simp
  have d1 : (r.i != r.i) = false := by simp
  have d2 : (r.o != r.o) = false := by simp
  go_enter Try.func57, Try.ntmps57
  go_wp2_with fail
  go_ret
  exact ⟨rfl, (B _ _).out⟩
theorem szStop_l (r : Sto) (n : Int) (w : World) (h0 : 0 ≤ n) (h1 : n ≤ 2000000) (hl : r.wf) :
    Calls Try.prog 35 #[.agg #[.string ⟨r.p.toArray⟩, .int .i64 r.i, .int .i64 r.o], .int .i64 n] w (Gives w (.int .i64 (if n - (r.sz : Int) < 0 then -1 else n - (r.sz : Int)))) := by
  have hw := hl
  unfold Sto.wf maxLen at hl
  have hz0 : (⟨r.p.toArray⟩ : ByteArray).size = r.p.length := rfl
  have l0 : r.p.length ≤ 9223372036854775807 := by omega
  have B : ∀ o, Hid (Below w.heap.size w (w.alloc o)) := fun o => Lib.hid ((Below.refl _ _).alloc (Nat.le_refl _) _)
  obtain ⟨M, hM⟩ : ∃ M, M = (if n - (r.sz : Int) < 0 then -1 else n - (r.sz : Int)) := ⟨_, rfl⟩
  rw [← hM]
  have HM := Lib.hid hM
  clear hw hl hM
  by_cases n0 : n - r.p.length < 0
  · have E : Hid (M = -1) := Lib.hid (by rw [HM.out]; unfold Sto.sz; rw [if_pos (by omega)])
    go_enter Try.func35, Try.ntmps35
    go_wp2_with fail
    go_ret
    exact ⟨by first | rfl | exact congrArg (fun x => Ending.returned (Value.int .i64 x)) E.out.symm, (B _).out⟩
  · skip
    have E : Hid (M = n - r.p.length) := Lib.hid (by rw [HM.out]; unfold Sto.sz; rw [if_neg (by omega)]; try omega)
    go_enter Try.func35, Try.ntmps35
    go_wp2_with fail
    go_ret
    exact ⟨by first | rfl | exact congrArg (fun x => Ending.returned (Value.int .i64 x)) E.out.symm, (B _).out⟩
def Sto.szl : List Sto → Int → Int
  | [], n => n
  | r :: rs, n => if n < 0 then n else Sto.szl rs (if n - (r.sz : Int) < 0 then -1 else n - (r.sz : Int))
def Sto.szT (rs : List Sto) (n : Int) : Int := if n - rs.length < 0 then -1 else Sto.szl rs (n - rs.length)
theorem Sto.szl_neg (rs : List Sto) : Sto.szl rs (-1) = -1 := by cases rs <;> rfl
theorem Sto.szl_bd : ∀ (rs : List Sto) (n : Int), 0 ≤ Sto.szl rs n → Sto.szl rs n ≤ n ∧ ∀ r ∈ rs, (r.sz : Int) ≤ n
  | [], n, h => ⟨Int.le_refl _, fun r hr => by cases hr⟩
  | r :: rs, n, h => by
    unfold Sto.szl at h ⊢
    by_cases hn : n < 0
    · rw [if_pos hn] at h; omega
    · rw [if_neg hn] at h ⊢
      by_cases h1 : n - (r.sz : Int) < 0
      · rw [if_pos h1, Sto.szl_neg] at h; omega
      · rw [if_neg h1] at h ⊢
        obtain ⟨h2, h3⟩ := Sto.szl_bd rs _ h
        refine ⟨by omega, fun q hq => ?_⟩
        rcases List.mem_cons.1 hq with rfl | hq
        · omega
        · have := h3 q hq; omega
theorem Sto.szT_bd {rs : List Sto} {n : Int} (h : 0 ≤ Sto.szT rs n) : Sto.szT rs n ≤ n ∧ (rs.length : Int) ≤ n ∧ ∀ r ∈ rs, (r.sz : Int) ≤ n := by
  unfold Sto.szT at h ⊢
  by_cases h1 : n - rs.length < 0
  · rw [if_pos h1] at h; omega
  · rw [if_neg h1] at h ⊢
    obtain ⟨h2, h3⟩ := Sto.szl_bd rs _ h
    exact ⟨by omega, by omega, fun r hr => by have := h3 r hr; omega⟩
theorem Sto.szT_ok {rs : List Sto} (h : ¬ Sto.szT rs 1048576 < 0) : rs.length ≤ 1048576 ∧ (∀ r ∈ rs, r.sz ≤ 1048576) ∧ Sto.szT rs 1048576 ≤ 1048576 := by
  obtain ⟨h0, h1, h2⟩ := Sto.szT_bd (by omega : 0 ≤ Sto.szT rs 1048576)
  exact ⟨by omega, fun r hr => by have := h2 r hr; omega, h0⟩
theorem Sto.szl_cons {r : Sto} {rs : List Sto} {m : Int} (hm : 0 ≤ m) : Sto.szl (r :: rs) m = Sto.szl rs (if m - (r.sz : Int) < 0 then -1 else m - (r.sz : Int)) := by rw [Sto.szl, if_neg (by omega)]
set_option maxHeartbeats 1000000 in
theorem szStopS_l (A : Option Addr) (c : Nat) (rs : List Sto) (n : Int) (w : World) (hR : StoR w A rs) (hw : ∀ r ∈ rs, r.wf) (hl : rs.length ≤ maxLen) (h0 : 0 ≤ n) (h1 : n ≤ 2000000) :
    Calls Try.prog 30 #[.slice A rs.length c, .int .i64 n] w (Gives w (.int .i64 (Sto.szT rs n))) := by
  unfold maxLen at hl
  by_cases hn : n - rs.length < 0
  · have E : Hid (Sto.szT rs n = -1) := Lib.hid (by rw [Sto.szT, if_pos hn])
    go_enter Try.func30, Try.ntmps30
    go_wp2_with fail
    go_ret
    exact ⟨by rw [E.out] <;> rfl, Below.refl _ _⟩
  · have E : Hid (Sto.szT rs n = Sto.szl rs (n - rs.length)) := Lib.hid (by rw [Sto.szT, if_neg hn])
    go_enter Try.func30, Try.ntmps30
    go_wp2_with fail
    go_loopw [1, 5] (fun m i wr => ∃ (k : Nat) (M : Int), k ≤ rs.length ∧ i = .int .i64 k ∧ m = .int .i64 M ∧ 0 ≤ M ∧ M ≤ n ∧ Hid (Sto.szl (rs.drop k) M = Sto.szl rs (n - rs.length)) ∧ Below w.heap.size w wr) (fun _ i _ => rs.length - (intOf i).toNat)
    case atStart => exact ⟨0, _, Nat.zero_le _, rfl, rfl, by omega, by omega, Lib.hid rfl, Below.refl _ _⟩
    case round =>
      obtain ⟨k, M, hk, rfl, rfl, hM0, hM1, hs, hb⟩ := hrel
      by_cases hlt : k < rs.length
      · obtain ⟨b, off, r, rfl, _, hr, h4⟩ := (hR.below hb).at hlt
        have hrl := hw r (List.mem_of_getElem? hr.out)
        have c0 := h4.c0
        have c1 := h4.c1
        have c2 := h4.c2
        have HS : Hid (Sto.szl (rs.drop (k + 1)) (if M - (r.sz : Int) < 0 then -1 else M - (r.sz : Int)) = Sto.szl rs (n - rs.length)) := Lib.hid (by rw [← hs.out, drop_of hr.out, Sto.szl_cons hM0])
        have HC := Lib.hid (szStop_l r M wr (by omega) (by omega) hrl)
        clear hs hw hrl h4
        by_cases hneg : M - (r.sz : Int) < 0
        · rw [if_pos hneg] at HS HC
          have HS := Lib.hid (HS.out.symm.trans (Sto.szl_neg _))
          go_wp2_with (go_at_call 35; refine HC.out.mono ?_; rintro e w1 ⟨rfl, b1⟩)
          go_ret
          exact ⟨by rw [E.out, HS.out] <;> rfl, hb.trans (b1.mono hb.size)⟩
        · rw [if_neg hneg] at HS HC
          obtain ⟨M2, hM2⟩ : ∃ M2, M2 = M - (r.sz : Int) := ⟨_, rfl⟩
          rw [← hM2] at HS HC
          have hM20 : 0 ≤ M2 := by omega
          have hM21 : M2 ≤ n := by omega
          clear hneg hM2
          go_wp2_with (go_at_call 35; refine HC.out.mono ?_; rintro e w1 ⟨rfl, b1⟩)
          go_roundw
          case rel => exact ⟨k + 1, _, by omega, by go_num, rfl, by omega, by omega, HS, hb.trans (b1.mono hb.size)⟩
          case measure => simp [intOf]; omega
      · have HS : Hid (M = Sto.szl rs (n - rs.length)) := Lib.hid (by rw [← hs.out, List.drop_eq_nil_of_le (by omega)]; rfl)
        clear hs
        go_wp2_with fail
        go_ret
        exact ⟨by rw [E.out, ← HS.out] <;> rfl, hb⟩

/-! ### a row of the call's own -/
theorem stoInfo : (Try.prog.info? 35).map (fun i => (i.zero, i.size, i.bytes)) = some (some (.agg #[.string ⟨#[]⟩, .int .i64 0, .int .i64 0]), 3, 32) := by kernel_rfl
def StoO (w : World) (base : Nat) (A : Option Addr) (n c : Nat) (rs : List Sto) : Prop := w.ownsRow base 35 3 (.slice A n c) n (rs.flatMap Sto.cells)
section
variable {w w' : World} {base : Nat} {A : Option Addr} {n c : Nat} {rs : List Sto}
theorem StoO.len (h : StoO w base A n c rs) : rs.length = n := by
  have := h.1; rw [flat_len Sto.cells 3 (fun _ => rfl)] at this; omega
theorem StoO.row (h : StoO w base A n c rs) : StoR w A rs := Rw.ownS h
theorem StoO.bd (h : StoO w base A n c rs) : Bd A w.heap.size := fun a e => (h.lt a.block (by rw [e]; rfl)).2
theorem StoO.lo (h : StoO w base A n c rs) : ∀ k, (Value.slice A n c).ownBlock = some k → base ≤ k := fun k e => (h.lt k e).1
theorem StoO.below (h : StoO w base A n c rs) (hb : Below w.heap.size w w') : StoO w' base A n c rs := own_below h hb
theorem StoO.mono {base' : Nat} (h : StoO w base A n c rs) (hb : base' ≤ base) : StoO w base' A n c rs := by
  refine ⟨h.1, h.2.imp id ?_⟩
  rintro ⟨g, cap, cur, h1, h2, h3⟩
  exact ⟨g, cap, cur, h1, by omega, h3⟩
theorem StoO.kept {B : Option Addr} {m d : Nat} (h : StoO w base A n c rs) (hg : w.grownBy w' (Value.slice B m d).ownBlock) (hB : Bd B base) : StoO w' base A n c rs :=
  World.ownsRow.kept h hg (by
    cases A with
    | none => exact .inl rfl
    | some a =>
      right
      cases B with
      | none => simp [Value.ownBlock]
      | some b =>
        intro e
        have h1 := h.lo a.block rfl
        have h2 := hB b rfl
        simp [Value.ownBlock] at e
        omega)
theorem StoO.far {B : Nat} (h : StoO w base A n c rs) (hg : w.grownBy w' (Value.slice A n c).ownBlock) (hB : B ≤ base) (hs : B ≤ w.heap.size) : Below B w w' :=
  (Below.refl _ _).grown hg hs (fun k e => Nat.le_trans hB (h.lo k e))
theorem StoO.wrote {W : World} {B : Nat} (hW : Below B W w) (h : StoO w base A n c rs) (hg : w.grownBy w' (Value.slice A n c).ownBlock) (hB : B ≤ base) (hs : B ≤ w.heap.size) : Below B W w' :=
  hW.grown hg hs (fun k e => Nat.le_trans hB (h.lo k e))
end
def NewStos (w : World) (rs : List Sto) (e : Ending) (w' : World) : Prop :=
  ∃ A c, e = .returned (.slice A rs.length c) ∧ StoO w' w.heap.size A rs.length c rs ∧ Below w.heap.size w w'
def NewStosC (w : World) (p : List Sto × Int) (e : Ending) (w' : World) : Prop :=
  ∃ A c, e = .returned (.tuple #[.slice A p.1.length c, .int .i64 p.2]) ∧ StoO w' w.heap.size A p.1.length c p.1 ∧ Below w.heap.size w w'
theorem set_sto {ys : List Value} {k : Nat} (hk : k * 3 + 2 < ys.length) {v0 v1 v2 : Value} {P : List Value} (h : ys.take (k * 3) = P) :
    (((ys.set (k * 3) (v0)).set (k * 3 + 1) (v1)).set (k * 3 + 2) (v2)).take ((k + 1) * 3) = P ++ [v0, v1, v2] := by
  apply List.ext_getElem?
  intro j
  subst h
  rw [List.getElem?_take, List.getElem?_append, List.length_take, Nat.min_eq_left (by omega)]
  by_cases h1 : j < k * 3
  · rw [if_pos (by omega), if_pos h1, List.getElem?_take, if_pos h1]
    rw [List.getElem?_set_ne (by omega), List.getElem?_set_ne (by omega), List.getElem?_set_ne (by omega)]
  · rw [if_neg h1]
    by_cases h2 : j < (k + 1) * 3
    · rw [if_pos h2]
      have : j = k * 3 ∨ j = k * 3 + 1 ∨ j = k * 3 + 2 := by omega
      rcases this with rfl | rfl | rfl
      · rw [List.getElem?_set_ne (by omega), List.getElem?_set_ne (by omega), List.getElem?_set_self (by (try simp only [List.length_set]); omega), Nat.sub_self]; rfl
      · rw [List.getElem?_set_ne (by omega), List.getElem?_set_self (by (try simp only [List.length_set]); omega), show k * 3 + 1 - k * 3 = 1 by omega]; rfl
      · rw [List.getElem?_set_self (by (try simp only [List.length_set]); omega), show k * 3 + 2 - k * 3 = 2 by omega]; rfl
    · rw [if_neg h2, List.getElem?_eq_none (by simp; omega)]
theorem stored_sto {w : World} {base g n c : Nat} {e : TypeId} {xs : List Value} (h : w.ownsRow base e 3 (.slice (some ⟨g, 0, none⟩) n c) n xs) (j : Nat) (v0 v1 v2 : Value) :
    (((w.setCell ⟨g, j, none⟩ (v0)).setCell ⟨g, j + 1, none⟩ (v1)).setCell ⟨g, j + 2, none⟩ (v2)).ownsRow base e 3 (.slice (some ⟨g, 0, none⟩) n c) n (((xs.set (j) (v0)).set (j + 1) (v1)).set (j + 2) (v2)) ∧
    w.grownBy (((w.setCell ⟨g, j, none⟩ (v0)).setCell ⟨g, j + 1, none⟩ (v1)).setCell ⟨g, j + 2, none⟩ (v2)) (some g) := by
  have h1 := h.stored (j) v0
  have h2 := h1.1.stored (j + 1) v1
  have h3 := h2.1.stored (j + 2) v2
  exact ⟨h3.1, ((h1.2.trans h2.2).trans h3.2)⟩
set_option maxHeartbeats 2000000 in
theorem toStopS_l (A : Option Addr) (c : Nat) (rs : List Sto) (w : World) (hR : StoR w A rs) (hn : rs.length ≤ 1048576) :
    Calls Try.prog 32 #[.slice A rs.length c] w (NewStos w rs) := by
  obtain ⟨i0, hi, hz0, hz1, hz2⟩ := info_parts stoInfo
  go_enter Try.func32, Try.ntmps32
  go_wp2_with (at_make; refine wpList_make_full _ rfl _ _ 24 rfl w.heap.size 35 i0 _ 3 Try.underlying24 hi hz0 hz1 .i64 .i64 _ _ rs.length rfl rfl rfl rfl (by rw [hz2]; omega) (by unfold maxLen; omega) (Nat.le_refl _) ?_; intro w1 hown1 hg1)
  have hb1 : Below w.heap.size w w1 := (Below.refl _ _).grown hg1 (Nat.le_refl _) (by simp)
  clear hg1
  go_loopw [4] (fun i wr => ∃ (k : Nat) (ys : List Value), k ≤ rs.length ∧ i = .int .i64 k ∧ wr.ownsRow w.heap.size 35 3 (.slice (some ⟨w.heap.size, 0, none⟩) rs.length rs.length) rs.length ys ∧
    Hid (ys.take (k * 3) = (rs.take k).flatMap Sto.cells) ∧ Below w.heap.size w wr) (fun i _ => rs.length - (intOf i).toNat)
  case atStart => exact ⟨0, _, Nat.zero_le _, rfl, hown1, Lib.hid (by simp), hb1⟩
  case round =>
    obtain ⟨k, ys, hk, rfl, hown, ht, hb⟩ := hrel
    clear hown1 hb1
    by_cases hlt : k < rs.length
    · obtain ⟨b, off, r, rfl, _, hr, h4⟩ := (hR.below hb).at hlt
      have c0 := h4.c0
      have c1 := h4.c1
      have c2 := h4.c2
      have HT : Hid ((((ys.set (k * 3) (.string ⟨r.p.toArray⟩)).set (k * 3 + 1) (.int .i64 r.i)).set (k * 3 + 2) (.int .i64 r.o)).take ((k + 1) * 3) = (rs.take (k + 1)).flatMap Sto.cells) := Lib.hid (by
        rw [set_sto (by have := hown.1; omega) ht.out, snoc_of hr.out, List.flatMap_append]; simp [Sto.cells])
      have HO := Lib.hid hown
      have hyl : k * 3 + 2 < ys.length := by have := hown.1; omega
      clear ht hown h4
      go_wp2_with fail
      refine (toStop_l r _).mono ?_
      rintro e w1 ⟨rfl, b1⟩
      have hown := own_below HO.out b1
      clear HO
      have hb2 := hb.trans (b1.mono hb.size)
      obtain ⟨o0, k0⟩ := own_at hown (k * 3) (by omega)
      have f0 := hown.frozenAt (k * 3)
      obtain ⟨o1, k1⟩ := own_at hown (k * 3 + 1) (by omega)
      have f1 := hown.frozenAt (k * 3 + 1)
      obtain ⟨o2, k2⟩ := own_at hown (k * 3 + 2) (by omega)
      have f2 := hown.frozenAt (k * 3 + 2)
      have HS := Lib.hid (stored_sto hown (k * 3) (.string ⟨r.p.toArray⟩) (.int .i64 r.i) (.int .i64 r.o))
      clear hown
      go_wp2_with fail
      go_roundw
      case rel => exact ⟨k + 1, _, by omega, by go_num, HS.out.1, HT, hb2.grown HS.out.2 hb2.size (by simp)⟩
      case measure => simp [intOf]; omega
    · have HT : Hid (ys = rs.flatMap Sto.cells) := Lib.hid (by
        have h1 := ht.out; have h2 := hown.1
        rwa [take_all hk hlt, List.take_of_length_le (by omega)] at h1)
      clear ht
      go_wp2_with fail
      go_ret
      exact ⟨_, _, rfl, by have := HT.out; subst this; exact hown, hb⟩
set_option maxHeartbeats 2000000 in
theorem eqStopS_l (A B : Option Addr) (n m c d : Nat) (rs : List Sto) (w : World) (hx : StoR w A rs) (hy : StoR w B rs) (hn1 : rs.length = n) (hm1 : rs.length = m) (hn : n ≤ 1000000000) :
    Calls Try.prog 34 #[.slice A n c, .slice B m d] w (Gives w (.bool true)) := by
  subst hn1 hm1
  go_enter Try.func34, Try.ntmps34
  go_wp2_with fail
  go_loopw [5] (fun i wr => ∃ k : Nat, k ≤ rs.length ∧ i = .int .i64 k ∧ Below w.heap.size w wr) (fun i _ => rs.length - (intOf i).toNat)
  case atStart => exact ⟨0, Nat.zero_le _, rfl, Below.refl _ _⟩
  case round =>
    obtain ⟨k, hk, rfl, hb⟩ := hrel
    by_cases hlt : k < rs.length
    · obtain ⟨b, off, r, rfl, hl, hr, h4⟩ := (hx.below hb).at hlt
      obtain ⟨b', off', q, rfl, hl', hq, h4'⟩ := (hy.below hb).at hlt
      obtain rfl : r = q := by have h1 := hr.out; have h2 := hq.out; rw [h1] at h2; exact Option.some.inj h2
      have q0 : ∀ y : Sub (Bel wr), y.w.cell? ⟨b, off + k * 3, none⟩ = some (.string ⟨r.p.toArray⟩) := fun y => (h4.below hl y.h).c0
      have p0 : ∀ y : Sub (Bel wr), y.w.cell? ⟨b', off' + k * 3, none⟩ = some (.string ⟨r.p.toArray⟩) := fun y => (h4'.below hl' y.h).c0
      have q1 : ∀ y : Sub (Bel wr), y.w.cell? ⟨b, off + k * 3 + 1, none⟩ = some (.int .i64 r.i) := fun y => (h4.below hl y.h).c1
      have p1 : ∀ y : Sub (Bel wr), y.w.cell? ⟨b', off' + k * 3 + 1, none⟩ = some (.int .i64 r.i) := fun y => (h4'.below hl' y.h).c1
      have q2 : ∀ y : Sub (Bel wr), y.w.cell? ⟨b, off + k * 3 + 2, none⟩ = some (.int .i64 r.o) := fun y => (h4.below hl y.h).c2
      have p2 : ∀ y : Sub (Bel wr), y.w.cell? ⟨b', off' + k * 3 + 2, none⟩ = some (.int .i64 r.o) := fun y => (h4'.below hl' y.h).c2
      have HB := Lib.hid (fun y : Sub (Bel wr) => (belowGo hb y.h : Below w.heap.size w y.w))
      have HE := Lib.hid (fun y : Sub (Bel wr) => (eqStop_same r y.w).mono fun e w' h => (⟨h.1, ⟨w', Bel.step y h.2⟩, rfl⟩ : e = .returned (.bool true) ∧ ∃ z : Sub (Bel wr), w' = z.w))
      clear hx hy hr hq h4 h4'
      go_wp2_with fail
      refine region_held (Bel wr) (by kernel_rfl) (by kernel_rfl) (Bel.drew wr) ?_
      repeat (go_big_quiet_step ((first | rfl | (go_at_call 57; exact HE.out _))))
      refine wpQuiet_nil ?_
      rintro _ ⟨y, rfl⟩
      go_wp2_with fail
      go_roundw
      case rel => exact ⟨k + 1, by omega, by go_num, HB.out y⟩
      case measure => simp [intOf]; omega
    · clear hx hy
      go_wp2_with fail
      go_ret
      exact ⟨rfl, hb⟩

def Sto.mark (k : Nat) : Sto := ⟨mkT (k), (k : Int) + 1, (k : Int) + 2⟩
def Sto.marks (k : Nat) (n : Nat) : List Sto := (List.range n).map fun j => Sto.mark (k + 3 * j)
theorem Sto.marks_len (k : Nat) (n : Nat) : (Sto.marks k n).length = n := by simp [Sto.marks]
theorem Sto.marks_at {k : Nat} {n j : Nat} (h : j < n) : (Sto.marks k n)[j]? = some (Sto.mark (k + 3 * j)) := by simp [Sto.marks, h]
theorem Sto.marks_succ (k : Nat) (n : Nat) : Sto.marks k (n + 1) = Sto.marks k n ++ [Sto.mark (k + 3 * n)] := by simp [Sto.marks, List.range_succ]
def MarkedSto (w : World) (base : Nat) (A : Option Addr) (n c : Nat) (k : Nat) (e : Ending) (w' : World) : Prop :=
  e = .returned (.int .i64 ((k + 3 * n : Nat) : Int)) ∧ StoO w' base A n c (Sto.marks k n) ∧ w.grownBy w' (Value.slice A n c).ownBlock
set_option maxRecDepth 100000 in
set_option maxHeartbeats 2000000 in
theorem markStopS_l (A : Option Addr) (n c : Nat) (k0 : Nat) (rs : List Sto) (base : Nat) (w : World) (hx : StoO w base A n c rs) (hn : n ≤ 1048576) (h0 : 0 < k0) (h1 : k0 ≤ 1000000000) :
    Calls Try.prog 37 #[.slice A n c, .int .i64 k0] w (MarkedSto w base A n c k0) := by
  by_cases hz : n = 0
  · have HO : Hid (StoO w base A n c (Sto.marks k0 n)) := Lib.hid (by
      have h := hx.len; subst hz
      have : rs = [] := List.eq_nil_of_length_eq_zero h
      subst this; exact hx)
    subst hz
    go_enter Try.func37, Try.ntmps37
    go_wp2_with fail
    go_loop [1, 5] (fun k i => k = .int .i64 k0 ∧ i = .int .i64 0) (fun _ _ => 0)
    case atStart => exact ⟨rfl, rfl⟩
    case round =>
      obtain ⟨rfl, rfl⟩ := hrel
      go_wp2_with fail
      go_ret
      exact ⟨by simp, HO.out, World.grownBy.refl w _⟩
  · obtain ⟨g, hA⟩ : ∃ g, A = some ⟨g, 0, none⟩ := by
      rcases hx.2 with ⟨_, h⟩ | ⟨g, _, _, h, _⟩
      · exact absurd h hz
      · injection h with h; exact ⟨g, h⟩
    subst hA
    go_enter Try.func37, Try.ntmps37
    go_wp2_with fail
    go_loopw [1, 5] (fun k i wr => ∃ (j : Nat) (ys : List Value), j ≤ n ∧ i = .int .i64 j ∧ k = .int .i64 ((k0 + 3 * j : Nat) : Int) ∧ wr.ownsRow base 35 3 (.slice (some ⟨g, 0, none⟩) n c) n ys ∧
      Hid (ys.take (j * 3) = (Sto.marks k0 j).flatMap Sto.cells) ∧ w.grownBy wr (some g)) (fun _ i _ => n - (intOf i).toNat)
    case atStart => exact ⟨0, _, Nat.zero_le _, rfl, by simp, hx, Lib.hid (by simp [Sto.marks]), World.grownBy.refl w _⟩
    case round =>
      obtain ⟨j, ys, hj, rfl, rfl, hown, ht, hg⟩ := hrel
      clear hx
      by_cases hlt : j < n
      · have hyl : j * 3 + 2 < ys.length := by have := hown.1; omega
        have HM := Lib.hid (fun (i : Nat) (W : World) (hi : i ≤ 3) => markText_l (k0 + 3 * j + i) W (by omega) (by omega))
        have HT : Hid ((((ys.set (j * 3) (.string ⟨(mkT (k0 + 3 * j)).toArray⟩)).set (j * 3 + 1) (.int .i64 (((k0 + 3 * j : Nat) : Int) + 1))).set (j * 3 + 2) (.int .i64 (((k0 + 3 * j : Nat) : Int) + 2))).take ((j + 1) * 3) = (Sto.marks k0 (j + 1)).flatMap Sto.cells) := Lib.hid (by
          rw [set_sto hyl ht.out, Sto.marks_succ, List.flatMap_append]; simp [Sto.cells, Sto.mark])
        obtain ⟨K, hK⟩ : ∃ K, K = k0 + 3 * j := ⟨_, rfl⟩
        rw [← hK] at HM HT ⊢
        have HK : Hid (k0 + 3 * (j + 1) = K + 3) := Lib.hid (by omega)
        have hKb : K ≤ 1010000000 := by omega
        clear ht hK
        have G0 := Lib.hid hg
        have O0 := Lib.hid hown
        have HL := hyl
        clear hg hown
        go_wp2_with fail
        refine (HM.out 0 _ (by omega)).mono ?_
        rintro e w1 ⟨rfl, b1⟩
        have hown := own_below O0.out b1
        have G1 := Lib.hid (grown_below' G0.out (b1.mono G0.out.size))
        obtain ⟨o0, k0⟩ := own_at hown (j * 3) (by (try simp only [List.length_set]); omega)
        have f0 := hown.frozenAt (j * 3)
        obtain ⟨o1, k1⟩ := own_at hown (j * 3 + 1) (by (try simp only [List.length_set]); omega)
        have f1 := hown.frozenAt (j * 3 + 1)
        obtain ⟨o2, k2⟩ := own_at hown (j * 3 + 2) (by (try simp only [List.length_set]); omega)
        have f2 := hown.frozenAt (j * 3 + 2)
        have S0 := hown.stored (j * 3) (.string ⟨(mkT (K)).toArray⟩)
        have S1 := S0.1.stored (j * 3 + 1) (.int .i64 ((K : Int) + 1))
        have S2 := S1.1.stored (j * 3 + 2) (.int .i64 ((K : Int) + 2))
        have O1 := Lib.hid S2.1
        have G1' := Lib.hid (((G1.out.trans S0.2).trans S1.2).trans S2.2)
        clear G1 hown S0 S1 S2
        have G1 := G1'
        clear G1'
        go_wp2_with fail
        go_roundw
        case rel => exact ⟨j + 1, _, by omega, by go_num, by rw [HK.out]; go_num, O1.out, HT, G1.out⟩
        case measure => simp [intOf]; omega
      · obtain rfl : j = n := by omega
        have HT : Hid (ys = (Sto.marks k0 j).flatMap Sto.cells) := Lib.hid (by
          have h1 := ht.out; have h2 := hown.1
          rwa [List.take_of_length_le (by omega)] at h1)
        clear ht
        go_wp2_with fail
        go_ret
        exact ⟨rfl, by have := HT.out; subst this; exact hown, hg⟩

set_option maxRecDepth 100000 in
set_option maxHeartbeats 2000000 in
theorem heldStopS_l (A : Option Addr) (n c : Nat) (k0 : Nat) (w : World) (hx : StoR w A (Sto.marks k0 n)) (hn : n ≤ 1048576) (h0 : 0 < k0) (h1 : k0 ≤ 1000000000) :
    Calls Try.prog 38 #[.slice A n c, .int .i64 k0] w (Gives w (.int .i64 ((k0 + 3 * n : Nat) : Int))) := by
  go_enter Try.func38, Try.ntmps38
  go_wp2_with fail
  go_loopw [1, 5] (fun k i wr => ∃ j : Nat, j ≤ n ∧ i = .int .i64 j ∧ k = .int .i64 ((k0 + 3 * j : Nat) : Int) ∧ Below w.heap.size w wr) (fun _ i _ => n - (intOf i).toNat)
  case atStart => exact ⟨0, Nat.zero_le _, rfl, by simp, Below.refl _ _⟩
  case round =>
    obtain ⟨j, hj, rfl, rfl, hb⟩ := hrel
    by_cases hlt : j < n
    · obtain ⟨b, off, r, rfl, hl, hr, h4⟩ := (hx.below hb).at (k := j) (by rw [Sto.marks_len]; exact hlt)
      obtain rfl : Sto.mark (k0 + 3 * j) = r := by have := hr.out; rw [Sto.marks_at hlt] at this; exact Option.some.inj this
      obtain ⟨K, hK⟩ : ∃ K, K = k0 + 3 * j := ⟨_, rfl⟩
      rw [← hK] at h4 ⊢
      have HK : Hid (k0 + 3 * (j + 1) = K + 3) := Lib.hid (by omega)
      have hKb : K ≤ 1010000000 := by omega
      have hK0 : 0 < K := by omega
      have HM := Lib.hid (fun (i : Nat) (hi : i ≤ 3) (y : Sub (Bel wr)) => (markText_l (K + i) y.w (by omega) (by omega)).mono fun e w' h => (⟨h.1, ⟨w', Bel.step y h.2⟩, rfl⟩ : e = .returned (.string ⟨(mkT (K + i)).toArray⟩) ∧ ∃ z : Sub (Bel wr), w' = z.w))
      have q0 : ∀ y : Sub (Bel wr), y.w.cell? ⟨b, off + j * 3, none⟩ = some (.string ⟨(mkT (K)).toArray⟩) := fun y => (h4.below hl y.h).c0
      have q1 : ∀ y : Sub (Bel wr), y.w.cell? ⟨b, off + j * 3 + 1, none⟩ = some (.int .i64 ((K : Int) + 1)) := fun y => (h4.below hl y.h).c1
      have q2 : ∀ y : Sub (Bel wr), y.w.cell? ⟨b, off + j * 3 + 2, none⟩ = some (.int .i64 ((K : Int) + 2)) := fun y => (h4.below hl y.h).c2
      have HB := Lib.hid (fun y : Sub (Bel wr) => (belowGo hb y.h : Below w.heap.size w y.w))
      have HD := Lib.hid (fun y : Sub (Bel wr) => (Below.drew (show Below wr.heap.size wr y.w from y.h) : Bel wr y.w.drew))
      have d1 : (((K : Int) + 1) != (K : Int) + 1) = false := by simp
      have d2 : (((K : Int) + 2) != (K : Int) + 2) = false := by simp
      clear hx hr hK
      have m0 := Lib.hid (HM.out 0 (by omega))
      go_wp2_with fail
      refine region_held (Bel wr) (by kernel_rfl) (by kernel_rfl) (Bel.drew wr) ?_
      repeat (go_big_quiet_step ((first | rfl | (go_at_call 58; exact m0.out _))))
      refine wpQuiet_nil ?_
      rintro _ ⟨y0, rfl⟩
      have c1 := q1 y0
      have c2 := q2 y0
      clear q0
      clear q1
      clear q2
      clear h4
      go_wp2_with fail
      go_roundw
      case rel => exact ⟨j + 1, by omega, by go_num, by rw [HK.out]; go_num, HB.out y0⟩
      case measure => simp [intOf]; omega
    · obtain rfl : j = n := by omega
      clear hx
      go_wp2_with fail
      go_ret
      exact ⟨rfl, hb⟩
end Go.Proofs.Ytklhcofonkmiiaa
