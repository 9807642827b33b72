/- Steps: rows of structs of two numbers; copied, counted, compared. -/
import Derived.Test.YthiegfcgbfhmmaaRates
import Derived.Test.YthiegfcgbfhmmaaHeld
namespace Go.Proofs.Ythiegfcgbfhmmaa
open Go.ChangeShapes Go.WideShapes Go.ChangeAt Go.RowKit
set_option linter.unusedVariables false

structure St where
  day : Int
  pts : Int
def St.cells (r : St) : List Value := [.int .i64 r.day, .int .i64 r.pts]
def Rs (w : World) (A : Option Addr) (rs : List St) : Prop := Rw w A (rs.flatMap St.cells)
theorem Rs.below {w w' : World} {A : Option Addr} {rs : List St} (h : Rs w A rs) (hb : Below w.heap.size w w') : Rs w' A rs := Rw.below h hb
theorem Rs.at {w : World} {A : Option Addr} {rs : List St} (h : Rs w A rs) {k : Nat} (hk : k < rs.length) :
    ∃ b off r, A = some ⟨b, off, none⟩ ∧ b < w.heap.size ∧ Hid (rs[k]? = some r) ∧ w.cell? ⟨b, off + k * 2, none⟩ = some (.int .i64 r.day) ∧ w.cell? ⟨b, off + k * 2 + 1, none⟩ = some (.int .i64 r.pts) := by
  have hl := flat_len St.cells 2 (fun _ => rfl) rs
  obtain ⟨b, off, e, hb, hc⟩ := h (by rw [hl]; omega)
  have hr : rs[k]? = some rs[k] := List.getElem?_eq_getElem hk
  have g := fun j hj => hc (k * 2 + j) _ ((flat_at St.cells 2 (fun _ => rfl) rs k j _ hr hj).trans (List.getElem?_eq_getElem (by exact hj)))
  refine ⟨b, off, rs[k], e, hb, Lib.hid hr, ?_, ?_⟩
  · simpa [St.cells] using g 0 (by omega)
  · simpa [St.cells, Nat.add_assoc] using g 1 (by omega)
def St.wf (r : St) : Prop := (Lit.int .i64 r.day).wf = true ∧ (Lit.int .i64 r.pts).wf = true
theorem list2 {α : Type} {l : List α} (h : l.length = 2) : ∃ a b, l = [a, b] := by
  match l, h with
  | [a, b], _ => exact ⟨a, b, rfl⟩
theorem rs_of {H : Type} {enc : TypeId × Value → H} {w : World} {spare : Nat → Bool} {held : Bool} {t e : TypeId} {f0 f1 : Field} {fuel : Nat} {A : Option Addr} {len cap : Nat} {x : DataW H × List MemPlace}
    (ht : Try.prog.underlying t = some (.slice e)) (he : Try.prog.underlying e = some (.struct #[f0, f1])) (hC : Try.prog.cellsOf e = 2) (hone : Go.Deep.oneCellFields Try.prog #[f0, f1] = true)
    (h0 : Try.prog.underlying f0.type = some (.int .i64)) (h1 : Try.prog.underlying f1.type = some (.int .i64))
    (h : DataW.trod enc Try.prog w 0 spare held fuel t [.slice A len cap] = some x) :
    ∃ rs : List St, rs.length = len ∧ Rs w A rs ∧ rs.length ≤ maxLen ∧ ∀ r ∈ rs, r.wf := by
  rcases Go.Deep.open_slice ht h with ⟨hcs, _⟩ | ⟨a, l, c, m, n, D, Pl, hcs, _, hlc, hcm, hmm, _, hel⟩
  · simp only [List.cons.injEq, Value.slice.injEq, and_true] at hcs
    obtain ⟨rfl, rfl, rfl⟩ := hcs
    exact ⟨[], rfl, fun hp => by simp at hp, by simp, fun r hr => by cases hr⟩
  · simp only [List.cons.injEq, Value.slice.injEq, and_true] at hcs
    obtain ⟨rfl, rfl, rfl⟩ := hcs
    have hlm : len ≤ m := by rw [hmm]; split <;> omega
    have key : ∀ i, i < len → ∃ r : St, r.wf ∧ ∀ j v, r.cells[j]? = some v → w.cell? (a.add (i * 2 + j)) = some v := by
      intro i hi
      obtain ⟨cs', hc, ht'⟩ := hel i (by omega)
      rw [hC] at hc
      obtain ⟨_, hcl, hat⟩ := World.cells?_some hc
      obtain ⟨ys, n', _, _, _, hyl, hf⟩ := DataW.trod_struct he ht'
      obtain ⟨o0, k0⟩ := Go.Deep.hone_of hone 0 f0 rfl
      obtain ⟨o1, k1⟩ := Go.Deep.hone_of hone 1 f1 rfl
      obtain ⟨c0, c1, rfl⟩ := list2 hcl
      have g0 := hf 0 f0 rfl
      have g1 := hf 1 f1 rfl
      rw [o0, k0] at g0; rw [o1, k1] at g1
      have hys : ∀ j, j < 2 → ∃ y, ys[j]? = some y := fun j hj => by
        have : ys.length = 2 := hyl.trans rfl
        exact ⟨_, List.getElem?_eq_getElem (by omega)⟩
      obtain ⟨y0, e0⟩ := hys 0 (by omega); rw [e0] at g0
      obtain ⟨y1, e1⟩ := hys 1 (by omega); rw [e1] at g1
      obtain ⟨d, q0, _, w0⟩ := DataW.trod_int h0 g0
      obtain ⟨p, q1, _, w1⟩ := DataW.trod_int h1 g1
      simp at q0 q1
      subst q0 q1
      refine ⟨⟨d, p⟩, ⟨w0, w1⟩, fun j v hj => ?_⟩
      have hj2 : j < 2 := (List.getElem?_eq_some_iff.1 hj).1
      rw [← Go.Deep.add_add]
      have := hat j hj2
      rw [this, ← hj]
      rfl
    obtain ⟨rs, hl, hr⟩ := pick_all key
    refine ⟨rs, hl, fun hp => ?_, by omega, fun r hr' => ?_⟩
    · rw [flat_len St.cells 2 (fun _ => rfl)] at hp
      have h00 := (hr 0 rs[0] (List.getElem?_eq_getElem (by omega))).2 0 _ rfl
      obtain ⟨b, off, spot⟩ := a
      have hspot : spot = none := by simpa [Addr.add] using World.cell?_spot h00
      subst hspot
      refine ⟨b, off, rfl, World.block_lt_of_cell? w _ h00, fun j v hj => ?_⟩
      obtain ⟨r, h5, h6⟩ := flat_some St.cells 2 (by decide) (fun _ => rfl) rs j v hj
      have := (hr _ r h5).2 _ v h6
      rw [Go.WideShapes.add_plain, Nat.mul_comm, Nat.div_add_mod] at this
      exact this
    · obtain ⟨i, hi⟩ := List.getElem?_of_mem hr'
      exact (hr i r hi).1

/-! ### copied -/
theorem toStep_l (r : St) (w : World) : Calls Try.prog 66 #[.agg #[.int .i64 r.day, .int .i64 r.pts]] w (Gives w (.agg #[.int .i64 r.day, .int .i64 r.pts])) := by
  have B : ∀ o p q, Hid (Below w.heap.size w (((w.alloc o).alloc p).alloc q)) := fun o p q => Lib.hid ((((Below.refl _ _).alloc (Nat.le_refl _) _).alloc (by simp) _).alloc (by simp; omega) _)
  go_enter Try.func66, Try.ntmps66
  go_wp2_with fail
  exact bodyPost_ret (v := .agg #[.int .i64 r.day, .int .i64 r.pts]) (by simp [results, Try.results66, go_sem]) rfl ⟨rfl, (B _ _ _).out⟩
theorem stepInfo : (Try.prog.info? 37).map (fun i => (i.zero, i.size, i.bytes)) = some (some (.agg #[.int .i64 0, .int .i64 0]), 2, 16) := by kernel_rfl
def Ost (w : World) (base : Nat) (A : Option Addr) (n c : Nat) (rs : List St) : Prop := w.ownsRow base 37 2 (.slice A n c) n (rs.flatMap St.cells)
theorem Ost.rs {w : World} {base n c : Nat} {A : Option Addr} {rs : List St} (h : Ost w base A n c rs) : Rs w A rs := Rw.ownS h
theorem Ost.below {w w' : World} {base n c : Nat} {A : Option Addr} {rs : List St} (h : Ost w base A n c rs) (hb : Below w.heap.size w w') : Ost w' base A n c rs := own_below h hb
/-- What a function that hands back new steps leaves. -/
def NewSteps (w : World) (rs : List St) (e : Ending) (w' : World) : Prop :=
  ∃ A c, e = .returned (.slice A rs.length c) ∧ Ost w' w.heap.size A rs.length c rs ∧ Below w.heap.size w w'
theorem set2 {ys : List Value} {k : Nat} (hk : k * 2 + 1 < ys.length) {a b : Value} {P : List Value} (h : ys.take (k * 2) = P) :
    ((ys.set (k * 2) a).set (k * 2 + 1) b).take ((k + 1) * 2) = P ++ [a, b] := by
  apply List.ext_getElem?
  intro j
  subst h
  rw [List.getElem?_take, List.getElem?_append, List.length_take, Nat.min_eq_left (by omega)]
  by_cases h1 : j < k * 2
  · rw [if_pos (by omega), if_pos h1, List.getElem?_take, if_pos h1]
    rw [List.getElem?_set_ne (by omega), List.getElem?_set_ne (by omega)]
  · rw [if_neg h1]
    by_cases h2 : j < (k + 1) * 2
    · rw [if_pos h2]
      have : j = k * 2 ∨ j = k * 2 + 1 := by omega
      rcases this with rfl | rfl
      · rw [List.getElem?_set_ne (by omega), List.getElem?_set_self (by omega), Nat.sub_self]; rfl
      · rw [List.getElem?_set_self (by simp; omega), show k * 2 + 1 - k * 2 = 1 by omega]; rfl
    · rw [if_neg h2, List.getElem?_eq_none (by simp; omega)]
theorem stored2 {w : World} {base g n c : Nat} {e : TypeId} {xs : List Value} (h : w.ownsRow base e 2 (.slice (some ⟨g, 0, none⟩) n c) n xs) (j : Nat) (a b : Value) :
    ((w.setCell ⟨g, j, none⟩ a).setCell ⟨g, j + 1, none⟩ b).ownsRow base e 2 (.slice (some ⟨g, 0, none⟩) n c) n ((xs.set j a).set (j + 1) b) ∧
    w.grownBy ((w.setCell ⟨g, j, none⟩ a).setCell ⟨g, j + 1, none⟩ b) (some g) := by
  have h1 := h.stored j a
  have h2 := h1.1.stored (j + 1) b
  exact ⟨h2.1, h1.2.trans h2.2⟩
set_option maxHeartbeats 2000000 in
theorem toStepS_l (A : Option Addr) (c : Nat) (rs : List St) (w : World) (hR : Rs w A rs) (hn : rs.length ≤ 1048576) :
    Calls Try.prog 37 #[.slice A rs.length c] w (NewSteps w rs) := by
  obtain ⟨i0, hi, hz0, hz1, hz2⟩ := info_parts stepInfo
  go_enter Try.func37, Try.ntmps37
  go_wp2_with (at_make; refine wpList_make_full _ rfl _ _ 24 rfl w.heap.size 37 i0 _ 2 Try.underlying24 hi hz0 hz1 .i64 .i64 _ _ rs.length rfl rfl rfl rfl (by rw [hz2]; omega) (by unfold maxLen; omega) (Nat.le_refl _) ?_; intro w1 hown1 hg1)
  have hb1 : Below w.heap.size w w1 := (Below.refl _ _).grown hg1 (Nat.le_refl _) (by simp)
  clear hg1
  go_loopw [4] (fun i wr => ∃ (k : Nat) (ys : List Value), k ≤ rs.length ∧ i = .int .i64 k ∧ wr.ownsRow w.heap.size 37 2 (.slice (some ⟨w.heap.size, 0, none⟩) rs.length rs.length) rs.length ys ∧
    Hid (ys.take (k * 2) = (rs.take k).flatMap St.cells) ∧ Below w.heap.size w wr) (fun i _ => rs.length - (intOf i).toNat)
  case atStart => exact ⟨0, _, Nat.zero_le _, rfl, hown1, Lib.hid (by simp), hb1⟩
  case round =>
    obtain ⟨k, ys, hk, rfl, hown, ht, hb⟩ := hrel
    clear hown1 hb1
    by_cases hlt : k < rs.length
    · obtain ⟨b, off, r, rfl, _, hr, c0, c1⟩ := (hR.below hb).at hlt
      have HT : Hid (((ys.set (k * 2) (.int .i64 r.day)).set (k * 2 + 1) (.int .i64 r.pts)).take ((k + 1) * 2) = (rs.take (k + 1)).flatMap St.cells) := Lib.hid (by
        rw [set2 (by have := hown.1; omega) ht.out, snoc_of hr.out, List.flatMap_append]; simp [St.cells])
      have HO := Lib.hid hown
      have hyl : k * 2 + 1 < ys.length := by have := hown.1; omega
      clear ht hown
      go_wp2_with fail
      refine (toStep_l r _).mono ?_
      rintro e w1 ⟨rfl, b1⟩
      have hown := own_below HO.out b1
      clear HO
      have hb2 := hb.trans (b1.mono hb.size)
      obtain ⟨o0, k0⟩ := own_at hown (k * 2) (by omega)
      obtain ⟨o1, k1⟩ := own_at hown (k * 2 + 1) (by omega)
      have f0 := hown.frozenAt (k * 2)
      have f1 := hown.frozenAt (k * 2 + 1)
      have HS := Lib.hid (stored2 hown (k * 2) (.int .i64 r.day) (.int .i64 r.pts))
      clear hown
      go_wp2_with fail
      go_roundw
      case rel => exact ⟨k + 1, _, by omega, by go_num, HS.out.1, HT, hb2.grown HS.out.2 hb2.size (by simp)⟩
      case measure => simp [intOf]; omega
    · have HT : Hid (ys = rs.flatMap St.cells) := Lib.hid (by
        have h1 := ht.out; have h2 := hown.1
        rwa [take_all hk hlt, List.take_of_length_le (by omega)] at h1)
      clear ht
      go_wp2_with fail
      go_ret
      exact ⟨_, _, rfl, by have := HT.out; subst this; exact hown, hb⟩

/-! ### counted -/
theorem szStepS_l (A : Option Addr) (c : Nat) (rs : List St) (n : Int) (w : World) (hl : rs.length ≤ maxLen) (h0 : 0 ≤ n) (h1 : n ≤ 2000000) :
    Calls Try.prog 36 #[.slice A rs.length c, .int .i64 n] w (Gives w (.int .i64 (if n - rs.length < 0 then -1 else n - rs.length))) := by
  unfold maxLen at hl
  by_cases hn : n - rs.length < 0
  · have E : Hid ((if n - rs.length < 0 then -1 else n - rs.length : Int) = -1) := Lib.hid (by rw [if_pos hn])
    go_enter Try.func36, Try.ntmps36
    go_wp2_with fail
    go_ret
    exact ⟨by first | rfl | exact congrArg (fun x => Ending.returned (Value.int .i64 x)) E.out.symm, Below.refl _ _⟩
  · have E : Hid ((if n - rs.length < 0 then -1 else n - rs.length : Int) = n - rs.length) := Lib.hid (by rw [if_neg hn])
    go_enter Try.func36, Try.ntmps36
    go_wp2_with fail
    go_ret
    exact ⟨by first | rfl | exact congrArg (fun x => Ending.returned (Value.int .i64 x)) E.out.symm, Below.refl _ _⟩

/-! ### compared -/
theorem eqStep_same (r : St) (w : World) : Calls Try.prog 67 #[.agg #[.int .i64 r.day, .int .i64 r.pts], .agg #[.int .i64 r.day, .int .i64 r.pts]] w (Gives w (.bool true)) := by
  have B : ∀ o p, Hid (Below w.heap.size w ((w.alloc o).alloc p)) := fun o p => Lib.hid (((Below.refl _ _).alloc (Nat.le_refl _) _).alloc (by simp) _)
  have d0 : (r.day != r.day) = false := by simp
  have d1 : (r.pts != r.pts) = false := by simp
  go_enter Try.func67, Try.ntmps67
  go_wp2_with fail
  go_ret
  exact ⟨rfl, (B _ _).out⟩
set_option maxHeartbeats 2000000 in
theorem eqStepS_l (A B : Option Addr) (c d : Nat) (rs : List St) (w : World) (hx : Rs w A rs) (hy : Rs w B rs) (hn : rs.length ≤ 1000000000) :
    Calls Try.prog 38 #[.slice A rs.length c, .slice B rs.length d] w (Gives w (.bool true)) := by
  go_enter Try.func38, Try.ntmps38
  go_wp2_with fail
  go_loopw [5] (fun i wr => ∃ k : Nat, k ≤ rs.length ∧ i = .int .i64 k ∧ Below w.heap.size w wr) (fun i _ => rs.length - (intOf i).toNat)
  case atStart => exact ⟨0, Nat.zero_le _, rfl, Below.refl _ _⟩
  case round =>
    obtain ⟨k, hk, rfl, hb⟩ := hrel
    by_cases hlt : k < rs.length
    · obtain ⟨b, off, r, rfl, hl, hr, c0, c1⟩ := (hx.below hb).at hlt
      obtain ⟨b', off', q, rfl, hl', hq, d0, d1⟩ := (hy.below hb).at hlt
      obtain rfl : r = q := by have h1 := hr.out; have h2 := hq.out; rw [h1] at h2; exact Option.some.inj h2
      have q0 : ∀ y : Sub (Bel wr), y.w.cell? ⟨b, off + k * 2, none⟩ = some (.int .i64 r.day) := fun y => (y.h.cell (p := ⟨b, off + k * 2, none⟩) hl).trans c0
      have q1 : ∀ y : Sub (Bel wr), y.w.cell? ⟨b, off + k * 2 + 1, none⟩ = some (.int .i64 r.pts) := fun y => (y.h.cell (p := ⟨b, off + k * 2 + 1, none⟩) hl).trans c1
      have p0 : ∀ y : Sub (Bel wr), y.w.cell? ⟨b', off' + k * 2, none⟩ = some (.int .i64 r.day) := fun y => (y.h.cell (p := ⟨b', off' + k * 2, none⟩) hl').trans d0
      have p1 : ∀ y : Sub (Bel wr), y.w.cell? ⟨b', off' + k * 2 + 1, none⟩ = some (.int .i64 r.pts) := fun y => (y.h.cell (p := ⟨b', off' + k * 2 + 1, none⟩) hl').trans d1
      have HM := Lib.hid (fun y : Sub (Bel wr) => (eqStep_same r y.w).mono fun e w' h => (⟨h.1, ⟨w', Bel.step y h.2⟩, rfl⟩ : e = .returned (.bool true) ∧ ∃ z : Sub (Bel wr), w' = z.w))
      have HB := Lib.hid (fun y : Sub (Bel wr) => (belowGo hb y.h : Below w.heap.size w y.w))
      clear hx hy hr hq
      go_wp2_with fail
      refine region_held (Bel wr) (by kernel_rfl) (by kernel_rfl) (Bel.drew wr) ?_
      repeat (go_big_quiet_step ((first | rfl | (go_at_call 67; exact HM.out _))))
      refine wpQuiet_nil ?_
      rintro _ ⟨y, rfl⟩
      have hby := HB.out y
      clear HM q0 q1 p0 p1
      go_wp2_with fail
      go_roundw
      case rel => exact ⟨k + 1, by omega, by go_num, hby⟩
      case measure => simp [intOf]; omega
    · clear hx hy
      go_wp2_with fail
      go_ret
      exact ⟨rfl, hb⟩
end Go.Proofs.Ythiegfcgbfhmmaa
