import Derived.Test.YtifioecofeojpaaMHeld
import Derived.ProofKit
import Derived.Deep.Slices
import Derived.Deep.Fields
import Derived.Deep.QuietTactic
import Derived.Deep.RegionHeld3
/- Interest: rows of structs (by gen_struct.py). -/
namespace Go.Proofs.Ytifioecofeojpaa
open Go.ChangeShapes Go.WideShapes Go.ChangeAt Go.RowKit
set_option linter.unusedVariables false

structure Ist where
  c : List UInt8
  k : Int
  o : List UInt8
  v : Int
  a : Int
  deriving DecidableEq
def Ist.cells (r : Ist) : List Value := [.string ⟨r.c.toArray⟩, .int .i64 r.k, .string ⟨r.o.toArray⟩, .int .i64 r.v, .int .i64 r.a]
def Ist.wf (r : Ist) : Prop := r.c.length ≤ maxLen ∧ (Lit.int .i64 r.k).wf = true ∧ r.o.length ≤ maxLen ∧ (Lit.int .i64 r.v).wf = true ∧ (Lit.int .i64 r.a).wf = true
/-- How many letters. -/
def Ist.sz (r : Ist) : Nat := r.c.length + r.o.length
def IstR (w : World) (A : Option Addr) (rs : List Ist) : Prop := Rw w A (rs.flatMap Ist.cells)
/-- The cells of one. -/
structure IstC (W : World) (b o : Nat) (r : Ist) : Prop where
  c0 : W.cell? ⟨b, o, none⟩ = some (.string ⟨r.c.toArray⟩)
  c1 : W.cell? ⟨b, o + 1, none⟩ = some (.int .i64 r.k)
  c2 : W.cell? ⟨b, o + 2, none⟩ = some (.string ⟨r.o.toArray⟩)
  c3 : W.cell? ⟨b, o + 3, none⟩ = some (.int .i64 r.v)
  c4 : W.cell? ⟨b, o + 4, none⟩ = some (.int .i64 r.a)
theorem IstC.below {w W : World} {b o : Nat} {r : Ist} (h : IstC w b o r) (hl : b < w.heap.size) (hb : Below w.heap.size w W) : IstC W b o r :=
  ⟨(hb.cell (p := ⟨b, o, none⟩) hl).trans h.c0, (hb.cell (p := ⟨b, o + 1, none⟩) hl).trans h.c1, (hb.cell (p := ⟨b, o + 2, none⟩) hl).trans h.c2, (hb.cell (p := ⟨b, o + 3, none⟩) hl).trans h.c3, (hb.cell (p := ⟨b, o + 4, none⟩) hl).trans h.c4⟩
theorem IstC.belowB {w W : World} {B b o : Nat} {r : Ist} (h : IstC w b o r) (hl : b < B) (hb : Below B w W) : IstC W b o r :=
  ⟨(hb.cell (p := ⟨b, o, none⟩) hl).trans h.c0, (hb.cell (p := ⟨b, o + 1, none⟩) hl).trans h.c1, (hb.cell (p := ⟨b, o + 2, none⟩) hl).trans h.c2, (hb.cell (p := ⟨b, o + 3, none⟩) hl).trans h.c3, (hb.cell (p := ⟨b, o + 4, none⟩) hl).trans h.c4⟩
theorem IstR.at {w : World} {A : Option Addr} {rs : List Ist} (h : IstR w A rs) {k : Nat} (hk : k < rs.length) :
    ∃ b off r, A = some ⟨b, off, none⟩ ∧ b < w.heap.size ∧ Hid (rs[k]? = some r) ∧ IstC w b (off + k * 5) r := by
  have hl := flat_len Ist.cells 5 (fun _ => rfl) rs
  obtain ⟨b, off, e, hb, hc⟩ := h (by rw [hl]; omega)
  have hr : rs[k]? = some rs[k] := List.getElem?_eq_getElem hk
  have g := fun j hj => hc (k * 5 + j) _ ((flat_at Ist.cells 5 (fun _ => rfl) rs k j _ hr hj).trans (List.getElem?_eq_getElem (by exact hj)))
  refine ⟨b, off, rs[k], e, hb, Lib.hid hr, ?_, ?_, ?_, ?_, ?_⟩
  · simpa [Ist.cells] using g 0 (by omega)
  · simpa [Ist.cells, Nat.add_assoc] using g 1 (by omega)
  · simpa [Ist.cells, Nat.add_assoc] using g 2 (by omega)
  · simpa [Ist.cells, Nat.add_assoc] using g 3 (by omega)
  · simpa [Ist.cells, Nat.add_assoc] using g 4 (by omega)
theorem IstR.below {w w' : World} {A : Option Addr} {rs : List Ist} (h : IstR w A rs) (hb : Below w.heap.size w w') : IstR w' A rs := Rw.below h hb
theorem IstR.keepB {w w' : World} {A : Option Addr} {rs : List Ist} {B : Nat} (h : IstR w A rs) (hA : Bd A B) (hb : Below B w w') : IstR w' A rs := Rw.keepB h hA hb
/-! ### a slice that came in -/
theorem list_ist {α : Type} {l : List α} (h : l.length = 5) : ∃ x0 x1 x2 x3 x4, l = [x0, x1, x2, x3, x4] := by
  match l, h with
  | [x0, x1, x2, x3, x4], _ => exact ⟨x0, x1, x2, x3, x4, rfl⟩
theorem istR_of {H : Type} {enc : TypeId × Value → H} {w : World} {spare : Nat → Bool} {held : Bool} {t e : TypeId} {f0 f1 f2 f3 f4 : Field} {fuel : Nat} {A : Option Addr} {len cap : Nat} {x : DataW H × List MemPlace}
    (ht : Try.prog.underlying t = some (.slice e)) (he : Try.prog.underlying e = some (.struct #[f0, f1, f2, f3, f4])) (hC : Try.prog.cellsOf e = 5) (hone : Go.Deep.oneCellFields Try.prog #[f0, f1, f2, f3, f4] = true)
    (h0 : Try.prog.underlying f0.type = some (.string)) (h1 : Try.prog.underlying f1.type = some (.int .i64)) (h2 : Try.prog.underlying f2.type = some (.string)) (h3 : Try.prog.underlying f3.type = some (.int .i64)) (h4 : Try.prog.underlying f4.type = some (.int .i64))
    (h : DataW.trod enc Try.prog w 0 spare held fuel t [.slice A len cap] = some x) :
    ∃ rs : List Ist, rs.length = len ∧ IstR w A rs ∧ rs.length ≤ maxLen ∧ ∀ r ∈ rs, r.wf := by
  rcases Go.Deep.open_slice ht h with ⟨hcs, _⟩ | ⟨a, l, c, m, n, D, Pl, hcs, _, hlc, hcm, hmm, _, hel⟩
  · simp only [List.cons.injEq, Value.slice.injEq, and_true] at hcs
    obtain ⟨rfl, rfl, rfl⟩ := hcs
    exact ⟨[], rfl, fun hp => by simp at hp, by simp, fun r hr => by cases hr⟩
  · simp only [List.cons.injEq, Value.slice.injEq, and_true] at hcs
    obtain ⟨rfl, rfl, rfl⟩ := hcs
    have hlm : len ≤ m := by rw [hmm]; split <;> omega
    have key : ∀ i, i < len → ∃ r : Ist, r.wf ∧ ∀ j v, r.cells[j]? = some v → w.cell? (a.add (i * 5 + j)) = some v := by
      intro i hi
      obtain ⟨cs', hc, ht'⟩ := hel i (by omega)
      rw [hC] at hc
      obtain ⟨_, hcl, hat⟩ := World.cells?_some hc
      obtain ⟨ys, n', _, _, _, hyl, hf⟩ := DataW.trod_struct he ht'
      obtain ⟨o0, k0⟩ := Go.Deep.hone_of hone 0 f0 rfl
      obtain ⟨o1, k1⟩ := Go.Deep.hone_of hone 1 f1 rfl
      obtain ⟨o2, k2⟩ := Go.Deep.hone_of hone 2 f2 rfl
      obtain ⟨o3, k3⟩ := Go.Deep.hone_of hone 3 f3 rfl
      obtain ⟨o4, k4⟩ := Go.Deep.hone_of hone 4 f4 rfl
      obtain ⟨c0, c1, c2, c3, c4, rfl⟩ := list_ist hcl
      have g0 := hf 0 f0 rfl
      rw [o0, k0] at g0
      have g1 := hf 1 f1 rfl
      rw [o1, k1] at g1
      have g2 := hf 2 f2 rfl
      rw [o2, k2] at g2
      have g3 := hf 3 f3 rfl
      rw [o3, k3] at g3
      have g4 := hf 4 f4 rfl
      rw [o4, k4] at g4
      have hys : ∀ j, j < 5 → ∃ y, ys[j]? = some y := fun j hj => by
        have : ys.length = 5 := hyl.trans rfl
        exact ⟨_, List.getElem?_eq_getElem (by omega)⟩
      obtain ⟨y0, e0⟩ := hys 0 (by omega); rw [e0] at g0
      obtain ⟨y1, e1⟩ := hys 1 (by omega); rw [e1] at g1
      obtain ⟨y2, e2⟩ := hys 2 (by omega); rw [e2] at g2
      obtain ⟨y3, e3⟩ := hys 3 (by omega); rw [e3] at g3
      obtain ⟨y4, e4⟩ := hys 4 (by omega); rw [e4] at g4
      obtain ⟨z0, q0, _, w0⟩ := DataW.trod_string h0 g0
      obtain ⟨z1, q1, _, w1⟩ := DataW.trod_int h1 g1
      obtain ⟨z2, q2, _, w2⟩ := DataW.trod_string h2 g2
      obtain ⟨z3, q3, _, w3⟩ := DataW.trod_int h3 g3
      obtain ⟨z4, q4, _, w4⟩ := DataW.trod_int h4 g4
      simp at q0 q1 q2 q3 q4
      subst q0 q1 q2 q3 q4
      refine ⟨⟨z0.data.toList, z1, z2.data.toList, z3, z4⟩, ⟨by simpa using w0, w1, by simpa using w2, w3, w4⟩, fun j v hj => ?_⟩
      have hj4 : j < 5 := (List.getElem?_eq_some_iff.1 hj).1
      rw [← Go.Deep.add_add]
      have := hat j hj4
      rw [this, ← hj]
      rfl
    obtain ⟨rs, hl, hr⟩ := pick_all key
    refine ⟨rs, hl, fun hp => ?_, by omega, fun r hr' => ?_⟩
    · rw [flat_len Ist.cells 5 (fun _ => rfl)] at hp
      have h00 := (hr 0 rs[0] (List.getElem?_eq_getElem (by omega))).2 0 _ rfl
      obtain ⟨b, off, spot⟩ := a
      have hspot : spot = none := by simpa [Addr.add] using World.cell?_spot h00
      subst hspot
      refine ⟨b, off, rfl, World.block_lt_of_cell? w _ h00, fun j v hj => ?_⟩
      obtain ⟨r, h5, h6⟩ := flat_some Ist.cells 5 (by decide) (fun _ => rfl) rs j v hj
      have := (hr _ r h5).2 _ v h6
      rw [Go.WideShapes.add_plain, Nat.mul_comm, Nat.div_add_mod] at this
      exact this
    · obtain ⟨i, hi⟩ := List.getElem?_of_mem hr'
      exact (hr i r hi).1
end Go.Proofs.Ytifioecofeojpaa

/- laws.toInterest, szInterest, eqInterest, markInterestS, heldInterestS and their slices (by gen_struct.py). -/
namespace Go.Proofs.Ytifioecofeojpaa
open Go.ChangeShapes Go.WideShapes Go.ChangeAt Go.RowKit
set_option linter.unusedVariables false

theorem toInterest_l (r : Ist) (w : World) : Calls Try.prog 76 #[.agg #[.string ⟨r.c.toArray⟩, .int .i64 r.k, .string ⟨r.o.toArray⟩, .int .i64 r.v, .int .i64 r.a]] w (Gives w (.agg #[.string ⟨r.c.toArray⟩, .int .i64 r.k, .string ⟨r.o.toArray⟩, .int .i64 r.v, .int .i64 r.a])) := by
  have B : ∀ o p q, Hid (Below w.heap.size w (((w.alloc o).alloc p).alloc q)) := fun o p q => Lib.hid ((((Below.refl _ _).alloc (Nat.le_refl _) _).alloc (by simp) _).alloc (by simp; omega) _)
  go_enter Try.func76, Try.ntmps76
  go_wp2_with fail
  exact bodyPost_ret (v := .agg #[.string ⟨r.c.toArray⟩, .int .i64 r.k, .string ⟨r.o.toArray⟩, .int .i64 r.v, .int .i64 r.a]) (by simp [results, Try.results76, go_sem]) rfl ⟨rfl, (B _ _ _).out⟩
theorem eqInterest_same (r : Ist) (w : World) : Calls Try.prog 77 #[.agg #[.string ⟨r.c.toArray⟩, .int .i64 r.k, .string ⟨r.o.toArray⟩, .int .i64 r.v, .int .i64 r.a], .agg #[.string ⟨r.c.toArray⟩, .int .i64 r.k, .string ⟨r.o.toArray⟩, .int .i64 r.v, .int .i64 r.a]] w (Gives w (.bool true)) := by
  have B : ∀ o p, Hid (Below w.heap.size w ((w.alloc o).alloc p)) := fun o p => Lib.hid (((Below.refl _ _).alloc (Nat.le_refl _) _).alloc (by simp) _)
  have d0 : (r.c == r.c) = true := by simp
  have d1 : (r.k != r.k) = false := by simp
  have d2 : (r.o == r.o) = true := by simp
  have d3 : (r.v != r.v) = false := by simp
  have d4 : (r.a != r.a) = false := by simp
  go_enter Try.func77, Try.ntmps77
  go_wp2_with fail
  go_ret
  exact ⟨rfl, (B _ _).out⟩
theorem szInterest_l (r : Ist) (n : Int) (w : World) (h0 : 0 ≤ n) (h1 : n ≤ 2000000) (hl : r.wf) :
    Calls Try.prog 75 #[.agg #[.string ⟨r.c.toArray⟩, .int .i64 r.k, .string ⟨r.o.toArray⟩, .int .i64 r.v, .int .i64 r.a], .int .i64 n] w (Gives w (.int .i64 (if n - (r.sz : Int) < 0 then -1 else n - (r.sz : Int)))) := by
  have hw := hl
  unfold Ist.wf maxLen at hl
  have hz0 : (⟨r.c.toArray⟩ : ByteArray).size = r.c.length := rfl
  have l0 : r.c.length ≤ 9223372036854775807 := by omega
  have hz1 : (⟨r.o.toArray⟩ : ByteArray).size = r.o.length := rfl
  have l1 : r.o.length ≤ 9223372036854775807 := by omega
  have B : ∀ o, Hid (Below w.heap.size w (w.alloc o)) := fun o => Lib.hid ((Below.refl _ _).alloc (Nat.le_refl _) _)
  obtain ⟨M, hM⟩ : ∃ M, M = (if n - (r.sz : Int) < 0 then -1 else n - (r.sz : Int)) := ⟨_, rfl⟩
  rw [← hM]
  have HM := Lib.hid hM
  clear hw hl hM
  by_cases n0 : n - r.c.length < 0
  · have E : Hid (M = -1) := Lib.hid (by rw [HM.out]; unfold Ist.sz; rw [if_pos (by omega)])
    go_enter Try.func75, Try.ntmps75
    go_wp2_with fail
    go_ret
    exact ⟨by first | rfl | exact congrArg (fun x => Ending.returned (Value.int .i64 x)) E.out.symm, (B _).out⟩
  · skip
    by_cases n1 : n - r.c.length - r.o.length < 0
    · have E : Hid (M = -1) := Lib.hid (by rw [HM.out]; unfold Ist.sz; rw [if_pos (by omega)])
      go_enter Try.func75, Try.ntmps75
      go_wp2_with fail
      go_ret
      exact ⟨by first | rfl | exact congrArg (fun x => Ending.returned (Value.int .i64 x)) E.out.symm, (B _).out⟩
    · skip
      have E : Hid (M = n - r.c.length - r.o.length) := Lib.hid (by rw [HM.out]; unfold Ist.sz; rw [if_neg (by omega)]; omega)
      go_enter Try.func75, Try.ntmps75
      go_wp2_with fail
      go_ret
      exact ⟨by first | rfl | exact congrArg (fun x => Ending.returned (Value.int .i64 x)) E.out.symm, (B _).out⟩
def Ist.szl : List Ist → Int → Int
  | [], n => n
  | r :: rs, n => if n < 0 then n else Ist.szl rs (if n - (r.sz : Int) < 0 then -1 else n - (r.sz : Int))
def Ist.szT (rs : List Ist) (n : Int) : Int := if n - rs.length < 0 then -1 else Ist.szl rs (n - rs.length)
theorem Ist.szl_neg (rs : List Ist) : Ist.szl rs (-1) = -1 := by cases rs <;> rfl
theorem Ist.szl_bd : ∀ (rs : List Ist) (n : Int), 0 ≤ Ist.szl rs n → Ist.szl rs n ≤ n ∧ ∀ r ∈ rs, (r.sz : Int) ≤ n
  | [], n, h => ⟨Int.le_refl _, fun r hr => by cases hr⟩
  | r :: rs, n, h => by
    unfold Ist.szl at h ⊢
    by_cases hn : n < 0
    · rw [if_pos hn] at h; omega
    · rw [if_neg hn] at h ⊢
      by_cases h1 : n - (r.sz : Int) < 0
      · rw [if_pos h1, Ist.szl_neg] at h; omega
      · rw [if_neg h1] at h ⊢
        obtain ⟨h2, h3⟩ := Ist.szl_bd rs _ h
        refine ⟨by omega, fun q hq => ?_⟩
        rcases List.mem_cons.1 hq with rfl | hq
        · omega
        · have := h3 q hq; omega
theorem Ist.szT_bd {rs : List Ist} {n : Int} (h : 0 ≤ Ist.szT rs n) : Ist.szT rs n ≤ n ∧ (rs.length : Int) ≤ n ∧ ∀ r ∈ rs, (r.sz : Int) ≤ n := by
  unfold Ist.szT at h ⊢
  by_cases h1 : n - rs.length < 0
  · rw [if_pos h1] at h; omega
  · rw [if_neg h1] at h ⊢
    obtain ⟨h2, h3⟩ := Ist.szl_bd rs _ h
    exact ⟨by omega, by omega, fun r hr => by have := h3 r hr; omega⟩
theorem Ist.szT_ok {rs : List Ist} (h : ¬ Ist.szT rs 1048576 < 0) : rs.length ≤ 1048576 ∧ (∀ r ∈ rs, r.sz ≤ 1048576) ∧ Ist.szT rs 1048576 ≤ 1048576 := by
  obtain ⟨h0, h1, h2⟩ := Ist.szT_bd (by omega : 0 ≤ Ist.szT rs 1048576)
  exact ⟨by omega, fun r hr => by have := h2 r hr; omega, h0⟩
theorem Ist.szl_cons {r : Ist} {rs : List Ist} {m : Int} (hm : 0 ≤ m) : Ist.szl (r :: rs) m = Ist.szl rs (if m - (r.sz : Int) < 0 then -1 else m - (r.sz : Int)) := by rw [Ist.szl, if_neg (by omega)]
set_option maxHeartbeats 1000000 in
theorem szInterestS_l (A : Option Addr) (c : Nat) (rs : List Ist) (n : Int) (w : World) (hR : IstR w A rs) (hw : ∀ r ∈ rs, r.wf) (hl : rs.length ≤ maxLen) (h0 : 0 ≤ n) (h1 : n ≤ 2000000) :
    Calls Try.prog 39 #[.slice A rs.length c, .int .i64 n] w (Gives w (.int .i64 (Ist.szT rs n))) := by
  unfold maxLen at hl
  by_cases hn : n - rs.length < 0
  · have E : Hid (Ist.szT rs n = -1) := Lib.hid (by rw [Ist.szT, if_pos hn])
    go_enter Try.func39, Try.ntmps39
    go_wp2_with fail
    go_ret
    exact ⟨by rw [E.out] <;> rfl, Below.refl _ _⟩
  · have E : Hid (Ist.szT rs n = Ist.szl rs (n - rs.length)) := Lib.hid (by rw [Ist.szT, if_neg hn])
    go_enter Try.func39, Try.ntmps39
    go_wp2_with fail
    go_loopw [1, 5] (fun m i wr => ∃ (k : Nat) (M : Int), k ≤ rs.length ∧ i = .int .i64 k ∧ m = .int .i64 M ∧ 0 ≤ M ∧ M ≤ n ∧ Hid (Ist.szl (rs.drop k) M = Ist.szl rs (n - rs.length)) ∧ Below w.heap.size w wr) (fun _ i _ => rs.length - (intOf i).toNat)
    case atStart => exact ⟨0, _, Nat.zero_le _, rfl, rfl, by omega, by omega, Lib.hid rfl, Below.refl _ _⟩
    case round =>
      obtain ⟨k, M, hk, rfl, rfl, hM0, hM1, hs, hb⟩ := hrel
      by_cases hlt : k < rs.length
      · obtain ⟨b, off, r, rfl, _, hr, h4⟩ := (hR.below hb).at hlt
        have hrl := hw r (List.mem_of_getElem? hr.out)
        have c0 := h4.c0
        have c1 := h4.c1
        have c2 := h4.c2
        have c3 := h4.c3
        have c4 := h4.c4
        have HS : Hid (Ist.szl (rs.drop (k + 1)) (if M - (r.sz : Int) < 0 then -1 else M - (r.sz : Int)) = Ist.szl rs (n - rs.length)) := Lib.hid (by rw [← hs.out, drop_of hr.out, Ist.szl_cons hM0])
        have HC := Lib.hid (szInterest_l r M wr (by omega) (by omega) hrl)
        clear hs hw hrl h4
        by_cases hneg : M - (r.sz : Int) < 0
        · rw [if_pos hneg] at HS HC
          have HS := Lib.hid (HS.out.symm.trans (Ist.szl_neg _))
          go_wp2_with (go_at_call 75; refine HC.out.mono ?_; rintro e w1 ⟨rfl, b1⟩)
          go_ret
          exact ⟨by rw [E.out, HS.out] <;> rfl, hb.trans (b1.mono hb.size)⟩
        · rw [if_neg hneg] at HS HC
          obtain ⟨M2, hM2⟩ : ∃ M2, M2 = M - (r.sz : Int) := ⟨_, rfl⟩
          rw [← hM2] at HS HC
          have hM20 : 0 ≤ M2 := by omega
          have hM21 : M2 ≤ n := by omega
          clear hneg hM2
          go_wp2_with (go_at_call 75; refine HC.out.mono ?_; rintro e w1 ⟨rfl, b1⟩)
          go_roundw
          case rel => exact ⟨k + 1, _, by omega, by go_num, rfl, by omega, by omega, HS, hb.trans (b1.mono hb.size)⟩
          case measure => simp [intOf]; omega
      · have HS : Hid (M = Ist.szl rs (n - rs.length)) := Lib.hid (by rw [← hs.out, List.drop_eq_nil_of_le (by omega)]; rfl)
        clear hs
        go_wp2_with fail
        go_ret
        exact ⟨by rw [E.out, ← HS.out] <;> rfl, hb⟩

/-! ### a row of the call's own -/
theorem istInfo : (Try.prog.info? 95).map (fun i => (i.zero, i.size, i.bytes)) = some (some (.agg #[.string ⟨#[]⟩, .int .i64 0, .string ⟨#[]⟩, .int .i64 0, .int .i64 0]), 5, 56) := by kernel_rfl
def IstO (w : World) (base : Nat) (A : Option Addr) (n c : Nat) (rs : List Ist) : Prop := w.ownsRow base 95 5 (.slice A n c) n (rs.flatMap Ist.cells)
section
variable {w w' : World} {base : Nat} {A : Option Addr} {n c : Nat} {rs : List Ist}
theorem IstO.len (h : IstO w base A n c rs) : rs.length = n := by
  have := h.1; rw [flat_len Ist.cells 5 (fun _ => rfl)] at this; omega
theorem IstO.row (h : IstO w base A n c rs) : IstR w A rs := Rw.ownS h
theorem IstO.bd (h : IstO w base A n c rs) : Bd A w.heap.size := fun a e => (h.lt a.block (by rw [e]; rfl)).2
theorem IstO.lo (h : IstO w base A n c rs) : ∀ k, (Value.slice A n c).ownBlock = some k → base ≤ k := fun k e => (h.lt k e).1
theorem IstO.below (h : IstO w base A n c rs) (hb : Below w.heap.size w w') : IstO w' base A n c rs := own_below h hb
theorem IstO.mono {base' : Nat} (h : IstO w base A n c rs) (hb : base' ≤ base) : IstO w base' A n c rs := by
  refine ⟨h.1, h.2.imp id ?_⟩
  rintro ⟨g, cap, cur, h1, h2, h3⟩
  exact ⟨g, cap, cur, h1, by omega, h3⟩
theorem IstO.kept {B : Option Addr} {m d : Nat} (h : IstO w base A n c rs) (hg : w.grownBy w' (Value.slice B m d).ownBlock) (hB : Bd B base) : IstO w' base A n c rs :=
  World.ownsRow.kept h hg (by
    cases A with
    | none => exact .inl rfl
    | some a =>
      right
      cases B with
      | none => simp [Value.ownBlock]
      | some b =>
        intro e
        have h1 := h.lo a.block rfl
        have h2 := hB b rfl
        simp [Value.ownBlock] at e
        omega)
theorem IstO.far {B : Nat} (h : IstO w base A n c rs) (hg : w.grownBy w' (Value.slice A n c).ownBlock) (hB : B ≤ base) (hs : B ≤ w.heap.size) : Below B w w' :=
  (Below.refl _ _).grown hg hs (fun k e => Nat.le_trans hB (h.lo k e))
theorem IstO.wrote {W : World} {B : Nat} (hW : Below B W w) (h : IstO w base A n c rs) (hg : w.grownBy w' (Value.slice A n c).ownBlock) (hB : B ≤ base) (hs : B ≤ w.heap.size) : Below B W w' :=
  hW.grown hg hs (fun k e => Nat.le_trans hB (h.lo k e))
end
def NewIsts (w : World) (rs : List Ist) (e : Ending) (w' : World) : Prop :=
  ∃ A c, e = .returned (.slice A rs.length c) ∧ IstO w' w.heap.size A rs.length c rs ∧ Below w.heap.size w w'
def NewIstsC (w : World) (p : List Ist × Int) (e : Ending) (w' : World) : Prop :=
  ∃ A c, e = .returned (.tuple #[.slice A p.1.length c, .int .i64 p.2]) ∧ IstO w' w.heap.size A p.1.length c p.1 ∧ Below w.heap.size w w'
theorem set_ist {ys : List Value} {k : Nat} (hk : k * 5 + 4 < ys.length) {v0 v1 v2 v3 v4 : Value} {P : List Value} (h : ys.take (k * 5) = P) :
    (((((ys.set (k * 5) (v0)).set (k * 5 + 1) (v1)).set (k * 5 + 2) (v2)).set (k * 5 + 3) (v3)).set (k * 5 + 4) (v4)).take ((k + 1) * 5) = P ++ [v0, v1, v2, v3, v4] := by
  apply List.ext_getElem?
  intro j
  subst h
  rw [List.getElem?_take, List.getElem?_append, List.length_take, Nat.min_eq_left (by omega)]
  by_cases h1 : j < k * 5
  · rw [if_pos (by omega), if_pos h1, List.getElem?_take, if_pos h1]
    rw [List.getElem?_set_ne (by omega), List.getElem?_set_ne (by omega), List.getElem?_set_ne (by omega), List.getElem?_set_ne (by omega), List.getElem?_set_ne (by omega)]
  · rw [if_neg h1]
    by_cases h2 : j < (k + 1) * 5
    · rw [if_pos h2]
      have : j = k * 5 ∨ j = k * 5 + 1 ∨ j = k * 5 + 2 ∨ j = k * 5 + 3 ∨ j = k * 5 + 4 := by omega
      rcases this with rfl | rfl | rfl | rfl | rfl
      · rw [List.getElem?_set_ne (by omega), List.getElem?_set_ne (by omega), List.getElem?_set_ne (by omega), List.getElem?_set_ne (by omega), List.getElem?_set_self (by (try simp only [List.length_set]); omega), Nat.sub_self]; rfl
      · rw [List.getElem?_set_ne (by omega), List.getElem?_set_ne (by omega), List.getElem?_set_ne (by omega), List.getElem?_set_self (by (try simp only [List.length_set]); omega), show k * 5 + 1 - k * 5 = 1 by omega]; rfl
      · rw [List.getElem?_set_ne (by omega), List.getElem?_set_ne (by omega), List.getElem?_set_self (by (try simp only [List.length_set]); omega), show k * 5 + 2 - k * 5 = 2 by omega]; rfl
      · rw [List.getElem?_set_ne (by omega), List.getElem?_set_self (by (try simp only [List.length_set]); omega), show k * 5 + 3 - k * 5 = 3 by omega]; rfl
      · rw [List.getElem?_set_self (by (try simp only [List.length_set]); omega), show k * 5 + 4 - k * 5 = 4 by omega]; rfl
    · rw [if_neg h2, List.getElem?_eq_none (by simp; omega)]
theorem stored_ist {w : World} {base g n c : Nat} {e : TypeId} {xs : List Value} (h : w.ownsRow base e 5 (.slice (some ⟨g, 0, none⟩) n c) n xs) (j : Nat) (v0 v1 v2 v3 v4 : Value) :
    (((((w.setCell ⟨g, j, none⟩ (v0)).setCell ⟨g, j + 1, none⟩ (v1)).setCell ⟨g, j + 2, none⟩ (v2)).setCell ⟨g, j + 3, none⟩ (v3)).setCell ⟨g, j + 4, none⟩ (v4)).ownsRow base e 5 (.slice (some ⟨g, 0, none⟩) n c) n (((((xs.set (j) (v0)).set (j + 1) (v1)).set (j + 2) (v2)).set (j + 3) (v3)).set (j + 4) (v4)) ∧
    w.grownBy (((((w.setCell ⟨g, j, none⟩ (v0)).setCell ⟨g, j + 1, none⟩ (v1)).setCell ⟨g, j + 2, none⟩ (v2)).setCell ⟨g, j + 3, none⟩ (v3)).setCell ⟨g, j + 4, none⟩ (v4)) (some g) := by
  have h1 := h.stored (j) v0
  have h2 := h1.1.stored (j + 1) v1
  have h3 := h2.1.stored (j + 2) v2
  have h4 := h3.1.stored (j + 3) v3
  have h5 := h4.1.stored (j + 4) v4
  exact ⟨h5.1, ((((h1.2.trans h2.2).trans h3.2).trans h4.2).trans h5.2)⟩
set_option maxHeartbeats 2000000 in
theorem toInterestS_l (A : Option Addr) (c : Nat) (rs : List Ist) (w : World) (hR : IstR w A rs) (hn : rs.length ≤ 1048576) :
    Calls Try.prog 40 #[.slice A rs.length c] w (NewIsts w rs) := by
  obtain ⟨i0, hi, hz0, hz1, hz2⟩ := info_parts istInfo
  go_enter Try.func40, Try.ntmps40
  go_wp2_with (at_make; refine wpList_make_full _ rfl _ _ 41 rfl w.heap.size 95 i0 _ 5 Try.underlying41 hi hz0 hz1 .i64 .i64 _ _ rs.length rfl rfl rfl rfl (by rw [hz2]; omega) (by unfold maxLen; omega) (Nat.le_refl _) ?_; intro w1 hown1 hg1)
  have hb1 : Below w.heap.size w w1 := (Below.refl _ _).grown hg1 (Nat.le_refl _) (by simp)
  clear hg1
  go_loopw [4] (fun i wr => ∃ (k : Nat) (ys : List Value), k ≤ rs.length ∧ i = .int .i64 k ∧ wr.ownsRow w.heap.size 95 5 (.slice (some ⟨w.heap.size, 0, none⟩) rs.length rs.length) rs.length ys ∧
    Hid (ys.take (k * 5) = (rs.take k).flatMap Ist.cells) ∧ Below w.heap.size w wr) (fun i _ => rs.length - (intOf i).toNat)
  case atStart => exact ⟨0, _, Nat.zero_le _, rfl, hown1, Lib.hid (by simp), hb1⟩
  case round =>
    obtain ⟨k, ys, hk, rfl, hown, ht, hb⟩ := hrel
    clear hown1 hb1
    by_cases hlt : k < rs.length
    · obtain ⟨b, off, r, rfl, _, hr, h4⟩ := (hR.below hb).at hlt
      have c0 := h4.c0
      have c1 := h4.c1
      have c2 := h4.c2
      have c3 := h4.c3
      have c4 := h4.c4
      have HT : Hid ((((((ys.set (k * 5) (.string ⟨r.c.toArray⟩)).set (k * 5 + 1) (.int .i64 r.k)).set (k * 5 + 2) (.string ⟨r.o.toArray⟩)).set (k * 5 + 3) (.int .i64 r.v)).set (k * 5 + 4) (.int .i64 r.a)).take ((k + 1) * 5) = (rs.take (k + 1)).flatMap Ist.cells) := Lib.hid (by
        rw [set_ist (by have := hown.1; omega) ht.out, snoc_of hr.out, List.flatMap_append]; simp [Ist.cells])
      have HO := Lib.hid hown
      have hyl : k * 5 + 4 < ys.length := by have := hown.1; omega
      clear ht hown h4
      go_wp2_with fail
      refine (toInterest_l r _).mono ?_
      rintro e w1 ⟨rfl, b1⟩
      have hown := own_below HO.out b1
      clear HO
      have hb2 := hb.trans (b1.mono hb.size)
      obtain ⟨o0, k0⟩ := own_at hown (k * 5) (by omega)
      have f0 := hown.frozenAt (k * 5)
      obtain ⟨o1, k1⟩ := own_at hown (k * 5 + 1) (by omega)
      have f1 := hown.frozenAt (k * 5 + 1)
      obtain ⟨o2, k2⟩ := own_at hown (k * 5 + 2) (by omega)
      have f2 := hown.frozenAt (k * 5 + 2)
      obtain ⟨o3, k3⟩ := own_at hown (k * 5 + 3) (by omega)
      have f3 := hown.frozenAt (k * 5 + 3)
      obtain ⟨o4, k4⟩ := own_at hown (k * 5 + 4) (by omega)
      have f4 := hown.frozenAt (k * 5 + 4)
      have HS := Lib.hid (stored_ist hown (k * 5) (.string ⟨r.c.toArray⟩) (.int .i64 r.k) (.string ⟨r.o.toArray⟩) (.int .i64 r.v) (.int .i64 r.a))
      clear hown
      go_wp2_with fail
      go_roundw
      case rel => exact ⟨k + 1, _, by omega, by go_num, HS.out.1, HT, hb2.grown HS.out.2 hb2.size (by simp)⟩
      case measure => simp [intOf]; omega
    · have HT : Hid (ys = rs.flatMap Ist.cells) := Lib.hid (by
        have h1 := ht.out; have h2 := hown.1
        rwa [take_all hk hlt, List.take_of_length_le (by omega)] at h1)
      clear ht
      go_wp2_with fail
      go_ret
      exact ⟨_, _, rfl, by have := HT.out; subst this; exact hown, hb⟩
set_option maxHeartbeats 2000000 in
theorem eqInterestS_l (A B : Option Addr) (n m c d : Nat) (rs : List Ist) (w : World) (hx : IstR w A rs) (hy : IstR w B rs) (hn1 : rs.length = n) (hm1 : rs.length = m) (hn : n ≤ 1000000000) :
    Calls Try.prog 41 #[.slice A n c, .slice B m d] w (Gives w (.bool true)) := by
  subst hn1 hm1
  go_enter Try.func41, Try.ntmps41
  go_wp2_with fail
  go_loopw [5] (fun i wr => ∃ k : Nat, k ≤ rs.length ∧ i = .int .i64 k ∧ Below w.heap.size w wr) (fun i _ => rs.length - (intOf i).toNat)
  case atStart => exact ⟨0, Nat.zero_le _, rfl, Below.refl _ _⟩
  case round =>
    obtain ⟨k, hk, rfl, hb⟩ := hrel
    by_cases hlt : k < rs.length
    · obtain ⟨b, off, r, rfl, hl, hr, h4⟩ := (hx.below hb).at hlt
      obtain ⟨b', off', q, rfl, hl', hq, h4'⟩ := (hy.below hb).at hlt
      obtain rfl : r = q := by have h1 := hr.out; have h2 := hq.out; rw [h1] at h2; exact Option.some.inj h2
      have q0 : ∀ y : Sub (Bel wr), y.w.cell? ⟨b, off + k * 5, none⟩ = some (.string ⟨r.c.toArray⟩) := fun y => (h4.below hl y.h).c0
      have p0 : ∀ y : Sub (Bel wr), y.w.cell? ⟨b', off' + k * 5, none⟩ = some (.string ⟨r.c.toArray⟩) := fun y => (h4'.below hl' y.h).c0
      have q1 : ∀ y : Sub (Bel wr), y.w.cell? ⟨b, off + k * 5 + 1, none⟩ = some (.int .i64 r.k) := fun y => (h4.below hl y.h).c1
      have p1 : ∀ y : Sub (Bel wr), y.w.cell? ⟨b', off' + k * 5 + 1, none⟩ = some (.int .i64 r.k) := fun y => (h4'.below hl' y.h).c1
      have q2 : ∀ y : Sub (Bel wr), y.w.cell? ⟨b, off + k * 5 + 2, none⟩ = some (.string ⟨r.o.toArray⟩) := fun y => (h4.below hl y.h).c2
      have p2 : ∀ y : Sub (Bel wr), y.w.cell? ⟨b', off' + k * 5 + 2, none⟩ = some (.string ⟨r.o.toArray⟩) := fun y => (h4'.below hl' y.h).c2
      have q3 : ∀ y : Sub (Bel wr), y.w.cell? ⟨b, off + k * 5 + 3, none⟩ = some (.int .i64 r.v) := fun y => (h4.below hl y.h).c3
      have p3 : ∀ y : Sub (Bel wr), y.w.cell? ⟨b', off' + k * 5 + 3, none⟩ = some (.int .i64 r.v) := fun y => (h4'.below hl' y.h).c3
      have q4 : ∀ y : Sub (Bel wr), y.w.cell? ⟨b, off + k * 5 + 4, none⟩ = some (.int .i64 r.a) := fun y => (h4.below hl y.h).c4
      have p4 : ∀ y : Sub (Bel wr), y.w.cell? ⟨b', off' + k * 5 + 4, none⟩ = some (.int .i64 r.a) := fun y => (h4'.below hl' y.h).c4
      have HB := Lib.hid (fun y : Sub (Bel wr) => (belowGo hb y.h : Below w.heap.size w y.w))
      have HE := Lib.hid (fun y : Sub (Bel wr) => (eqInterest_same r y.w).mono fun e w' h => (⟨h.1, ⟨w', Bel.step y h.2⟩, rfl⟩ : e = .returned (.bool true) ∧ ∃ z : Sub (Bel wr), w' = z.w))
      clear hx hy hr hq h4 h4'
      go_wp2_with fail
      refine region_held (Bel wr) (by kernel_rfl) (by kernel_rfl) (Bel.drew wr) ?_
      repeat (go_big_quiet_step ((first | rfl | (go_at_call 77; exact HE.out _))))
      refine wpQuiet_nil ?_
      rintro _ ⟨y, rfl⟩
      go_wp2_with fail
      go_roundw
      case rel => exact ⟨k + 1, by omega, by go_num, HB.out y⟩
      case measure => simp [intOf]; omega
    · clear hx hy
      go_wp2_with fail
      go_ret
      exact ⟨rfl, hb⟩

def Ist.mark (k : Nat) : Ist := ⟨mkT (k), (k : Int) + 1, mkT (k + 2), (k : Int) + 3, (k : Int) + 4⟩
def Ist.marks (k : Nat) (n : Nat) : List Ist := (List.range n).map fun j => Ist.mark (k + 5 * j)
theorem Ist.marks_len (k : Nat) (n : Nat) : (Ist.marks k n).length = n := by simp [Ist.marks]
theorem Ist.marks_at {k : Nat} {n j : Nat} (h : j < n) : (Ist.marks k n)[j]? = some (Ist.mark (k + 5 * j)) := by simp [Ist.marks, h]
theorem Ist.marks_succ (k : Nat) (n : Nat) : Ist.marks k (n + 1) = Ist.marks k n ++ [Ist.mark (k + 5 * n)] := by simp [Ist.marks, List.range_succ]
def MarkedIst (w : World) (base : Nat) (A : Option Addr) (n c : Nat) (k : Nat) (e : Ending) (w' : World) : Prop :=
  e = .returned (.int .i64 ((k + 5 * n : Nat) : Int)) ∧ IstO w' base A n c (Ist.marks k n) ∧ w.grownBy w' (Value.slice A n c).ownBlock
end Go.Proofs.Ytifioecofeojpaa

