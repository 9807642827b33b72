import Derived.Test.YtjcklmhgjdmjoaaMHeld
import Derived.ProofKit
import Derived.Deep.Slices
import Derived.Deep.Fields
import Derived.Deep.QuietTactic
import Derived.Deep.RegionHeld3
/- Clause: rows of structs (by gen_struct.py). -/
namespace Go.Proofs.Ytjcklmhgjdmjoaa
open Go.ChangeShapes Go.WideShapes Go.ChangeAt Go.RowKit
set_option linter.unusedVariables false

structure Cls where
  c : List UInt8
  k : Int
  p : Int
  v : Int
  r : Int
  e : Int
  t : List UInt8
  deriving DecidableEq
def Cls.cells (r : Cls) : List Value := [.string ⟨r.c.toArray⟩, .int .i64 r.k, .int .i64 r.p, .int .i64 r.v, .int .i64 r.r, .int .i64 r.e, .string ⟨r.t.toArray⟩]
def Cls.wf (r : Cls) : Prop := r.c.length ≤ maxLen ∧ (Lit.int .i64 r.k).wf = true ∧ (Lit.int .i64 r.p).wf = true ∧ (Lit.int .i64 r.v).wf = true ∧ (Lit.int .i64 r.r).wf = true ∧ (Lit.int .i64 r.e).wf = true ∧ r.t.length ≤ maxLen
/-- How many letters. -/
def Cls.sz (r : Cls) : Nat := r.c.length + r.t.length
def ClsR (w : World) (A : Option Addr) (rs : List Cls) : Prop := Rw w A (rs.flatMap Cls.cells)
/-- The cells of one. -/
structure ClsC (W : World) (b o : Nat) (r : Cls) : Prop where
  c0 : W.cell? ⟨b, o, none⟩ = some (.string ⟨r.c.toArray⟩)
  c1 : W.cell? ⟨b, o + 1, none⟩ = some (.int .i64 r.k)
  c2 : W.cell? ⟨b, o + 2, none⟩ = some (.int .i64 r.p)
  c3 : W.cell? ⟨b, o + 3, none⟩ = some (.int .i64 r.v)
  c4 : W.cell? ⟨b, o + 4, none⟩ = some (.int .i64 r.r)
  c5 : W.cell? ⟨b, o + 5, none⟩ = some (.int .i64 r.e)
  c6 : W.cell? ⟨b, o + 6, none⟩ = some (.string ⟨r.t.toArray⟩)
theorem ClsC.below {w W : World} {b o : Nat} {r : Cls} (h : ClsC w b o r) (hl : b < w.heap.size) (hb : Below w.heap.size w W) : ClsC W b o r :=
  ⟨(hb.cell (p := ⟨b, o, none⟩) hl).trans h.c0, (hb.cell (p := ⟨b, o + 1, none⟩) hl).trans h.c1, (hb.cell (p := ⟨b, o + 2, none⟩) hl).trans h.c2, (hb.cell (p := ⟨b, o + 3, none⟩) hl).trans h.c3, (hb.cell (p := ⟨b, o + 4, none⟩) hl).trans h.c4, (hb.cell (p := ⟨b, o + 5, none⟩) hl).trans h.c5, (hb.cell (p := ⟨b, o + 6, none⟩) hl).trans h.c6⟩
theorem ClsC.belowB {w W : World} {B b o : Nat} {r : Cls} (h : ClsC w b o r) (hl : b < B) (hb : Below B w W) : ClsC W b o r :=
  ⟨(hb.cell (p := ⟨b, o, none⟩) hl).trans h.c0, (hb.cell (p := ⟨b, o + 1, none⟩) hl).trans h.c1, (hb.cell (p := ⟨b, o + 2, none⟩) hl).trans h.c2, (hb.cell (p := ⟨b, o + 3, none⟩) hl).trans h.c3, (hb.cell (p := ⟨b, o + 4, none⟩) hl).trans h.c4, (hb.cell (p := ⟨b, o + 5, none⟩) hl).trans h.c5, (hb.cell (p := ⟨b, o + 6, none⟩) hl).trans h.c6⟩
theorem ClsR.at {w : World} {A : Option Addr} {rs : List Cls} (h : ClsR w A rs) {k : Nat} (hk : k < rs.length) :
    ∃ b off r, A = some ⟨b, off, none⟩ ∧ b < w.heap.size ∧ Hid (rs[k]? = some r) ∧ ClsC w b (off + k * 7) r := by
  have hl := flat_len Cls.cells 7 (fun _ => rfl) rs
  obtain ⟨b, off, e, hb, hc⟩ := h (by rw [hl]; omega)
  have hr : rs[k]? = some rs[k] := List.getElem?_eq_getElem hk
  have g := fun j hj => hc (k * 7 + j) _ ((flat_at Cls.cells 7 (fun _ => rfl) rs k j _ hr hj).trans (List.getElem?_eq_getElem (by exact hj)))
  refine ⟨b, off, rs[k], e, hb, Lib.hid hr, ?_, ?_, ?_, ?_, ?_, ?_, ?_⟩
  · simpa [Cls.cells] using g 0 (by omega)
  · simpa [Cls.cells, Nat.add_assoc] using g 1 (by omega)
  · simpa [Cls.cells, Nat.add_assoc] using g 2 (by omega)
  · simpa [Cls.cells, Nat.add_assoc] using g 3 (by omega)
  · simpa [Cls.cells, Nat.add_assoc] using g 4 (by omega)
  · simpa [Cls.cells, Nat.add_assoc] using g 5 (by omega)
  · simpa [Cls.cells, Nat.add_assoc] using g 6 (by omega)
theorem ClsR.below {w w' : World} {A : Option Addr} {rs : List Cls} (h : ClsR w A rs) (hb : Below w.heap.size w w') : ClsR w' A rs := Rw.below h hb
theorem ClsR.keepB {w w' : World} {A : Option Addr} {rs : List Cls} {B : Nat} (h : ClsR w A rs) (hA : Bd A B) (hb : Below B w w') : ClsR w' A rs := Rw.keepB h hA hb
/-! ### a slice that came in -/
theorem list_cls {α : Type} {l : List α} (h : l.length = 7) : ∃ x0 x1 x2 x3 x4 x5 x6, l = [x0, x1, x2, x3, x4, x5, x6] := by
  match l, h with
  | [x0, x1, x2, x3, x4, x5, x6], _ => exact ⟨x0, x1, x2, x3, x4, x5, x6, rfl⟩
theorem clsR_of {H : Type} {enc : TypeId × Value → H} {w : World} {spare : Nat → Bool} {held : Bool} {t e : TypeId} {f0 f1 f2 f3 f4 f5 f6 : Field} {fuel : Nat} {A : Option Addr} {len cap : Nat} {x : DataW H × List MemPlace}
    (ht : Try.prog.underlying t = some (.slice e)) (he : Try.prog.underlying e = some (.struct #[f0, f1, f2, f3, f4, f5, f6])) (hC : Try.prog.cellsOf e = 7) (hone : Go.Deep.oneCellFields Try.prog #[f0, f1, f2, f3, f4, f5, f6] = true)
    (h0 : Try.prog.underlying f0.type = some (.string)) (h1 : Try.prog.underlying f1.type = some (.int .i64)) (h2 : Try.prog.underlying f2.type = some (.int .i64)) (h3 : Try.prog.underlying f3.type = some (.int .i64)) (h4 : Try.prog.underlying f4.type = some (.int .i64)) (h5 : Try.prog.underlying f5.type = some (.int .i64)) (h6 : Try.prog.underlying f6.type = some (.string))
    (h : DataW.trod enc Try.prog w 0 spare held fuel t [.slice A len cap] = some x) :
    ∃ rs : List Cls, rs.length = len ∧ ClsR w A rs ∧ rs.length ≤ maxLen ∧ ∀ r ∈ rs, r.wf := by
  rcases Go.Deep.open_slice ht h with ⟨hcs, _⟩ | ⟨a, l, c, m, n, D, Pl, hcs, _, hlc, hcm, hmm, _, hel⟩
  · simp only [List.cons.injEq, Value.slice.injEq, and_true] at hcs
    obtain ⟨rfl, rfl, rfl⟩ := hcs
    exact ⟨[], rfl, fun hp => by simp at hp, by simp, fun r hr => by cases hr⟩
  · simp only [List.cons.injEq, Value.slice.injEq, and_true] at hcs
    obtain ⟨rfl, rfl, rfl⟩ := hcs
    have hlm : len ≤ m := by rw [hmm]; split <;> omega
    have key : ∀ i, i < len → ∃ r : Cls, r.wf ∧ ∀ j v, r.cells[j]? = some v → w.cell? (a.add (i * 7 + j)) = some v := by
      intro i hi
      obtain ⟨cs', hc, ht'⟩ := hel i (by omega)
      rw [hC] at hc
      obtain ⟨_, hcl, hat⟩ := World.cells?_some hc
      obtain ⟨ys, n', _, _, _, hyl, hf⟩ := DataW.trod_struct he ht'
      obtain ⟨o0, k0⟩ := Go.Deep.hone_of hone 0 f0 rfl
      obtain ⟨o1, k1⟩ := Go.Deep.hone_of hone 1 f1 rfl
      obtain ⟨o2, k2⟩ := Go.Deep.hone_of hone 2 f2 rfl
      obtain ⟨o3, k3⟩ := Go.Deep.hone_of hone 3 f3 rfl
      obtain ⟨o4, k4⟩ := Go.Deep.hone_of hone 4 f4 rfl
      obtain ⟨o5, k5⟩ := Go.Deep.hone_of hone 5 f5 rfl
      obtain ⟨o6, k6⟩ := Go.Deep.hone_of hone 6 f6 rfl
      obtain ⟨c0, c1, c2, c3, c4, c5, c6, rfl⟩ := list_cls hcl
      have g0 := hf 0 f0 rfl
      rw [o0, k0] at g0
      have g1 := hf 1 f1 rfl
      rw [o1, k1] at g1
      have g2 := hf 2 f2 rfl
      rw [o2, k2] at g2
      have g3 := hf 3 f3 rfl
      rw [o3, k3] at g3
      have g4 := hf 4 f4 rfl
      rw [o4, k4] at g4
      have g5 := hf 5 f5 rfl
      rw [o5, k5] at g5
      have g6 := hf 6 f6 rfl
      rw [o6, k6] at g6
      have hys : ∀ j, j < 7 → ∃ y, ys[j]? = some y := fun j hj => by
        have : ys.length = 7 := hyl.trans rfl
        exact ⟨_, List.getElem?_eq_getElem (by omega)⟩
      obtain ⟨y0, e0⟩ := hys 0 (by omega); rw [e0] at g0
      obtain ⟨y1, e1⟩ := hys 1 (by omega); rw [e1] at g1
      obtain ⟨y2, e2⟩ := hys 2 (by omega); rw [e2] at g2
      obtain ⟨y3, e3⟩ := hys 3 (by omega); rw [e3] at g3
      obtain ⟨y4, e4⟩ := hys 4 (by omega); rw [e4] at g4
      obtain ⟨y5, e5⟩ := hys 5 (by omega); rw [e5] at g5
      obtain ⟨y6, e6⟩ := hys 6 (by omega); rw [e6] at g6
      obtain ⟨z0, q0, _, w0⟩ := DataW.trod_string h0 g0
      obtain ⟨z1, q1, _, w1⟩ := DataW.trod_int h1 g1
      obtain ⟨z2, q2, _, w2⟩ := DataW.trod_int h2 g2
      obtain ⟨z3, q3, _, w3⟩ := DataW.trod_int h3 g3
      obtain ⟨z4, q4, _, w4⟩ := DataW.trod_int h4 g4
      obtain ⟨z5, q5, _, w5⟩ := DataW.trod_int h5 g5
      obtain ⟨z6, q6, _, w6⟩ := DataW.trod_string h6 g6
      simp at q0 q1 q2 q3 q4 q5 q6
      subst q0 q1 q2 q3 q4 q5 q6
      refine ⟨⟨z0.data.toList, z1, z2, z3, z4, z5, z6.data.toList⟩, ⟨by simpa using w0, w1, w2, w3, w4, w5, by simpa using w6⟩, fun j v hj => ?_⟩
      have hj4 : j < 7 := (List.getElem?_eq_some_iff.1 hj).1
      rw [← Go.Deep.add_add]
      have := hat j hj4
      rw [this, ← hj]
      rfl
    obtain ⟨rs, hl, hr⟩ := pick_all key
    refine ⟨rs, hl, fun hp => ?_, by omega, fun r hr' => ?_⟩
    · rw [flat_len Cls.cells 7 (fun _ => rfl)] at hp
      have h00 := (hr 0 rs[0] (List.getElem?_eq_getElem (by omega))).2 0 _ rfl
      obtain ⟨b, off, spot⟩ := a
      have hspot : spot = none := by simpa [Addr.add] using World.cell?_spot h00
      subst hspot
      refine ⟨b, off, rfl, World.block_lt_of_cell? w _ h00, fun j v hj => ?_⟩
      obtain ⟨r, h5, h6⟩ := flat_some Cls.cells 7 (by decide) (fun _ => rfl) rs j v hj
      have := (hr _ r h5).2 _ v h6
      rw [Go.WideShapes.add_plain, Nat.mul_comm, Nat.div_add_mod] at this
      exact this
    · obtain ⟨i, hi⟩ := List.getElem?_of_mem hr'
      exact (hr i r hi).1
end Go.Proofs.Ytjcklmhgjdmjoaa

/- laws.toClause, szClause, eqClause, markClauseS, heldClauseS and their slices (by gen_struct.py). -/
namespace Go.Proofs.Ytjcklmhgjdmjoaa
open Go.ChangeShapes Go.WideShapes Go.ChangeAt Go.RowKit
set_option linter.unusedVariables false

theorem toClause_l (r : Cls) (w : World) : Calls Try.prog 90 #[.agg #[.string ⟨r.c.toArray⟩, .int .i64 r.k, .int .i64 r.p, .int .i64 r.v, .int .i64 r.r, .int .i64 r.e, .string ⟨r.t.toArray⟩]] w (Gives w (.agg #[.string ⟨r.c.toArray⟩, .int .i64 r.k, .int .i64 r.p, .int .i64 r.v, .int .i64 r.r, .int .i64 r.e, .string ⟨r.t.toArray⟩])) := by
  have B : ∀ o p q, Hid (Below w.heap.size w (((w.alloc o).alloc p).alloc q)) := fun o p q => Lib.hid ((((Below.refl _ _).alloc (Nat.le_refl _) _).alloc (by simp) _).alloc (by simp; omega) _)
  go_enter Try.func90, Try.ntmps90
  go_wp2_with fail
  exact bodyPost_ret (v := .agg #[.string ⟨r.c.toArray⟩, .int .i64 r.k, .int .i64 r.p, .int .i64 r.v, .int .i64 r.r, .int .i64 r.e, .string ⟨r.t.toArray⟩]) (by simp [results, Try.results90, go_sem]) rfl ⟨rfl, (B _ _ _).out⟩
theorem eqClause_same (r : Cls) (w : World) : Calls Try.prog 95 #[.agg #[.string ⟨r.c.toArray⟩, .int .i64 r.k, .int .i64 r.p, .int .i64 r.v, .int .i64 r.r, .int .i64 r.e, .string ⟨r.t.toArray⟩], .agg #[.string ⟨r.c.toArray⟩, .int .i64 r.k, .int .i64 r.p, .int .i64 r.v, .int .i64 r.r, .int .i64 r.e, .string ⟨r.t.toArray⟩]] w (Gives w (.bool true)) := by
  have B : ∀ o p, Hid (Below w.heap.size w ((w.alloc o).alloc p)) := fun o p => Lib.hid (((Below.refl _ _).alloc (Nat.le_refl _) _).alloc (by simp) _)
  have d0 : (r.c == r.c) = true := by simp
  have d1 : (r.k != r.k) = false := by simp
  have d2 : (r.p != r.p) = false := by simp
  have d3 : (r.v != r.v) = false := by simp
  have d4 : (r.r != r.r) = false := by simp
  have d5 : (r.e != r.e) = false := by simp
  have d6 : (r.t == r.t) = true := by simp
  go_enter Try.func95, Try.ntmps95
  go_wp2_with fail
  go_ret
  exact ⟨rfl, (B _ _).out⟩
theorem szClause_l (r : Cls) (n : Int) (w : World) (h0 : 0 ≤ n) (h1 : n ≤ 2000000) (hl : r.wf) :
    Calls Try.prog 87 #[.agg #[.string ⟨r.c.toArray⟩, .int .i64 r.k, .int .i64 r.p, .int .i64 r.v, .int .i64 r.r, .int .i64 r.e, .string ⟨r.t.toArray⟩], .int .i64 n] w (Gives w (.int .i64 (if n - (r.sz : Int) < 0 then -1 else n - (r.sz : Int)))) := by
  have hw := hl
  unfold Cls.wf maxLen at hl
  have hz0 : (⟨r.c.toArray⟩ : ByteArray).size = r.c.length := rfl
  have l0 : r.c.length ≤ 9223372036854775807 := by omega
  have hz1 : (⟨r.t.toArray⟩ : ByteArray).size = r.t.length := rfl
  have l1 : r.t.length ≤ 9223372036854775807 := by omega
  have B : ∀ o, Hid (Below w.heap.size w (w.alloc o)) := fun o => Lib.hid ((Below.refl _ _).alloc (Nat.le_refl _) _)
  obtain ⟨M, hM⟩ : ∃ M, M = (if n - (r.sz : Int) < 0 then -1 else n - (r.sz : Int)) := ⟨_, rfl⟩
  rw [← hM]
  have HM := Lib.hid hM
  clear hw hl hM
  by_cases n0 : n - r.c.length < 0
  · have E : Hid (M = -1) := Lib.hid (by rw [HM.out]; unfold Cls.sz; rw [if_pos (by omega)])
    go_enter Try.func87, Try.ntmps87
    go_wp2_with fail
    go_ret
    exact ⟨by first | rfl | exact congrArg (fun x => Ending.returned (Value.int .i64 x)) E.out.symm, (B _).out⟩
  · skip
    by_cases n1 : n - r.c.length - r.t.length < 0
    · have E : Hid (M = -1) := Lib.hid (by rw [HM.out]; unfold Cls.sz; rw [if_pos (by omega)])
      go_enter Try.func87, Try.ntmps87
      go_wp2_with fail
      go_ret
      exact ⟨by first | rfl | exact congrArg (fun x => Ending.returned (Value.int .i64 x)) E.out.symm, (B _).out⟩
    · skip
      have E : Hid (M = n - r.c.length - r.t.length) := Lib.hid (by rw [HM.out]; unfold Cls.sz; rw [if_neg (by omega)]; try omega)
      go_enter Try.func87, Try.ntmps87
      go_wp2_with fail
      go_ret
      exact ⟨by first | rfl | exact congrArg (fun x => Ending.returned (Value.int .i64 x)) E.out.symm, (B _).out⟩
def Cls.szl : List Cls → Int → Int
  | [], n => n
  | r :: rs, n => if n < 0 then n else Cls.szl rs (if n - (r.sz : Int) < 0 then -1 else n - (r.sz : Int))
def Cls.szT (rs : List Cls) (n : Int) : Int := if n - rs.length < 0 then -1 else Cls.szl rs (n - rs.length)
theorem Cls.szl_neg (rs : List Cls) : Cls.szl rs (-1) = -1 := by cases rs <;> rfl
theorem Cls.szl_bd : ∀ (rs : List Cls) (n : Int), 0 ≤ Cls.szl rs n → Cls.szl rs n ≤ n ∧ ∀ r ∈ rs, (r.sz : Int) ≤ n
  | [], n, h => ⟨Int.le_refl _, fun r hr => by cases hr⟩
  | r :: rs, n, h => by
    unfold Cls.szl at h ⊢
    by_cases hn : n < 0
    · rw [if_pos hn] at h; omega
    · rw [if_neg hn] at h ⊢
      by_cases h1 : n - (r.sz : Int) < 0
      · rw [if_pos h1, Cls.szl_neg] at h; omega
      · rw [if_neg h1] at h ⊢
        obtain ⟨h2, h3⟩ := Cls.szl_bd rs _ h
        refine ⟨by omega, fun q hq => ?_⟩
        rcases List.mem_cons.1 hq with rfl | hq
        · omega
        · have := h3 q hq; omega
theorem Cls.szT_bd {rs : List Cls} {n : Int} (h : 0 ≤ Cls.szT rs n) : Cls.szT rs n ≤ n ∧ (rs.length : Int) ≤ n ∧ ∀ r ∈ rs, (r.sz : Int) ≤ n := by
  unfold Cls.szT at h ⊢
  by_cases h1 : n - rs.length < 0
  · rw [if_pos h1] at h; omega
  · rw [if_neg h1] at h ⊢
    obtain ⟨h2, h3⟩ := Cls.szl_bd rs _ h
    exact ⟨by omega, by omega, fun r hr => by have := h3 r hr; omega⟩
theorem Cls.szT_ok {rs : List Cls} (h : ¬ Cls.szT rs 1048576 < 0) : rs.length ≤ 1048576 ∧ (∀ r ∈ rs, r.sz ≤ 1048576) ∧ Cls.szT rs 1048576 ≤ 1048576 := by
  obtain ⟨h0, h1, h2⟩ := Cls.szT_bd (by omega : 0 ≤ Cls.szT rs 1048576)
  exact ⟨by omega, fun r hr => by have := h2 r hr; omega, h0⟩
theorem Cls.szl_cons {r : Cls} {rs : List Cls} {m : Int} (hm : 0 ≤ m) : Cls.szl (r :: rs) m = Cls.szl rs (if m - (r.sz : Int) < 0 then -1 else m - (r.sz : Int)) := by rw [Cls.szl, if_neg (by omega)]
set_option maxHeartbeats 1000000 in
theorem szClauseS_l (A : Option Addr) (c : Nat) (rs : List Cls) (n : Int) (w : World) (hR : ClsR w A rs) (hw : ∀ r ∈ rs, r.wf) (hl : rs.length ≤ maxLen) (h0 : 0 ≤ n) (h1 : n ≤ 2000000) :
    Calls Try.prog 34 #[.slice A rs.length c, .int .i64 n] w (Gives w (.int .i64 (Cls.szT rs n))) := by
  unfold maxLen at hl
  by_cases hn : n - rs.length < 0
  · have E : Hid (Cls.szT rs n = -1) := Lib.hid (by rw [Cls.szT, if_pos hn])
    go_enter Try.func34, Try.ntmps34
    go_wp2_with fail
    go_ret
    exact ⟨by rw [E.out] <;> rfl, Below.refl _ _⟩
  · have E : Hid (Cls.szT rs n = Cls.szl rs (n - rs.length)) := Lib.hid (by rw [Cls.szT, if_neg hn])
    go_enter Try.func34, Try.ntmps34
    go_wp2_with fail
    go_loopw [1, 5] (fun m i wr => ∃ (k : Nat) (M : Int), k ≤ rs.length ∧ i = .int .i64 k ∧ m = .int .i64 M ∧ 0 ≤ M ∧ M ≤ n ∧ Hid (Cls.szl (rs.drop k) M = Cls.szl rs (n - rs.length)) ∧ Below w.heap.size w wr) (fun _ i _ => rs.length - (intOf i).toNat)
    case atStart => exact ⟨0, _, Nat.zero_le _, rfl, rfl, by omega, by omega, Lib.hid rfl, Below.refl _ _⟩
    case round =>
      obtain ⟨k, M, hk, rfl, rfl, hM0, hM1, hs, hb⟩ := hrel
      by_cases hlt : k < rs.length
      · obtain ⟨b, off, r, rfl, _, hr, h4⟩ := (hR.below hb).at hlt
        have hrl := hw r (List.mem_of_getElem? hr.out)
        have c0 := h4.c0
        have c1 := h4.c1
        have c2 := h4.c2
        have c3 := h4.c3
        have c4 := h4.c4
        have c5 := h4.c5
        have c6 := h4.c6
        have HS : Hid (Cls.szl (rs.drop (k + 1)) (if M - (r.sz : Int) < 0 then -1 else M - (r.sz : Int)) = Cls.szl rs (n - rs.length)) := Lib.hid (by rw [← hs.out, drop_of hr.out, Cls.szl_cons hM0])
        have HC := Lib.hid (szClause_l r M wr (by omega) (by omega) hrl)
        clear hs hw hrl h4
        by_cases hneg : M - (r.sz : Int) < 0
        · rw [if_pos hneg] at HS HC
          have HS := Lib.hid (HS.out.symm.trans (Cls.szl_neg _))
          go_wp2_with (go_at_call 87; refine HC.out.mono ?_; rintro e w1 ⟨rfl, b1⟩)
          go_ret
          exact ⟨by rw [E.out, HS.out] <;> rfl, hb.trans (b1.mono hb.size)⟩
        · rw [if_neg hneg] at HS HC
          obtain ⟨M2, hM2⟩ : ∃ M2, M2 = M - (r.sz : Int) := ⟨_, rfl⟩
          rw [← hM2] at HS HC
          have hM20 : 0 ≤ M2 := by omega
          have hM21 : M2 ≤ n := by omega
          clear hneg hM2
          go_wp2_with (go_at_call 87; refine HC.out.mono ?_; rintro e w1 ⟨rfl, b1⟩)
          go_roundw
          case rel => exact ⟨k + 1, _, by omega, by go_num, rfl, by omega, by omega, HS, hb.trans (b1.mono hb.size)⟩
          case measure => simp [intOf]; omega
      · have HS : Hid (M = Cls.szl rs (n - rs.length)) := Lib.hid (by rw [← hs.out, List.drop_eq_nil_of_le (by omega)]; rfl)
        clear hs
        go_wp2_with fail
        go_ret
        exact ⟨by rw [E.out, ← HS.out] <;> rfl, hb⟩

/-! ### a row of the call's own -/
theorem clsInfo : (Try.prog.info? 54).map (fun i => (i.zero, i.size, i.bytes)) = some (some (.agg #[.string ⟨#[]⟩, .int .i64 0, .int .i64 0, .int .i64 0, .int .i64 0, .int .i64 0, .string ⟨#[]⟩]), 7, 72) := by kernel_rfl
def ClsO (w : World) (base : Nat) (A : Option Addr) (n c : Nat) (rs : List Cls) : Prop := w.ownsRow base 54 7 (.slice A n c) n (rs.flatMap Cls.cells)
section
variable {w w' : World} {base : Nat} {A : Option Addr} {n c : Nat} {rs : List Cls}
theorem ClsO.len (h : ClsO w base A n c rs) : rs.length = n := by
  have := h.1; rw [flat_len Cls.cells 7 (fun _ => rfl)] at this; omega
theorem ClsO.row (h : ClsO w base A n c rs) : ClsR w A rs := Rw.ownS h
theorem ClsO.bd (h : ClsO w base A n c rs) : Bd A w.heap.size := fun a e => (h.lt a.block (by rw [e]; rfl)).2
theorem ClsO.lo (h : ClsO w base A n c rs) : ∀ k, (Value.slice A n c).ownBlock = some k → base ≤ k := fun k e => (h.lt k e).1
theorem ClsO.below (h : ClsO w base A n c rs) (hb : Below w.heap.size w w') : ClsO w' base A n c rs := own_below h hb
theorem ClsO.mono {base' : Nat} (h : ClsO w base A n c rs) (hb : base' ≤ base) : ClsO w base' A n c rs := by
  refine ⟨h.1, h.2.imp id ?_⟩
  rintro ⟨g, cap, cur, h1, h2, h3⟩
  exact ⟨g, cap, cur, h1, by omega, h3⟩
theorem ClsO.kept {B : Option Addr} {m d : Nat} (h : ClsO w base A n c rs) (hg : w.grownBy w' (Value.slice B m d).ownBlock) (hB : Bd B base) : ClsO w' base A n c rs :=
  World.ownsRow.kept h hg (by
    cases A with
    | none => exact .inl rfl
    | some a =>
      right
      cases B with
      | none => simp [Value.ownBlock]
      | some b =>
        intro e
        have h1 := h.lo a.block rfl
        have h2 := hB b rfl
        simp [Value.ownBlock] at e
        omega)
theorem ClsO.far {B : Nat} (h : ClsO w base A n c rs) (hg : w.grownBy w' (Value.slice A n c).ownBlock) (hB : B ≤ base) (hs : B ≤ w.heap.size) : Below B w w' :=
  (Below.refl _ _).grown hg hs (fun k e => Nat.le_trans hB (h.lo k e))
theorem ClsO.wrote {W : World} {B : Nat} (hW : Below B W w) (h : ClsO w base A n c rs) (hg : w.grownBy w' (Value.slice A n c).ownBlock) (hB : B ≤ base) (hs : B ≤ w.heap.size) : Below B W w' :=
  hW.grown hg hs (fun k e => Nat.le_trans hB (h.lo k e))
end
def NewClss (w : World) (rs : List Cls) (e : Ending) (w' : World) : Prop :=
  ∃ A c, e = .returned (.slice A rs.length c) ∧ ClsO w' w.heap.size A rs.length c rs ∧ Below w.heap.size w w'
def NewClssC (w : World) (p : List Cls × Int) (e : Ending) (w' : World) : Prop :=
  ∃ A c, e = .returned (.tuple #[.slice A p.1.length c, .int .i64 p.2]) ∧ ClsO w' w.heap.size A p.1.length c p.1 ∧ Below w.heap.size w w'
theorem set_cls {ys : List Value} {k : Nat} (hk : k * 7 + 6 < ys.length) {v0 v1 v2 v3 v4 v5 v6 : Value} {P : List Value} (h : ys.take (k * 7) = P) :
    (((((((ys.set (k * 7) (v0)).set (k * 7 + 1) (v1)).set (k * 7 + 2) (v2)).set (k * 7 + 3) (v3)).set (k * 7 + 4) (v4)).set (k * 7 + 5) (v5)).set (k * 7 + 6) (v6)).take ((k + 1) * 7) = P ++ [v0, v1, v2, v3, v4, v5, v6] := by
  apply List.ext_getElem?
  intro j
  subst h
  rw [List.getElem?_take, List.getElem?_append, List.length_take, Nat.min_eq_left (by omega)]
  by_cases h1 : j < k * 7
  · rw [if_pos (by omega), if_pos h1, List.getElem?_take, if_pos h1]
    rw [List.getElem?_set_ne (by omega), List.getElem?_set_ne (by omega), List.getElem?_set_ne (by omega), List.getElem?_set_ne (by omega), List.getElem?_set_ne (by omega), List.getElem?_set_ne (by omega), List.getElem?_set_ne (by omega)]
  · rw [if_neg h1]
    by_cases h2 : j < (k + 1) * 7
    · rw [if_pos h2]
      have : j = k * 7 ∨ j = k * 7 + 1 ∨ j = k * 7 + 2 ∨ j = k * 7 + 3 ∨ j = k * 7 + 4 ∨ j = k * 7 + 5 ∨ j = k * 7 + 6 := by omega
      rcases this with rfl | rfl | rfl | rfl | rfl | rfl | rfl
      · rw [List.getElem?_set_ne (by omega), List.getElem?_set_ne (by omega), List.getElem?_set_ne (by omega), List.getElem?_set_ne (by omega), List.getElem?_set_ne (by omega), List.getElem?_set_ne (by omega), List.getElem?_set_self (by (try simp only [List.length_set]); omega), Nat.sub_self]; rfl
      · rw [List.getElem?_set_ne (by omega), List.getElem?_set_ne (by omega), List.getElem?_set_ne (by omega), List.getElem?_set_ne (by omega), List.getElem?_set_ne (by omega), List.getElem?_set_self (by (try simp only [List.length_set]); omega), show k * 7 + 1 - k * 7 = 1 by omega]; rfl
      · rw [List.getElem?_set_ne (by omega), List.getElem?_set_ne (by omega), List.getElem?_set_ne (by omega), List.getElem?_set_ne (by omega), List.getElem?_set_self (by (try simp only [List.length_set]); omega), show k * 7 + 2 - k * 7 = 2 by omega]; rfl
      · rw [List.getElem?_set_ne (by omega), List.getElem?_set_ne (by omega), List.getElem?_set_ne (by omega), List.getElem?_set_self (by (try simp only [List.length_set]); omega), show k * 7 + 3 - k * 7 = 3 by omega]; rfl
      · rw [List.getElem?_set_ne (by omega), List.getElem?_set_ne (by omega), List.getElem?_set_self (by (try simp only [List.length_set]); omega), show k * 7 + 4 - k * 7 = 4 by omega]; rfl
      · rw [List.getElem?_set_ne (by omega), List.getElem?_set_self (by (try simp only [List.length_set]); omega), show k * 7 + 5 - k * 7 = 5 by omega]; rfl
      · rw [List.getElem?_set_self (by (try simp only [List.length_set]); omega), show k * 7 + 6 - k * 7 = 6 by omega]; rfl
    · rw [if_neg h2, List.getElem?_eq_none (by simp; omega)]
theorem stored_cls {w : World} {base g n c : Nat} {e : TypeId} {xs : List Value} (h : w.ownsRow base e 7 (.slice (some ⟨g, 0, none⟩) n c) n xs) (j : Nat) (v0 v1 v2 v3 v4 v5 v6 : Value) :
    (((((((w.setCell ⟨g, j, none⟩ (v0)).setCell ⟨g, j + 1, none⟩ (v1)).setCell ⟨g, j + 2, none⟩ (v2)).setCell ⟨g, j + 3, none⟩ (v3)).setCell ⟨g, j + 4, none⟩ (v4)).setCell ⟨g, j + 5, none⟩ (v5)).setCell ⟨g, j + 6, none⟩ (v6)).ownsRow base e 7 (.slice (some ⟨g, 0, none⟩) n c) n (((((((xs.set (j) (v0)).set (j + 1) (v1)).set (j + 2) (v2)).set (j + 3) (v3)).set (j + 4) (v4)).set (j + 5) (v5)).set (j + 6) (v6)) ∧
    w.grownBy (((((((w.setCell ⟨g, j, none⟩ (v0)).setCell ⟨g, j + 1, none⟩ (v1)).setCell ⟨g, j + 2, none⟩ (v2)).setCell ⟨g, j + 3, none⟩ (v3)).setCell ⟨g, j + 4, none⟩ (v4)).setCell ⟨g, j + 5, none⟩ (v5)).setCell ⟨g, j + 6, none⟩ (v6)) (some g) := by
  have h1 := h.stored (j) v0
  have h2 := h1.1.stored (j + 1) v1
  have h3 := h2.1.stored (j + 2) v2
  have h4 := h3.1.stored (j + 3) v3
  have h5 := h4.1.stored (j + 4) v4
  have h6 := h5.1.stored (j + 5) v5
  have h7 := h6.1.stored (j + 6) v6
  exact ⟨h7.1, ((((((h1.2.trans h2.2).trans h3.2).trans h4.2).trans h5.2).trans h6.2).trans h7.2)⟩
set_option maxHeartbeats 2000000 in
theorem toClauseS_l (A : Option Addr) (c : Nat) (rs : List Cls) (w : World) (hR : ClsR w A rs) (hn : rs.length ≤ 1048576) :
    Calls Try.prog 36 #[.slice A rs.length c] w (NewClss w rs) := by
  obtain ⟨i0, hi, hz0, hz1, hz2⟩ := info_parts clsInfo
  go_enter Try.func36, Try.ntmps36
  go_wp2_with (at_make; refine wpList_make_full _ rfl _ _ 24 rfl w.heap.size 54 i0 _ 7 Try.underlying24 hi hz0 hz1 .i64 .i64 _ _ rs.length rfl rfl rfl rfl (by rw [hz2]; omega) (by unfold maxLen; omega) (Nat.le_refl _) ?_; intro w1 hown1 hg1)
  have hb1 : Below w.heap.size w w1 := (Below.refl _ _).grown hg1 (Nat.le_refl _) (by simp)
  clear hg1
  go_loopw [4] (fun i wr => ∃ (k : Nat) (ys : List Value), k ≤ rs.length ∧ i = .int .i64 k ∧ wr.ownsRow w.heap.size 54 7 (.slice (some ⟨w.heap.size, 0, none⟩) rs.length rs.length) rs.length ys ∧
    Hid (ys.take (k * 7) = (rs.take k).flatMap Cls.cells) ∧ Below w.heap.size w wr) (fun i _ => rs.length - (intOf i).toNat)
  case atStart => exact ⟨0, _, Nat.zero_le _, rfl, hown1, Lib.hid (by simp), hb1⟩
  case round =>
    obtain ⟨k, ys, hk, rfl, hown, ht, hb⟩ := hrel
    clear hown1 hb1
    by_cases hlt : k < rs.length
    · obtain ⟨b, off, r, rfl, _, hr, h4⟩ := (hR.below hb).at hlt
      have c0 := h4.c0
      have c1 := h4.c1
      have c2 := h4.c2
      have c3 := h4.c3
      have c4 := h4.c4
      have c5 := h4.c5
      have c6 := h4.c6
      have HT : Hid ((((((((ys.set (k * 7) (.string ⟨r.c.toArray⟩)).set (k * 7 + 1) (.int .i64 r.k)).set (k * 7 + 2) (.int .i64 r.p)).set (k * 7 + 3) (.int .i64 r.v)).set (k * 7 + 4) (.int .i64 r.r)).set (k * 7 + 5) (.int .i64 r.e)).set (k * 7 + 6) (.string ⟨r.t.toArray⟩)).take ((k + 1) * 7) = (rs.take (k + 1)).flatMap Cls.cells) := Lib.hid (by
        rw [set_cls (by have := hown.1; omega) ht.out, snoc_of hr.out, List.flatMap_append]; simp [Cls.cells])
      have HO := Lib.hid hown
      have hyl : k * 7 + 6 < ys.length := by have := hown.1; omega
      clear ht hown h4
      go_wp2_with fail
      refine (toClause_l r _).mono ?_
      rintro e w1 ⟨rfl, b1⟩
      have hown := own_below HO.out b1
      clear HO
      have hb2 := hb.trans (b1.mono hb.size)
      obtain ⟨o0, k0⟩ := own_at hown (k * 7) (by omega)
      have f0 := hown.frozenAt (k * 7)
      obtain ⟨o1, k1⟩ := own_at hown (k * 7 + 1) (by omega)
      have f1 := hown.frozenAt (k * 7 + 1)
      obtain ⟨o2, k2⟩ := own_at hown (k * 7 + 2) (by omega)
      have f2 := hown.frozenAt (k * 7 + 2)
      obtain ⟨o3, k3⟩ := own_at hown (k * 7 + 3) (by omega)
      have f3 := hown.frozenAt (k * 7 + 3)
      obtain ⟨o4, k4⟩ := own_at hown (k * 7 + 4) (by omega)
      have f4 := hown.frozenAt (k * 7 + 4)
      obtain ⟨o5, k5⟩ := own_at hown (k * 7 + 5) (by omega)
      have f5 := hown.frozenAt (k * 7 + 5)
      obtain ⟨o6, k6⟩ := own_at hown (k * 7 + 6) (by omega)
      have f6 := hown.frozenAt (k * 7 + 6)
      have HS := Lib.hid (stored_cls hown (k * 7) (.string ⟨r.c.toArray⟩) (.int .i64 r.k) (.int .i64 r.p) (.int .i64 r.v) (.int .i64 r.r) (.int .i64 r.e) (.string ⟨r.t.toArray⟩))
      clear hown
      go_wp2_with fail
      go_roundw
      case rel => exact ⟨k + 1, _, by omega, by go_num, HS.out.1, HT, hb2.grown HS.out.2 hb2.size (by simp)⟩
      case measure => simp [intOf]; omega
    · have HT : Hid (ys = rs.flatMap Cls.cells) := Lib.hid (by
        have h1 := ht.out; have h2 := hown.1
        rwa [take_all hk hlt, List.take_of_length_le (by omega)] at h1)
      clear ht
      go_wp2_with fail
      go_ret
      exact ⟨_, _, rfl, by have := HT.out; subst this; exact hown, hb⟩
set_option maxHeartbeats 2000000 in
theorem eqClauseS_l (A B : Option Addr) (n m c d : Nat) (rs : List Cls) (w : World) (hx : ClsR w A rs) (hy : ClsR w B rs) (hn1 : rs.length = n) (hm1 : rs.length = m) (hn : n ≤ 1000000000) :
    Calls Try.prog 38 #[.slice A n c, .slice B m d] w (Gives w (.bool true)) := by
  subst hn1 hm1
  go_enter Try.func38, Try.ntmps38
  go_wp2_with fail
  go_loopw [5] (fun i wr => ∃ k : Nat, k ≤ rs.length ∧ i = .int .i64 k ∧ Below w.heap.size w wr) (fun i _ => rs.length - (intOf i).toNat)
  case atStart => exact ⟨0, Nat.zero_le _, rfl, Below.refl _ _⟩
  case round =>
    obtain ⟨k, hk, rfl, hb⟩ := hrel
    by_cases hlt : k < rs.length
    · obtain ⟨b, off, r, rfl, hl, hr, h4⟩ := (hx.below hb).at hlt
      obtain ⟨b', off', q, rfl, hl', hq, h4'⟩ := (hy.below hb).at hlt
      obtain rfl : r = q := by have h1 := hr.out; have h2 := hq.out; rw [h1] at h2; exact Option.some.inj h2
      have q0 : ∀ y : Sub (Bel wr), y.w.cell? ⟨b, off + k * 7, none⟩ = some (.string ⟨r.c.toArray⟩) := fun y => (h4.below hl y.h).c0
      have p0 : ∀ y : Sub (Bel wr), y.w.cell? ⟨b', off' + k * 7, none⟩ = some (.string ⟨r.c.toArray⟩) := fun y => (h4'.below hl' y.h).c0
      have q1 : ∀ y : Sub (Bel wr), y.w.cell? ⟨b, off + k * 7 + 1, none⟩ = some (.int .i64 r.k) := fun y => (h4.below hl y.h).c1
      have p1 : ∀ y : Sub (Bel wr), y.w.cell? ⟨b', off' + k * 7 + 1, none⟩ = some (.int .i64 r.k) := fun y => (h4'.below hl' y.h).c1
      have q2 : ∀ y : Sub (Bel wr), y.w.cell? ⟨b, off + k * 7 + 2, none⟩ = some (.int .i64 r.p) := fun y => (h4.below hl y.h).c2
      have p2 : ∀ y : Sub (Bel wr), y.w.cell? ⟨b', off' + k * 7 + 2, none⟩ = some (.int .i64 r.p) := fun y => (h4'.below hl' y.h).c2
      have q3 : ∀ y : Sub (Bel wr), y.w.cell? ⟨b, off + k * 7 + 3, none⟩ = some (.int .i64 r.v) := fun y => (h4.below hl y.h).c3
      have p3 : ∀ y : Sub (Bel wr), y.w.cell? ⟨b', off' + k * 7 + 3, none⟩ = some (.int .i64 r.v) := fun y => (h4'.below hl' y.h).c3
      have q4 : ∀ y : Sub (Bel wr), y.w.cell? ⟨b, off + k * 7 + 4, none⟩ = some (.int .i64 r.r) := fun y => (h4.below hl y.h).c4
      have p4 : ∀ y : Sub (Bel wr), y.w.cell? ⟨b', off' + k * 7 + 4, none⟩ = some (.int .i64 r.r) := fun y => (h4'.below hl' y.h).c4
      have q5 : ∀ y : Sub (Bel wr), y.w.cell? ⟨b, off + k * 7 + 5, none⟩ = some (.int .i64 r.e) := fun y => (h4.below hl y.h).c5
      have p5 : ∀ y : Sub (Bel wr), y.w.cell? ⟨b', off' + k * 7 + 5, none⟩ = some (.int .i64 r.e) := fun y => (h4'.below hl' y.h).c5
      have q6 : ∀ y : Sub (Bel wr), y.w.cell? ⟨b, off + k * 7 + 6, none⟩ = some (.string ⟨r.t.toArray⟩) := fun y => (h4.below hl y.h).c6
      have p6 : ∀ y : Sub (Bel wr), y.w.cell? ⟨b', off' + k * 7 + 6, none⟩ = some (.string ⟨r.t.toArray⟩) := fun y => (h4'.below hl' y.h).c6
      have HB := Lib.hid (fun y : Sub (Bel wr) => (belowGo hb y.h : Below w.heap.size w y.w))
      have HE := Lib.hid (fun y : Sub (Bel wr) => (eqClause_same r y.w).mono fun e w' h => (⟨h.1, ⟨w', Bel.step y h.2⟩, rfl⟩ : e = .returned (.bool true) ∧ ∃ z : Sub (Bel wr), w' = z.w))
      clear hx hy hr hq h4 h4'
      go_wp2_with fail
      refine region_held (Bel wr) (by kernel_rfl) (by kernel_rfl) (Bel.drew wr) ?_
      repeat (go_big_quiet_step ((first | rfl | (go_at_call 95; exact HE.out _))))
      refine wpQuiet_nil ?_
      rintro _ ⟨y, rfl⟩
      go_wp2_with fail
      go_roundw
      case rel => exact ⟨k + 1, by omega, by go_num, HB.out y⟩
      case measure => simp [intOf]; omega
    · clear hx hy
      go_wp2_with fail
      go_ret
      exact ⟨rfl, hb⟩

def Cls.mark (k : Nat) : Cls := ⟨mkT (k), (k : Int) + 1, (k : Int) + 2, (k : Int) + 3, (k : Int) + 4, (k : Int) + 5, mkT (k + 6)⟩
def Cls.marks (k : Nat) (n : Nat) : List Cls := (List.range n).map fun j => Cls.mark (k + 7 * j)
theorem Cls.marks_len (k : Nat) (n : Nat) : (Cls.marks k n).length = n := by simp [Cls.marks]
theorem Cls.marks_at {k : Nat} {n j : Nat} (h : j < n) : (Cls.marks k n)[j]? = some (Cls.mark (k + 7 * j)) := by simp [Cls.marks, h]
theorem Cls.marks_succ (k : Nat) (n : Nat) : Cls.marks k (n + 1) = Cls.marks k n ++ [Cls.mark (k + 7 * n)] := by simp [Cls.marks, List.range_succ]
def MarkedCls (w : World) (base : Nat) (A : Option Addr) (n c : Nat) (k : Nat) (e : Ending) (w' : World) : Prop :=
  e = .returned (.int .i64 ((k + 7 * n : Nat) : Int)) ∧ ClsO w' base A n c (Cls.marks k n) ∧ w.grownBy w' (Value.slice A n c).ownBlock
set_option maxRecDepth 100000 in
set_option maxHeartbeats 2000000 in
theorem markClauseS_l (A : Option Addr) (n c : Nat) (k0 : Nat) (rs : List Cls) (base : Nat) (w : World) (hx : ClsO w base A n c rs) (hn : n ≤ 1048576) (h0 : 0 < k0) (h1 : k0 ≤ 1000000000) :
    Calls Try.prog 42 #[.slice A n c, .int .i64 k0] w (MarkedCls w base A n c k0) := by
  by_cases hz : n = 0
  · have HO : Hid (ClsO w base A n c (Cls.marks k0 n)) := Lib.hid (by
      have h := hx.len; subst hz
      have : rs = [] := List.eq_nil_of_length_eq_zero h
      subst this; exact hx)
    subst hz
    go_enter Try.func42, Try.ntmps42
    go_wp2_with fail
    go_loop [1, 5] (fun k i => k = .int .i64 k0 ∧ i = .int .i64 0) (fun _ _ => 0)
    case atStart => exact ⟨rfl, rfl⟩
    case round =>
      obtain ⟨rfl, rfl⟩ := hrel
      go_wp2_with fail
      go_ret
      exact ⟨by simp, HO.out, World.grownBy.refl w _⟩
  · obtain ⟨g, hA⟩ : ∃ g, A = some ⟨g, 0, none⟩ := by
      rcases hx.2 with ⟨_, h⟩ | ⟨g, _, _, h, _⟩
      · exact absurd h hz
      · injection h with h; exact ⟨g, h⟩
    subst hA
    go_enter Try.func42, Try.ntmps42
    go_wp2_with fail
    go_loopw [1, 5] (fun k i wr => ∃ (j : Nat) (ys : List Value), j ≤ n ∧ i = .int .i64 j ∧ k = .int .i64 ((k0 + 7 * j : Nat) : Int) ∧ wr.ownsRow base 54 7 (.slice (some ⟨g, 0, none⟩) n c) n ys ∧
      Hid (ys.take (j * 7) = (Cls.marks k0 j).flatMap Cls.cells) ∧ w.grownBy wr (some g)) (fun _ i _ => n - (intOf i).toNat)
    case atStart => exact ⟨0, _, Nat.zero_le _, rfl, by simp, hx, Lib.hid (by simp [Cls.marks]), World.grownBy.refl w _⟩
    case round =>
      obtain ⟨j, ys, hj, rfl, rfl, hown, ht, hg⟩ := hrel
      clear hx
      by_cases hlt : j < n
      · have hyl : j * 7 + 6 < ys.length := by have := hown.1; omega
        have HM := Lib.hid (fun (i : Nat) (W : World) (hi : i ≤ 7) => markText_l (k0 + 7 * j + i) W (by omega) (by omega))
        have HT : Hid ((((((((ys.set (j * 7) (.string ⟨(mkT (k0 + 7 * j)).toArray⟩)).set (j * 7 + 1) (.int .i64 (((k0 + 7 * j : Nat) : Int) + 1))).set (j * 7 + 2) (.int .i64 (((k0 + 7 * j : Nat) : Int) + 2))).set (j * 7 + 3) (.int .i64 (((k0 + 7 * j : Nat) : Int) + 3))).set (j * 7 + 4) (.int .i64 (((k0 + 7 * j : Nat) : Int) + 4))).set (j * 7 + 5) (.int .i64 (((k0 + 7 * j : Nat) : Int) + 5))).set (j * 7 + 6) (.string ⟨(mkT (k0 + 7 * j + 6)).toArray⟩)).take ((j + 1) * 7) = (Cls.marks k0 (j + 1)).flatMap Cls.cells) := Lib.hid (by
          rw [set_cls hyl ht.out, Cls.marks_succ, List.flatMap_append]; simp [Cls.cells, Cls.mark])
        obtain ⟨K, hK⟩ : ∃ K, K = k0 + 7 * j := ⟨_, rfl⟩
        rw [← hK] at HM HT ⊢
        have HK : Hid (k0 + 7 * (j + 1) = K + 7) := Lib.hid (by omega)
        have hKb : K ≤ 1010000000 := by omega
        clear ht hK
        have G0 := Lib.hid hg
        have O0 := Lib.hid hown
        have HL := hyl
        clear hg hown
        go_wp2_with fail
        refine (HM.out 0 _ (by omega)).mono ?_
        rintro e w1 ⟨rfl, b1⟩
        have hown := own_below O0.out b1
        have G1 := Lib.hid (grown_below' G0.out (b1.mono G0.out.size))
        obtain ⟨o0, k0⟩ := own_at hown (j * 7) (by (try simp only [List.length_set]); omega)
        have f0 := hown.frozenAt (j * 7)
        obtain ⟨o1, k1⟩ := own_at hown (j * 7 + 1) (by (try simp only [List.length_set]); omega)
        have f1 := hown.frozenAt (j * 7 + 1)
        obtain ⟨o2, k2⟩ := own_at hown (j * 7 + 2) (by (try simp only [List.length_set]); omega)
        have f2 := hown.frozenAt (j * 7 + 2)
        obtain ⟨o3, k3⟩ := own_at hown (j * 7 + 3) (by (try simp only [List.length_set]); omega)
        have f3 := hown.frozenAt (j * 7 + 3)
        obtain ⟨o4, k4⟩ := own_at hown (j * 7 + 4) (by (try simp only [List.length_set]); omega)
        have f4 := hown.frozenAt (j * 7 + 4)
        obtain ⟨o5, k5⟩ := own_at hown (j * 7 + 5) (by (try simp only [List.length_set]); omega)
        have f5 := hown.frozenAt (j * 7 + 5)
        have S0 := hown.stored (j * 7) (.string ⟨(mkT (K)).toArray⟩)
        have S1 := S0.1.stored (j * 7 + 1) (.int .i64 ((K : Int) + 1))
        have S2 := S1.1.stored (j * 7 + 2) (.int .i64 ((K : Int) + 2))
        have S3 := S2.1.stored (j * 7 + 3) (.int .i64 ((K : Int) + 3))
        have S4 := S3.1.stored (j * 7 + 4) (.int .i64 ((K : Int) + 4))
        have S5 := S4.1.stored (j * 7 + 5) (.int .i64 ((K : Int) + 5))
        have O1 := Lib.hid S5.1
        have G1' := Lib.hid ((((((G1.out.trans S0.2).trans S1.2).trans S2.2).trans S3.2).trans S4.2).trans S5.2)
        clear G1 hown S0 S1 S2 S3 S4 S5
        have G1 := G1'
        clear G1'
        go_wp2_with fail
        refine (HM.out 6 _ (by omega)).mono ?_
        rintro e w2 ⟨rfl, b2⟩
        have hown := own_below O1.out b2
        have G2 := Lib.hid (grown_below' G1.out (b2.mono G1.out.size))
        obtain ⟨o6, k6⟩ := own_at hown (j * 7 + 6) (by (try simp only [List.length_set]); omega)
        have f6 := hown.frozenAt (j * 7 + 6)
        have S6 := hown.stored (j * 7 + 6) (.string ⟨(mkT (K + 6)).toArray⟩)
        have O2 := Lib.hid S6.1
        have G2' := Lib.hid (G2.out.trans S6.2)
        clear G2 hown S6
        have G2 := G2'
        clear G2'
        go_wp2_with fail
        go_roundw
        case rel => exact ⟨j + 1, _, by omega, by go_num, by rw [HK.out]; go_num, O2.out, HT, G2.out⟩
        case measure => simp [intOf]; omega
      · obtain rfl : j = n := by omega
        have HT : Hid (ys = (Cls.marks k0 j).flatMap Cls.cells) := Lib.hid (by
          have h1 := ht.out; have h2 := hown.1
          rwa [List.take_of_length_le (by omega)] at h1)
        clear ht
        go_wp2_with fail
        go_ret
        exact ⟨rfl, by have := HT.out; subst this; exact hown, hg⟩

end Go.Proofs.Ytjcklmhgjdmjoaa

