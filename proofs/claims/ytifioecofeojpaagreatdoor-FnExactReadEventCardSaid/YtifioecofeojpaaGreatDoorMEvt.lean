import Derived.Test.YtifioecofeojpaaGreatDoorMHeld
import Derived.ProofKit
import Derived.Deep.Slices
import Derived.Deep.Fields
import Derived.Deep.QuietTactic
import Derived.Deep.RegionHeld3
/- Event: rows of structs (by gen_struct.py). -/
namespace Go.Proofs.YtifioecofeojpaaGreatDoor
open Go.ChangeShapes Go.WideShapes Go.ChangeAt Go.RowKit
set_option linter.unusedVariables false

structure Evt where
  d : Int
  k : Int
  c : List UInt8
  a : Int
  p : Bool
  v : Bool
  r : Bool
  deriving DecidableEq
def Evt.cells (r : Evt) : List Value := [.int .i64 r.d, .int .i64 r.k, .string ⟨r.c.toArray⟩, .int .i64 r.a, .bool r.p, .bool r.v, .bool r.r]
def Evt.wf (r : Evt) : Prop := (Lit.int .i64 r.d).wf = true ∧ (Lit.int .i64 r.k).wf = true ∧ r.c.length ≤ maxLen ∧ (Lit.int .i64 r.a).wf = true
/-- How many letters. -/
def Evt.sz (r : Evt) : Nat := r.c.length
def EvtR (w : World) (A : Option Addr) (rs : List Evt) : Prop := Rw w A (rs.flatMap Evt.cells)
/-- The cells of one. -/
structure EvtC (W : World) (b o : Nat) (r : Evt) : Prop where
  c0 : W.cell? ⟨b, o, none⟩ = some (.int .i64 r.d)
  c1 : W.cell? ⟨b, o + 1, none⟩ = some (.int .i64 r.k)
  c2 : W.cell? ⟨b, o + 2, none⟩ = some (.string ⟨r.c.toArray⟩)
  c3 : W.cell? ⟨b, o + 3, none⟩ = some (.int .i64 r.a)
  c4 : W.cell? ⟨b, o + 4, none⟩ = some (.bool r.p)
  c5 : W.cell? ⟨b, o + 5, none⟩ = some (.bool r.v)
  c6 : W.cell? ⟨b, o + 6, none⟩ = some (.bool r.r)
theorem EvtC.below {w W : World} {b o : Nat} {r : Evt} (h : EvtC w b o r) (hl : b < w.heap.size) (hb : Below w.heap.size w W) : EvtC W b o r :=
  ⟨(hb.cell (p := ⟨b, o, none⟩) hl).trans h.c0, (hb.cell (p := ⟨b, o + 1, none⟩) hl).trans h.c1, (hb.cell (p := ⟨b, o + 2, none⟩) hl).trans h.c2, (hb.cell (p := ⟨b, o + 3, none⟩) hl).trans h.c3, (hb.cell (p := ⟨b, o + 4, none⟩) hl).trans h.c4, (hb.cell (p := ⟨b, o + 5, none⟩) hl).trans h.c5, (hb.cell (p := ⟨b, o + 6, none⟩) hl).trans h.c6⟩
theorem EvtC.belowB {w W : World} {B b o : Nat} {r : Evt} (h : EvtC w b o r) (hl : b < B) (hb : Below B w W) : EvtC W b o r :=
  ⟨(hb.cell (p := ⟨b, o, none⟩) hl).trans h.c0, (hb.cell (p := ⟨b, o + 1, none⟩) hl).trans h.c1, (hb.cell (p := ⟨b, o + 2, none⟩) hl).trans h.c2, (hb.cell (p := ⟨b, o + 3, none⟩) hl).trans h.c3, (hb.cell (p := ⟨b, o + 4, none⟩) hl).trans h.c4, (hb.cell (p := ⟨b, o + 5, none⟩) hl).trans h.c5, (hb.cell (p := ⟨b, o + 6, none⟩) hl).trans h.c6⟩
theorem EvtR.at {w : World} {A : Option Addr} {rs : List Evt} (h : EvtR w A rs) {k : Nat} (hk : k < rs.length) :
    ∃ b off r, A = some ⟨b, off, none⟩ ∧ b < w.heap.size ∧ Hid (rs[k]? = some r) ∧ EvtC w b (off + k * 7) r := by
  have hl := flat_len Evt.cells 7 (fun _ => rfl) rs
  obtain ⟨b, off, e, hb, hc⟩ := h (by rw [hl]; omega)
  have hr : rs[k]? = some rs[k] := List.getElem?_eq_getElem hk
  have g := fun j hj => hc (k * 7 + j) _ ((flat_at Evt.cells 7 (fun _ => rfl) rs k j _ hr hj).trans (List.getElem?_eq_getElem (by exact hj)))
  refine ⟨b, off, rs[k], e, hb, Lib.hid hr, ?_, ?_, ?_, ?_, ?_, ?_, ?_⟩
  · simpa [Evt.cells] using g 0 (by omega)
  · simpa [Evt.cells, Nat.add_assoc] using g 1 (by omega)
  · simpa [Evt.cells, Nat.add_assoc] using g 2 (by omega)
  · simpa [Evt.cells, Nat.add_assoc] using g 3 (by omega)
  · simpa [Evt.cells, Nat.add_assoc] using g 4 (by omega)
  · simpa [Evt.cells, Nat.add_assoc] using g 5 (by omega)
  · simpa [Evt.cells, Nat.add_assoc] using g 6 (by omega)
theorem EvtR.below {w w' : World} {A : Option Addr} {rs : List Evt} (h : EvtR w A rs) (hb : Below w.heap.size w w') : EvtR w' A rs := Rw.below h hb
theorem EvtR.keepB {w w' : World} {A : Option Addr} {rs : List Evt} {B : Nat} (h : EvtR w A rs) (hA : Bd A B) (hb : Below B w w') : EvtR w' A rs := Rw.keepB h hA hb
/-! ### a slice that came in -/
theorem list_evt {α : Type} {l : List α} (h : l.length = 7) : ∃ x0 x1 x2 x3 x4 x5 x6, l = [x0, x1, x2, x3, x4, x5, x6] := by
  match l, h with
  | [x0, x1, x2, x3, x4, x5, x6], _ => exact ⟨x0, x1, x2, x3, x4, x5, x6, rfl⟩
theorem evtR_of {H : Type} {enc : TypeId × Value → H} {w : World} {spare : Nat → Bool} {held : Bool} {t e : TypeId} {f0 f1 f2 f3 f4 f5 f6 : Field} {fuel : Nat} {A : Option Addr} {len cap : Nat} {x : DataW H × List MemPlace}
    (ht : Tryz.prog.underlying t = some (.slice e)) (he : Tryz.prog.underlying e = some (.struct #[f0, f1, f2, f3, f4, f5, f6])) (hC : Tryz.prog.cellsOf e = 7) (hone : Go.Deep.oneCellFields Tryz.prog #[f0, f1, f2, f3, f4, f5, f6] = true)
    (h0 : Tryz.prog.underlying f0.type = some (.int .i64)) (h1 : Tryz.prog.underlying f1.type = some (.int .i64)) (h2 : Tryz.prog.underlying f2.type = some (.string)) (h3 : Tryz.prog.underlying f3.type = some (.int .i64)) (h4 : Tryz.prog.underlying f4.type = some (.bool)) (h5 : Tryz.prog.underlying f5.type = some (.bool)) (h6 : Tryz.prog.underlying f6.type = some (.bool))
    (h : DataW.trod enc Tryz.prog w 0 spare held fuel t [.slice A len cap] = some x) :
    ∃ rs : List Evt, rs.length = len ∧ EvtR w A rs ∧ rs.length ≤ maxLen ∧ ∀ r ∈ rs, r.wf := by
  rcases Go.Deep.open_slice ht h with ⟨hcs, _⟩ | ⟨a, l, c, m, n, D, Pl, hcs, _, hlc, hcm, hmm, _, hel⟩
  · simp only [List.cons.injEq, Value.slice.injEq, and_true] at hcs
    obtain ⟨rfl, rfl, rfl⟩ := hcs
    exact ⟨[], rfl, fun hp => by simp at hp, by simp, fun r hr => by cases hr⟩
  · simp only [List.cons.injEq, Value.slice.injEq, and_true] at hcs
    obtain ⟨rfl, rfl, rfl⟩ := hcs
    have hlm : len ≤ m := by rw [hmm]; split <;> omega
    have key : ∀ i, i < len → ∃ r : Evt, r.wf ∧ ∀ j v, r.cells[j]? = some v → w.cell? (a.add (i * 7 + j)) = some v := by
      intro i hi
      obtain ⟨cs', hc, ht'⟩ := hel i (by omega)
      rw [hC] at hc
      obtain ⟨_, hcl, hat⟩ := World.cells?_some hc
      obtain ⟨ys, n', _, _, _, hyl, hf⟩ := DataW.trod_struct he ht'
      obtain ⟨o0, k0⟩ := Go.Deep.hone_of hone 0 f0 rfl
      obtain ⟨o1, k1⟩ := Go.Deep.hone_of hone 1 f1 rfl
      obtain ⟨o2, k2⟩ := Go.Deep.hone_of hone 2 f2 rfl
      obtain ⟨o3, k3⟩ := Go.Deep.hone_of hone 3 f3 rfl
      obtain ⟨o4, k4⟩ := Go.Deep.hone_of hone 4 f4 rfl
      obtain ⟨o5, k5⟩ := Go.Deep.hone_of hone 5 f5 rfl
      obtain ⟨o6, k6⟩ := Go.Deep.hone_of hone 6 f6 rfl
      obtain ⟨c0, c1, c2, c3, c4, c5, c6, rfl⟩ := list_evt hcl
      have g0 := hf 0 f0 rfl
      rw [o0, k0] at g0
      have g1 := hf 1 f1 rfl
      rw [o1, k1] at g1
      have g2 := hf 2 f2 rfl
      rw [o2, k2] at g2
      have g3 := hf 3 f3 rfl
      rw [o3, k3] at g3
      have g4 := hf 4 f4 rfl
      rw [o4, k4] at g4
      have g5 := hf 5 f5 rfl
      rw [o5, k5] at g5
      have g6 := hf 6 f6 rfl
      rw [o6, k6] at g6
      have hys : ∀ j, j < 7 → ∃ y, ys[j]? = some y := fun j hj => by
        have : ys.length = 7 := hyl.trans rfl
        exact ⟨_, List.getElem?_eq_getElem (by omega)⟩
      obtain ⟨y0, e0⟩ := hys 0 (by omega); rw [e0] at g0
      obtain ⟨y1, e1⟩ := hys 1 (by omega); rw [e1] at g1
      obtain ⟨y2, e2⟩ := hys 2 (by omega); rw [e2] at g2
      obtain ⟨y3, e3⟩ := hys 3 (by omega); rw [e3] at g3
      obtain ⟨y4, e4⟩ := hys 4 (by omega); rw [e4] at g4
      obtain ⟨y5, e5⟩ := hys 5 (by omega); rw [e5] at g5
      obtain ⟨y6, e6⟩ := hys 6 (by omega); rw [e6] at g6
      obtain ⟨z0, q0, _, w0⟩ := DataW.trod_int h0 g0
      obtain ⟨z1, q1, _, w1⟩ := DataW.trod_int h1 g1
      obtain ⟨z2, q2, _, w2⟩ := DataW.trod_string h2 g2
      obtain ⟨z3, q3, _, w3⟩ := DataW.trod_int h3 g3
      obtain ⟨z4, q4, _⟩ := DataW.trod_bool h4 g4
      obtain ⟨z5, q5, _⟩ := DataW.trod_bool h5 g5
      obtain ⟨z6, q6, _⟩ := DataW.trod_bool h6 g6
      simp at q0 q1 q2 q3 q4 q5 q6
      subst q0 q1 q2 q3 q4 q5 q6
      refine ⟨⟨z0, z1, z2.data.toList, z3, z4, z5, z6⟩, ⟨w0, w1, by simpa using w2, w3⟩, fun j v hj => ?_⟩
      have hj4 : j < 7 := (List.getElem?_eq_some_iff.1 hj).1
      rw [← Go.Deep.add_add]
      have := hat j hj4
      rw [this, ← hj]
      rfl
    obtain ⟨rs, hl, hr⟩ := pick_all key
    refine ⟨rs, hl, fun hp => ?_, by omega, fun r hr' => ?_⟩
    · rw [flat_len Evt.cells 7 (fun _ => rfl)] at hp
      have h00 := (hr 0 rs[0] (List.getElem?_eq_getElem (by omega))).2 0 _ rfl
      obtain ⟨b, off, spot⟩ := a
      have hspot : spot = none := by simpa [Addr.add] using World.cell?_spot h00
      subst hspot
      refine ⟨b, off, rfl, World.block_lt_of_cell? w _ h00, fun j v hj => ?_⟩
      obtain ⟨r, h5, h6⟩ := flat_some Evt.cells 7 (by decide) (fun _ => rfl) rs j v hj
      have := (hr _ r h5).2 _ v h6
      rw [Go.WideShapes.add_plain, Nat.mul_comm, Nat.div_add_mod] at this
      exact this
    · obtain ⟨i, hi⟩ := List.getElem?_of_mem hr'
      exact (hr i r hi).1
end Go.Proofs.YtifioecofeojpaaGreatDoor

/- laws.toEvent, szEvent, eqEvent, markEventS, heldEventS and their slices (by gen_struct.py). -/
namespace Go.Proofs.YtifioecofeojpaaGreatDoor
open Go.ChangeShapes Go.WideShapes Go.ChangeAt Go.RowKit
set_option linter.unusedVariables false

theorem eqEvent_same (r : Evt) (w : World) : Calls Tryz.prog 13 #[.agg #[.int .i64 r.d, .int .i64 r.k, .string ⟨r.c.toArray⟩, .int .i64 r.a, .bool r.p, .bool r.v, .bool r.r], .agg #[.int .i64 r.d, .int .i64 r.k, .string ⟨r.c.toArray⟩, .int .i64 r.a, .bool r.p, .bool r.v, .bool r.r]] w (Gives w (.bool true)) := by
  have B : ∀ o p, Hid (Below w.heap.size w ((w.alloc o).alloc p)) := fun o p => Lib.hid (((Below.refl _ _).alloc (Nat.le_refl _) _).alloc (by simp) _)
  have d0 : (r.d != r.d) = false := by simp
  have d1 : (r.k != r.k) = false := by simp
  have d2 : (r.c == r.c) = true := by simp
  have d3 : (r.a != r.a) = false := by simp
  have d4 : (r.p != r.p) = false := by simp
  have d5 : (r.v != r.v) = false := by simp
  have d6 : (r.r != r.r) = false := by simp
  go_enter Tryz.func13, Tryz.ntmps13
  go_wp2_with fail
  go_ret
  exact ⟨rfl, (B _ _).out⟩
def Evt.szl : List Evt → Int → Int
  | [], n => n
  | r :: rs, n => if n < 0 then n else Evt.szl rs (if n - (r.sz : Int) < 0 then -1 else n - (r.sz : Int))
def Evt.szT (rs : List Evt) (n : Int) : Int := if n - rs.length < 0 then -1 else Evt.szl rs (n - rs.length)
theorem Evt.szl_neg (rs : List Evt) : Evt.szl rs (-1) = -1 := by cases rs <;> rfl
theorem Evt.szl_bd : ∀ (rs : List Evt) (n : Int), 0 ≤ Evt.szl rs n → Evt.szl rs n ≤ n ∧ ∀ r ∈ rs, (r.sz : Int) ≤ n
  | [], n, h => ⟨Int.le_refl _, fun r hr => by cases hr⟩
  | r :: rs, n, h => by
    unfold Evt.szl at h ⊢
    by_cases hn : n < 0
    · rw [if_pos hn] at h; omega
    · rw [if_neg hn] at h ⊢
      by_cases h1 : n - (r.sz : Int) < 0
      · rw [if_pos h1, Evt.szl_neg] at h; omega
      · rw [if_neg h1] at h ⊢
        obtain ⟨h2, h3⟩ := Evt.szl_bd rs _ h
        refine ⟨by omega, fun q hq => ?_⟩
        rcases List.mem_cons.1 hq with rfl | hq
        · omega
        · have := h3 q hq; omega
theorem Evt.szT_bd {rs : List Evt} {n : Int} (h : 0 ≤ Evt.szT rs n) : Evt.szT rs n ≤ n ∧ (rs.length : Int) ≤ n ∧ ∀ r ∈ rs, (r.sz : Int) ≤ n := by
  unfold Evt.szT at h ⊢
  by_cases h1 : n - rs.length < 0
  · rw [if_pos h1] at h; omega
  · rw [if_neg h1] at h ⊢
    obtain ⟨h2, h3⟩ := Evt.szl_bd rs _ h
    exact ⟨by omega, by omega, fun r hr => by have := h3 r hr; omega⟩
theorem Evt.szT_ok {rs : List Evt} (h : ¬ Evt.szT rs 1048576 < 0) : rs.length ≤ 1048576 ∧ (∀ r ∈ rs, r.sz ≤ 1048576) ∧ Evt.szT rs 1048576 ≤ 1048576 := by
  obtain ⟨h0, h1, h2⟩ := Evt.szT_bd (by omega : 0 ≤ Evt.szT rs 1048576)
  exact ⟨by omega, fun r hr => by have := h2 r hr; omega, h0⟩
theorem Evt.szl_cons {r : Evt} {rs : List Evt} {m : Int} (hm : 0 ≤ m) : Evt.szl (r :: rs) m = Evt.szl rs (if m - (r.sz : Int) < 0 then -1 else m - (r.sz : Int)) := by rw [Evt.szl, if_neg (by omega)]
/-! ### a row of the call's own -/
theorem evtInfo : (Tryz.prog.info? 25).map (fun i => (i.zero, i.size, i.bytes)) = some (some (.agg #[.int .i64 0, .int .i64 0, .string ⟨#[]⟩, .int .i64 0, .bool false, .bool false, .bool false]), 7, 48) := by kernel_rfl
def EvtO (w : World) (base : Nat) (A : Option Addr) (n c : Nat) (rs : List Evt) : Prop := w.ownsRow base 25 7 (.slice A n c) n (rs.flatMap Evt.cells)
section
variable {w w' : World} {base : Nat} {A : Option Addr} {n c : Nat} {rs : List Evt}
theorem EvtO.len (h : EvtO w base A n c rs) : rs.length = n := by
  have := h.1; rw [flat_len Evt.cells 7 (fun _ => rfl)] at this; omega
theorem EvtO.row (h : EvtO w base A n c rs) : EvtR w A rs := Rw.ownS h
theorem EvtO.bd (h : EvtO w base A n c rs) : Bd A w.heap.size := fun a e => (h.lt a.block (by rw [e]; rfl)).2
theorem EvtO.lo (h : EvtO w base A n c rs) : ∀ k, (Value.slice A n c).ownBlock = some k → base ≤ k := fun k e => (h.lt k e).1
theorem EvtO.below (h : EvtO w base A n c rs) (hb : Below w.heap.size w w') : EvtO w' base A n c rs := own_below h hb
theorem EvtO.mono {base' : Nat} (h : EvtO w base A n c rs) (hb : base' ≤ base) : EvtO w base' A n c rs := by
  refine ⟨h.1, h.2.imp id ?_⟩
  rintro ⟨g, cap, cur, h1, h2, h3⟩
  exact ⟨g, cap, cur, h1, by omega, h3⟩
theorem EvtO.kept {B : Option Addr} {m d : Nat} (h : EvtO w base A n c rs) (hg : w.grownBy w' (Value.slice B m d).ownBlock) (hB : Bd B base) : EvtO w' base A n c rs :=
  World.ownsRow.kept h hg (by
    cases A with
    | none => exact .inl rfl
    | some a =>
      right
      cases B with
      | none => simp [Value.ownBlock]
      | some b =>
        intro e
        have h1 := h.lo a.block rfl
        have h2 := hB b rfl
        simp [Value.ownBlock] at e
        omega)
theorem EvtO.far {B : Nat} (h : EvtO w base A n c rs) (hg : w.grownBy w' (Value.slice A n c).ownBlock) (hB : B ≤ base) (hs : B ≤ w.heap.size) : Below B w w' :=
  (Below.refl _ _).grown hg hs (fun k e => Nat.le_trans hB (h.lo k e))
theorem EvtO.wrote {W : World} {B : Nat} (hW : Below B W w) (h : EvtO w base A n c rs) (hg : w.grownBy w' (Value.slice A n c).ownBlock) (hB : B ≤ base) (hs : B ≤ w.heap.size) : Below B W w' :=
  hW.grown hg hs (fun k e => Nat.le_trans hB (h.lo k e))
end
def NewEvts (w : World) (rs : List Evt) (e : Ending) (w' : World) : Prop :=
  ∃ A c, e = .returned (.slice A rs.length c) ∧ EvtO w' w.heap.size A rs.length c rs ∧ Below w.heap.size w w'
def NewEvtsC (w : World) (p : List Evt × Int) (e : Ending) (w' : World) : Prop :=
  ∃ A c, e = .returned (.tuple #[.slice A p.1.length c, .int .i64 p.2]) ∧ EvtO w' w.heap.size A p.1.length c p.1 ∧ Below w.heap.size w w'
theorem set_evt {ys : List Value} {k : Nat} (hk : k * 7 + 6 < ys.length) {v0 v1 v2 v3 v4 v5 v6 : Value} {P : List Value} (h : ys.take (k * 7) = P) :
    (((((((ys.set (k * 7) (v0)).set (k * 7 + 1) (v1)).set (k * 7 + 2) (v2)).set (k * 7 + 3) (v3)).set (k * 7 + 4) (v4)).set (k * 7 + 5) (v5)).set (k * 7 + 6) (v6)).take ((k + 1) * 7) = P ++ [v0, v1, v2, v3, v4, v5, v6] := by
  apply List.ext_getElem?
  intro j
  subst h
  rw [List.getElem?_take, List.getElem?_append, List.length_take, Nat.min_eq_left (by omega)]
  by_cases h1 : j < k * 7
  · rw [if_pos (by omega), if_pos h1, List.getElem?_take, if_pos h1]
    rw [List.getElem?_set_ne (by omega), List.getElem?_set_ne (by omega), List.getElem?_set_ne (by omega), List.getElem?_set_ne (by omega), List.getElem?_set_ne (by omega), List.getElem?_set_ne (by omega), List.getElem?_set_ne (by omega)]
  · rw [if_neg h1]
    by_cases h2 : j < (k + 1) * 7
    · rw [if_pos h2]
      have : j = k * 7 ∨ j = k * 7 + 1 ∨ j = k * 7 + 2 ∨ j = k * 7 + 3 ∨ j = k * 7 + 4 ∨ j = k * 7 + 5 ∨ j = k * 7 + 6 := by omega
      rcases this with rfl | rfl | rfl | rfl | rfl | rfl | rfl
      · rw [List.getElem?_set_ne (by omega), List.getElem?_set_ne (by omega), List.getElem?_set_ne (by omega), List.getElem?_set_ne (by omega), List.getElem?_set_ne (by omega), List.getElem?_set_ne (by omega), List.getElem?_set_self (by (try simp only [List.length_set]); omega), Nat.sub_self]; rfl
      · rw [List.getElem?_set_ne (by omega), List.getElem?_set_ne (by omega), List.getElem?_set_ne (by omega), List.getElem?_set_ne (by omega), List.getElem?_set_ne (by omega), List.getElem?_set_self (by (try simp only [List.length_set]); omega), show k * 7 + 1 - k * 7 = 1 by omega]; rfl
      · rw [List.getElem?_set_ne (by omega), List.getElem?_set_ne (by omega), List.getElem?_set_ne (by omega), List.getElem?_set_ne (by omega), List.getElem?_set_self (by (try simp only [List.length_set]); omega), show k * 7 + 2 - k * 7 = 2 by omega]; rfl
      · rw [List.getElem?_set_ne (by omega), List.getElem?_set_ne (by omega), List.getElem?_set_ne (by omega), List.getElem?_set_self (by (try simp only [List.length_set]); omega), show k * 7 + 3 - k * 7 = 3 by omega]; rfl
      · rw [List.getElem?_set_ne (by omega), List.getElem?_set_ne (by omega), List.getElem?_set_self (by (try simp only [List.length_set]); omega), show k * 7 + 4 - k * 7 = 4 by omega]; rfl
      · rw [List.getElem?_set_ne (by omega), List.getElem?_set_self (by (try simp only [List.length_set]); omega), show k * 7 + 5 - k * 7 = 5 by omega]; rfl
      · rw [List.getElem?_set_self (by (try simp only [List.length_set]); omega), show k * 7 + 6 - k * 7 = 6 by omega]; rfl
    · rw [if_neg h2, List.getElem?_eq_none (by simp; omega)]
theorem stored_evt {w : World} {base g n c : Nat} {e : TypeId} {xs : List Value} (h : w.ownsRow base e 7 (.slice (some ⟨g, 0, none⟩) n c) n xs) (j : Nat) (v0 v1 v2 v3 v4 v5 v6 : Value) :
    (((((((w.setCell ⟨g, j, none⟩ (v0)).setCell ⟨g, j + 1, none⟩ (v1)).setCell ⟨g, j + 2, none⟩ (v2)).setCell ⟨g, j + 3, none⟩ (v3)).setCell ⟨g, j + 4, none⟩ (v4)).setCell ⟨g, j + 5, none⟩ (v5)).setCell ⟨g, j + 6, none⟩ (v6)).ownsRow base e 7 (.slice (some ⟨g, 0, none⟩) n c) n (((((((xs.set (j) (v0)).set (j + 1) (v1)).set (j + 2) (v2)).set (j + 3) (v3)).set (j + 4) (v4)).set (j + 5) (v5)).set (j + 6) (v6)) ∧
    w.grownBy (((((((w.setCell ⟨g, j, none⟩ (v0)).setCell ⟨g, j + 1, none⟩ (v1)).setCell ⟨g, j + 2, none⟩ (v2)).setCell ⟨g, j + 3, none⟩ (v3)).setCell ⟨g, j + 4, none⟩ (v4)).setCell ⟨g, j + 5, none⟩ (v5)).setCell ⟨g, j + 6, none⟩ (v6)) (some g) := by
  have h1 := h.stored (j) v0
  have h2 := h1.1.stored (j + 1) v1
  have h3 := h2.1.stored (j + 2) v2
  have h4 := h3.1.stored (j + 3) v3
  have h5 := h4.1.stored (j + 4) v4
  have h6 := h5.1.stored (j + 5) v5
  have h7 := h6.1.stored (j + 6) v6
  exact ⟨h7.1, ((((((h1.2.trans h2.2).trans h3.2).trans h4.2).trans h5.2).trans h6.2).trans h7.2)⟩
/-- The mark of a bool. -/
def mkB (n : Int) : Bool := n.tmod 3 == 0
theorem mkB_no {n m : Int} (h : 0 ≤ n) (e : n = m) : (!(mkB n == (m % 3 == 0))) = false := by
  subst e; unfold mkB; rw [Int.tmod_eq_emod_of_nonneg h]; simp
def Evt.mark (k : Nat) : Evt := ⟨(k : Int), (k : Int) + 1, mkT (k + 2), (k : Int) + 3, mkB ((k : Int) + 4), mkB ((k : Int) + 5), mkB ((k : Int) + 6)⟩
def Evt.marks (k : Nat) (n : Nat) : List Evt := (List.range n).map fun j => Evt.mark (k + 7 * j)
theorem Evt.marks_len (k : Nat) (n : Nat) : (Evt.marks k n).length = n := by simp [Evt.marks]
theorem Evt.marks_at {k : Nat} {n j : Nat} (h : j < n) : (Evt.marks k n)[j]? = some (Evt.mark (k + 7 * j)) := by simp [Evt.marks, h]
theorem Evt.marks_succ (k : Nat) (n : Nat) : Evt.marks k (n + 1) = Evt.marks k n ++ [Evt.mark (k + 7 * n)] := by simp [Evt.marks, List.range_succ]
def MarkedEvt (w : World) (base : Nat) (A : Option Addr) (n c : Nat) (k : Nat) (e : Ending) (w' : World) : Prop :=
  e = .returned (.int .i64 ((k + 7 * n : Nat) : Int)) ∧ EvtO w' base A n c (Evt.marks k n) ∧ w.grownBy w' (Value.slice A n c).ownBlock
end Go.Proofs.YtifioecofeojpaaGreatDoor

