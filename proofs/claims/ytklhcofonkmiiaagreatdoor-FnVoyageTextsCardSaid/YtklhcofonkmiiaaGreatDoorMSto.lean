import Derived.Test.YtklhcofonkmiiaaGreatDoorStrs
import Derived.ProofKit
import Derived.Deep.Slices
import Derived.Deep.Fields
import Derived.Test.YtklhcofonkmiiaaGreatDoorMark
import Derived.Test.YtklhcofonkmiiaaGreatDoorHeld
import Derived.Deep.QuietTactic
import Derived.Deep.RegionHeld3
import Derived.Test.YtklhcofonkmiiaaGreatDoorPcode
import Derived.Test.YtklhcofonkmiiaaGreatDoorArd
/- Stop: rows of structs (by gen_struct.py). -/
namespace Go.Proofs.YtklhcofonkmiiaaGreatDoor
open Go.ChangeShapes Go.WideShapes Go.ChangeAt Go.RowKit
set_option linter.unusedVariables false

structure Sto where
  p : List UInt8
  i : Int
  o : Int
  deriving DecidableEq
def Sto.cells (r : Sto) : List Value := [.string ⟨r.p.toArray⟩, .int .i64 r.i, .int .i64 r.o]
def Sto.wf (r : Sto) : Prop := r.p.length ≤ maxLen ∧ (Lit.int .i64 r.i).wf = true ∧ (Lit.int .i64 r.o).wf = true
/-- How many letters. -/
def Sto.sz (r : Sto) : Nat := r.p.length
def StoR (w : World) (A : Option Addr) (rs : List Sto) : Prop := Rw w A (rs.flatMap Sto.cells)
/-- The cells of one. -/
structure StoC (W : World) (b o : Nat) (r : Sto) : Prop where
  c0 : W.cell? ⟨b, o, none⟩ = some (.string ⟨r.p.toArray⟩)
  c1 : W.cell? ⟨b, o + 1, none⟩ = some (.int .i64 r.i)
  c2 : W.cell? ⟨b, o + 2, none⟩ = some (.int .i64 r.o)
theorem StoC.below {w W : World} {b o : Nat} {r : Sto} (h : StoC w b o r) (hl : b < w.heap.size) (hb : Below w.heap.size w W) : StoC W b o r :=
  ⟨(hb.cell (p := ⟨b, o, none⟩) hl).trans h.c0, (hb.cell (p := ⟨b, o + 1, none⟩) hl).trans h.c1, (hb.cell (p := ⟨b, o + 2, none⟩) hl).trans h.c2⟩
theorem StoC.belowB {w W : World} {B b o : Nat} {r : Sto} (h : StoC w b o r) (hl : b < B) (hb : Below B w W) : StoC W b o r :=
  ⟨(hb.cell (p := ⟨b, o, none⟩) hl).trans h.c0, (hb.cell (p := ⟨b, o + 1, none⟩) hl).trans h.c1, (hb.cell (p := ⟨b, o + 2, none⟩) hl).trans h.c2⟩
theorem StoR.at {w : World} {A : Option Addr} {rs : List Sto} (h : StoR w A rs) {k : Nat} (hk : k < rs.length) :
    ∃ b off r, A = some ⟨b, off, none⟩ ∧ b < w.heap.size ∧ Hid (rs[k]? = some r) ∧ StoC w b (off + k * 3) r := by
  have hl := flat_len Sto.cells 3 (fun _ => rfl) rs
  obtain ⟨b, off, e, hb, hc⟩ := h (by rw [hl]; omega)
  have hr : rs[k]? = some rs[k] := List.getElem?_eq_getElem hk
  have g := fun j hj => hc (k * 3 + j) _ ((flat_at Sto.cells 3 (fun _ => rfl) rs k j _ hr hj).trans (List.getElem?_eq_getElem (by exact hj)))
  refine ⟨b, off, rs[k], e, hb, Lib.hid hr, ?_, ?_, ?_⟩
  · simpa [Sto.cells] using g 0 (by omega)
  · simpa [Sto.cells, Nat.add_assoc] using g 1 (by omega)
  · simpa [Sto.cells, Nat.add_assoc] using g 2 (by omega)
theorem StoR.below {w w' : World} {A : Option Addr} {rs : List Sto} (h : StoR w A rs) (hb : Below w.heap.size w w') : StoR w' A rs := Rw.below h hb
theorem StoR.keepB {w w' : World} {A : Option Addr} {rs : List Sto} {B : Nat} (h : StoR w A rs) (hA : Bd A B) (hb : Below B w w') : StoR w' A rs := Rw.keepB h hA hb
/-! ### a slice that came in -/
theorem list_sto {α : Type} {l : List α} (h : l.length = 3) : ∃ x0 x1 x2, l = [x0, x1, x2] := by
  match l, h with
  | [x0, x1, x2], _ => exact ⟨x0, x1, x2, rfl⟩
theorem stoR_of {H : Type} {enc : TypeId × Value → H} {w : World} {spare : Nat → Bool} {held : Bool} {t e : TypeId} {f0 f1 f2 : Field} {fuel : Nat} {A : Option Addr} {len cap : Nat} {x : DataW H × List MemPlace}
    (ht : Tryz.prog.underlying t = some (.slice e)) (he : Tryz.prog.underlying e = some (.struct #[f0, f1, f2])) (hC : Tryz.prog.cellsOf e = 3) (hone : Go.Deep.oneCellFields Tryz.prog #[f0, f1, f2] = true)
    (h0 : Tryz.prog.underlying f0.type = some (.string)) (h1 : Tryz.prog.underlying f1.type = some (.int .i64)) (h2 : Tryz.prog.underlying f2.type = some (.int .i64))
    (h : DataW.trod enc Tryz.prog w 0 spare held fuel t [.slice A len cap] = some x) :
    ∃ rs : List Sto, rs.length = len ∧ StoR w A rs ∧ rs.length ≤ maxLen ∧ ∀ r ∈ rs, r.wf := by
  rcases Go.Deep.open_slice ht h with ⟨hcs, _⟩ | ⟨a, l, c, m, n, D, Pl, hcs, _, hlc, hcm, hmm, _, hel⟩
  · simp only [List.cons.injEq, Value.slice.injEq, and_true] at hcs
    obtain ⟨rfl, rfl, rfl⟩ := hcs
    exact ⟨[], rfl, fun hp => by simp at hp, by simp, fun r hr => by cases hr⟩
  · simp only [List.cons.injEq, Value.slice.injEq, and_true] at hcs
    obtain ⟨rfl, rfl, rfl⟩ := hcs
    have hlm : len ≤ m := by rw [hmm]; split <;> omega
    have key : ∀ i, i < len → ∃ r : Sto, r.wf ∧ ∀ j v, r.cells[j]? = some v → w.cell? (a.add (i * 3 + j)) = some v := by
      intro i hi
      obtain ⟨cs', hc, ht'⟩ := hel i (by omega)
      rw [hC] at hc
      obtain ⟨_, hcl, hat⟩ := World.cells?_some hc
      obtain ⟨ys, n', _, _, _, hyl, hf⟩ := DataW.trod_struct he ht'
      obtain ⟨o0, k0⟩ := Go.Deep.hone_of hone 0 f0 rfl
      obtain ⟨o1, k1⟩ := Go.Deep.hone_of hone 1 f1 rfl
      obtain ⟨o2, k2⟩ := Go.Deep.hone_of hone 2 f2 rfl
      obtain ⟨c0, c1, c2, rfl⟩ := list_sto hcl
      have g0 := hf 0 f0 rfl
      rw [o0, k0] at g0
      have g1 := hf 1 f1 rfl
      rw [o1, k1] at g1
      have g2 := hf 2 f2 rfl
      rw [o2, k2] at g2
      have hys : ∀ j, j < 3 → ∃ y, ys[j]? = some y := fun j hj => by
        have : ys.length = 3 := hyl.trans rfl
        exact ⟨_, List.getElem?_eq_getElem (by omega)⟩
      obtain ⟨y0, e0⟩ := hys 0 (by omega); rw [e0] at g0
      obtain ⟨y1, e1⟩ := hys 1 (by omega); rw [e1] at g1
      obtain ⟨y2, e2⟩ := hys 2 (by omega); rw [e2] at g2
      obtain ⟨z0, q0, _, w0⟩ := DataW.trod_string h0 g0
      obtain ⟨z1, q1, _, w1⟩ := DataW.trod_int h1 g1
      obtain ⟨z2, q2, _, w2⟩ := DataW.trod_int h2 g2
      simp at q0 q1 q2
      subst q0 q1 q2
      refine ⟨⟨z0.data.toList, z1, z2⟩, ⟨by simpa using w0, w1, w2⟩, fun j v hj => ?_⟩
      have hj4 : j < 3 := (List.getElem?_eq_some_iff.1 hj).1
      rw [← Go.Deep.add_add]
      have := hat j hj4
      rw [this, ← hj]
      rfl
    obtain ⟨rs, hl, hr⟩ := pick_all key
    refine ⟨rs, hl, fun hp => ?_, by omega, fun r hr' => ?_⟩
    · rw [flat_len Sto.cells 3 (fun _ => rfl)] at hp
      have h00 := (hr 0 rs[0] (List.getElem?_eq_getElem (by omega))).2 0 _ rfl
      obtain ⟨b, off, spot⟩ := a
      have hspot : spot = none := by simpa [Addr.add] using World.cell?_spot h00
      subst hspot
      refine ⟨b, off, rfl, World.block_lt_of_cell? w _ h00, fun j v hj => ?_⟩
      obtain ⟨r, h5, h6⟩ := flat_some Sto.cells 3 (by decide) (fun _ => rfl) rs j v hj
      have := (hr _ r h5).2 _ v h6
      rw [Go.WideShapes.add_plain, Nat.mul_comm, Nat.div_add_mod] at this
      exact this
    · obtain ⟨i, hi⟩ := List.getElem?_of_mem hr'
      exact (hr i r hi).1
end Go.Proofs.YtklhcofonkmiiaaGreatDoor

/- laws.toStop, szStop, eqStop, markStopS, heldStopS and their slices (by gen_struct.py). -/
namespace Go.Proofs.YtklhcofonkmiiaaGreatDoor
open Go.ChangeShapes Go.WideShapes Go.ChangeAt Go.RowKit
set_option linter.unusedVariables false

theorem eqStop_same (r : Sto) (w : World) : Calls Tryz.prog 32 #[.agg #[.string ⟨r.p.toArray⟩, .int .i64 r.i, .int .i64 r.o], .agg #[.string ⟨r.p.toArray⟩, .int .i64 r.i, .int .i64 r.o]] w (Gives w (.bool true)) := by
  have B : ∀ o p, Hid (Below w.heap.size w ((w.alloc o).alloc p)) := fun o p => Lib.hid (((Below.refl _ _).alloc (Nat.le_refl _) _).alloc (by simp) _)
  have d0 : (r.p == r.p) = true := by simp
  have d1 : (r.i != r.i) = false := by simp
  have d2 : (r.o != r.o) = false := by simp
  go_enter Tryz.func32, Tryz.ntmps32
  go_wp2_with fail
  go_ret
  exact ⟨rfl, (B _ _).out⟩
def Sto.szl : List Sto → Int → Int
  | [], n => n
  | r :: rs, n => if n < 0 then n else Sto.szl rs (if n - (r.sz : Int) < 0 then -1 else n - (r.sz : Int))
def Sto.szT (rs : List Sto) (n : Int) : Int := if n - rs.length < 0 then -1 else Sto.szl rs (n - rs.length)
theorem Sto.szl_neg (rs : List Sto) : Sto.szl rs (-1) = -1 := by cases rs <;> rfl
theorem Sto.szl_bd : ∀ (rs : List Sto) (n : Int), 0 ≤ Sto.szl rs n → Sto.szl rs n ≤ n ∧ ∀ r ∈ rs, (r.sz : Int) ≤ n
  | [], n, h => ⟨Int.le_refl _, fun r hr => by cases hr⟩
  | r :: rs, n, h => by
    unfold Sto.szl at h ⊢
    by_cases hn : n < 0
    · rw [if_pos hn] at h; omega
    · rw [if_neg hn] at h ⊢
      by_cases h1 : n - (r.sz : Int) < 0
      · rw [if_pos h1, Sto.szl_neg] at h; omega
      · rw [if_neg h1] at h ⊢
        obtain ⟨h2, h3⟩ := Sto.szl_bd rs _ h
        refine ⟨by omega, fun q hq => ?_⟩
        rcases List.mem_cons.1 hq with rfl | hq
        · omega
        · have := h3 q hq; omega
theorem Sto.szT_bd {rs : List Sto} {n : Int} (h : 0 ≤ Sto.szT rs n) : Sto.szT rs n ≤ n ∧ (rs.length : Int) ≤ n ∧ ∀ r ∈ rs, (r.sz : Int) ≤ n := by
  unfold Sto.szT at h ⊢
  by_cases h1 : n - rs.length < 0
  · rw [if_pos h1] at h; omega
  · rw [if_neg h1] at h ⊢
    obtain ⟨h2, h3⟩ := Sto.szl_bd rs _ h
    exact ⟨by omega, by omega, fun r hr => by have := h3 r hr; omega⟩
theorem Sto.szT_ok {rs : List Sto} (h : ¬ Sto.szT rs 1048576 < 0) : rs.length ≤ 1048576 ∧ (∀ r ∈ rs, r.sz ≤ 1048576) ∧ Sto.szT rs 1048576 ≤ 1048576 := by
  obtain ⟨h0, h1, h2⟩ := Sto.szT_bd (by omega : 0 ≤ Sto.szT rs 1048576)
  exact ⟨by omega, fun r hr => by have := h2 r hr; omega, h0⟩
theorem Sto.szl_cons {r : Sto} {rs : List Sto} {m : Int} (hm : 0 ≤ m) : Sto.szl (r :: rs) m = Sto.szl rs (if m - (r.sz : Int) < 0 then -1 else m - (r.sz : Int)) := by rw [Sto.szl, if_neg (by omega)]
/-! ### a row of the call's own -/
theorem stoInfo : (Tryz.prog.info? 40).map (fun i => (i.zero, i.size, i.bytes)) = some (some (.agg #[.string ⟨#[]⟩, .int .i64 0, .int .i64 0]), 3, 32) := by kernel_rfl
def StoO (w : World) (base : Nat) (A : Option Addr) (n c : Nat) (rs : List Sto) : Prop := w.ownsRow base 40 3 (.slice A n c) n (rs.flatMap Sto.cells)
section
variable {w w' : World} {base : Nat} {A : Option Addr} {n c : Nat} {rs : List Sto}
theorem StoO.len (h : StoO w base A n c rs) : rs.length = n := by
  have := h.1; rw [flat_len Sto.cells 3 (fun _ => rfl)] at this; omega
theorem StoO.row (h : StoO w base A n c rs) : StoR w A rs := Rw.ownS h
theorem StoO.bd (h : StoO w base A n c rs) : Bd A w.heap.size := fun a e => (h.lt a.block (by rw [e]; rfl)).2
theorem StoO.lo (h : StoO w base A n c rs) : ∀ k, (Value.slice A n c).ownBlock = some k → base ≤ k := fun k e => (h.lt k e).1
theorem StoO.below (h : StoO w base A n c rs) (hb : Below w.heap.size w w') : StoO w' base A n c rs := own_below h hb
theorem StoO.mono {base' : Nat} (h : StoO w base A n c rs) (hb : base' ≤ base) : StoO w base' A n c rs := by
  refine ⟨h.1, h.2.imp id ?_⟩
  rintro ⟨g, cap, cur, h1, h2, h3⟩
  exact ⟨g, cap, cur, h1, by omega, h3⟩
theorem StoO.kept {B : Option Addr} {m d : Nat} (h : StoO w base A n c rs) (hg : w.grownBy w' (Value.slice B m d).ownBlock) (hB : Bd B base) : StoO w' base A n c rs :=
  World.ownsRow.kept h hg (by
    cases A with
    | none => exact .inl rfl
    | some a =>
      right
      cases B with
      | none => simp [Value.ownBlock]
      | some b =>
        intro e
        have h1 := h.lo a.block rfl
        have h2 := hB b rfl
        simp [Value.ownBlock] at e
        omega)
theorem StoO.far {B : Nat} (h : StoO w base A n c rs) (hg : w.grownBy w' (Value.slice A n c).ownBlock) (hB : B ≤ base) (hs : B ≤ w.heap.size) : Below B w w' :=
  (Below.refl _ _).grown hg hs (fun k e => Nat.le_trans hB (h.lo k e))
theorem StoO.wrote {W : World} {B : Nat} (hW : Below B W w) (h : StoO w base A n c rs) (hg : w.grownBy w' (Value.slice A n c).ownBlock) (hB : B ≤ base) (hs : B ≤ w.heap.size) : Below B W w' :=
  hW.grown hg hs (fun k e => Nat.le_trans hB (h.lo k e))
end
def NewStos (w : World) (rs : List Sto) (e : Ending) (w' : World) : Prop :=
  ∃ A c, e = .returned (.slice A rs.length c) ∧ StoO w' w.heap.size A rs.length c rs ∧ Below w.heap.size w w'
def NewStosC (w : World) (p : List Sto × Int) (e : Ending) (w' : World) : Prop :=
  ∃ A c, e = .returned (.tuple #[.slice A p.1.length c, .int .i64 p.2]) ∧ StoO w' w.heap.size A p.1.length c p.1 ∧ Below w.heap.size w w'
theorem set_sto {ys : List Value} {k : Nat} (hk : k * 3 + 2 < ys.length) {v0 v1 v2 : Value} {P : List Value} (h : ys.take (k * 3) = P) :
    (((ys.set (k * 3) (v0)).set (k * 3 + 1) (v1)).set (k * 3 + 2) (v2)).take ((k + 1) * 3) = P ++ [v0, v1, v2] := by
  apply List.ext_getElem?
  intro j
  subst h
  rw [List.getElem?_take, List.getElem?_append, List.length_take, Nat.min_eq_left (by omega)]
  by_cases h1 : j < k * 3
  · rw [if_pos (by omega), if_pos h1, List.getElem?_take, if_pos h1]
    rw [List.getElem?_set_ne (by omega), List.getElem?_set_ne (by omega), List.getElem?_set_ne (by omega)]
  · rw [if_neg h1]
    by_cases h2 : j < (k + 1) * 3
    · rw [if_pos h2]
      have : j = k * 3 ∨ j = k * 3 + 1 ∨ j = k * 3 + 2 := by omega
      rcases this with rfl | rfl | rfl
      · rw [List.getElem?_set_ne (by omega), List.getElem?_set_ne (by omega), List.getElem?_set_self (by (try simp only [List.length_set]); omega), Nat.sub_self]; rfl
      · rw [List.getElem?_set_ne (by omega), List.getElem?_set_self (by (try simp only [List.length_set]); omega), show k * 3 + 1 - k * 3 = 1 by omega]; rfl
      · rw [List.getElem?_set_self (by (try simp only [List.length_set]); omega), show k * 3 + 2 - k * 3 = 2 by omega]; rfl
    · rw [if_neg h2, List.getElem?_eq_none (by simp; omega)]
theorem stored_sto {w : World} {base g n c : Nat} {e : TypeId} {xs : List Value} (h : w.ownsRow base e 3 (.slice (some ⟨g, 0, none⟩) n c) n xs) (j : Nat) (v0 v1 v2 : Value) :
    (((w.setCell ⟨g, j, none⟩ (v0)).setCell ⟨g, j + 1, none⟩ (v1)).setCell ⟨g, j + 2, none⟩ (v2)).ownsRow base e 3 (.slice (some ⟨g, 0, none⟩) n c) n (((xs.set (j) (v0)).set (j + 1) (v1)).set (j + 2) (v2)) ∧
    w.grownBy (((w.setCell ⟨g, j, none⟩ (v0)).setCell ⟨g, j + 1, none⟩ (v1)).setCell ⟨g, j + 2, none⟩ (v2)) (some g) := by
  have h1 := h.stored (j) v0
  have h2 := h1.1.stored (j + 1) v1
  have h3 := h2.1.stored (j + 2) v2
  exact ⟨h3.1, ((h1.2.trans h2.2).trans h3.2)⟩
set_option maxHeartbeats 2000000 in
theorem eqStopS_l (A B : Option Addr) (n m c d : Nat) (rs : List Sto) (w : World) (hx : StoR w A rs) (hy : StoR w B rs) (hn1 : rs.length = n) (hm1 : rs.length = m) (hn : n ≤ 1000000000) :
    Calls Tryz.prog 14 #[.slice A n c, .slice B m d] w (Gives w (.bool true)) := by
  subst hn1 hm1
  go_enter Tryz.func14, Tryz.ntmps14
  go_wp2_with fail
  go_loopw [5] (fun i wr => ∃ k : Nat, k ≤ rs.length ∧ i = .int .i64 k ∧ Below w.heap.size w wr) (fun i _ => rs.length - (intOf i).toNat)
  case atStart => exact ⟨0, Nat.zero_le _, rfl, Below.refl _ _⟩
  case round =>
    obtain ⟨k, hk, rfl, hb⟩ := hrel
    by_cases hlt : k < rs.length
    · obtain ⟨b, off, r, rfl, hl, hr, h4⟩ := (hx.below hb).at hlt
      obtain ⟨b', off', q, rfl, hl', hq, h4'⟩ := (hy.below hb).at hlt
      obtain rfl : r = q := by have h1 := hr.out; have h2 := hq.out; rw [h1] at h2; exact Option.some.inj h2
      have q0 : ∀ y : Sub (Bel wr), y.w.cell? ⟨b, off + k * 3, none⟩ = some (.string ⟨r.p.toArray⟩) := fun y => (h4.below hl y.h).c0
      have p0 : ∀ y : Sub (Bel wr), y.w.cell? ⟨b', off' + k * 3, none⟩ = some (.string ⟨r.p.toArray⟩) := fun y => (h4'.below hl' y.h).c0
      have q1 : ∀ y : Sub (Bel wr), y.w.cell? ⟨b, off + k * 3 + 1, none⟩ = some (.int .i64 r.i) := fun y => (h4.below hl y.h).c1
      have p1 : ∀ y : Sub (Bel wr), y.w.cell? ⟨b', off' + k * 3 + 1, none⟩ = some (.int .i64 r.i) := fun y => (h4'.below hl' y.h).c1
      have q2 : ∀ y : Sub (Bel wr), y.w.cell? ⟨b, off + k * 3 + 2, none⟩ = some (.int .i64 r.o) := fun y => (h4.below hl y.h).c2
      have p2 : ∀ y : Sub (Bel wr), y.w.cell? ⟨b', off' + k * 3 + 2, none⟩ = some (.int .i64 r.o) := fun y => (h4'.below hl' y.h).c2
      have HB := Lib.hid (fun y : Sub (Bel wr) => (belowGo hb y.h : Below w.heap.size w y.w))
      have HE := Lib.hid (fun y : Sub (Bel wr) => (eqStop_same r y.w).mono fun e w' h => (⟨h.1, ⟨w', Bel.step y h.2⟩, rfl⟩ : e = .returned (.bool true) ∧ ∃ z : Sub (Bel wr), w' = z.w))
      clear hx hy hr hq h4 h4'
      go_wp2_with fail
      refine region_held (Bel wr) (by kernel_rfl) (by kernel_rfl) (Bel.drew wr) ?_
      repeat (go_big_quiet_step ((first | rfl | (go_at_call 32; exact HE.out _))))
      refine wpQuiet_nil ?_
      rintro _ ⟨y, rfl⟩
      go_wp2_with fail
      go_roundw
      case rel => exact ⟨k + 1, by omega, by go_num, HB.out y⟩
      case measure => simp [intOf]; omega
    · clear hx hy
      go_wp2_with fail
      go_ret
      exact ⟨rfl, hb⟩

def Sto.mark (k : Nat) : Sto := ⟨mkT (k), (k : Int) + 1, (k : Int) + 2⟩
def Sto.marks (k : Nat) (n : Nat) : List Sto := (List.range n).map fun j => Sto.mark (k + 3 * j)
theorem Sto.marks_len (k : Nat) (n : Nat) : (Sto.marks k n).length = n := by simp [Sto.marks]
theorem Sto.marks_at {k : Nat} {n j : Nat} (h : j < n) : (Sto.marks k n)[j]? = some (Sto.mark (k + 3 * j)) := by simp [Sto.marks, h]
theorem Sto.marks_succ (k : Nat) (n : Nat) : Sto.marks k (n + 1) = Sto.marks k n ++ [Sto.mark (k + 3 * n)] := by simp [Sto.marks, List.range_succ]
def MarkedSto (w : World) (base : Nat) (A : Option Addr) (n c : Nat) (k : Nat) (e : Ending) (w' : World) : Prop :=
  e = .returned (.int .i64 ((k + 3 * n : Nat) : Int)) ∧ StoO w' base A n c (Sto.marks k n) ∧ w.grownBy w' (Value.slice A n c).ownBlock
set_option maxRecDepth 100000 in
set_option maxHeartbeats 2000000 in
theorem markStopS_l (A : Option Addr) (n c : Nat) (k0 : Nat) (rs : List Sto) (base : Nat) (w : World) (hx : StoO w base A n c rs) (hn : n ≤ 1048576) (h0 : 0 < k0) (h1 : k0 ≤ 1000000000) :
    Calls Tryz.prog 15 #[.slice A n c, .int .i64 k0] w (MarkedSto w base A n c k0) := by
  by_cases hz : n = 0
  · have HO : Hid (StoO w base A n c (Sto.marks k0 n)) := Lib.hid (by
      have h := hx.len; subst hz
      have : rs = [] := List.eq_nil_of_length_eq_zero h
      subst this; exact hx)
    subst hz
    go_enter Tryz.func15, Tryz.ntmps15
    go_wp2_with fail
    go_loop [1, 5] (fun k i => k = .int .i64 k0 ∧ i = .int .i64 0) (fun _ _ => 0)
    case atStart => exact ⟨rfl, rfl⟩
    case round =>
      obtain ⟨rfl, rfl⟩ := hrel
      go_wp2_with fail
      go_ret
      exact ⟨by simp, HO.out, World.grownBy.refl w _⟩
  · obtain ⟨g, hA⟩ : ∃ g, A = some ⟨g, 0, none⟩ := by
      rcases hx.2 with ⟨_, h⟩ | ⟨g, _, _, h, _⟩
      · exact absurd h hz
      · injection h with h; exact ⟨g, h⟩
    subst hA
    go_enter Tryz.func15, Tryz.ntmps15
    go_wp2_with fail
    go_loopw [1, 5] (fun k i wr => ∃ (j : Nat) (ys : List Value), j ≤ n ∧ i = .int .i64 j ∧ k = .int .i64 ((k0 + 3 * j : Nat) : Int) ∧ wr.ownsRow base 40 3 (.slice (some ⟨g, 0, none⟩) n c) n ys ∧
      Hid (ys.take (j * 3) = (Sto.marks k0 j).flatMap Sto.cells) ∧ w.grownBy wr (some g)) (fun _ i _ => n - (intOf i).toNat)
    case atStart => exact ⟨0, _, Nat.zero_le _, rfl, by simp, hx, Lib.hid (by simp [Sto.marks]), World.grownBy.refl w _⟩
    case round =>
      obtain ⟨j, ys, hj, rfl, rfl, hown, ht, hg⟩ := hrel
      clear hx
      by_cases hlt : j < n
      · have hyl : j * 3 + 2 < ys.length := by have := hown.1; omega
        have HM := Lib.hid (fun (i : Nat) (W : World) (hi : i ≤ 3) => markText_l (k0 + 3 * j + i) W (by omega) (by omega))
        have HT : Hid ((((ys.set (j * 3) (.string ⟨(mkT (k0 + 3 * j)).toArray⟩)).set (j * 3 + 1) (.int .i64 (((k0 + 3 * j : Nat) : Int) + 1))).set (j * 3 + 2) (.int .i64 (((k0 + 3 * j : Nat) : Int) + 2))).take ((j + 1) * 3) = (Sto.marks k0 (j + 1)).flatMap Sto.cells) := Lib.hid (by
          rw [set_sto hyl ht.out, Sto.marks_succ, List.flatMap_append]; simp [Sto.cells, Sto.mark])
        obtain ⟨K, hK⟩ : ∃ K, K = k0 + 3 * j := ⟨_, rfl⟩
        rw [← hK] at HM HT ⊢
        have HK : Hid (k0 + 3 * (j + 1) = K + 3) := Lib.hid (by omega)
        have hKb : K ≤ 1010000000 := by omega
        clear ht hK
        have G0 := Lib.hid hg
        have O0 := Lib.hid hown
        have HL := hyl
        clear hg hown
        go_wp2_with fail
        refine (HM.out 0 _ (by omega)).mono ?_
        rintro e w1 ⟨rfl, b1⟩
        have hown := own_below O0.out b1
        have G1 := Lib.hid (grown_below' G0.out (b1.mono G0.out.size))
        obtain ⟨o0, k0⟩ := own_at hown (j * 3) (by (try simp only [List.length_set]); omega)
        have f0 := hown.frozenAt (j * 3)
        obtain ⟨o1, k1⟩ := own_at hown (j * 3 + 1) (by (try simp only [List.length_set]); omega)
        have f1 := hown.frozenAt (j * 3 + 1)
        obtain ⟨o2, k2⟩ := own_at hown (j * 3 + 2) (by (try simp only [List.length_set]); omega)
        have f2 := hown.frozenAt (j * 3 + 2)
        have S0 := hown.stored (j * 3) (.string ⟨(mkT (K)).toArray⟩)
        have S1 := S0.1.stored (j * 3 + 1) (.int .i64 ((K : Int) + 1))
        have S2 := S1.1.stored (j * 3 + 2) (.int .i64 ((K : Int) + 2))
        have O1 := Lib.hid S2.1
        have G1' := Lib.hid (((G1.out.trans S0.2).trans S1.2).trans S2.2)
        clear G1 hown S0 S1 S2
        have G1 := G1'
        clear G1'
        go_wp2_with fail
        go_roundw
        case rel => exact ⟨j + 1, _, by omega, by go_num, by rw [HK.out]; go_num, O1.out, HT, G1.out⟩
        case measure => simp [intOf]; omega
      · obtain rfl : j = n := by omega
        have HT : Hid (ys = (Sto.marks k0 j).flatMap Sto.cells) := Lib.hid (by
          have h1 := ht.out; have h2 := hown.1
          rwa [List.take_of_length_le (by omega)] at h1)
        clear ht
        go_wp2_with fail
        go_ret
        exact ⟨rfl, by have := HT.out; subst this; exact hown, hg⟩

set_option maxRecDepth 100000 in
set_option maxHeartbeats 2000000 in
theorem heldStopS_l (A : Option Addr) (n c : Nat) (k0 : Nat) (w : World) (hx : StoR w A (Sto.marks k0 n)) (hn : n ≤ 1048576) (h0 : 0 < k0) (h1 : k0 ≤ 1000000000) :
    Calls Tryz.prog 16 #[.slice A n c, .int .i64 k0] w (Gives w (.int .i64 ((k0 + 3 * n : Nat) : Int))) := by
  go_enter Tryz.func16, Tryz.ntmps16
  go_wp2_with fail
  go_loopw [1, 5] (fun k i wr => ∃ j : Nat, j ≤ n ∧ i = .int .i64 j ∧ k = .int .i64 ((k0 + 3 * j : Nat) : Int) ∧ Below w.heap.size w wr) (fun _ i _ => n - (intOf i).toNat)
  case atStart => exact ⟨0, Nat.zero_le _, rfl, by simp, Below.refl _ _⟩
  case round =>
    obtain ⟨j, hj, rfl, rfl, hb⟩ := hrel
    by_cases hlt : j < n
    · obtain ⟨b, off, r, rfl, hl, hr, h4⟩ := (hx.below hb).at (k := j) (by rw [Sto.marks_len]; exact hlt)
      obtain rfl : Sto.mark (k0 + 3 * j) = r := by have := hr.out; rw [Sto.marks_at hlt] at this; exact Option.some.inj this
      obtain ⟨K, hK⟩ : ∃ K, K = k0 + 3 * j := ⟨_, rfl⟩
      rw [← hK] at h4 ⊢
      have HK : Hid (k0 + 3 * (j + 1) = K + 3) := Lib.hid (by omega)
      have hKb : K ≤ 1010000000 := by omega
      have hK0 : 0 < K := by omega
      have HM := Lib.hid (fun (i : Nat) (hi : i ≤ 3) (y : Sub (Bel wr)) => (markText_l (K + i) y.w (by omega) (by omega)).mono fun e w' h => (⟨h.1, ⟨w', Bel.step y h.2⟩, rfl⟩ : e = .returned (.string ⟨(mkT (K + i)).toArray⟩) ∧ ∃ z : Sub (Bel wr), w' = z.w))
      have q0 : ∀ y : Sub (Bel wr), y.w.cell? ⟨b, off + j * 3, none⟩ = some (.string ⟨(mkT (K)).toArray⟩) := fun y => (h4.below hl y.h).c0
      have q1 : ∀ y : Sub (Bel wr), y.w.cell? ⟨b, off + j * 3 + 1, none⟩ = some (.int .i64 ((K : Int) + 1)) := fun y => (h4.below hl y.h).c1
      have q2 : ∀ y : Sub (Bel wr), y.w.cell? ⟨b, off + j * 3 + 2, none⟩ = some (.int .i64 ((K : Int) + 2)) := fun y => (h4.below hl y.h).c2
      have HB := Lib.hid (fun y : Sub (Bel wr) => (belowGo hb y.h : Below w.heap.size w y.w))
      have HD := Lib.hid (fun y : Sub (Bel wr) => (Below.drew (show Below wr.heap.size wr y.w from y.h) : Bel wr y.w.drew))
      have d1 : (((K : Int) + 1) != (K : Int) + 1) = false := by simp
      have d2 : (((K : Int) + 2) != (K : Int) + 2) = false := by simp
      clear hx hr hK
      have m0 := Lib.hid (HM.out 0 (by omega))
      go_wp2_with fail
      refine region_held (Bel wr) (by kernel_rfl) (by kernel_rfl) (Bel.drew wr) ?_
      repeat (go_big_quiet_step ((first | rfl | (go_at_call 33; exact m0.out _))))
      refine wpQuiet_nil ?_
      rintro _ ⟨y0, rfl⟩
      have c1 := q1 y0
      have c2 := q2 y0
      clear q0
      clear q1
      clear q2
      clear h4
      go_wp2_with fail
      go_roundw
      case rel => exact ⟨j + 1, by omega, by go_num, by rw [HK.out]; go_num, HB.out y0⟩
      case measure => simp [intOf]; omega
    · obtain rfl : j = n := by omega
      clear hx
      go_wp2_with fail
      go_ret
      exact ⟨rfl, hb⟩
end Go.Proofs.YtklhcofonkmiiaaGreatDoor

/- Voyages in plain lists; one stop by itself. -/
namespace Go.Proofs.YtklhcofonkmiiaaGreatDoor
open Go.ChangeShapes Go.WideShapes Go.ChangeAt Go.RowKit
set_option linter.unusedVariables false

/-- A stop is as described. -/
def Sto.ok (r : Sto) : Bool := pcode r.p && (inr r.i 0 36524 && (inr r.o 0 36524 && decide (r.i ≤ r.o)))
theorem sok {r : Sto} (h : r.ok = true) : pcode r.p = true ∧ (0 ≤ r.i ∧ r.i ≤ 36524) ∧ (0 ≤ r.o ∧ r.o ≤ 36524) ∧ r.i ≤ r.o := by
  unfold Sto.ok at h
  simp only [Bool.and_eq_true, decide_eq_true_eq, inr_iff] at h
  exact h
def vAt (rs : List Sto) (i : Nat) : Bool :=
  match rs[i]? with
  | none => true
  | some r => r.ok && (match i with | 0 => true | j + 1 => match rs[j]? with | none => true | some q => decide (q.o < r.i))
def vTo (rs : List Sto) (k : Nat) : Bool := (List.range k).all (vAt rs)
theorem vTo_succ (rs : List Sto) (k : Nat) : vTo rs (k + 1) = (vTo rs k && vAt rs k) := by simp [vTo, List.range_succ]
theorem vTo_no {rs : List Sto} {k n : Nat} (h : vAt rs k = false) (hk : k < n) : vTo rs n = false := by
  unfold vTo; rw [List.all_eq_false]; exact ⟨k, by simpa using hk, by simp [h]⟩
theorem vTo_at {rs : List Sto} {k n : Nat} (h : vTo rs n = true) (hk : k < n) : vAt rs k = true := by
  unfold vTo at h; rw [List.all_eq_true] at h; exact h k (by simpa using hk)
/-- A voyage. -/
def voyB (rs : List Sto) : Bool := vTo rs rs.length && inr (rs.length : Nat) 1 10
theorem vAt_0 {rs : List Sto} {r : Sto} (h : rs[0]? = some r) : vAt rs 0 = r.ok := by unfold vAt; simp [h]
theorem vAt_s {rs : List Sto} {k : Nat} {q r : Sto} (h : rs[k + 1]? = some r) (hq : rs[k]? = some q) : vAt rs (k + 1) = (r.ok && decide (q.o < r.i)) := by unfold vAt; simp [h, hq]
theorem vAt_no {rs : List Sto} {k : Nat} {r : Sto} (h : rs[k]? = some r) (hr : r.ok = false) : vAt rs k = false := by unfold vAt; simp [h, hr]
theorem voy_no {rs : List Sto} {k : Nat} (hk : k < rs.length) (h : vAt rs k = false) : voyB rs = false := by unfold voyB; rw [vTo_no h hk, Bool.false_and]
theorem voy_long {rs : List Sto} (h : 10 < rs.length) : voyB rs = false := by
  unfold voyB; rw [Bool.and_eq_false_iff]; right; rw [inr_no]; omega
theorem voy_nil {rs : List Sto} (h : rs.length = 0) : voyB rs = false := by
  unfold voyB; rw [Bool.and_eq_false_iff]; right; rw [inr_no]; omega
theorem voy_iff {rs : List Sto} : voyB rs = true ↔ vTo rs rs.length = true ∧ 1 ≤ rs.length ∧ rs.length ≤ 10 := by
  unfold voyB; rw [Bool.and_eq_true, inr_iff]
  exact ⟨fun ⟨h, h1, h2⟩ => ⟨h, by omega, by omega⟩, fun ⟨h, h1, h2⟩ => ⟨h, by omega, by omega⟩⟩
theorem voy_all {rs : List Sto} (h : vTo rs rs.length = true) : voyB rs = inr (rs.length : Nat) 1 10 := by unfold voyB; rw [h, Bool.true_and]
theorem vok {rs : List Sto} (h : vTo rs rs.length = true) {k : Nat} {r : Sto} (hr : rs[k]? = some r) : r.ok = true := by
  have := vTo_at h (List.getElem?_eq_some_iff.1 hr).1
  unfold vAt at this
  rw [hr] at this
  simp only [Bool.and_eq_true] at this
  exact this.1
theorem voy_ok {rs : List Sto} (h : voyB rs = true) {k : Nat} {r : Sto} (hr : rs[k]? = some r) : pcode r.p = true ∧ (0 ≤ r.i ∧ r.i ≤ 36524) ∧ (0 ≤ r.o ∧ r.o ≤ 36524) ∧ r.i ≤ r.o := sok (vok (voy_iff.1 h).1 hr)
theorem voy_lt {rs : List Sto} (h : voyB rs = true) {k : Nat} {q r : Sto} (hq : rs[k]? = some q) (hr : rs[k + 1]? = some r) : q.o < r.i := by
  have := vTo_at (voy_iff.1 h).1 (List.getElem?_eq_some_iff.1 hr).1
  rw [vAt_s hr hq, Bool.and_eq_true, decide_eq_true_eq] at this
  exact this.2
theorem voy_before {rs : List Sto} (h : voyB rs = true) : ∀ {i j : Nat} {q r : Sto}, i < j → rs[i]? = some q → rs[j]? = some r → q.o < r.i := by
  intro i j
  induction j with
  | zero => intro q r hij; omega
  | succ j ih =>
    intro q r hij hq hr
    rcases Nat.lt_or_ge i j with h1 | h1
    · have hj : j < rs.length := by have := (List.getElem?_eq_some_iff.1 hr).1; omega
      have hs := List.getElem?_eq_getElem hj
      have a := ih h1 hq hs
      have b := (voy_ok h hs).2.2.2
      have c := voy_lt h hs hr
      omega
    · obtain rfl : i = j := by omega
      exact voy_lt h hq hr
/-- What makes a list a voyage, read off its elements. -/
theorem vTo_iff {rs : List Sto} : vTo rs rs.length = true ↔ (∀ (k : Nat) (r : Sto), rs[k]? = some r → r.ok = true) ∧ ∀ (k : Nat) (q r : Sto), rs[k]? = some q → rs[k + 1]? = some r → q.o < r.i := by
  constructor
  · intro h
    refine ⟨fun k r hr => vok h hr, fun k q r hq hr => ?_⟩
    have := vTo_at h (List.getElem?_eq_some_iff.1 hr).1
    rw [vAt_s hr hq, Bool.and_eq_true, decide_eq_true_eq] at this
    exact this.2
  · rintro ⟨h1, h2⟩
    unfold vTo
    rw [List.all_eq_true]
    intro k hk
    have hk : k < rs.length := by simpa using hk
    have hr := List.getElem?_eq_getElem hk
    cases k with
    | zero => rw [vAt_0 hr]; exact h1 _ _ hr
    | succ j =>
      have hq : rs[j]? = some rs[j] := List.getElem?_eq_getElem (by omega)
      rw [vAt_s hr hq, h1 _ _ hr, Bool.true_and, decide_eq_true_eq]
      exact h2 j _ _ hq hr
/-- The ways through the conditions on a stop. -/
inductive VWay (r : Sto) : Bool → Prop where
  | code (h : pcode r.p = false) : VWay r false
  | inn (h : pcode r.p = true) (h1 : inr r.i 0 36524 = false) (h2 : daysB [r.i, r.o] = false) : VWay r false
  | out (h : pcode r.p = true) (h1 : inr r.i 0 36524 = true) (h2 : daysB [r.i, r.o] = false) (h3 : inr r.o 0 36524 = false) : VWay r false
  | ord (h : pcode r.p = true) (h1 : inr r.i 0 36524 = true) (h2 : daysB [r.i, r.o] = true) (h3 : inr r.o 0 36524 = true) (h4 : r.o < r.i) : VWay r false
  | ok (h : pcode r.p = true) (h1 : inr r.i 0 36524 = true) (h2 : daysB [r.i, r.o] = true) (h3 : inr r.o 0 36524 = true) (h4 : r.i ≤ r.o) : VWay r true
theorem vway (r : Sto) : VWay r r.ok := by
  have e : r.ok = (pcode r.p && (inr r.i 0 36524 && (inr r.o 0 36524 && decide (r.i ≤ r.o)))) := rfl
  rw [e]
  have D := daysB_2 r.i r.o
  rcases Bool.eq_false_or_eq_true (pcode r.p) with h | h
  · rcases Bool.eq_false_or_eq_true (inr r.i 0 36524) with h1 | h1
    · rcases Bool.eq_false_or_eq_true (inr r.o 0 36524) with h3 | h3
      · rw [h1, h3] at D
        by_cases h4 : r.i ≤ r.o
        · rw [h, h1, h3, decide_eq_true h4]; exact .ok h h1 D h3 h4
        · rw [h, h1, h3, decide_eq_false h4]; exact .ord h h1 D h3 (by omega)
      · rw [h1, h3] at D
        rw [h, h1, h3]; exact .out h h1 D h3
    · rw [h1] at D
      rw [h, h1]; exact .inn h h1 D
  · rw [h]; exact .code h
/-- A box of a stop stands as it was laid; nothing below is written. -/
structure KeepV (w0 : World) (p : Sto) (W : World) : Prop where
  a : W.heap[w0.heap.size]? = some (.cells #[.string ⟨p.p.toArray⟩, .int .i64 p.i, .int .i64 p.o] 40 (0, 0))
  bel : Below w0.heap.size w0 W
theorem KeepV.step {w0 W w' : World} {p : Sto} (k : KeepV w0 p W) (b : Below W.heap.size W w') : KeepV w0 p w' := ⟨(b.block _ (lt_some k.a)).trans k.a, belowGo k.bel b⟩
theorem KeepV.drew {w0 W : World} {p : Sto} (k : KeepV w0 p W) : KeepV w0 p W.drew := ⟨k.a, k.bel.drew⟩
theorem KeepV.new (w : World) (p : Sto) : KeepV w p (w.alloc (.cells #[.string ⟨p.p.toArray⟩, .int .i64 p.i, .int .i64 p.o] 40)) := ⟨heap_alloc_new _ _, (Below.refl _ _).alloc (Nat.le_refl _) _⟩
theorem KeepV.cells {w0 W : World} {p : Sto} (k : KeepV w0 p W) : StoC W w0.heap.size 0 p :=
  ⟨by rw [cell_of_row _ _ _ _ _ _ k.a]; rfl, by rw [cell_of_row _ _ _ _ _ _ k.a]; rfl, by rw [cell_of_row _ _ _ _ _ _ k.a]; rfl⟩
theorem pcodeI_qV {s : List UInt8} {b : Bool} (h : pcode s = b) (hl : s.length ≤ 9223372036854775807) (w : World) : Calls Tryz.prog 54 #[.string ⟨s.toArray⟩] w fun e w' => e = .returned (.bool b) ∧ w = w' :=
  (isPcode_i s w hl).mono fun e w' k => ⟨by rw [← h]; exact k.1, k.2⟩
theorem pcodeS_qV {s : List UInt8} {b : Bool} (h : pcode s = b) (hl : s.length ≤ 9223372036854775807) (w : World) : Calls Tryz.prog 42 #[.string ⟨s.toArray⟩] w fun e w' => e = .returned (.bool b) ∧ w = w' :=
  (isPcode_s s w hl).mono fun e w' k => ⟨by rw [← h]; exact k.1, k.2⟩
/-- Stops that a function takes: their texts are short. -/
structure VTbl (w : World) (A : Option Addr) (ps : List Sto) : Prop where
  row : StoR w A ps
  txt : ∀ p ∈ ps, p.sz ≤ 1048600
  len : ps.length ≤ 1048590
theorem VTbl.below {w w' : World} {A : Option Addr} {ps : List Sto} (h : VTbl w A ps) (hb : Below w.heap.size w w') : VTbl w' A ps := ⟨h.row.below hb, h.txt, h.len⟩
/-- With its capacity. -/
structure VTblC (w : World) (A : Option Addr) (c : Nat) (ps : List Sto) : Prop where
  tbl : VTbl w A ps
  cap : ps.length ≤ c
theorem VTblC.row {w : World} {A : Option Addr} {c : Nat} {ps : List Sto} (h : VTblC w A c ps) : StoR w A ps := h.tbl.row
theorem VTblC.len {w : World} {A : Option Addr} {c : Nat} {ps : List Sto} (h : VTblC w A c ps) : ps.length ≤ 1048590 := h.tbl.len
theorem VTblC.below {w w' : World} {A : Option Addr} {c : Nat} {ps : List Sto} (h : VTblC w A c ps) (hb : Below w.heap.size w w') : VTblC w' A c ps := ⟨h.tbl.below hb, h.cap⟩
theorem sto_cap {w : World} {base : Nat} {A : Option Addr} {n c : Nat} {ps : List Sto} (h : StoO w base A n c ps) : n ≤ c := by
  rcases h.2 with ⟨e, e2⟩ | ⟨g, cap, cur, e, _, _, hle, _⟩
  · have := h.1; injection e; omega
  · injection e with e1 e2 e3; omega
theorem vtbl_of {w : World} {base : Nat} {A : Option Addr} {c : Nat} {ps : List Sto} (h : StoO w base A ps.length c ps) (htx : ∀ p ∈ ps, p.sz ≤ 1048576) (hn : ps.length ≤ 1048576) : VTblC w A c ps := ⟨⟨h.row, fun p hp => Nat.le_trans (htx p hp) (by decide), by omega⟩, sto_cap h⟩
theorem sz_v {p : Sto} (h : p.sz ≤ 1048600) : p.p.length ≤ 9223372036854775807 := by unfold Sto.sz at h; omega
end Go.Proofs.YtklhcofonkmiiaaGreatDoor

/- Voyages in plain lists: places of days, ports, legs, days at sea, further stops, delays. -/
namespace Go.Proofs.YtklhcofonkmiiaaGreatDoor
open Go.ChangeShapes Go.WideShapes Go.ChangeAt Go.RowKit
set_option linter.unusedVariables false

/-! ### the place of a day -/
def plcV (rs : List Sto) (d : Int) : Nat := rs.findIdx (fun q => decide (d ≤ q.o))
theorem plc_leV (rs : List Sto) (d : Int) : plcV rs d ≤ rs.length := List.findIdx_le_length
theorem plc_eqV {rs : List Sto} {d : Int} {p : Nat} (hp : p ≤ rs.length) (h1 : ∀ (i : Nat) (q : Sto), i < p → rs[i]? = some q → q.o < d) (h2 : ∀ (i : Nat) (q : Sto), p ≤ i → rs[i]? = some q → d ≤ q.o) : plcV rs d = p := by
  unfold plcV
  rcases Nat.lt_or_ge p rs.length with hlt | hge
  · rw [List.findIdx_eq hlt]
    refine ⟨decide_eq_true (h2 p _ (Nat.le_refl _) (List.getElem?_eq_getElem hlt)), fun j hj => ?_⟩
    have := h1 j _ hj (List.getElem?_eq_getElem (by omega))
    rw [decide_eq_false_iff_not]; omega
  · obtain rfl : p = rs.length := by omega
    rw [List.findIdx_eq_length]
    intro x hx
    obtain ⟨j, hj⟩ := List.getElem?_of_mem hx
    have := h1 j x (List.getElem?_eq_some_iff.1 hj).1 hj
    rw [decide_eq_false_iff_not]; omega
theorem plc_lessV {rs : List Sto} {d : Int} {i : Nat} {q : Sto} (hi : i < plcV rs d) (hq : rs[i]? = some q) : q.o < d := by
  obtain ⟨h, e⟩ := List.getElem?_eq_some_iff.1 hq
  have := List.not_of_lt_findIdx hi
  rw [e] at this
  simp only [decide_eq_false_iff_not] at this
  omega
theorem plc_atV {rs : List Sto} {d : Int} {q : Sto} (hq : rs[plcV rs d]? = some q) : d ≤ q.o := by
  obtain ⟨hp, e⟩ := List.getElem?_eq_some_iff.1 hq
  have h1 := List.findIdx_getElem (p := fun q : Sto => decide (d ≤ q.o)) (w := hp)
  have h2 : d ≤ (rs[plcV rs d]'hp).o := of_decide_eq_true h1
  rw [e] at h2; exact h2
theorem plc_notV {rs : List Sto} (h : voyB rs = true) {d : Int} {i : Nat} {q : Sto} (hi : plcV rs d ≤ i) (hq : rs[i]? = some q) : d ≤ q.o := by
  have hl := (List.getElem?_eq_some_iff.1 hq).1
  have hp := List.getElem?_eq_getElem (l := rs) (i := plcV rs d) (by omega)
  rcases Nat.lt_or_ge (plcV rs d) i with h3 | h3
  · have a := plc_atV hp
    have b := voy_before h h3 hp hq
    have c := (voy_ok h hq).2.2.2
    omega
  · have : plcV rs d = i := by omega
    subst this; exact plc_atV hq
/-- Days of order: what is before one that is before the day is before it. -/
theorem ord_outV {rs : List Sto} (h : voyB rs = true) {i j : Nat} {q r : Sto} (hij : i < j) (hq : rs[i]? = some q) (hr : rs[j]? = some r) : q.o < r.o := by
  have b := voy_before h hij hq hr
  have c := (voy_ok h hr).2.2.2
  omega
/-- The place of a day and the code. -/
def plR (rs : List Sto) (d : Int) : Nat × Int :=
  if voyB rs = true then if inr d 0 36524 = true then match rs[0]? with
    | some f => if d < f.i ∨ plcV rs d = rs.length then (0, 4) else (plcV rs d, 0)
    | none => (0, 1)
  else (0, 2) else (0, 1)
inductive PWay (rs : List Sto) (d : Int) : Nat × Int → Prop where
  | bad (h : voyB rs = false) : PWay rs d (0, 1)
  | day (h : voyB rs = true) (h1 : inr d 0 36524 = false) : PWay rs d (0, 2)
  | early (f l : Sto) (h : voyB rs = true) (h1 : inr d 0 36524 = true) (h0 : rs[0]? = some f) (hl : rs[rs.length - 1]? = some l) (h2 : d < f.i) : PWay rs d (0, 4)
  | late (f l : Sto) (h : voyB rs = true) (h1 : inr d 0 36524 = true) (h0 : rs[0]? = some f) (hl : rs[rs.length - 1]? = some l) (h2 : f.i ≤ d) (h3 : plcV rs d = rs.length) (h4 : l.o < d) : PWay rs d (0, 4)
  | ok (f l r : Sto) (h : voyB rs = true) (h1 : inr d 0 36524 = true) (h0 : rs[0]? = some f) (hl : rs[rs.length - 1]? = some l) (h2 : f.i ≤ d) (hk : plcV rs d < rs.length) (hr : rs[plcV rs d]? = some r) (h3 : d ≤ r.o) (h4 : d ≤ l.o) : PWay rs d (plcV rs d, 0)
theorem voy_ends {rs : List Sto} (h : voyB rs = true) : ∃ f l, rs[0]? = some f ∧ rs[rs.length - 1]? = some l := by
  have := (voy_iff.1 h).2.1
  exact ⟨_, _, List.getElem?_eq_getElem (by omega), List.getElem?_eq_getElem (by omega)⟩
theorem pway (rs : List Sto) (d : Int) : PWay rs d (plR rs d) := by
  unfold plR
  rcases Bool.eq_false_or_eq_true (voyB rs) with h | h
  · rw [if_pos h]
    rcases Bool.eq_false_or_eq_true (inr d 0 36524) with h1 | h1
    · rw [if_pos h1]
      obtain ⟨f, l, h0, hl⟩ := voy_ends h
      rw [h0]
      have hn := (voy_iff.1 h).2.1
      by_cases h2 : d < f.i
      · simp only [h2, true_or, if_true]; exact .early f l h h1 h0 hl h2
      · have hle := plc_leV rs d
        by_cases h3 : plcV rs d = rs.length
        · simp only [h3, or_true, if_true]
          exact .late f l h h1 h0 hl (by omega) h3 (plc_lessV (by omega) hl)
        · simp only [h2, h3, or_self, if_false]
          have hk : plcV rs d < rs.length := by omega
          have hr := List.getElem?_eq_getElem hk
          exact .ok f l _ h h1 h0 hl (by omega) hk hr (plc_atV hr) (plc_notV h (by omega) hl)
    · rw [if_neg (by rw [h1]; decide)]; exact .day h h1
  · rw [if_neg (by rw [h]; decide)]; exact .bad h
theorem plR_ok {rs : List Sto} {d : Int} (h : (plR rs d).2 = 0) : ∃ f r, voyB rs = true ∧ (0 ≤ d ∧ d ≤ 36524) ∧ rs[0]? = some f ∧ f.i ≤ d ∧ (plR rs d).1 = plcV rs d ∧ plcV rs d < rs.length ∧ rs[plcV rs d]? = some r ∧ d ≤ r.o := by
  have W := pway rs d
  revert h
  generalize plR rs d = u at W
  intro h
  cases W with
  | bad _ => cases h
  | day _ _ => cases h
  | early => cases h
  | late => cases h
  | ok f l r a b c hl e hk hr g => exact ⟨f, r, a, inr_iff.1 b, c, e, rfl, hk, hr, g⟩
/-! ### ports and legs -/
def portR (rs : List Sto) (d : Int) : List UInt8 × Int :=
  if (plR rs d).2 = 0 then match rs[plcV rs d]? with | some r => if r.i ≤ d then (r.p, 0) else ([], 0) | none => ([], 0) else ([], (plR rs d).2)
def legR (rs : List Sto) (d : Int) : Int × Int :=
  if (plR rs d).2 = 0 then match rs[plcV rs d]? with | some r => if r.i ≤ d then (0, 5) else ((plcV rs d : Int) - 1, 0) | none => (0, 5) else (0, (plR rs d).2)
theorem portR_no {rs : List Sto} {d : Int} {u : Nat × Int} (h : plR rs d = u) (hu : u.2 ≠ 0) : portR rs d = ([], u.2) := by unfold portR; rw [h, if_neg hu]
theorem legR_no {rs : List Sto} {d : Int} {u : Nat × Int} (h : plR rs d = u) (hu : u.2 ≠ 0) : legR rs d = (0, u.2) := by unfold legR; rw [h, if_neg hu]
theorem portR_in {rs : List Sto} {d : Int} {k : Nat} {r : Sto} (h : plR rs d = (k, 0)) (hr : rs[plcV rs d]? = some r) (hi : r.i ≤ d) : portR rs d = (r.p, 0) := by unfold portR; rw [h, if_pos rfl, hr]; simp [hi]
theorem portR_sea {rs : List Sto} {d : Int} {k : Nat} {r : Sto} (h : plR rs d = (k, 0)) (hr : rs[plcV rs d]? = some r) (hi : d < r.i) : portR rs d = ([], 0) := by unfold portR; rw [h, if_pos rfl, hr]; simp only [if_neg (show ¬ r.i ≤ d by omega)]
theorem legR_in {rs : List Sto} {d : Int} {k : Nat} {r : Sto} (h : plR rs d = (k, 0)) (hr : rs[plcV rs d]? = some r) (hi : r.i ≤ d) : legR rs d = (0, 5) := by unfold legR; rw [h, if_pos rfl, hr]; simp [hi]
theorem legR_sea {rs : List Sto} {d : Int} {k : Nat} {r : Sto} (h : plR rs d = (k, 0)) (hr : rs[plcV rs d]? = some r) (hi : d < r.i) : legR rs d = ((plcV rs d : Int) - 1, 0) := by unfold legR; rw [h, if_pos rfl, hr]; simp only [if_neg (show ¬ r.i ≤ d by omega)]
/-- The index of the stop at a day, or -1. -/
def prtI (rs : List Sto) (d : Int) : Int := match rs.findIdx? (fun r => inr d r.i r.o) with | none => -1 | some k => k
theorem prt_none {rs : List Sto} {d : Int} (h : ∀ (j : Nat) (q : Sto), rs[j]? = some q → inr d q.i q.o = false) : prtI rs d = -1 := by
  unfold prtI
  rw [show rs.findIdx? (fun r => inr d r.i r.o) = none from by
    rw [List.findIdx?_eq_none_iff]
    intro x hx
    obtain ⟨j, hj⟩ := List.getElem?_of_mem hx
    exact h j x hj]
theorem prt_some {rs : List Sto} {d : Int} {k : Nat} {p : Sto} (hk : rs[k]? = some p) (hc : inr d p.i p.o = true) (h : ∀ (j : Nat) (q : Sto), j < k → rs[j]? = some q → inr d q.i q.o = false) : prtI rs d = k := by
  unfold prtI
  rw [show rs.findIdx? (fun r => inr d r.i r.o) = some k from by
    rw [List.findIdx?_eq_some_iff_getElem]
    obtain ⟨hl, e⟩ := List.getElem?_eq_some_iff.1 hk
    refine ⟨hl, by rw [e]; exact hc, fun j hj => ?_⟩
    rw [h j _ hj (List.getElem?_eq_getElem (by omega))]; exact Bool.false_ne_true]
theorem prt_in {rs : List Sto} {d : Int} {r : Sto} (hr : rs[plcV rs d]? = some r) (hi : r.i ≤ d) : prtI rs d = (plcV rs d : Int) :=
  prt_some hr (inr_iff.2 ⟨hi, plc_atV hr⟩) fun j q hj hq => inr_no.2 (.inr (plc_lessV hj hq))
theorem prt_sea {rs : List Sto} (h : voyB rs = true) {d : Int} {r : Sto} (hr : rs[plcV rs d]? = some r) (hi : d < r.i) : prtI rs d = -1 :=
  prt_none fun j q hq => by
    rw [inr_no]
    rcases Nat.lt_trichotomy j (plcV rs d) with h1 | h1 | h1
    · exact .inr (plc_lessV h1 hq)
    · subst h1; rw [hr] at hq; rw [← Option.some.inj hq]; exact .inl hi
    · have a := voy_before h h1 hr hq; have b := (voy_ok h hr).2.2.2; exact .inl (by omega)
/-- How many of the first ones end before a day. -/
def cntO (rs : List Sto) (d : Int) : Nat := (rs.filter (fun r => decide (r.o < d))).length
theorem cntO_snoc (rs : List Sto) (d : Int) (r : Sto) : cntO (rs ++ [r]) d = cntO rs d + (if r.o < d then 1 else 0) := by
  unfold cntO; rw [List.filter_append, List.length_append]; by_cases h : r.o < d <;> simp [h]
theorem cntO_plc {rs : List Sto} (h : voyB rs = true) (d : Int) : ∀ k, k ≤ rs.length → cntO (rs.take k) d = min k (plcV rs d) := by
  intro k
  induction k with
  | zero => intro _; simp [cntO]
  | succ k ih =>
    intro hk
    have hr := List.getElem?_eq_getElem (l := rs) (i := k) (by omega)
    rw [snoc_of hr, cntO_snoc, ih (by omega)]
    rcases Nat.lt_or_ge k (plcV rs d) with h1 | h1
    · rw [if_pos (plc_lessV h1 hr)]; omega
    · have := plc_notV h h1 hr
      rw [if_neg (by omega)]; omega
theorem cntO_le (rs : List Sto) (d : Int) : cntO rs d ≤ rs.length := List.length_filter_le _ _
/-! ### days at sea -/
def gapV (f t : Int) (q r : Sto) : Int := max 0 (min t (r.i - 1) - max f (q.o + 1) + 1)
def dasV (f t : Int) : List Sto → Int
  | q :: r :: rs => gapV f t q r + dasV f t (r :: rs)
  | [_] => 0
  | [] => 0
theorem dasV_step {f t : Int} {rs : List Sto} {k : Nat} {q r : Sto} (hq : rs[k]? = some q) (hr : rs[k + 1]? = some r) : dasV f t (rs.drop k) = gapV f t q r + dasV f t (rs.drop (k + 1)) := by
  rw [drop_of hq, drop_of hr]; rfl
theorem dasV_end {f t : Int} {rs : List Sto} {k : Nat} (hk : rs.length ≤ k + 1) : dasV f t (rs.drop k) = 0 := by
  have hl : (rs.drop k).length ≤ 1 := by rw [List.length_drop]; omega
  match rs.drop k, hl with
  | [], _ => rfl
  | [_], _ => rfl
  | a :: b :: l, h => simp at h
def dasR (rs : List Sto) (f t : Int) : Int × Int := if voyB rs = true then if daysB [f, t] = true then (dasV f t rs, 0) else (0, 2) else (0, 1)
theorem gapV_bd {f t : Int} {q r : Sto} (h0 : 0 ≤ f) (h1 : t ≤ 36524) : 0 ≤ gapV f t q r ∧ gapV f t q r ≤ 36525 := by unfold gapV; omega
/-! ### the last day -/
def lastR (rs : List Sto) : Int × Int := if voyB rs = true then match rs[rs.length - 1]? with | some l => (l.o, 0) | none => (0, 1) else (0, 1)
theorem lastR_ok {rs : List Sto} {l : Sto} (h : voyB rs = true) (hl : rs[rs.length - 1]? = some l) : lastR rs = (l.o, 0) := by unfold lastR; rw [if_pos h, hl]
theorem lastR_no {rs : List Sto} (h : voyB rs = false) : lastR rs = (0, 1) := by unfold lastR; rw [if_neg (by rw [h]; decide)]
/-! ### a further stop -/
def insAt (rs : List Sto) (k : Nat) (s : Sto) : List Sto := rs.take k ++ [s] ++ rs.drop k
theorem insAt_len {rs : List Sto} {k : Nat} (s : Sto) (hk : k ≤ rs.length) : (insAt rs k s).length = rs.length + 1 := by
  unfold insAt; simp only [List.length_append, List.length_take, List.length_drop, List.length_singleton]; omega
theorem insAt_lt {rs : List Sto} {k j : Nat} {s : Sto} (hk : k ≤ rs.length) (hj : j < k) : (insAt rs k s)[j]? = rs[j]? := by
  unfold insAt
  rw [List.append_assoc, List.getElem?_append_left (by rw [List.length_take]; omega), List.getElem?_take, if_pos hj]
theorem insAt_eq {rs : List Sto} {k : Nat} {s : Sto} (hk : k ≤ rs.length) : (insAt rs k s)[k]? = some s := by
  unfold insAt
  have hl : (rs.take k).length = k := by rw [List.length_take]; omega
  rw [List.append_assoc, List.getElem?_append_right (by omega), hl, Nat.sub_self]; rfl
theorem insAt_gt {rs : List Sto} {k j : Nat} {s : Sto} (hk : k ≤ rs.length) (hj : k ≤ j) : (insAt rs k s)[j + 1]? = rs[j]? := by
  unfold insAt
  have hl : (rs.take k).length = k := by rw [List.length_take]; omega
  rw [List.append_assoc, List.getElem?_append_right (by omega), hl, List.getElem?_append_right (by simp; omega), List.getElem?_drop, List.length_singleton]
  congr 1; omega
/-- The place of a stop by its In. -/
def plcN (rs : List Sto) (d : Int) : Nat := rs.findIdx (fun q => decide (d ≤ q.i))
theorem plcN_le (rs : List Sto) (d : Int) : plcN rs d ≤ rs.length := List.findIdx_le_length
theorem plcN_eq {rs : List Sto} {d : Int} {p : Nat} (hp : p ≤ rs.length) (h1 : ∀ (i : Nat) (q : Sto), i < p → rs[i]? = some q → q.i < d) (h2 : ∀ q : Sto, rs[p]? = some q → d ≤ q.i) : plcN rs d = p := by
  unfold plcN
  rcases Nat.lt_or_ge p rs.length with hlt | hge
  · rw [List.findIdx_eq hlt]
    refine ⟨decide_eq_true (h2 _ (List.getElem?_eq_getElem hlt)), fun j hj => ?_⟩
    have := h1 j _ hj (List.getElem?_eq_getElem (by omega))
    rw [decide_eq_false_iff_not]; omega
  · obtain rfl : p = rs.length := by omega
    rw [List.findIdx_eq_length]
    intro x hx
    obtain ⟨j, hj⟩ := List.getElem?_of_mem hx
    have := h1 j x (List.getElem?_eq_some_iff.1 hj).1 hj
    rw [decide_eq_false_iff_not]; omega
def insR (rs : List Sto) (s : Sto) : List Sto × Int :=
  if voyB rs = true then if plcN rs s.i = 0 ∨ plcN rs s.i = rs.length then ([], 5) else if voyB (insAt rs (plcN rs s.i) s) = true then (insAt rs (plcN rs s.i) s, 0) else ([], 5) else ([], 1)
theorem insR_no {rs : List Sto} {s : Sto} (h : voyB rs = false) : insR rs s = ([], 1) := by unfold insR; rw [if_neg (by rw [h]; decide)]
theorem insR_end {rs : List Sto} {s : Sto} (h : voyB rs = true) (he : plcN rs s.i = 0 ∨ plcN rs s.i = rs.length) : insR rs s = ([], 5) := by unfold insR; rw [if_pos h, if_pos he]
theorem insR_bad {rs : List Sto} {s : Sto} (h : voyB rs = true) (hb : voyB (insAt rs (plcN rs s.i) s) = false) : insR rs s = ([], 5) := by
  unfold insR; rw [if_pos h]; split
  · rfl
  · rw [if_neg (by rw [hb]; decide)]
theorem insR_ok {rs : List Sto} {s : Sto} (h : voyB rs = true) (he : ¬ (plcN rs s.i = 0 ∨ plcN rs s.i = rs.length)) (hb : voyB (insAt rs (plcN rs s.i) s) = true) : insR rs s = (insAt rs (plcN rs s.i) s, 0) := by unfold insR; rw [if_pos h, if_neg he, if_pos hb]
/-- The same by its Out. -/
theorem plcN_cases {rs : List Sto} (h : voyB rs = true) (s : Sto) : plcN rs s.i = plcV rs s.i ∨ (∃ r, rs[plcV rs s.i]? = some r ∧ r.i < s.i ∧ s.i ≤ r.o ∧ plcN rs s.i = plcV rs s.i + 1) := by
  have hle := plc_leV rs s.i
  obtain ⟨k, hk⟩ : ∃ k, k = plcV rs s.i := ⟨_, rfl⟩
  have hlo : ∀ (i : Nat) (q : Sto), i < k → rs[i]? = some q → q.i < s.i := fun i q hi hq => by
    have a := plc_lessV (rs := rs) (d := s.i) (by omega) hq; have b := (voy_ok h hq).2.2.2; omega
  rcases Nat.lt_or_ge k rs.length with hlt | hge
  · have hr := List.getElem?_eq_getElem hlt
    by_cases hi : s.i ≤ (rs[k]'hlt).i
    · left; rw [← hk]
      exact plcN_eq (by omega) hlo (fun q hq => by rw [hr] at hq; rw [← Option.some.inj hq]; exact hi)
    · right
      refine ⟨_, by rw [← hk]; exact hr, by omega, plc_notV h (by omega) hr, ?_⟩
      rw [← hk]
      refine plcN_eq (by omega) (fun i q hi' hq => ?_) (fun q hq => ?_)
      · rcases Nat.lt_or_ge i k with h1 | h1
        · exact hlo i q h1 hq
        · obtain rfl : i = k := by omega
          rw [hr] at hq; rw [← Option.some.inj hq]; omega
      · have a := voy_before h (Nat.lt_succ_self k) hr hq
        have b := plc_notV (d := s.i) h (by omega) hr
        omega
  · left; rw [← hk]
    obtain rfl : k = rs.length := by omega
    exact plcN_eq (by omega) hlo (fun q hq => by rw [List.getElem?_eq_none (by omega)] at hq; cases hq)
theorem insV_end {rs : List Sto} {s : Sto} (h : voyB rs = true) (he : plcV rs s.i = 0 ∨ plcV rs s.i = rs.length) : insR rs s = ([], 5) := by
  rcases plcN_cases h s with e | ⟨r, hr, h1, h2, e⟩
  · exact insR_end h (by rw [e]; exact he)
  · rcases he with he | he
    · rcases Nat.eq_or_lt_of_le (Nat.succ_le_of_lt (List.getElem?_eq_some_iff.1 hr).1) with h3 | h3
      · exact insR_end h (.inr (by rw [e]; exact h3))
      · refine insR_bad h ?_
        rw [← Bool.not_eq_true]
        intro hv
        have hle := plcN_le rs s.i
        have a := insAt_eq (s := s) hle
        rw [e] at a hv hle
        have b := (insAt_lt (s := s) hle (Nat.lt_succ_self _)).trans hr
        have := voy_lt hv b a
        omega
    · rw [he, List.getElem?_eq_none (Nat.le_refl _)] at hr; cases hr
theorem insV_mid {rs : List Sto} {s : Sto} (h : voyB rs = true) (h0 : plcV rs s.i ≠ 0) (hn : plcV rs s.i ≠ rs.length) : insR rs s = if voyB (insAt rs (plcV rs s.i) s) = true then (insAt rs (plcV rs s.i) s, 0) else ([], 5) := by
  rcases plcN_cases h s with e | ⟨r, hr, h1, h2, e⟩
  · rcases Bool.eq_false_or_eq_true (voyB (insAt rs (plcV rs s.i) s)) with hv | hv
    · rw [if_pos hv, ← e]; rw [← e] at hv h0 hn; exact insR_ok h (by omega) hv
    · rw [if_neg (by rw [hv]; decide)]; rw [← e] at hv; exact insR_bad h hv
  · have hle := plc_leV rs s.i
    have no : voyB (insAt rs (plcV rs s.i) s) = false := by
      rw [← Bool.not_eq_true]
      intro hv
      have a := insAt_eq (s := s) hle
      have b := (insAt_gt (s := s) hle (Nat.le_refl _)).trans hr
      have c := voy_lt hv a b
      have d := (voy_ok hv a).2.2.2
      omega
    rw [if_neg (by rw [no]; decide)]
    have hle2 := plcN_le rs s.i
    by_cases he : plcN rs s.i = rs.length
    · exact insR_end h (.inr he)
    · refine insR_bad h ?_
      rw [← Bool.not_eq_true]
      intro hv
      have a := insAt_eq (s := s) hle2
      rw [e] at a hv hle2
      have b := (insAt_lt (s := s) hle2 (Nat.lt_succ_self _)).trans hr
      have := voy_lt hv b a
      omega
theorem insR_len (rs : List Sto) (s : Sto) : (insR rs s).1.length ≤ 11 := by
  unfold insR
  split
  · rename_i hv
    have := (voy_iff.1 hv).2.2
    split
    · exact Nat.zero_le _
    · split
      · rw [insAt_len s (plcN_le _ _)]; omega
      · exact Nat.zero_le _
  · exact Nat.zero_le _
/-! ### delays -/
def shf (d : Int) (r : Sto) : Sto := ⟨r.p, r.i + d, r.o + d⟩
def dlyV (rs : List Sto) (k : Nat) (d : Int) (j : Nat) : List Sto := rs.mapIdx (fun i r => if i = k then ⟨r.p, r.i, r.o + d⟩ else if k < i ∧ i < j then shf d r else r)
theorem dly_len (rs : List Sto) (k : Nat) (d : Int) (j : Nat) : (dlyV rs k d j).length = rs.length := by unfold dlyV; simp
theorem dly_at {rs : List Sto} {k : Nat} {d : Int} {j i : Nat} {r : Sto} (h : rs[i]? = some r) : (dlyV rs k d j)[i]? = some (if i = k then ⟨r.p, r.i, r.o + d⟩ else if k < i ∧ i < j then shf d r else r) := by unfold dlyV; simp [h]
theorem dly_0 {rs : List Sto} {k : Nat} {d : Int} {r : Sto} (h : rs[k]? = some r) : rs.set k ⟨r.p, r.i, r.o + d⟩ = dlyV rs k d (k + 1) := by
  apply List.ext_getElem?
  intro i
  unfold dlyV
  rw [List.getElem?_set, List.getElem?_mapIdx]
  by_cases e : k = i
  · subst e; rw [if_pos rfl, if_pos (List.getElem?_eq_some_iff.1 h).1, h]; simp
  · rw [if_neg e]
    cases hr : rs[i]? with
    | none => rfl
    | some x => simp only [Option.map_some]; rw [if_neg (by omega), if_neg (by omega)]
theorem dly_s {rs : List Sto} {k : Nat} {d : Int} {j : Nat} {r : Sto} (hj : k < j) (h : rs[j]? = some r) : (dlyV rs k d j).set j (shf d r) = dlyV rs k d (j + 1) := by
  apply List.ext_getElem?
  intro i
  have hl : j < rs.length := (List.getElem?_eq_some_iff.1 h).1
  unfold dlyV
  rw [List.getElem?_set, List.getElem?_mapIdx, List.getElem?_mapIdx]
  by_cases e : j = i
  · subst e
    rw [if_pos rfl, if_pos (by simpa using hl), h]
    simp only [Option.map_some]
    rw [if_neg (by omega), if_pos (by omega)]
  · rw [if_neg e]
    cases hr : rs[i]? with
    | none => rfl
    | some x =>
      simp only [Option.map_some]
      by_cases h1 : i = k
      · rw [if_pos h1, if_pos h1]
      · rw [if_neg h1, if_neg h1]
        by_cases h2 : k < i ∧ i < j
        · rw [if_pos h2, if_pos (by omega)]
        · rw [if_neg h2, if_neg (by omega)]
def dlyR (rs : List Sto) (x d : Int) : List Sto × Int :=
  if voyB rs = true then if inr d 0 1000 = true ∧ inr x 0 ((rs.length : Int) - 1) = true then
    if voyB (dlyV rs x.toNat d rs.length) = true then (dlyV rs x.toNat d rs.length, 0) else ([], 3) else ([], 2) else ([], 1)
theorem dlyR_len (rs : List Sto) (x d : Int) : (dlyR rs x d).1.length ≤ rs.length := by
  unfold dlyR
  split
  · split
    · split
      · rw [dly_len]; exact Nat.le_refl _
      · exact Nat.zero_le _
    · exact Nat.zero_le _
  · exact Nat.zero_le _
inductive DWay (rs : List Sto) (x d : Int) : List Sto × Int → Prop where
  | bad (h : voyB rs = false) : DWay rs x d ([], 1)
  | days (h : voyB rs = true) (h1 : inr d 0 1000 = false) : DWay rs x d ([], 2)
  | idx (h : voyB rs = true) (h1 : inr d 0 1000 = true) (h2 : inr x 0 ((rs.length : Int) - 1) = false) : DWay rs x d ([], 2)
  | lim (k : Nat) (r : Sto) (h : voyB rs = true) (h1 : inr d 0 1000 = true) (h2 : inr x 0 ((rs.length : Int) - 1) = true) (e : x = (k : Int)) (hk : k < rs.length) (hr : rs[k]? = some r) (h3 : voyB (dlyV rs k d rs.length) = false) : DWay rs x d ([], 3)
  | ok (k : Nat) (r : Sto) (h : voyB rs = true) (h1 : inr d 0 1000 = true) (h2 : inr x 0 ((rs.length : Int) - 1) = true) (e : x = (k : Int)) (hk : k < rs.length) (hr : rs[k]? = some r) (h3 : voyB (dlyV rs k d rs.length) = true) : DWay rs x d (dlyV rs k d rs.length, 0)
theorem dway (rs : List Sto) (x d : Int) : DWay rs x d (dlyR rs x d) := by
  unfold dlyR
  rcases Bool.eq_false_or_eq_true (voyB rs) with h | h
  · rw [if_pos h]
    rcases Bool.eq_false_or_eq_true (inr d 0 1000) with h1 | h1
    · rcases Bool.eq_false_or_eq_true (inr x 0 ((rs.length : Int) - 1)) with h2 | h2
      · rw [if_pos ⟨h1, h2⟩]
        obtain ⟨ha, hb⟩ := inr_iff.1 h2
        have e : x = (x.toNat : Int) := by omega
        have hk : x.toNat < rs.length := by omega
        have hr := List.getElem?_eq_getElem hk
        rcases Bool.eq_false_or_eq_true (voyB (dlyV rs x.toNat d rs.length)) with h3 | h3
        · rw [if_pos h3]; exact .ok _ _ h h1 h2 e hk hr h3
        · rw [if_neg (by rw [h3]; decide)]; exact .lim _ _ h h1 h2 e hk hr h3
      · rw [if_neg (by rw [h2]; simp)]; exact .idx h h1 h2
    · rw [if_neg (by rw [h1]; simp)]; exact .days h h1
  · rw [if_neg (by rw [h]; decide)]; exact .bad h
theorem dly_i {rs : List Sto} {k : Nat} {d : Int} {j i : Nat} {r : Sto} (h : (dlyV rs k d j)[i]? = some r) : ∃ q, rs[i]? = some q ∧ r.p = q.p := by
  unfold dlyV at h
  rw [List.getElem?_mapIdx] at h
  cases hq : rs[i]? with
  | none => rw [hq] at h; cases h
  | some q =>
    rw [hq] at h
    refine ⟨q, rfl, ?_⟩
    have := Option.some.inj h
    rw [← this]
    split
    · rfl
    · split <;> rfl
theorem dly_sz {rs : List Sto} {k : Nat} {d : Int} {j n : Nat} (h : ∀ p ∈ rs, p.sz ≤ n) : ∀ p ∈ dlyV rs k d j, p.sz ≤ n := fun p hp => by
  obtain ⟨i, hi⟩ := List.getElem?_of_mem hp
  obtain ⟨q, hq, e⟩ := dly_i hi
  have := h q (List.mem_of_getElem? hq)
  unfold Sto.sz at *; rw [e]; exact this
theorem insAt_sz {rs : List Sto} {k : Nat} {s : Sto} {n : Nat} (h : ∀ p ∈ rs, p.sz ≤ n) (hs : s.sz ≤ n) : ∀ p ∈ insAt rs k s, p.sz ≤ n := fun p hp => by
  unfold insAt at hp
  simp only [List.mem_append, List.mem_singleton] at hp
  rcases hp with (hp | rfl) | hp
  · exact h p (List.mem_of_mem_take hp)
  · exact hs
  · exact h p (List.mem_of_mem_drop hp)
end Go.Proofs.YtklhcofonkmiiaaGreatDoor

/- (impl.Stop).isValid, impl.IsVoyage. -/
namespace Go.Proofs.YtklhcofonkmiiaaGreatDoor
open Go.ChangeShapes Go.WideShapes Go.ChangeAt Go.RowKit
set_option linter.unusedVariables false

set_option maxHeartbeats 2000000 in
theorem svalid_i (p : Sto) (w : World) (hc : p.p.length ≤ 9223372036854775807) : Calls Tryz.prog 31 #[.agg #[.string ⟨p.p.toArray⟩, .int .i64 p.i, .int .i64 p.o]] w (Gives w (.bool p.ok)) := by
  have B : ∀ o, Hid (Below w.heap.size w (w.alloc o)) := fun o => Lib.hid ((Below.refl _ _).alloc (Nat.le_refl _) _)
  have B2 : ∀ o q, Hid (Below w.heap.size w ((w.alloc o).alloc q)) := fun o q => Lib.hid (((Below.refl _ _).alloc (Nat.le_refl _) _).alloc (by simp) _)
  have W := vway p
  obtain ⟨b, hb⟩ : ∃ b, b = p.ok := ⟨_, rfl⟩
  rw [← hb] at W
  rw [← hb]
  clear hb
  cases W
  all_goals
    go_enter Tryz.func31, Tryz.ntmps31
    go_wp2_with (first
      | (go_at_call 54; refine (pcodeI_qV (by assumption) (by assumption) _).mono ?_; rintro e w' ⟨rfl, rfl⟩)
      | (go_at_call 55; refine (areDays_two _ _ _ _ (by assumption) (by simp)).mono ?_; rintro e w' ⟨rfl, rfl⟩))
    go_ret
    exact ⟨by first | rfl | simp_all, by first | exact (B _).out | exact (B2 _ _).out⟩

set_option maxRecDepth 100000 in
set_option maxHeartbeats 4000000 in
theorem isVoy_i (A : Option Addr) (c : Nat) (ps : List Sto) (w : World) (h : VTbl w A ps) :
    Calls Tryz.prog 13 #[.slice A ps.length c] w (Gives w (.bool (voyB ps))) := by
  have hR := h.row
  have hs := h.txt
  have hn := h.len
  clear h
  by_cases h0 : ps.length = 0
  · have E : Hid (voyB ps = false) := Lib.hid (voy_nil h0)
    go_enter Tryz.func13, Tryz.ntmps13
    go_wp2_with fail
    go_ret
    exact ⟨by rw [E.out] <;> rfl, Below.refl _ _⟩
  by_cases h12 : 10 < ps.length
  · have E : Hid (voyB ps = false) := Lib.hid (voy_long h12)
    have e0 : ((ps.length : Int) == 0) = false := by simpa using h0
    go_enter Tryz.func13, Tryz.ntmps13
    go_wp2_with fail
    go_ret
    exact ⟨by rw [E.out] <;> rfl, Below.refl _ _⟩
  · have e0 : ((ps.length : Int) == 0) = false := by simpa using h0
    have e1 : decide (10 < (ps.length : Int)) = false := by simp; omega
    go_enter Tryz.func13, Tryz.ntmps13
    go_wp2_with fail
    go_loopw [15] (fun i wr => ∃ k : Nat, k ≤ ps.length ∧ i = .int .i64 k ∧ Hid (vTo ps k = true) ∧ Below w.heap.size w wr) (fun i _ => ps.length - (intOf i).toNat)
    case atStart => exact ⟨0, Nat.zero_le _, rfl, Lib.hid rfl, Below.refl _ _⟩
    case round =>
      obtain ⟨k, hk, rfl, hok, hb⟩ := hrel
      by_cases hlt : k < ps.length
      · obtain ⟨b, off, p, rfl, hl, hp, h4⟩ := (hR.below hb).at hlt
        have hpc := sz_v (hs p (List.mem_of_getElem? hp.out))
        have k0 := (KeepV.new wr p).drew
        have HV := Lib.hid (fun y : Sub (KeepV wr p) => (svalid_i p y.w hpc).mono fun e w' h => (⟨h.1, ⟨w', y.h.step h.2⟩, rfl⟩ : e = .returned (.bool p.ok) ∧ ∃ z : Sub (KeepV wr p), w' = z.w))
        have q0 : ∀ y : Sub (KeepV wr p), y.w.cell? ⟨wr.heap.size, 0, none⟩ = some (.string ⟨p.p.toArray⟩) := fun y => y.h.cells.c0
        have q1 : ∀ y : Sub (KeepV wr p), y.w.cell? ⟨wr.heap.size, 1, none⟩ = some (.int .i64 p.i) := fun y => y.h.cells.c1
        have q2 : ∀ y : Sub (KeepV wr p), y.w.cell? ⟨wr.heap.size, 2, none⟩ = some (.int .i64 p.o) := fun y => y.h.cells.c2
        have HB := Lib.hid (fun y : Sub (KeepV wr p) => (belowGo hb y.h.bel : Below w.heap.size w y.w))
        have c0 := h4.c0; have c1 := h4.c1; have c2 := h4.c2
        rcases Bool.eq_false_or_eq_true p.ok with hv | hv
        · rw [hv] at HV
          by_cases hk0 : 0 < k
          · obtain ⟨b', off', q, e2, hl', hq, h4'⟩ := (hR.below hb).at (k := k - 1) (by omega)
            obtain ⟨rfl, rfl⟩ : b = b' ∧ off = off' := by injection e2 with e2; injection e2 with e3 e4; exact ⟨e3, e4⟩
            have p0 : ∀ y : Sub (KeepV wr p), y.w.cell? ⟨b, off + (k - 1) * 3 + 2, none⟩ = some (.int .i64 q.o) := fun y => (h4'.below hl' y.h.bel).c2
            have ho : vAt ps k = decide (q.o < p.i) := by
              obtain ⟨j, rfl⟩ : ∃ j, k = j + 1 := ⟨k - 1, by omega⟩
              rw [vAt_s hp.out (by simpa using hq.out), hv, Bool.true_and]
            have HT := Lib.hid (vTo_succ ps k)
            rw [hok.out, Bool.true_and, ho] at HT
            have E := Lib.hid (fun h : decide (q.o < p.i) = false => voy_no hlt (ho.trans h))
            clear hR hs hp hok hv hq h4' h4 e2 ho
            by_cases hqr : q.o < p.i
            · rw [decide_eq_true hqr] at HT
              clear E
              go_wp2_with fail
              refine region_held (KeepV wr p) (by kernel_rfl) (by kernel_rfl) k0 ?_
              repeat (go_big_quiet_step ((first | rfl | (go_at_call 31; exact HV.out _))))
              refine wpQuiet_nil ?_
              rintro _ ⟨y, rfl⟩
              go_wp2_with fail
              go_roundw
              case rel => exact ⟨k + 1, by omega, by go_num, HT, HB.out y⟩
              case measure => simp [intOf]; omega
            · have E3 : Hid (voyB ps = false) := Lib.hid (E.out (decide_eq_false hqr))
              have hqr : p.i ≤ q.o := by omega
              clear E HT
              go_wp2_with fail
              refine region_held (KeepV wr p) (by kernel_rfl) (by kernel_rfl) k0 ?_
              repeat (go_big_quiet_step ((first | rfl | (go_at_call 31; exact HV.out _))))
              refine wpQuiet_nil ?_
              rintro _ ⟨y, rfl⟩
              go_wp2_with fail
              go_ret
              exact ⟨by rw [E3.out] <;> rfl, HB.out y⟩
          · have HT : Hid (vTo ps (k + 1) = true) := Lib.hid (by
              rw [vTo_succ, hok.out, Bool.true_and]
              obtain rfl : k = 0 := by omega
              rw [vAt_0 hp.out, hv])
            have hd : decide (0 < (k : Int)) = false := by simp; omega
            clear hR hs hp hok hv h4
            go_wp2_with fail
            refine region_held (KeepV wr p) (by kernel_rfl) (by kernel_rfl) k0 ?_
            repeat (go_big_quiet_step ((first | rfl | (go_at_call 31; exact HV.out _))))
            refine wpQuiet_nil ?_
            rintro _ ⟨y, rfl⟩
            go_wp2_with fail
            go_roundw
            case rel => exact ⟨k + 1, by omega, by go_num, HT, HB.out y⟩
            case measure => simp [intOf]; omega
        · rw [hv] at HV
          have E3 : Hid (voyB ps = false) := Lib.hid (voy_no hlt (vAt_no hp.out hv))
          clear hR hs hp hok hv h4
          go_wp2_with fail
          refine region_held (KeepV wr p) (by kernel_rfl) (by kernel_rfl) k0 ?_
          repeat (go_big_quiet_step ((first | rfl | (go_at_call 31; exact HV.out _))))
          refine wpQuiet_nil ?_
          rintro _ ⟨y, rfl⟩
          go_wp2_with fail
          go_ret
          exact ⟨by rw [E3.out] <;> rfl, HB.out y⟩
      · have hkl : k = ps.length := by omega
        subst hkl
        have E : Hid (voyB ps = true) := Lib.hid (voy_iff.2 ⟨hok.out, by omega, by omega⟩)
        clear hok hR hs
        go_wp2_with fail
        go_ret
        exact ⟨by rw [E.out] <;> rfl, hb⟩
theorem voyI_q {w : World} {A : Option Addr} {c : Nat} {ps : List Sto} {b : Bool} (h : VTbl w A ps) (hb : voyB ps = b) : Calls Tryz.prog 13 #[.slice A ps.length c] w (Gives w (.bool b)) := by
  subst hb; exact isVoy_i A c ps w h
end Go.Proofs.YtklhcofonkmiiaaGreatDoor

/- spec.IsVoyage. -/
namespace Go.Proofs.YtklhcofonkmiiaaGreatDoor
open Go.ChangeShapes Go.WideShapes Go.ChangeAt Go.RowKit
set_option linter.unusedVariables false

theorem isVs_y {S : World → Prop} {n : Int} {b : Bool} (h : inr n 0 36524 = b) (y : Sub S) : Calls Tryz.prog 43 #[.int .i64 n] y.w fun e w' => e = .returned (.bool b) ∧ ∃ z : Sub S, w' = z.w :=
  (is_q h y.w).mono fun e w' k => ⟨k.1, y, k.2.symm⟩
theorem pcVs_y {S : World → Prop} {s : List UInt8} {b : Bool} (h : pcode s = b) (hl : s.length ≤ 9223372036854775807) (y : Sub S) : Calls Tryz.prog 42 #[.string ⟨s.toArray⟩] y.w fun e w' => e = .returned (.bool b) ∧ ∃ z : Sub S, w' = z.w :=
  (pcodeS_qV h hl y.w).mono fun e w' k => ⟨k.1, y, k.2.symm⟩
set_option maxRecDepth 100000 in
set_option maxHeartbeats 4000000 in
theorem isVoy_s (A : Option Addr) (c : Nat) (ps : List Sto) (w : World) (h : VTbl w A ps) :
    Calls Tryz.prog 21 #[.slice A ps.length c] w (Gives w (.bool (voyB ps))) := by
  have hR := h.row
  have hs := h.txt
  have hn := h.len
  clear h
  go_enter Tryz.func21, Tryz.ntmps21
  go_wp2_with fail
  go_loopw [3] (fun i wr => ∃ k : Nat, k ≤ ps.length ∧ i = .int .i64 k ∧ Hid (vTo ps k = true) ∧ Below w.heap.size w wr) (fun i _ => ps.length - (intOf i).toNat)
  case atStart => exact ⟨0, Nat.zero_le _, rfl, Lib.hid rfl, Below.refl _ _⟩
  case round =>
    obtain ⟨k, hk, rfl, hok, hb⟩ := hrel
    by_cases hlt : k < ps.length
    · obtain ⟨b, off, p, rfl, hl, hp, h4⟩ := (hR.below hb).at hlt
      have hpc := sz_v (hs p (List.mem_of_getElem? hp.out))
      have k0 := (KeepV.new wr p).drew
      have q0 : ∀ y : Sub (KeepV wr p), y.w.cell? ⟨wr.heap.size, 0, none⟩ = some (.string ⟨p.p.toArray⟩) := fun y => y.h.cells.c0
      have q1 : ∀ y : Sub (KeepV wr p), y.w.cell? ⟨wr.heap.size, 1, none⟩ = some (.int .i64 p.i) := fun y => y.h.cells.c1
      have q2 : ∀ y : Sub (KeepV wr p), y.w.cell? ⟨wr.heap.size, 2, none⟩ = some (.int .i64 p.o) := fun y => y.h.cells.c2
      have HB := Lib.hid (fun y : Sub (KeepV wr p) => (belowGo hb y.h.bel : Below w.heap.size w y.w))
      have c0 := h4.c0; have c1 := h4.c1; have c2 := h4.c2
      have W := vway p
      obtain ⟨v, hv⟩ : ∃ v, v = p.ok := ⟨_, rfl⟩
      rw [← hv] at W
      cases v with
      | true =>
        cases W with
        | ok g0 g1 g2 g3 g4 =>
        have d0 : decide (p.o < p.i) = false := decide_eq_false (by omega)
        by_cases hk0 : 0 < k
        · obtain ⟨b', off', q, e2, hl', hq, h4'⟩ := (hR.below hb).at (k := k - 1) (by omega)
          obtain ⟨rfl, rfl⟩ : b = b' ∧ off = off' := by injection e2 with e2; injection e2 with e3 e4; exact ⟨e3, e4⟩
          have p0 : ∀ y : Sub (KeepV wr p), y.w.cell? ⟨b, off + (k - 1) * 3 + 2, none⟩ = some (.int .i64 q.o) := fun y => (h4'.below hl' y.h.bel).c2
          have ho : vAt ps k = decide (q.o < p.i) := by
            obtain ⟨j, rfl⟩ : ∃ j, k = j + 1 := ⟨k - 1, by omega⟩
            rw [vAt_s hp.out (by simpa using hq.out), ← hv, Bool.true_and]
          have HT := Lib.hid (vTo_succ ps k)
          rw [hok.out, Bool.true_and, ho] at HT
          have E := Lib.hid (fun h : decide (q.o < p.i) = false => voy_no hlt (ho.trans h))
          clear hR hs hp hok hv hq h4' h4 e2 ho
          by_cases hqr : q.o < p.i
          · rw [decide_eq_true hqr] at HT
            clear E
            go_wp2_with fail
            refine region_held (KeepV wr p) (by kernel_rfl) (by kernel_rfl) k0 ?_
            repeat (go_big_quiet_step ((first | rfl | (go_at_call 43; exact isVs_y (by assumption) _) | (go_at_call 42; exact pcVs_y (by assumption) (by assumption) _))))
            refine wpQuiet_nil ?_
            rintro _ ⟨y, rfl⟩
            go_wp2_with fail
            go_roundw
            case rel => exact ⟨k + 1, by omega, by go_num, HT, HB.out y⟩
            case measure => simp [intOf]; omega
          · have E3 : Hid (voyB ps = false) := Lib.hid (E.out (decide_eq_false hqr))
            have hqr : p.i ≤ q.o := by omega
            clear E HT
            go_wp2_with fail
            refine region_held (KeepV wr p) (by kernel_rfl) (by kernel_rfl) k0 ?_
            repeat (go_big_quiet_step ((first | rfl | (go_at_call 43; exact isVs_y (by assumption) _) | (go_at_call 42; exact pcVs_y (by assumption) (by assumption) _))))
            refine wpQuiet_nil ?_
            rintro _ ⟨y, rfl⟩
            go_wp2_with fail
            go_ret
            exact ⟨by rw [E3.out] <;> rfl, HB.out y⟩
        · have HT : Hid (vTo ps (k + 1) = true) := Lib.hid (by
            rw [vTo_succ, hok.out, Bool.true_and]
            obtain rfl : k = 0 := by omega
            rw [vAt_0 hp.out, ← hv])
          have hd : decide (0 < (k : Int)) = false := by simp; omega
          clear hR hs hp hok hv h4
          go_wp2_with fail
          refine region_held (KeepV wr p) (by kernel_rfl) (by kernel_rfl) k0 ?_
          repeat (go_big_quiet_step ((first | rfl | (go_at_call 43; exact isVs_y (by assumption) _) | (go_at_call 42; exact pcVs_y (by assumption) (by assumption) _))))
          refine wpQuiet_nil ?_
          rintro _ ⟨y, rfl⟩
          go_wp2_with fail
          go_roundw
          case rel => exact ⟨k + 1, by omega, by go_num, HT, HB.out y⟩
          case measure => simp [intOf]; omega
      | false =>
        have E := Lib.hid (voy_no hlt (vAt_no hp.out hv.symm))
        clear hR hs hp hok hv h4
        cases W
        all_goals
          go_wp2_with fail
          refine region_held (KeepV wr p) (by kernel_rfl) (by kernel_rfl) k0 ?_
          repeat (go_big_quiet_step ((first | rfl | (go_at_call 43; exact isVs_y (by assumption) _) | (go_at_call 42; exact pcVs_y (by assumption) (by assumption) _))))
          refine wpQuiet_nil ?_
          rintro _ ⟨y, rfl⟩
          go_wp2_with fail
          go_ret
          exact ⟨by rw [E.out] <;> rfl, HB.out y⟩
    · have E := Lib.hid (voy_all (by obtain rfl : k = ps.length := by omega
                                     exact hok.out))
      clear hR hs hok
      go_wp2_with (go_at_call 44; refine (inr_s _ _ _ _).mono ?_; rintro e w' ⟨rfl, rfl⟩)
      go_ret
      exact ⟨by rw [E.out] <;> rfl, hb⟩
theorem voyS_q {w : World} {A : Option Addr} {c : Nat} {ps : List Sto} {b : Bool} (h : VTbl w A ps) (hb : voyB ps = b) : Calls Tryz.prog 21 #[.slice A ps.length c] w (Gives w (.bool b)) := by
  subst hb; exact isVoy_s A c ps w h
end Go.Proofs.YtklhcofonkmiiaaGreatDoor

/- checkVoyage, searchOut, placeOnDay, PortOn, LegOn of impl. -/
namespace Go.Proofs.YtklhcofonkmiiaaGreatDoor
open Go.ChangeShapes Go.WideShapes Go.ChangeAt Go.RowKit
set_option linter.unusedVariables false

def chkV (rs : List Sto) (ds : List Int) : Int := if voyB rs = true then if daysB ds = true then 0 else 2 else 1
theorem chkV_0 {rs : List Sto} {ds : List Int} (h : voyB rs = true) (h1 : daysB ds = true) : chkV rs ds = 0 := by unfold chkV; rw [if_pos h, if_pos h1]
theorem chkV_2 {rs : List Sto} {ds : List Int} (h : voyB rs = true) (h1 : daysB ds = false) : chkV rs ds = 2 := by unfold chkV; rw [if_pos h, if_neg (by rw [h1]; decide)]
theorem chkV_1 {rs : List Sto} {ds : List Int} (h : voyB rs = false) : chkV rs ds = 1 := by unfold chkV; rw [if_neg (by rw [h]; decide)]
/-! ### the search -/
theorem ordI_neg (x y : Int) : decide (ordI x y < 0) = decide (x < y) := by
  unfold ordI
  by_cases h : x < y
  · simp [h]
  · by_cases h2 : x = y <;> simp [h, h2]
theorem ordI_zero (x y : Int) : (ordI x y == 0) = (x == y) := by
  unfold ordI
  by_cases h : x < y
  · have : x ≠ y := by omega
    simp [h, this]
  · by_cases h2 : x = y <;> simp [h, h2]
/-- Whether a stop ends on the day. -/
def hasPV (rs : List Sto) (d : Int) : Bool := match rs[plcV rs d]? with | some q => q.o == d | none => false
/-! ### the place of a day -/
/-! ### PortOn, LegOn -/
/-- What the ways of a day come to. -/
inductive QWay (rs : List Sto) (d : Int) : Nat × Int → List UInt8 × Int → Int × Int → Prop where
  | no (n : Int) (hn : n ≠ 0) (h : plR rs d = (0, n)) : QWay rs d (0, n) ([], n) (0, n)
  | port (k : Nat) (r : Sto) (h : plR rs d = (k, 0)) (hv : voyB rs = true) (hk : k < rs.length) (he : plcV rs d = k) (hr : rs[k]? = some r) (hi : r.i ≤ d) : QWay rs d (k, 0) (r.p, 0) (0, 5)
  | sea (k : Nat) (r : Sto) (h : plR rs d = (k, 0)) (hv : voyB rs = true) (hk : k < rs.length) (he : plcV rs d = k) (hr : rs[k]? = some r) (hi : d < r.i) : QWay rs d (k, 0) ([], 0) ((k : Int) - 1, 0)
theorem qway (rs : List Sto) (d : Int) : QWay rs d (plR rs d) (portR rs d) (legR rs d) := by
  have W := pway rs d
  obtain ⟨u, hu⟩ : ∃ u, u = plR rs d := ⟨_, rfl⟩
  rw [← hu] at W ⊢
  cases W with
  | bad h => rw [portR_no hu.symm (by decide), legR_no hu.symm (by decide)]; exact .no 1 (by decide) hu.symm
  | day h h1 => rw [portR_no hu.symm (by decide), legR_no hu.symm (by decide)]; exact .no 2 (by decide) hu.symm
  | early => rw [portR_no hu.symm (by decide), legR_no hu.symm (by decide)]; exact .no 4 (by decide) hu.symm
  | late => rw [portR_no hu.symm (by decide), legR_no hu.symm (by decide)]; exact .no 4 (by decide) hu.symm
  | ok f l r hv h1 h0 hl h2 hk hr h3 h4 =>
    by_cases hi : r.i ≤ d
    · rw [portR_in hu.symm hr hi, legR_in hu.symm hr hi]; exact .port _ r hu.symm hv hk rfl hr hi
    · rw [portR_sea hu.symm hr (by omega), legR_sea hu.symm hr (by omega)]; exact .sea _ r hu.symm hv hk rfl hr (by omega)
end Go.Proofs.YtklhcofonkmiiaaGreatDoor

/- l07Code, l07Port, PortOn, LegOn of spec. -/
namespace Go.Proofs.YtklhcofonkmiiaaGreatDoor
open Go.ChangeShapes Go.WideShapes Go.ChangeAt Go.RowKit
set_option linter.unusedVariables false

theorem inrS_y {S : World → Prop} {n lo hi : Int} {b : Bool} (h : inr n lo hi = b) (y : Sub S) : Calls Tryz.prog 44 #[.int .i64 n, .int .i64 lo, .int .i64 hi] y.w fun e w' => e = .returned (.bool b) ∧ ∃ z : Sub S, w' = z.w :=
  (inn_q h y.w).mono fun e w' k => ⟨k.1, y, k.2.symm⟩
end Go.Proofs.YtklhcofonkmiiaaGreatDoor

