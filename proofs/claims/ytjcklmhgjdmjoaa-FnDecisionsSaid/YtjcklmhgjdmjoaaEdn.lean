/- Editions: rows whose rows lie elsewhere. Views for reading, views of what a call owns, what a mark touches. -/
import Derived.Test.YtjcklmhgjdmjoaaMCls
namespace Go.Proofs.Ytjcklmhgjdmjoaa
open Go.ChangeShapes Go.WideShapes Go.ChangeAt Go.RowKit
set_option linter.unusedVariables false

structure Edn where
  y : Int
  cs : List Cls
  deriving DecidableEq
/-- What lies in the row itself. -/
structure Edh where
  y : Int
  A : Option Addr
  n : Nat
  c : Nat
def Edh.cells (h : Edh) : List Value := [.int .i64 h.y, .slice h.A h.n h.c]
def Edh.ob (h : Edh) : Option Nat := (Value.slice h.A h.n h.c).ownBlock
def Edn.wf (e : Edn) : Prop := (Lit.int .i64 e.y).wf = true ∧ e.cs.length ≤ maxLen ∧ ∀ r ∈ e.cs, r.wf
def EdOne (w : World) (h : Edh) (e : Edn) : Prop := h.y = e.y ∧ h.n = e.cs.length ∧ ClsR w h.A e.cs
/-- A row reads as a list of editions. -/
def EdnR (w : World) (A : Option Addr) (es : List Edn) : Prop :=
  ∃ hs : List Edh, hs.length = es.length ∧ Rw w A (hs.flatMap Edh.cells) ∧ ∀ (k : Nat) h e, hs[k]? = some h → es[k]? = some e → EdOne w h e
theorem EdnR.at {w : World} {A : Option Addr} {es : List Edn} (h : EdnR w A es) {k : Nat} (hk : k < es.length) :
    ∃ b off e a c, A = some ⟨b, off, none⟩ ∧ b < w.heap.size ∧ Hid (es[k]? = some e) ∧ w.cell? ⟨b, off + k * 2, none⟩ = some (.int .i64 e.y) ∧
      w.cell? ⟨b, off + k * 2 + 1, none⟩ = some (.slice a e.cs.length c) ∧ ClsR w a e.cs := by
  obtain ⟨hs, hl, hr, ho⟩ := h
  have hf := flat_len Edh.cells 2 (fun _ => rfl) hs
  obtain ⟨b, off, e0, hb, hc⟩ := hr (by rw [hf]; omega)
  have h1 : hs[k]? = some (hs[k]'(by omega)) := List.getElem?_eq_getElem (by omega)
  have h2 : es[k]? = some es[k] := List.getElem?_eq_getElem hk
  obtain ⟨q1, q2, q3⟩ := ho k _ _ h1 h2
  have g := fun j hj => hc (k * 2 + j) _ ((flat_at Edh.cells 2 (fun _ => rfl) hs k j _ h1 hj).trans (List.getElem?_eq_getElem (by exact hj)))
  refine ⟨b, off, es[k], (hs[k]'(by omega)).A, (hs[k]'(by omega)).c, e0, hb, Lib.hid h2, ?_, ?_, q3⟩
  · have := g 0 (by omega); rw [← q1]; simpa [Edh.cells] using this
  · have := g 1 (by omega); rw [← q2]; simpa [Edh.cells, Nat.add_assoc] using this
theorem EdnR.below {w w' : World} {A : Option Addr} {es : List Edn} (h : EdnR w A es) (hb : Below w.heap.size w w') : EdnR w' A es := by
  obtain ⟨hs, hl, hr, ho⟩ := h
  exact ⟨hs, hl, Rw.below hr hb, fun k h e h1 h2 => ⟨(ho k h e h1 h2).1, (ho k h e h1 h2).2.1, (ho k h e h1 h2).2.2.below hb⟩⟩
/-! ### a slice that came in -/
theorem list_edn {α : Type} {l : List α} (h : l.length = 2) : ∃ x0 x1, l = [x0, x1] := by
  match l, h with
  | [x0, x1], _ => exact ⟨x0, x1, rfl⟩
theorem ednR_of {H : Type} {enc : TypeId × Value → H} {w : World} {spare : Nat → Bool} {held : Bool} {t e u g : TypeId} {f0 f1 c0 c1 c2 c3 c4 c5 c6 : Field} {fuel : Nat} {A : Option Addr} {len cap : Nat} {x : DataW H × List MemPlace}
    (ht : Try.prog.underlying t = some (.slice e)) (he : Try.prog.underlying e = some (.struct #[f0, f1])) (hC : Try.prog.cellsOf e = 2) (hone : Go.Deep.oneCellFields Try.prog #[f0, f1] = true)
    (h0 : Try.prog.underlying f0.type = some (.int .i64)) (h1 : Try.prog.underlying f1.type = some (.slice g))
    (hg : Try.prog.underlying g = some (.struct #[c0, c1, c2, c3, c4, c5, c6])) (hgC : Try.prog.cellsOf g = 7) (hgone : Go.Deep.oneCellFields Try.prog #[c0, c1, c2, c3, c4, c5, c6] = true)
    (k0 : Try.prog.underlying c0.type = some (.string)) (k1 : Try.prog.underlying c1.type = some (.int .i64)) (k2 : Try.prog.underlying c2.type = some (.int .i64)) (k3 : Try.prog.underlying c3.type = some (.int .i64)) (k4 : Try.prog.underlying c4.type = some (.int .i64)) (k5 : Try.prog.underlying c5.type = some (.int .i64)) (k6 : Try.prog.underlying c6.type = some (.string))
    (h : DataW.trod enc Try.prog w 0 spare held fuel t [.slice A len cap] = some x) :
    ∃ es : List Edn, es.length = len ∧ EdnR w A es ∧ es.length ≤ maxLen ∧ ∀ e ∈ es, e.wf := by
  rcases Go.Deep.open_slice ht h with ⟨hcs, _⟩ | ⟨a, l, c, m, n, D, Pl, hcs, _, hlc, hcm, hmm, _, hel⟩
  · simp only [List.cons.injEq, Value.slice.injEq, and_true] at hcs
    obtain ⟨rfl, rfl, rfl⟩ := hcs
    exact ⟨[], rfl, ⟨[], rfl, fun hp => by simp at hp, fun k h e h1 => by simp at h1⟩, by simp, fun r hr => by cases hr⟩
  · simp only [List.cons.injEq, Value.slice.injEq, and_true] at hcs
    obtain ⟨rfl, rfl, rfl⟩ := hcs
    have hlm : len ≤ m := by rw [hmm]; split <;> omega
    have key : ∀ i, i < len → ∃ p : Edh × Edn, EdOne w p.1 p.2 ∧ p.2.wf ∧ ∀ j v, p.1.cells[j]? = some v → w.cell? (a.add (i * 2 + j)) = some v := by
      intro i hi
      obtain ⟨cs', hc, ht'⟩ := hel i (by omega)
      rw [hC] at hc
      obtain ⟨_, hcl, hat⟩ := World.cells?_some hc
      obtain ⟨ys, n', _, _, _, hyl, hf⟩ := DataW.trod_struct he ht'
      obtain ⟨o0, q0⟩ := Go.Deep.hone_of hone 0 f0 rfl
      obtain ⟨o1, q1⟩ := Go.Deep.hone_of hone 1 f1 rfl
      obtain ⟨v0, v1, rfl⟩ := list_edn hcl
      have g0 := hf 0 f0 rfl
      rw [o0, q0] at g0
      have g1 := hf 1 f1 rfl
      rw [o1, q1] at g1
      have hys : ∀ j, j < 2 → ∃ y, ys[j]? = some y := fun j hj => by
        have : ys.length = 2 := hyl.trans rfl
        exact ⟨_, List.getElem?_eq_getElem (by omega)⟩
      obtain ⟨y0, e0⟩ := hys 0 (by omega); rw [e0] at g0
      obtain ⟨y1, e1⟩ := hys 1 (by omega); rw [e1] at g1
      obtain ⟨z0, p0, _, w0⟩ := DataW.trod_int h0 g0
      simp at p0
      subst p0
      have g1' : DataW.trod enc Try.prog w 0 spare held n' f1.type [v1] = some y1 := by simpa using g1
      obtain ⟨A1, l1, cp1, rfl⟩ : ∃ A1 l1 cp1, v1 = Value.slice A1 l1 cp1 := by
        rcases Go.Deep.open_slice h1 g1' with ⟨hq, _⟩ | ⟨a', l', c', _, _, _, _, hq, _⟩
        · simp only [List.cons.injEq, and_true] at hq; exact ⟨_, _, _, hq⟩
        · simp only [List.cons.injEq, and_true] at hq; exact ⟨_, _, _, hq⟩
      obtain ⟨rs, r1, r2, r3, r4⟩ := clsR_of h1 hg hgC hgone k0 k1 k2 k3 k4 k5 k6 g1'
      refine ⟨(⟨z0, A1, l1, cp1⟩, ⟨z0, rs⟩), ⟨rfl, r1.symm, r2⟩, ⟨w0, r3, r4⟩, fun j v hj => ?_⟩
      have hj4 : j < 2 := (List.getElem?_eq_some_iff.1 hj).1
      rw [← Go.Deep.add_add]
      have := hat j hj4
      rw [this, ← hj]
      rfl
    obtain ⟨ps, hl, hr⟩ := pick_all key
    refine ⟨ps.map Prod.snd, by simpa using hl, ⟨ps.map Prod.fst, by simp, fun hp => ?_, fun k h e e1 e2 => ?_⟩, by simp; omega, fun r hr' => ?_⟩
    · rw [flat_len Edh.cells 2 (fun _ => rfl), List.length_map] at hp
      have h00 := (hr 0 ps[0] (List.getElem?_eq_getElem (by omega))).2.2 0 _ rfl
      obtain ⟨b, off, spot⟩ := a
      have hspot : spot = none := by simpa [Addr.add] using World.cell?_spot h00
      subst hspot
      refine ⟨b, off, rfl, World.block_lt_of_cell? w _ h00, fun j v hj => ?_⟩
      obtain ⟨r, h5, h6⟩ := flat_some Edh.cells 2 (by decide) (fun _ => rfl) _ j v hj
      rw [List.getElem?_map] at h5
      obtain ⟨p, h7, h8⟩ := Option.map_eq_some_iff.1 h5
      subst h8
      have := (hr _ p h7).2.2 _ v h6
      rw [Go.WideShapes.add_plain, Nat.mul_comm, Nat.div_add_mod] at this
      exact this
    · rw [List.getElem?_map] at e1 e2
      obtain ⟨p, h7, h8⟩ := Option.map_eq_some_iff.1 e1
      obtain ⟨q, h9, h10⟩ := Option.map_eq_some_iff.1 e2
      rw [h7] at h9; cases h9
      subst h8 h10
      exact (hr _ p h7).1
    · obtain ⟨p, hp, rfl⟩ := List.mem_map.1 hr'
      obtain ⟨i, hi⟩ := List.getElem?_of_mem hp
      exact (hr i p hi).2.1

/-! ### what a call touches: blocks from lo on, before hi -/
structure Tou (lo hi : Nat) (w w' : World) : Prop where
  os : w'.os = w.os
  tape : w'.tape = w.tape
  output : w'.output = w.output
  size : w.heap.size ≤ w'.heap.size
  block : ∀ k, k < w.heap.size → ¬ (lo ≤ k ∧ k < hi) → w'.heap[k]? = w.heap[k]?
theorem Tou.refl (lo hi : Nat) (w : World) : Tou lo hi w w := ⟨rfl, rfl, rfl, Nat.le_refl _, fun _ _ _ => rfl⟩
theorem Tou.trans {lo hi : Nat} {a b c : World} (h : Tou lo hi a b) (k : Tou lo hi b c) : Tou lo hi a c :=
  ⟨k.os.trans h.os, k.tape.trans h.tape, k.output.trans h.output, Nat.le_trans h.size k.size, fun i h1 h2 => (k.block i (Nat.lt_of_lt_of_le h1 h.size) h2).trans (h.block i h1 h2)⟩
theorem Tou.drew {lo hi : Nat} {a w : World} (h : Tou lo hi a w) : Tou lo hi a w.drew := ⟨h.os, h.tape, h.output, h.size, h.block⟩
theorem Tou.of_below {lo hi : Nat} {w w' : World} (h : Below w.heap.size w w') : Tou lo hi w w' := ⟨h.os, h.tape, h.output, h.size, fun k h1 _ => h.block k h1⟩
theorem Tou.of_grown {lo hi : Nat} {w w' : World} {row : Option Nat} (h : w.grownBy w' row) (hr : ∀ g, row = some g → lo ≤ g ∧ g < hi) : Tou lo hi w w' :=
  ⟨h.os, h.tape, h.output, h.size, fun k h1 h2 => h.block k h1 fun e => h2 (hr k e.symm)⟩
theorem Tou.mono {lo hi lo' hi' : Nat} {w w' : World} (h : Tou lo hi w w') (h1 : lo' ≤ lo) (h2 : hi ≤ hi') : Tou lo' hi' w w' :=
  ⟨h.os, h.tape, h.output, h.size, fun k hk hn => h.block k hk fun ⟨a, b⟩ => hn ⟨by omega, by omega⟩⟩
theorem Tou.far {lo hi B : Nat} {W w w' : World} (hW : Below B W w) (h : Tou lo hi w w') (hB : B ≤ lo) (hs : B ≤ w.heap.size) : Below B W w' :=
  hW.trans ⟨h.os, h.tape, h.output, h.size, fun k hk => h.block k (by omega) (by omega)⟩
theorem own_tou {w w' : World} {base lo hi : Nat} {e : TypeId} {size n : Nat} {v : Value} {xs : List Value} (h : w.ownsRow base e size v n xs) (ht : Tou lo hi w w') (hd : ∀ g, v.ownBlock = some g → ¬ (lo ≤ g ∧ g < hi)) :
    w'.ownsRow base e size v n xs := by
  refine ⟨h.1, ?_⟩
  rcases h.2 with hn | ⟨g, cap, cur, rfl, hb, hgg, rest⟩
  · exact .inl hn
  · refine .inr ⟨g, cap, cur, rfl, hb, ?_, rest⟩
    rw [ht.block g (Array.getElem?_eq_some_iff.1 hgg).1 (hd g rfl)]
    exact hgg
theorem ClsO.tou {w w' : World} {base lo hi : Nat} {A : Option Addr} {n c : Nat} {rs : List Cls} (h : ClsO w base A n c rs) (ht : Tou lo hi w w') (hd : ∀ g, (Value.slice A n c).ownBlock = some g → ¬ (lo ≤ g ∧ g < hi)) : ClsO w' base A n c rs := own_tou h ht hd

/-! ### rows of the call's own -/
def Edh.sep (a b : Edh) : Prop := ∀ g, a.ob = some g → b.ob ≠ some g
section
variable {w w' : World} {lo hi : Nat} {A : Option Addr} {n c : Nat} {hs : List Edh} {es : List Edn}
end
end Go.Proofs.Ytjcklmhgjdmjoaa
