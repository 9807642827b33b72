import Derived.Test.YtjcklmhgjdmjoaaGreatEdb
import Derived.Test.YtjcklmhgjdmjoaaGreatMEdi
namespace Go.Proofs.YtjcklmhgjdmjoaaGreat
open Go.ChangeShapes Go.WideShapes Go.ChangeAt Go.RowKit
set_option linter.unusedVariables false
theorem flat_set7 (p : Cls) : ∀ (cs : List Cls) (m : Nat) (x : Cls), cs[m]? = some x → ((((((((cs.flatMap Cls.cells).set (m * 7) (.string ⟨p.c.toArray⟩)).set (m * 7 + 1) (.int .i64 p.k)).set (m * 7 + 2) (.int .i64 p.p)).set (m * 7 + 3) (.int .i64 p.v)).set (m * 7 + 4) (.int .i64 p.r)).set (m * 7 + 5) (.int .i64 p.e)).set (m * 7 + 6) (.string ⟨p.t.toArray⟩)) = (cs.set m p).flatMap Cls.cells
 | [], m, x, h => by simp at h
 | q :: cs, 0, x, h => by simp [Cls.cells]
 | q :: cs, m + 1, x, h => by
  have ih := flat_set7 p cs m x (by simpa using h)
  simp only [List.set_cons_succ, List.flatMap_cons, ← ih]
  rw [show (m + 1) * 7 = m * 7 + 1 + 1 + 1 + 1 + 1 + 1 + 1 by omega]
  simp [Cls.cells]
theorem flat_set_sl : ∀ (hs : List Edh) (j : Nat) (x : Edh) (A : Option Addr) (n c : Nat), hs[j]? = some x → (hs.flatMap Edh.cells).set (j * 2 + 1) (.slice A n c) = (hs.set j ⟨x.y, A, n, c⟩).flatMap Edh.cells
 | [], j, x, A, n, c, h => by simp at h
 | q :: hs, 0, x, A, n, c, h => by simp at h; subst h; simp [Edh.cells]
 | q :: hs, j + 1, x, A, n, c, h => by
  have ih := flat_set_sl hs j x A n c (by simpa using h)
  simp only [List.set_cons_succ, List.flatMap_cons, ← ih]
  rw [show (j + 1) * 2 + 1 = j * 2 + 1 + 1 + 1 by omega]
  simp [Edh.cells]
theorem ClsO.put {w : World} {base g n c m : Nat} {cs : List Cls} {x : Cls} (h : ClsO w base (some ⟨g, 0, none⟩) n c cs) (hm : cs[m]? = some x) (p : Cls) :
  ClsO (((((((w.setCell ⟨g, m * 7, none⟩ (.string ⟨p.c.toArray⟩)).setCell ⟨g, m * 7 + 1, none⟩ (.int .i64 p.k)).setCell ⟨g, m * 7 + 2, none⟩ (.int .i64 p.p)).setCell ⟨g, m * 7 + 3, none⟩ (.int .i64 p.v)).setCell ⟨g, m * 7 + 4, none⟩ (.int .i64 p.r)).setCell ⟨g, m * 7 + 5, none⟩ (.int .i64 p.e)).setCell ⟨g, m * 7 + 6, none⟩ (.string ⟨p.t.toArray⟩)) base (some ⟨g, 0, none⟩) n c (cs.set m p) ∧ w.grownBy (((((((w.setCell ⟨g, m * 7, none⟩ (.string ⟨p.c.toArray⟩)).setCell ⟨g, m * 7 + 1, none⟩ (.int .i64 p.k)).setCell ⟨g, m * 7 + 2, none⟩ (.int .i64 p.p)).setCell ⟨g, m * 7 + 3, none⟩ (.int .i64 p.v)).setCell ⟨g, m * 7 + 4, none⟩ (.int .i64 p.r)).setCell ⟨g, m * 7 + 5, none⟩ (.int .i64 p.e)).setCell ⟨g, m * 7 + 6, none⟩ (.string ⟨p.t.toArray⟩)) (some g) := by
 have := stored_cls h (m * 7) (.string ⟨p.c.toArray⟩) (.int .i64 p.k) (.int .i64 p.p) (.int .i64 p.v) (.int .i64 p.r) (.int .i64 p.e) (.string ⟨p.t.toArray⟩)
 refine ⟨?_, this.2⟩
 have h1 := this.1
 rw [flat_set7 p cs m x hm] at h1
 exact h1
theorem EdnOw.inner {w w' : World} {lo hi n c : Nat} {A : Option Addr} {hs : List Edh} {es : List Edn} (h : EdnOw w lo hi A n c hs es) {j : Nat} {x : Edh} {e : Edn} (hx : hs[j]? = some x) (he : es[j]? = some e) {cs' : List Cls}
  (ho : ClsO w' lo x.A x.n x.c cs') (hg : w.grownBy w' x.ob) : EdnOw w' lo hi A n c hs (es.set j ⟨e.y, cs'⟩) := by
 have hxm := List.mem_of_getElem? hx
 refine ⟨World.ownsRow.kept h.row hg ?_, by simp [h.len], fun i y d h1 h2 => ?_, h.hiA, h.his, h.sep⟩
 ·
  cases hb : (Value.slice A n c).ownBlock with
  | none => exact .inl rfl
  | some g => exact .inr fun e1 => (h.his x hxm g e1.symm).2 hb
 ·
  rw [List.getElem?_set] at h2
  by_cases hij : j = i
  ·
   subst hij
   rw [if_pos rfl, if_pos (List.getElem?_eq_some_iff.1 he).1] at h2
   rw [hx] at h1
   cases h1; cases h2
   exact ⟨(h.one j x e hx he).1, ho⟩
  ·
   rw [if_neg hij] at h2
   refine ⟨(h.one i y d h1 h2).1, World.ownsRow.kept (h.one i y d h1 h2).2 hg ?_⟩
   cases hb : y.ob with
   | none => exact .inl hb
   | some b => exact .inr fun e1 => h.ne h1 hx (fun e2 => hij e2.symm) b hb (by rw [← e1]; exact hb)
theorem hasL_none {es : List Edn} {y : Int} (h : ∀ (j : Nat) q, es[j]? = some q → q.y ≠ y) : hasL es y = false := by
 cases hh : hasL es y with
 | false => rfl
 | true => obtain ⟨q, hq, e⟩ := hasL_t hh; exact absurd e (h _ q hq)
theorem amL_tbl {es : List Edn} {k m : Nat} {e : Edn} {p : Cls} (h1 : ∀ x ∈ es, ∀ q ∈ x.cs, q.sz ≤ 1048600) (hp : p.sz ≤ 1048600) (hl : lbB es = true) (he : es[k]? = some e) :
  (∀ x ∈ es.set k (amE e m p), ∀ q ∈ x.cs, q.sz ≤ 1048600) ∧ (∀ x ∈ es.set k (amE e m p), 0 < x.cs.length ∧ x.cs.length ≤ 900) ∧ (es.set k (amE e m p)).length ≤ 900 := by
 have L := lb_of hl
 have hem := List.mem_of_getElem? he
 refine ⟨fun x hx q hq => ?_, fun x hx => ?_, by rw [List.length_set]; have := L.len; omega⟩
 ·
  rcases List.mem_or_eq_of_mem_set hx with h | rfl
  ·
   exact h1 x h q hq
  ·
   rcases List.mem_or_eq_of_mem_set hq with h2 | rfl
   ·
    exact h1 e hem q h2
   ·
    exact hp
 ·
  rcases List.mem_or_eq_of_mem_set hx with h | rfl
  ·
   have := rb_of (L.one x h).2; have a := this.lo; have b := this.hi; omega
  ·
   have := rb_of (L.one e hem).2; have a := this.lo; have b := this.hi
   unfold amE
   simp only [List.length_set]; omega
theorem fndIC_some {cs : List Cls} {s : List UInt8} {m : Nat} (h : fndIC cs s = (m : Int)) : fndC cs s = some m ∧ m < cs.length := by
 unfold fndIC at h
 cases hf : fndC cs s with
 | none => rw [hf] at h; exact absurd h (by simp only []; omega)
 | some k => rw [hf] at h; obtain rfl : k = m := by have h2 : (k : Int) = (m : Int) := h; omega
             exact ⟨rfl, fnd_ltC hf⟩
theorem fndIC_none {cs : List Cls} {s : List UInt8} (h : fndIC cs s < 0) : fndC cs s = none := by
 unfold fndIC at h
 cases hf : fndC cs s with
 | none => rfl
 | some k => rw [hf] at h; simp at h; omega
theorem cls_own_some {w : World} {base n q : Nat} {O : Option Addr} {L : List Cls} (h : ClsO w base O n q L) (h0 : 1 ≤ n) : ∃ g, O = some ⟨g, 0, none⟩ := by
 rcases h.2 with ⟨_, e2⟩ | ⟨g, _, _, e, _⟩
 ·
  omega
 ·
  injection e with e; exact ⟨g, e⟩
structure Z7C (w : World) (g o : Nat) : Prop where
 z0 : ∃ v, w.cell? ⟨g, o, none⟩ = some v
 f0 : w.frozen? ⟨g, o, none⟩ = false
 z1 : ∃ v, w.cell? ⟨g, o + 1, none⟩ = some v
 f1 : w.frozen? ⟨g, o + 1, none⟩ = false
 z2 : ∃ v, w.cell? ⟨g, o + 2, none⟩ = some v
 f2 : w.frozen? ⟨g, o + 2, none⟩ = false
 z3 : ∃ v, w.cell? ⟨g, o + 3, none⟩ = some v
 f3 : w.frozen? ⟨g, o + 3, none⟩ = false
 z4 : ∃ v, w.cell? ⟨g, o + 4, none⟩ = some v
 f4 : w.frozen? ⟨g, o + 4, none⟩ = false
 z5 : ∃ v, w.cell? ⟨g, o + 5, none⟩ = some v
 f5 : w.frozen? ⟨g, o + 5, none⟩ = false
 z6 : ∃ v, w.cell? ⟨g, o + 6, none⟩ = some v
 f6 : w.frozen? ⟨g, o + 6, none⟩ = false
theorem cls_fresh {wq w3 : World} {v : Value} {m : Nat} {cs : List Cls} {x0 : Cls} (p : Cls) (h : w3.ownsRow wq.heap.size 47 7 v (0 + cs.length) ([] ++ cs.flatMap Cls.cells)) (hb : Below wq.heap.size wq w3) (h1 : 1 ≤ cs.length) (hm : cs[m]? = some x0) :
  ∃ gA q3, v = .slice (some ⟨gA, 0, none⟩) cs.length q3 ∧ Z7C w3 gA (m * 7) ∧ ∃ w4, (((((((w3.setCell ⟨gA, m * 7, none⟩ (.string ⟨p.c.toArray⟩)).setCell ⟨gA, m * 7 + 1, none⟩ (.int .i64 p.k)).setCell ⟨gA, m * 7 + 2, none⟩ (.int .i64 p.p)).setCell ⟨gA, m * 7 + 3, none⟩ (.int .i64 p.v)).setCell ⟨gA, m * 7 + 4, none⟩ (.int .i64 p.r)).setCell ⟨gA, m * 7 + 5, none⟩ (.int .i64 p.e)).setCell ⟨gA, m * 7 + 6, none⟩ (.string ⟨p.t.toArray⟩)) = w4 ∧ ClsO w4 wq.heap.size (some ⟨gA, 0, none⟩) cs.length q3 (cs.set m p) ∧ Below wq.heap.size wq w4 := by
 rw [Nat.zero_add, List.nil_append] at h
 obtain ⟨O3, q3, rfl⟩ := own_form h
 have o3 : ClsO w3 wq.heap.size O3 cs.length q3 cs := h
 obtain ⟨gA, rfl⟩ := cls_own_some o3 h1
 obtain ⟨P3, G3⟩ := ClsO.put o3 hm p
 have hml := (List.getElem?_eq_some_iff.1 hm).1
 have hyl := flat_len Cls.cells 7 (fun _ => rfl) cs
 exact ⟨gA, q3, rfl, ⟨own_at o3 (m * 7) (by omega), World.ownsRow.frozenAt o3 (m * 7), own_at o3 (m * 7 + 1) (by omega), World.ownsRow.frozenAt o3 (m * 7 + 1), own_at o3 (m * 7 + 2) (by omega), World.ownsRow.frozenAt o3 (m * 7 + 2), own_at o3 (m * 7 + 3) (by omega), World.ownsRow.frozenAt o3 (m * 7 + 3), own_at o3 (m * 7 + 4) (by omega), World.ownsRow.frozenAt o3 (m * 7 + 4), own_at o3 (m * 7 + 5) (by omega), World.ownsRow.frozenAt o3 (m * 7 + 5), own_at o3 (m * 7 + 6) (by omega), World.ownsRow.frozenAt o3 (m * 7 + 6)⟩, _, rfl, P3, hb.grown G3 hb.size (fun k hk => (h.lt k hk).1)⟩
theorem edh_fresh {w4 w5 : World} {v : Value} {k n q : Nat} {gA : Option Addr} {hs : List Edh} {es : List Edn} {e : Edn} {cs' : List Cls} {base : Nat} (h : w5.ownsRow w4.heap.size 42 2 v (0 + hs.length) ([] ++ hs.flatMap Edh.cells)) (hb : Below w4.heap.size w4 w5)
  (hv : EdnV w4 hs es) (he : es[k]? = some e) (hc : ClsO w4 base gA n q cs') (hn : cs'.length = n) :
  ∃ gB q5, v = .slice (some ⟨gB, 0, none⟩) es.length q5 ∧ (∃ v, w5.cell? ⟨gB, k * 2 + 1, none⟩ = some v) ∧ w5.frozen? ⟨gB, k * 2 + 1, none⟩ = false ∧ ∃ w6, w5.setCell ⟨gB, k * 2 + 1, none⟩ (.slice gA n q) = w6 ∧
   EdnR w6 (some ⟨gB, 0, none⟩) (es.set k ⟨e.y, cs'⟩) ∧ Below w4.heap.size w4 w6 := by
 rw [Nat.zero_add, List.nil_append] at h
 have hkl := (List.getElem?_eq_some_iff.1 he).1
 have hl := hv.len
 obtain ⟨O3, q3, rfl⟩ := own_form h
 have o3 : EdhO w5 w4.heap.size O3 hs.length q3 hs := h
 obtain ⟨gB, rfl⟩ := edhO_some o3 (by omega)
 have hyl := flat_len Edh.cells 2 (fun _ => rfl) hs
 obtain ⟨x, hx⟩ : ∃ x, hs[k]? = some x := ⟨_, List.getElem?_eq_getElem (by omega)⟩
 have S := h.stored (k * 2 + 1) (.slice gA n q)
 rw [flat_set_sl hs k x gA n q hx] at S
 have hg := (h.lt gB rfl).1
 have hB : Below w4.heap.size w4 (w5.setCell ⟨gB, k * 2 + 1, none⟩ (.slice gA n q)) := hb.grown S.2 hb.size (fun j hj => by injection hj; omega)
 have hxy := (hv.one k x e hx he).1
 refine ⟨gB, q3, by rw [hl], ⟨_, (own_at o3 (k * 2 + 1) (by omega)).choose_spec⟩, World.ownsRow.frozenAt o3 _, _, rfl, ednR_of_hs (hs := hs.set k ⟨x.y, gA, n, q⟩) (Rw.ownS S.1) ((hv.below hB).set ⟨hxy, hn.symm, (hc.below hB).row⟩), hB⟩
theorem step_b {w4 w6 : World} {lo : Nat} {w : World} (h : Below lo w w4) (h2 : Below w4.heap.size w4 w6) (hl : lo ≤ w4.heap.size) : Below lo w w6 := h.trans (h2.mono hl)
set_option maxRecDepth 100000 in
set_option maxHeartbeats 8000000 in
theorem amend_s (A : Option Addr) (c : Nat) (es : List Edn) (y : Int) (p : Cls) (w : World) (h : LTbl w A es) (hp : p.sz ≤ 1048600) :
  Calls Tryz.prog 20 #[.slice A es.length c, .int .i64 y, .agg #[.string ⟨p.c.toArray⟩, .int .i64 p.k, .int .i64 p.p, .int .i64 p.v, .int .i64 p.r, .int .i64 p.e, .string ⟨p.t.toArray⟩]] w (NewEdnsC w (amR es y p)) := by
 have kb := KeepC.new w p
 have hpc := sz_c hp
 have hn := h.len
 have HV := Lib.hid (fun w => cvalid_s p w hpc.1 hpc.2)
 rcases Bool.eq_false_or_eq_true (lbB es) with hr | hr
 ·
  rcases Bool.eq_false_or_eq_true p.ok with hv | hv
  ·
   have HT := Lib.hid (lbS_q (c := c) (h.below kb.bel) hr)
   rw [hv] at HV
   have LL := Lib.hid (lb_of hr)
   have hL6 := (lb_of hr).len
   obtain ⟨hs, p1, p2⟩ := ednR_hs h.row
   obtain ⟨b, off, rfl⟩ := lb_some h.row hr
   have HNF := Lib.hid (@amR_nf es y p hr hv)
   have HNC := Lib.hid (fun e => @amR_nc es y p e hr hv)
   have HST := Lib.hid (fun e k => @amR_st es y p e k hr hv)
   have HOK := Lib.hid (fun e k => @amR_ok es y p e k hr hv)
   have HTB := Lib.hid (fun (k m : Nat) (e : Edn) (he : es[k]? = some e) => amL_tbl (m := m) (p := p) h.txt hp hr he)
   have HR := Lib.hid (fun W (b : Below w.heap.size w W) => h.below b)
   have HH := Lib.hid (fun W (b : Below w.heap.size w W) => (⟨p1.below b, p2.below b⟩ : EdhR W (some ⟨_, off, none⟩) hs ∧ EdnV W hs es))
   have HLN := Lib.hid p2.len
   clear h hr hv p1 p2
   go_enter Tryz.func20, Tryz.ntmps20
   go_wp2_with (first
    | (go_at_call 46; refine HT.out.mono ?_; rintro e' w1 ⟨rfl, b1⟩; have kb1 := kb.step b1; have c0 := kb1.cells.c0; have c1 := kb1.cells.c1; have c2 := kb1.cells.c2; have c3 := kb1.cells.c3; have c4 := kb1.cells.c4; have c5 := kb1.cells.c5; have c6 := kb1.cells.c6)
    | (go_at_call 54; refine (HV.out _).mono ?_; rintro e' w2 ⟨rfl, b2⟩; have kb2 := kb1.step b2))
   go_loopw [8] (fun i wr => ∃ k : Nat, k ≤ es.length ∧ i = .int .i64 k ∧ Hid (∀ (j : Nat) (q : Edn), j < k → es[j]? = some q → q.y ≠ y) ∧ KeepC w p wr) (fun i _ => es.length - (intOf i).toNat)
   case atStart => exact ⟨0, Nat.zero_le _, rfl, Lib.hid fun j q hj => by omega, kb2⟩
   case round =>
    clear kb kb1 kb2 b1 b2 c0 c1 c2 c3 c4 c5 c6 HT HV
    obtain ⟨k, hk, rfl, hno, kc⟩ := hrel
    by_cases hlt : k < es.length
    ·
     obtain ⟨b', off', e, a, cp, e2, hl, he, m0, m1, hct⟩ := (HR.out wr kc.bel).at hlt
     obtain ⟨rfl, rfl⟩ : b = b' ∧ off = off' := by injection e2 with e2; injection e2 with e3 e4; exact ⟨e3, e4⟩
     by_cases hy : e.y = y
     ·
      have hz : (e.y != y) = false := by simp [hy]
      obtain ⟨hhas, hplc⟩ := hasL_at LL.out he.out hy
      obtain ⟨f, hf⟩ : ∃ f, fndIC e.cs p.c = f := ⟨_, rfl⟩
      have HF := Lib.hid (fun z : Sub (Bel wr) => (find_sC a cp e.cs p.c z.w (hct.row.below z.h) (by have := hct.len; omega)).mono fun x w' kk => (⟨by rw [← hf]; exact kk.1, ⟨w', by rw [← kk.2]; exact z.h⟩, rfl⟩ : x = .returned (.int .i64 f) ∧ ∃ z2 : Sub (Bel wr), w' = z2.w))
      have q1 : ∀ z : Sub (Bel wr), z.w.cell? ⟨b, off + k * 2 + 1, none⟩ = some (.slice a e.cs.length cp) := fun z => (Below.cell (show Below wr.heap.size wr z.w from z.h) (p := ⟨b, off + k * 2 + 1, none⟩) hl).trans m1
      have r0 : ∀ z : Sub (Bel wr), z.w.cell? ⟨w.heap.size, 0, none⟩ = some (.string ⟨p.c.toArray⟩) := fun z => (kc.step z.h).cells.c0
      have HKC := Lib.hid (fun z : Sub (Bel wr) => kc.step z.h)
      have HCT := Lib.hid (fun z : Sub (Bel wr) => hct.row.below z.h)
      have hbd := fndIC_bd e.cs p.c
      rw [hf] at hbd
      rw [← hplc] at he
      by_cases hf0 : f < 0
      ·
       have E := Lib.hid (HNC.out e hhas he.out (fndIC_none (by rw [hf]; exact hf0)))
       clear hno he hct hhas hplc hf
       go_wp2_with fail
       refine region_held (Bel wr) (by kernel_rfl) (by kernel_rfl) (Bel.drew wr) ?_
       repeat (go_big_quiet_step ((first | rfl | (go_at_call 40; exact HF.out _))))
       refine wpQuiet_nil ?_
       rintro _ ⟨z, rfl⟩
       have hbz := (HKC.out z).bel
       go_wp2_with fail
       go_ret2
       unfold NewEdnsC
       rw [E.out]
       exact ⟨none, 0, rfl, EdnO.nil _ _ _, hbz⟩
      ·
       obtain ⟨m, rfl⟩ : ∃ m : Nat, f = (m : Int) := ⟨f.toNat, by omega⟩
       obtain ⟨hfm, hml⟩ := fndIC_some hf
       obtain ⟨x0, hx0⟩ : ∃ x0, e.cs[m]? = some x0 := ⟨_, List.getElem?_eq_getElem hml⟩
       rw [hplc] at he
       obtain ⟨ht1, ht2, ht3⟩ := HTB.out k m e he.out
       have EOK := Lib.hid (fun h3 => HOK.out e m hhas (by rw [hplc]; exact he.out) hfm (by rw [hplc]; exact h3))
       have EST := Lib.hid (fun h3 => HST.out e m hhas (by rw [hplc]; exact he.out) hfm (by rw [hplc]; exact h3))
       rw [hplc] at EOK
       have hc9 := (rb_of (LL.out.one e (List.mem_of_getElem? he.out)).2).hi
       have hc1 := (rb_of (LL.out.one e (List.mem_of_getElem? he.out)).2).lo
       obtain ⟨bc, oc, hA⟩ := clsR_some hct.row (by omega)
       subst hA
       have HE := Lib.hid he.out
       have HX0 := Lib.hid hx0
       have hm2 : decide ((m : Int) < 0) = false := decide_eq_false (by omega)
       have HT1 := Lib.hid ht1
       have HT2 := Lib.hid ht2
       have HT3 := Lib.hid ht3
       clear hno he hct hhas hplc hf hfm hx0 ht1 ht2 ht3 HNF HNC HST HOK HTB LL
       go_wp2_with fail
       refine region_held (Bel wr) (by kernel_rfl) (by kernel_rfl) (Bel.drew wr) ?_
       repeat (go_big_quiet_step ((first | rfl | (go_at_call 40; exact HF.out _))))
       refine wpQuiet_nil ?_
       rintro _ ⟨z, rfl⟩
       have kz := HKC.out z
       have hR1 := HCT.out z
       have q1z := q1 z
       generalize z.w = wq at *
       clear q1 r0 HKC HCT HF m0 m1 kc
       obtain ⟨i0, hi, hz0, hz1, hz2⟩ := info_parts clsInfo
       obtain ⟨i1, hi1, hy0, hy1, hy2⟩ := info_parts ednInfo
       have hbq := kz.bel
       have HO0 := made0H wq wq.heap.size 47 7 (Nat.le_refl _)
       have hsz0 : wq.heap.size ≤ (wq.alloc (Obj.cells #[] 47)).heap.size := by simp
       have HB0 := Lib.hid (fun w3 (g : (wq.alloc (Obj.cells #[] 47)).grownBy w3 (Value.slice (some ⟨wq.heap.size, 0, none⟩) 0 0).ownBlock) => ((below_alloc wq (Obj.cells #[] 47)).trans ((Below.refl _ _).grown g hsz0 (fun k hk => (HO0.lt k hk).1)) : Below wq.heap.size wq w3))
       have HC0 := Lib.hid (clsrR_cells (hR1.below (below_alloc wq (Obj.cells #[] 47))))
       have hqb : b < wq.heap.size := World.block_lt_of_cell? wq _ q1z
       have q2z := ((below_alloc wq (Obj.cells #[] 47)).cell (p := ⟨b, off + k * 2 + 1, none⟩) hqb).trans q1z
       have hHq := Lib.hid (HH.out wq hbq)
       have HWQ := Lib.hid (fun W (bb : Below wq.heap.size wq W) => (⟨(hHq.out.1).below bb, (hHq.out.2).below bb, kz.step bb, hbq.trans (bb.mono hbq.size)⟩ : EdhR W (some ⟨b, off, none⟩) hs ∧ EdnV W hs es ∧ KeepC w p W ∧ Below w.heap.size w W))
       have hln : hs.length ≤ 6 ∧ 1 ≤ hs.length := by have := HLN.out; omega
       obtain ⟨EL, hEL⟩ : ∃ EL, EL = es.set k (amE e m p) := ⟨_, rfl⟩
       have HEL : Hid (es.set k ⟨e.y, e.cs.set m p⟩ = EL) := Lib.hid hEL.symm
       rw [← hEL] at EOK EST HT1 HT2 HT3
       have HELn : Hid (EL.length = es.length) := Lib.hid (by rw [hEL, List.length_set])
       have HTBL := Lib.hid (fun (W : World) (A : Option Addr) (hr : EdnR W A EL) => (⟨hr, HT1.out, fun z hz => by have := HT2.out z hz; omega, by have := HT3.out; omega⟩ : LTbl W A EL))
       have HELN2 := HELn
       have HLA := Lib.hid (fun (A : Value) => (by rw [HLN.out] : (Value.slice (some ⟨b, off, none⟩) es.length c) = Value.slice (some ⟨b, off, none⟩) hs.length c))
       have HOWN := Lib.hid (fun g W (hr : EdnR W (some ⟨g, 0, none⟩) EL) q => own_s g 0 q EL W hr HT3.out HT2.out)
       rw [HELn.out] at HOWN
       clear hEL hHq hbq kz hR1 q1z HH HR HT1 HT2 HT3
       rcases Bool.eq_false_or_eq_true (lbB EL) with hvv | hvv
       all_goals
        have HLB := Lib.hid (fun (W : World) (A : Option Addr) (hr : EdnR W A EL) q => lbS_q (c := q) (HTBL.out W A hr) hvv)
        rw [HELn.out] at HLB
       ·
        have E := Lib.hid (EOK.out hvv)
        clear hvv EOK EST HTBL HELn
        go_wp2_with (first
         | (at_builtin; refine wpList_append_own _ rfl (.tmp 43) (.tmp 48) 24 rfl wq.heap.size 47 i0 _ 7 72 Tryz.underlying24 hi hz0 hz1 hz2 rfl (by decide) _ 0 _ rfl HO0 ⟨bc, oc, none⟩ e.cs.length cp (e.cs.flatMap Cls.cells) rfl (flat_len Cls.cells 7 (fun _ => rfl) e.cs) HC0.out (cells_oneCl e.cs) (by unfold maxLen; omega) (by omega) hsz0 ?_; intro v3 w3 g2 g3 g4; have B3 := HB0.out w3 g3; obtain ⟨gA, q3, rfl, Z3, w4, hw4, P4, B4⟩ := cls_fresh p g2 B3 hc1 HX0.out; obtain ⟨⟨v0, z0⟩, f0, ⟨v1, z1⟩, f1, ⟨v2, z2⟩, f2, ⟨v3, z3⟩, f3, ⟨v4, z4⟩, f4, ⟨v5, z5⟩, f5, ⟨v6, z6⟩, f6⟩ := Z3; have k3 := (HWQ.out w3 B3).2.2.1.cells; have c0 := k3.c0; have c1 := k3.c1; have c2 := k3.c2; have c3 := k3.c3; have c4 := k3.c4; have c5 := k3.c5; have c6 := k3.c6; have H4 := Lib.hid (HWQ.out w4 B4); have P4h := Lib.hid P4; have HO1 := made0H w4 w4.heap.size 42 2 (Nat.le_refl _); have hsz1 : w4.heap.size ≤ (w4.alloc (Obj.cells #[] 42)).heap.size := (by simp); have HB1 := Lib.hid (fun w5 (g : (w4.alloc (Obj.cells #[] 42)).grownBy w5 (Value.slice (some ⟨w4.heap.size, 0, none⟩) 0 0).ownBlock) => ((below_alloc w4 (Obj.cells #[] 42)).trans ((Below.refl _ _).grown g hsz1 (fun k hk => (HO1.lt k hk).1)) : Below w4.heap.size w4 w5)); have HC1 := Lib.hid (edhR_cells (H4.out.1.below (below_alloc w4 (Obj.cells #[] 42)))); clear g2 g3 g4 HO0 hsz0 HC0 HB0 P4 B3 B4 k3 q2z)
         | (at_builtin; refine wpList_append_own _ rfl (.tmp 54) (.tmp 55) 36 rfl w4.heap.size 42 i1 _ 2 32 Tryz.underlying36 hi1 hy0 hy1 hy2 rfl (by decide) _ 0 _ rfl HO1 ⟨b, off, none⟩ hs.length c (hs.flatMap Edh.cells) (HLA.out (.int .i64 0)) (flat_len Edh.cells 2 (fun _ => rfl) hs) HC1.out (cells_oneH hs) (by unfold maxLen; omega) (by omega) hsz1 ?_; intro v7 w5 g2 g3 g4; have B5 := HB1.out w5 g3; obtain ⟨gB, q5, rfl, ⟨vz, y0⟩, y1, w6, hw6, R6, B6⟩ := edh_fresh (base := wq.heap.size) g2 B5 H4.out.2.1 HE.out P4h.out (List.length_set); rw [HEL.out] at R6; have T6 := step_b H4.out.2.2.2 B6 H4.out.2.2.2.size; have HL6 := Lib.hid (HLB.out w6 _ R6 q5); have R6h := Lib.hid R6; clear g2 g3 g4 HO1 hsz1 HC1 HB1 R6 B5 c0 c1 c2 c3 c4 c5 c6 z0 z1 z2 z3 z4 z5 z6 f0 f1 f2 f3 f4 f5 f6)
         | (go_at_call 46; refine HL6.out.mono ?_; rintro e' w8 ⟨rfl, b8⟩; have T8 := belowGo T6 b8)
         | (go_at_call 50; refine (HOWN.out gB w8 (R6h.out.below b8) q5).mono ?_; rintro e' w9 ⟨A9, c9, rfl, o9, b9⟩))
        go_ret2
        unfold NewEdnsC
        rw [E.out]
        exact ⟨A9, c9, rfl, o9.mono T8.size (Nat.le_refl _), belowGo T8 b9⟩
       ·
        have E := Lib.hid (EST.out hvv)
        clear hvv EOK EST HTBL HELn HOWN
        go_wp2_with (first
         | (at_builtin; refine wpList_append_own _ rfl (.tmp 43) (.tmp 48) 24 rfl wq.heap.size 47 i0 _ 7 72 Tryz.underlying24 hi hz0 hz1 hz2 rfl (by decide) _ 0 _ rfl HO0 ⟨bc, oc, none⟩ e.cs.length cp (e.cs.flatMap Cls.cells) rfl (flat_len Cls.cells 7 (fun _ => rfl) e.cs) HC0.out (cells_oneCl e.cs) (by unfold maxLen; omega) (by omega) hsz0 ?_; intro v3 w3 g2 g3 g4; have B3 := HB0.out w3 g3; obtain ⟨gA, q3, rfl, Z3, w4, hw4, P4, B4⟩ := cls_fresh p g2 B3 hc1 HX0.out; obtain ⟨⟨v0, z0⟩, f0, ⟨v1, z1⟩, f1, ⟨v2, z2⟩, f2, ⟨v3, z3⟩, f3, ⟨v4, z4⟩, f4, ⟨v5, z5⟩, f5, ⟨v6, z6⟩, f6⟩ := Z3; have k3 := (HWQ.out w3 B3).2.2.1.cells; have c0 := k3.c0; have c1 := k3.c1; have c2 := k3.c2; have c3 := k3.c3; have c4 := k3.c4; have c5 := k3.c5; have c6 := k3.c6; have H4 := Lib.hid (HWQ.out w4 B4); have P4h := Lib.hid P4; have HO1 := made0H w4 w4.heap.size 42 2 (Nat.le_refl _); have hsz1 : w4.heap.size ≤ (w4.alloc (Obj.cells #[] 42)).heap.size := (by simp); have HB1 := Lib.hid (fun w5 (g : (w4.alloc (Obj.cells #[] 42)).grownBy w5 (Value.slice (some ⟨w4.heap.size, 0, none⟩) 0 0).ownBlock) => ((below_alloc w4 (Obj.cells #[] 42)).trans ((Below.refl _ _).grown g hsz1 (fun k hk => (HO1.lt k hk).1)) : Below w4.heap.size w4 w5)); have HC1 := Lib.hid (edhR_cells (H4.out.1.below (below_alloc w4 (Obj.cells #[] 42)))); clear g2 g3 g4 HO0 hsz0 HC0 HB0 P4 B3 B4 k3 q2z)
         | (at_builtin; refine wpList_append_own _ rfl (.tmp 54) (.tmp 55) 36 rfl w4.heap.size 42 i1 _ 2 32 Tryz.underlying36 hi1 hy0 hy1 hy2 rfl (by decide) _ 0 _ rfl HO1 ⟨b, off, none⟩ hs.length c (hs.flatMap Edh.cells) (HLA.out (.int .i64 0)) (flat_len Edh.cells 2 (fun _ => rfl) hs) HC1.out (cells_oneH hs) (by unfold maxLen; omega) (by omega) hsz1 ?_; intro v7 w5 g2 g3 g4; have B5 := HB1.out w5 g3; obtain ⟨gB, q5, rfl, ⟨vz, y0⟩, y1, w6, hw6, R6, B6⟩ := edh_fresh (base := wq.heap.size) g2 B5 H4.out.2.1 HE.out P4h.out (List.length_set); rw [HEL.out] at R6; have T6 := step_b H4.out.2.2.2 B6 H4.out.2.2.2.size; have HL6 := Lib.hid (HLB.out w6 _ R6 q5); have R6h := Lib.hid R6; clear g2 g3 g4 HO1 hsz1 HC1 HB1 R6 B5 c0 c1 c2 c3 c4 c5 c6 z0 z1 z2 z3 z4 z5 z6 f0 f1 f2 f3 f4 f5 f6)
         | (go_at_call 46; refine HL6.out.mono ?_; rintro e' w8 ⟨rfl, b8⟩; have T8 := belowGo T6 b8)
         | (go_at_call 50; refine (HOWN.out gB w8 (R6h.out.below b8) q5).mono ?_; rintro e' w9 ⟨A9, c9, rfl, o9, b9⟩))
        go_ret2
        unfold NewEdnsC
        rw [E.out]
        exact ⟨none, 0, rfl, EdnO.nil _ _ _, T8⟩
     ·
      have HN : Hid (∀ (j : Nat) (q : Edn), j < k + 1 → es[j]? = some q → q.y ≠ y) := Lib.hid fun j q hj hq => by
       rcases Nat.lt_or_ge j k with h1 | h1
       ·
        exact hno.out j q h1 hq
       ·
        obtain rfl : j = k := by omega
        rw [he.out] at hq; rw [← Option.some.inj hq]; exact hy
      have hz : (e.y != y) = true := by simp [bne, hy]
      clear hno he hct
      go_wp2_with fail
      go_roundw
      case rel => exact ⟨k + 1, by omega, by go_num, HN, kc⟩
      case measure => simp [intOf]; omega
    ·
     have E := Lib.hid (HNF.out (hasL_none fun j q hq => hno.out j q (by have := (List.getElem?_eq_some_iff.1 hq).1; omega) hq))
     have hbw := Lib.hid kc.bel
     clear hno kc
     go_wp2_with fail
     go_ret2
     unfold NewEdnsC
     rw [E.out]
     exact ⟨none, 0, rfl, EdnO.nil _ _ _, hbw.out⟩
  ·
   have HT := Lib.hid (lbS_q (c := c) (h.below kb.bel) hr)
   rw [hv] at HV
   have E := Lib.hid (@amR_no es y p (by rw [hv, Bool.and_false]))
   clear h
   go_enter Tryz.func20, Tryz.ntmps20
   go_wp2_with (first
    | (go_at_call 46; refine HT.out.mono ?_; rintro e' w1 ⟨rfl, b1⟩; have kb1 := kb.step b1; have c0 := kb1.cells.c0; have c1 := kb1.cells.c1; have c2 := kb1.cells.c2; have c3 := kb1.cells.c3; have c4 := kb1.cells.c4; have c5 := kb1.cells.c5; have c6 := kb1.cells.c6)
    | (go_at_call 54; refine (HV.out _).mono ?_; rintro e' w2 ⟨rfl, b2⟩; have kb2 := kb1.step b2))
   go_ret2
   unfold NewEdnsC
   rw [E.out]
   exact ⟨none, 0, rfl, EdnO.nil _ _ _, kb2.bel⟩
 ·
  have HT := Lib.hid (lbS_q (c := c) (h.below kb.bel) hr)
  have E := Lib.hid (@amR_no es y p (by rw [hr, Bool.false_and]))
  clear h
  go_enter Tryz.func20, Tryz.ntmps20
  go_wp2_with (go_at_call 46; refine HT.out.mono ?_; rintro e' w1 ⟨rfl, b1⟩)
  go_ret2
  unfold NewEdnsC
  rw [E.out]
  exact ⟨none, 0, rfl, EdnO.nil _ _ _, belowGo kb.bel b1⟩
end Go.Proofs.YtjcklmhgjdmjoaaGreat

namespace Go.Proofs.YtjcklmhgjdmjoaaGreat
open Go.ChangeShapes Go.WideShapes Go.ChangeAt Go.RowKit
set_option linter.unusedVariables false
theorem edn_pick {w : World} {lo hi n c k : Nat} {A : Option Addr} {hs : List Edh} {es : List Edn} {e : Edn} (h : EdnOw w lo hi A n c hs es) (he : es[k]? = some e) : ∃ x, hs[k]? = some x :=
 ⟨_, List.getElem?_eq_getElem (by rw [h.len]; exact (List.getElem?_eq_some_iff.1 he).1)⟩
theorem edn_cell {w : World} {lo hi n c k g : Nat} {hs : List Edh} {es : List Edn} {x : Edh} {e : Edn} (h : EdnOw w lo hi (some ⟨g, 0, none⟩) n c hs es) (hx : hs[k]? = some x) (he : es[k]? = some e) (h1 : 1 ≤ e.cs.length) :
  w.cell? ⟨g, k * 2 + 1, none⟩ = some (.slice x.A x.n x.c) ∧ ClsO w lo x.A x.n x.c e.cs ∧ x.n = e.cs.length ∧ True ∧ ∃ gx, x.A = some ⟨gx, 0, none⟩ := by
 have ho := (h.one k x e hx he).2
 have hn : x.n = e.cs.length := ho.len.symm
 refine ⟨?_, ho, hn, trivial, cls_own_some ho (by omega)⟩
 have hl := flat_len Edh.cells 2 (fun _ => rfl) hs
 have hk := (List.getElem?_eq_some_iff.1 hx).1
 have hr := h.row.1
 rw [h.row.cellAt (k * 2 + 1) (by omega)]
 exact flat_at Edh.cells 2 (fun _ => rfl) hs k 1 x hx (by decide)
theorem cls_write {w5 : World} {base gA q3 n m : Nat} {cs : List Cls} {x0 : Cls} (p : Cls) (o3 : ClsO w5 base (some ⟨gA, 0, none⟩) n q3 cs) (hm : cs[m]? = some x0) :
  Z7C w5 gA (m * 7) ∧ ∃ w7, (((((((w5.setCell ⟨gA, m * 7, none⟩ (.string ⟨p.c.toArray⟩)).setCell ⟨gA, m * 7 + 1, none⟩ (.int .i64 p.k)).setCell ⟨gA, m * 7 + 2, none⟩ (.int .i64 p.p)).setCell ⟨gA, m * 7 + 3, none⟩ (.int .i64 p.v)).setCell ⟨gA, m * 7 + 4, none⟩ (.int .i64 p.r)).setCell ⟨gA, m * 7 + 5, none⟩ (.int .i64 p.e)).setCell ⟨gA, m * 7 + 6, none⟩ (.string ⟨p.t.toArray⟩)) = w7 ∧ ClsO w7 base (some ⟨gA, 0, none⟩) n q3 (cs.set m p) ∧ w5.grownBy w7 (some gA) := by
 obtain ⟨P3, G3⟩ := ClsO.put o3 hm p
 have hml := (List.getElem?_eq_some_iff.1 hm).1
 have hyl := flat_len Cls.cells 7 (fun _ => rfl) cs
 have hn := o3.len
 exact ⟨⟨own_at o3 (m * 7) (by omega), World.ownsRow.frozenAt o3 (m * 7), own_at o3 (m * 7 + 1) (by omega), World.ownsRow.frozenAt o3 (m * 7 + 1), own_at o3 (m * 7 + 2) (by omega), World.ownsRow.frozenAt o3 (m * 7 + 2), own_at o3 (m * 7 + 3) (by omega), World.ownsRow.frozenAt o3 (m * 7 + 3), own_at o3 (m * 7 + 4) (by omega), World.ownsRow.frozenAt o3 (m * 7 + 4), own_at o3 (m * 7 + 5) (by omega), World.ownsRow.frozenAt o3 (m * 7 + 5), own_at o3 (m * 7 + 6) (by omega), World.ownsRow.frozenAt o3 (m * 7 + 6)⟩, _, rfl, P3, G3⟩
theorem EdnOw.below {w w' : World} {lo hi n c : Nat} {A : Option Addr} {hs : List Edh} {es : List Edn} (h : EdnOw w lo hi A n c hs es) (hb : Below w.heap.size w w') : EdnOw w' lo hi A n c hs es :=
 ⟨own_below h.row hb, h.len, fun k x e h1 h2 => ⟨(h.one k x e h1 h2).1, (h.one k x e h1 h2).2.below hb⟩, h.hiA, h.his, h.sep⟩
theorem edn_wrote {w4 w5 w7 : World} {lo hi n c k gx : Nat} {A : Option Addr} {hs : List Edh} {es : List Edn} {x : Edh} {e : Edn} {cs' : List Cls} (h : EdnOw w4 lo hi A n c hs es) (b5 : Below w4.heap.size w4 w5) (hx : hs[k]? = some x) (he : es[k]? = some e)
  (hg : x.A = some ⟨gx, 0, none⟩) (hn : x.n = e.cs.length) (P : ClsO w7 lo (some ⟨gx, 0, none⟩) e.cs.length x.c cs') (G : w5.grownBy w7 (some gx)) : EdnO w7 lo hi A n c (es.set k ⟨e.y, cs'⟩) :=
 ⟨hs, EdnOw.inner (h.below b5) hx he (by rw [hg, hn]; exact P) (by have : x.ob = some gx := by unfold Edh.ob; rw [hg]; rfl
                                                                   rw [this]; exact G)⟩
theorem edn_far {w w3 w4 w5 w7 : World} {hi n c k gx : Nat} {A : Option Addr} {hs : List Edh} {es : List Edn} {x : Edh} (T3 : Below w.heap.size w w3) (h : EdnOw w4 w3.heap.size hi A n c hs es) (b4 : Below w3.heap.size w3 w4) (b5 : Below w4.heap.size w4 w5) (hx : hs[k]? = some x)
  (hg : x.A = some ⟨gx, 0, none⟩) (G : w5.grownBy w7 (some gx)) : Below w.heap.size w w7 := by
 have hlo := h.lo_mem (List.mem_of_getElem? hx) (g := gx) (by unfold Edh.ob; rw [hg]; rfl)
 have t := belowGo (belowGo T3 b4) b5
 have := T3.size
 exact t.grown G t.size (fun j hj => by injection hj; omega)
set_option maxRecDepth 100000 in
set_option maxHeartbeats 8000000 in
theorem amend_i (A : Option Addr) (c : Nat) (es : List Edn) (y : Int) (p : Cls) (w : World) (h : LTbl w A es) (hp : p.sz ≤ 1048600) :
  Calls Tryz.prog 19 #[.slice A es.length c, .int .i64 y, .agg #[.string ⟨p.c.toArray⟩, .int .i64 p.k, .int .i64 p.p, .int .i64 p.v, .int .i64 p.r, .int .i64 p.e, .string ⟨p.t.toArray⟩]] w (NewEdnsC w (amR es y p)) := by
 have kb := KeepC.new w p
 have hpc := sz_c hp
 have hn := h.len
 have HV := Lib.hid (fun w => cvalid_i p w hpc.1 hpc.2)
 rcases Bool.eq_false_or_eq_true (lbB es) with hr | hr
 ·
  rcases Bool.eq_false_or_eq_true p.ok with hv | hv
  ·
   have HT := Lib.hid (lbI_q (c := c) (h.below kb.bel) hr)
   rw [hv] at HV
   have LL := Lib.hid (lb_of hr)
   have hL6 := (lb_of hr).len
   obtain ⟨hs, p1, p2⟩ := ednR_hs h.row
   obtain ⟨b, off, rfl⟩ := lb_some h.row hr
   have HS := Lib.hid (fun W (b : Below w.heap.size w W) => searchL_i _ c es y W (h.below b) hr)
   obtain ⟨k, hk⟩ : ∃ k, plcL es y = k := ⟨_, rfl⟩
   have hkle := plc_leL es y
   rw [hk] at HS hkle
   have HH := Lib.hid (fun W (b : Below w.heap.size w W) => (⟨p1.below b, p2.below b⟩ : EdhR W (some ⟨_, off, none⟩) hs ∧ EdnV W hs es))
   have hcs : ∀ e ∈ es, 0 < e.cs.length ∧ e.cs.length ≤ 900 := fun e he => by have := rb_of (LL.out.one e he).2; have a := this.lo; have b := this.hi; omega
   have HCP := Lib.hid (fun W (b : Below w.heap.size w W) => copyEds_i _ off c hs es W (p1.below b) (p2.below b) (by omega) (by omega) hcs)
   cases hhas : hasL es y with
   | false =>
    have E := Lib.hid (amR_nf hr hv hhas)
    rw [hhas] at HS
    clear h hr hv p1 p2 hcs
    go_enter Tryz.func19, Tryz.ntmps19
    go_wp2_with (first
     | (go_at_call 27; refine HT.out.mono ?_; rintro e' w1 ⟨rfl, b1⟩; have kb1 := kb.step b1; have c0 := kb1.cells.c0; have c1 := kb1.cells.c1; have c2 := kb1.cells.c2; have c3 := kb1.cells.c3; have c4 := kb1.cells.c4; have c5 := kb1.cells.c5; have c6 := kb1.cells.c6)
     | (go_at_call 52; refine (HV.out _).mono ?_; rintro e' w2 ⟨rfl, b2⟩; have kb2 := kb1.step b2)
     | (go_at_call 45; refine (HS.out _ kb2.bel).mono ?_; rintro e' w3 ⟨rfl, b3⟩; have kb3 := kb2.step b3))
    go_ret2
    unfold NewEdnsC
    rw [E.out]
    exact ⟨none, 0, rfl, EdnO.nil _ _ _, kb3.bel⟩
   | true =>
    obtain ⟨e, he, hy⟩ := hasL_t hhas
    rw [hk] at he
    have hkl := (List.getElem?_eq_some_iff.1 he).1
    rw [hhas] at HS
    obtain ⟨f, hf⟩ : ∃ f, fndIC e.cs p.c = f := ⟨_, rfl⟩
    have hbd := fndIC_bd e.cs p.c
    rw [hf] at hbd
    have hc9 := (rb_of (LL.out.one e (List.mem_of_getElem? he)).2).hi
    have hc1 := (rb_of (LL.out.one e (List.mem_of_getElem? he)).2).lo
    have HF := Lib.hid (fun (a : Option Addr) (cp : Nat) W (hR : ClsR W a e.cs) => (by have := place_iC a cp e.cs p.c W hR (by omega); rw [hf] at this; exact this : Calls Tryz.prog 53 #[.slice a e.cs.length cp, .string ⟨p.c.toArray⟩] W (Gives W (.int .i64 f))))
    by_cases hf0 : f < 0
    ·
     have E := Lib.hid (amR_nc hr hv hhas (by rw [hk]; exact he) (fndIC_none (by rw [hf]; exact hf0)))
     have HE := Lib.hid he
     clear h hr hv p1 p2 hcs he hf
     go_enter Tryz.func19, Tryz.ntmps19
     go_wp2_with (first
      | (go_at_call 27; refine HT.out.mono ?_; rintro e' w1 ⟨rfl, b1⟩; have kb1 := kb.step b1; have c0 := kb1.cells.c0; have c1 := kb1.cells.c1; have c2 := kb1.cells.c2; have c3 := kb1.cells.c3; have c4 := kb1.cells.c4; have c5 := kb1.cells.c5; have c6 := kb1.cells.c6)
      | (go_at_call 52; refine (HV.out _).mono ?_; rintro e' w2 ⟨rfl, b2⟩; have kb2 := kb1.step b2)
      | (go_at_call 45; refine (HS.out _ kb2.bel).mono ?_; rintro e' w3 ⟨rfl, b3⟩; have kb3 := kb2.step b3; have T3 := Lib.hid kb3.bel; clear c0 c1 c2 c3 c4 c5 c6)
      | (go_at_call 48; refine (HCP.out _ T3.out).mono ?_; rintro e' w4 ⟨g4, q4, rfl, o4, b4⟩; have kb4 := kb3.step b4; obtain ⟨hs4, O4⟩ := o4; obtain ⟨x4, hx4⟩ := edn_pick O4 HE.out; obtain ⟨m0, cA, cN, cF, cO⟩ := edn_cell O4 hx4 HE.out hc1; obtain ⟨gx, hgx⟩ := cO; rw [hgx, cN] at m0; have p0 := kb4.cells.c0; have OC := Lib.hid cA; rw [hgx, cN] at OC; have OW4 := Lib.hid O4; have T4 := Lib.hid kb4.bel; have HX4 := Lib.hid hx4; have HGX := Lib.hid hgx; have HCN := Lib.hid cN; clear O4 hx4 cA cN cF hgx)
      | (go_at_call 53; refine (HF.out _ _ _ OC.out.row).mono ?_; rintro e' w5 ⟨rfl, b5⟩; have T5 := belowGo T4.out b5))
     go_ret2
     unfold NewEdnsC
     rw [E.out]
     exact ⟨none, 0, rfl, EdnO.nil _ _ _, T5⟩
    ·
     obtain ⟨m, rfl⟩ : ∃ m : Nat, f = (m : Int) := ⟨f.toNat, by omega⟩
     obtain ⟨hfm, hml⟩ := fndIC_some hf
     obtain ⟨x0, hx0⟩ : ∃ x0, e.cs[m]? = some x0 := ⟨_, List.getElem?_eq_getElem hml⟩
     obtain ⟨ht1, ht2, ht3⟩ := amL_tbl (m := m) (p := p) h.txt hp hr he
     have EOK := Lib.hid (fun h3 => amR_ok (y := y) hr hv hhas (by rw [hk]; exact he) hfm (by rw [hk]; exact h3))
     have EST := Lib.hid (fun h3 => amR_st (y := y) hr hv hhas (by rw [hk]; exact he) hfm (by rw [hk]; exact h3))
     rw [hk] at EOK
     have HE := Lib.hid he
     have HX0 := Lib.hid hx0
     obtain ⟨EL, hEL⟩ : ∃ EL, EL = es.set k (amE e m p) := ⟨_, rfl⟩
     have HEL : Hid (es.set k ⟨e.y, e.cs.set m p⟩ = EL) := Lib.hid hEL.symm
     rw [← hEL] at EOK EST ht1 ht2 ht3
     have HELn : Hid (EL.length = es.length) := Lib.hid (by rw [hEL, List.length_set])
     have HTBL := Lib.hid (fun (W : World) (A : Option Addr) (hr : EdnR W A EL) => (⟨hr, ht1, fun z hz => by have := ht2 z hz; omega, by omega⟩ : LTbl W A EL))
     clear h hr hv p1 p2 hcs he hf hfm hx0 ht1 ht2 ht3 hEL hhas
     rcases Bool.eq_false_or_eq_true (lbB EL) with hvv | hvv
     all_goals
      have HLB := Lib.hid (fun (W : World) (A : Option Addr) (hr : EdnR W A EL) q => lbI_q (c := q) (HTBL.out W A hr) hvv)
      rw [HELn.out] at HLB
     ·
      have E := Lib.hid (EOK.out hvv)
      clear hvv EOK EST HTBL
      go_enter Tryz.func19, Tryz.ntmps19
      go_wp2_with (first
       | (go_at_call 27; refine HL7.out.mono ?_; rintro e' w8 ⟨rfl, b8⟩; have T8 := belowGo T7.out b8)
       | (go_at_call 27; refine HT.out.mono ?_; rintro e' w1 ⟨rfl, b1⟩; have kb1 := kb.step b1; have c0 := kb1.cells.c0; have c1 := kb1.cells.c1; have c2 := kb1.cells.c2; have c3 := kb1.cells.c3; have c4 := kb1.cells.c4; have c5 := kb1.cells.c5; have c6 := kb1.cells.c6)
       | (go_at_call 52; refine (HV.out _).mono ?_; rintro e' w2 ⟨rfl, b2⟩; have kb2 := kb1.step b2)
       | (go_at_call 45; refine (HS.out _ kb2.bel).mono ?_; rintro e' w3 ⟨rfl, b3⟩; have kb3 := kb2.step b3; have T3 := Lib.hid kb3.bel; clear c0 c1 c2 c3 c4 c5 c6)
       | (go_at_call 48; refine (HCP.out _ T3.out).mono ?_; rintro e' w4 ⟨g4, q4, rfl, o4, b4⟩; have kb4 := kb3.step b4; obtain ⟨hs4, O4⟩ := o4; obtain ⟨x4, hx4⟩ := edn_pick O4 HE.out; obtain ⟨m0, cA, cN, cF, cO⟩ := edn_cell O4 hx4 HE.out hc1; obtain ⟨gx, hgx⟩ := cO; rw [hgx, cN] at m0; have p0 := kb4.cells.c0; have OC := Lib.hid cA; rw [hgx, cN] at OC; have OW4 := Lib.hid O4; have T4 := Lib.hid kb4.bel; have HX4 := Lib.hid hx4; have HGX := Lib.hid hgx; have HCN := Lib.hid cN; clear O4 hx4 cA cN cF hgx)
       | (go_at_call 53; refine (HF.out _ _ _ OC.out.row).mono ?_; rintro e' w5 ⟨rfl, b5⟩; have T5 := belowGo T4.out b5; have k5 := (kb4.step b5).cells; have c0 := k5.c0; have c1 := k5.c1; have c2 := k5.c2; have c3 := k5.c3; have c4 := k5.c4; have c5 := k5.c5; have c6 := k5.c6; obtain ⟨Z5, w7, hw7, P7, G7⟩ := cls_write p (OC.out.below b5) HX0.out; obtain ⟨⟨v0, z0⟩, f0, ⟨v1, z1⟩, f1, ⟨v2, z2⟩, f2, ⟨v3, z3⟩, f3, ⟨v4, z4⟩, f4, ⟨v5, z5⟩, f5, ⟨v6, z6⟩, f6⟩ := Z5; have O7 := Lib.hid (edn_wrote OW4.out b5 HX4.out HE.out HGX.out HCN.out P7 G7); rw [HEL.out] at O7; have S7 := Lib.hid (Nat.le_trans b5.size G7.size); have T7 := Lib.hid (edn_far T3.out OW4.out b4 b5 HX4.out HGX.out G7); have HL7 := Lib.hid (HLB.out w7 _ O7.out.reads q4); clear P7 G7))
      go_ret2
      unfold NewEdnsC
      rw [E.out]
      exact ⟨some ⟨g4, 0, none⟩, q4, by rw [HELn.out]; rfl, by rw [HELn.out]; exact (O7.out.below b8).mono T3.out.size (Nat.le_trans S7.out b8.size), T8⟩
     ·
      have E := Lib.hid (EST.out hvv)
      clear hvv EOK EST HTBL
      go_enter Tryz.func19, Tryz.ntmps19
      go_wp2_with (first
       | (go_at_call 27; refine HL7.out.mono ?_; rintro e' w8 ⟨rfl, b8⟩; have T8 := belowGo T7.out b8)
       | (go_at_call 27; refine HT.out.mono ?_; rintro e' w1 ⟨rfl, b1⟩; have kb1 := kb.step b1; have c0 := kb1.cells.c0; have c1 := kb1.cells.c1; have c2 := kb1.cells.c2; have c3 := kb1.cells.c3; have c4 := kb1.cells.c4; have c5 := kb1.cells.c5; have c6 := kb1.cells.c6)
       | (go_at_call 52; refine (HV.out _).mono ?_; rintro e' w2 ⟨rfl, b2⟩; have kb2 := kb1.step b2)
       | (go_at_call 45; refine (HS.out _ kb2.bel).mono ?_; rintro e' w3 ⟨rfl, b3⟩; have kb3 := kb2.step b3; have T3 := Lib.hid kb3.bel; clear c0 c1 c2 c3 c4 c5 c6)
       | (go_at_call 48; refine (HCP.out _ T3.out).mono ?_; rintro e' w4 ⟨g4, q4, rfl, o4, b4⟩; have kb4 := kb3.step b4; obtain ⟨hs4, O4⟩ := o4; obtain ⟨x4, hx4⟩ := edn_pick O4 HE.out; obtain ⟨m0, cA, cN, cF, cO⟩ := edn_cell O4 hx4 HE.out hc1; obtain ⟨gx, hgx⟩ := cO; rw [hgx, cN] at m0; have p0 := kb4.cells.c0; have OC := Lib.hid cA; rw [hgx, cN] at OC; have OW4 := Lib.hid O4; have T4 := Lib.hid kb4.bel; have HX4 := Lib.hid hx4; have HGX := Lib.hid hgx; have HCN := Lib.hid cN; clear O4 hx4 cA cN cF hgx)
       | (go_at_call 53; refine (HF.out _ _ _ OC.out.row).mono ?_; rintro e' w5 ⟨rfl, b5⟩; have T5 := belowGo T4.out b5; have k5 := (kb4.step b5).cells; have c0 := k5.c0; have c1 := k5.c1; have c2 := k5.c2; have c3 := k5.c3; have c4 := k5.c4; have c5 := k5.c5; have c6 := k5.c6; obtain ⟨Z5, w7, hw7, P7, G7⟩ := cls_write p (OC.out.below b5) HX0.out; obtain ⟨⟨v0, z0⟩, f0, ⟨v1, z1⟩, f1, ⟨v2, z2⟩, f2, ⟨v3, z3⟩, f3, ⟨v4, z4⟩, f4, ⟨v5, z5⟩, f5, ⟨v6, z6⟩, f6⟩ := Z5; have O7 := Lib.hid (edn_wrote OW4.out b5 HX4.out HE.out HGX.out HCN.out P7 G7); rw [HEL.out] at O7; have S7 := Lib.hid (Nat.le_trans b5.size G7.size); have T7 := Lib.hid (edn_far T3.out OW4.out b4 b5 HX4.out HGX.out G7); have HL7 := Lib.hid (HLB.out w7 _ O7.out.reads q4); clear P7 G7))
      go_ret2
      unfold NewEdnsC
      rw [E.out]
      exact ⟨none, 0, rfl, EdnO.nil _ _ _, T8⟩
  ·
   have HT := Lib.hid (lbI_q (c := c) (h.below kb.bel) hr)
   rw [hv] at HV
   have E := Lib.hid (@amR_no es y p (by rw [hv, Bool.and_false]))
   clear h
   go_enter Tryz.func19, Tryz.ntmps19
   go_wp2_with (first
    | (go_at_call 27; refine HT.out.mono ?_; rintro e' w1 ⟨rfl, b1⟩; have kb1 := kb.step b1; have c0 := kb1.cells.c0; have c1 := kb1.cells.c1; have c2 := kb1.cells.c2; have c3 := kb1.cells.c3; have c4 := kb1.cells.c4; have c5 := kb1.cells.c5; have c6 := kb1.cells.c6)
    | (go_at_call 52; refine (HV.out _).mono ?_; rintro e' w2 ⟨rfl, b2⟩; have kb2 := kb1.step b2))
   go_ret2
   unfold NewEdnsC
   rw [E.out]
   exact ⟨none, 0, rfl, EdnO.nil _ _ _, kb2.bel⟩
 ·
  have HT := Lib.hid (lbI_q (c := c) (h.below kb.bel) hr)
  have E := Lib.hid (@amR_no es y p (by rw [hr, Bool.false_and]))
  clear h
  go_enter Tryz.func19, Tryz.ntmps19
  go_wp2_with (go_at_call 27; refine HT.out.mono ?_; rintro e' w1 ⟨rfl, b1⟩)
  go_ret2
  unfold NewEdnsC
  rw [E.out]
  exact ⟨none, 0, rfl, EdnO.nil _ _ _, belowGo kb.bel b1⟩
end Go.Proofs.YtjcklmhgjdmjoaaGreat

namespace Go.Proofs.YtjcklmhgjdmjoaaGreat
open Go.ChangeShapes Go.WideShapes Go.ChangeAt Go.RowKit
set_option linter.unusedVariables false
theorem made0y (w : World) (base : Nat) (e : TypeId) (size : Nat) (hb : base ≤ w.heap.size) : (w.alloc (Obj.cells #[] e)).ownsRow base e size (.slice (some ⟨w.heap.size, 0, none⟩) 0 0) 0 [] :=
 World.ownsRow_made w #[] 0 hb (by decide) (by simp)
set_option maxRecDepth 100000 in
set_option maxHeartbeats 4000000 in
theorem yo_i (A : Option Addr) (d : Nat) (es : List Edn) (s : List UInt8) (w : World) (h : LTbl w A es) :
  Calls Tryz.prog 22 #[.slice A es.length d, .string ⟨s.toArray⟩] w (NewIntsC w (yoR es s)) := by
 obtain ⟨i0, hi, hz0, hz1, hz2⟩ := info_parts intInfo
 rcases Bool.eq_false_or_eq_true (lbB es) with hr | hr
 ·
  have HT := Lib.hid (lbI_q (c := d) h hr)
  have E := Lib.hid (@yoR_ok es s hr)
  have hn := h.len
  clear hr
  go_enter Tryz.func22, Tryz.ntmps22
  go_wp2_with (go_at_call 27; refine HT.out.mono ?_; rintro e w1 ⟨rfl, b1⟩)
  go_loopw [6, 15] (fun o i wr => ∃ (k : Nat) (ys : List Int), k ≤ es.length ∧ i = .int .i64 k ∧ wr.ownsRow w.heap.size 2 1 o ys.length (ys.map (Value.int .i64)) ∧ Hid (ys = yrsE (es.take k) s) ∧ Below w.heap.size w wr) (fun _ i _ => es.length - (intOf i).toNat)
  case atStart => exact ⟨0, [], Nat.zero_le _, rfl, made0y _ _ _ _ b1.size, Lib.hid rfl, b1.alloc b1.size _⟩
  case round =>
   obtain ⟨k, ys, hk, rfl, hown, hys, hb⟩ := hrel
   obtain ⟨O, q, rfl⟩ := own_form hown
   have hyl : ys.length ≤ k := by rw [hys.out]; have := yrsE_len (es.take k) s; rw [List.length_take] at this; omega
   by_cases hlt : k < es.length
   ·
    obtain ⟨b, off, e, a, cp, rfl, hl, he, c0, c1, hct⟩ := (h.below hb).at hlt
    have k0 := KeepN.new wr e.y a e.cs.length cp
    have HF := Lib.hid (place_iC a cp e.cs s _ (hct.row.below k0.bel) (by have := hct.len; omega))
    have HS := Lib.hid (yrsE_snoc (es.take k) e s)
    rw [← snoc_of he.out, ← hys.out] at HS
    have hh : Hid (hasE s e = decide (0 ≤ fndIC e.cs s)) := Lib.hid rfl
    generalize fndIC e.cs s = f at *
    have HO1 := Lib.hid (own_below hown k0.bel)
    have HB1 := Lib.hid (belowGo hb k0.bel)
    have KC := Lib.hid k0
    have r1 := k0.c1
    clear h hct he hys k0 hown
    by_cases hf : 0 ≤ f
    ·
     have HS2 : Hid (ys ++ [e.y] = yrsE (es.take (k + 1)) s) := Lib.hid (by rw [HS.out, if_pos (by rw [hh.out]; exact decide_eq_true hf)])
     clear HS hh
     go_wp2_with fail
     refine HF.out.mono ?_
     rintro e' w2 ⟨rfl, b2⟩
     have hown2 := own_below HO1.out b2
     have hb2 := belowGo HB1.out b2
     have s0 := (KC.out.step b2).c0
     clear r1 b2 HF HO1 HB1 KC
     go_wp2_with (at_builtin; refine wpList_push _ rfl (.tmp 24) (.tmp 27) 53 rfl w.heap.size 2 i0 _ 1 8 Tryz.underlying53 hi hz0 hz1 hz2 rfl (by decide) _ ys.length _ rfl hown2 [.int .i64 e.y] rfl (by simp [Value.oneCell']) rfl (by unfold maxLen; omega) (by omega) hb2.size ?_; intro v' w' hown' hb')
     go_roundw
     case rel => exact ⟨k + 1, ys ++ [e.y], by omega, by go_num, by simpa using hown', HS2, hb2.trans hb'⟩
     case measure => simp [intOf]; omega
    ·
     have HS2 : Hid (ys = yrsE (es.take (k + 1)) s) := Lib.hid (by rw [HS.out, if_neg (by rw [hh.out]; simp; omega)])
     have hf2 : f < 0 := by omega
     clear HS hh
     go_wp2_with fail
     refine HF.out.mono ?_
     rintro e' w2 ⟨rfl, b2⟩
     have hown2 := own_below HO1.out b2
     have hb2 := belowGo HB1.out b2
     clear r1 b2 HF HO1 HB1 KC
     go_wp2_with fail
     go_roundw
     case rel => exact ⟨k + 1, ys, by omega, by go_num, hown2, HS2, hb2⟩
     case measure => simp [intOf]; omega
   ·
    have HY : Hid (ys = yrsE es s) := Lib.hid (by rw [hys.out, take_all hk hlt])
    clear hys h
    go_wp2_with fail
    go_ret2
    rw [E.out, ← HY.out]
    exact ⟨O, q, rfl, hown, hb⟩
 ·
  have E := Lib.hid (@yoR_no es s hr)
  have HT := Lib.hid (lbI_q (c := d) h hr)
  clear hr
  go_enter Tryz.func22, Tryz.ntmps22
  go_wp2_with (go_at_call 27; refine HT.out.mono ?_; rintro e w1 ⟨rfl, b1⟩)
  go_ret2
  rw [E.out]
  exact ⟨none, 0, rfl, Oi.nil _ _, b1⟩
end Go.Proofs.YtjcklmhgjdmjoaaGreat

