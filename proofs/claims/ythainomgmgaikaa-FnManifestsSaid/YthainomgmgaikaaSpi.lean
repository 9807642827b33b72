/- impl.SplitParcel. -/
import Derived.Test.YthainomgmgaikaaIns
namespace Go.Proofs.Ythainomgmgaikaa
open Go.ChangeShapes Go.WideShapes Go.ChangeAt Go.RowKit
set_option linter.unusedVariables false

theorem flat_set_v {ps : List Ist} {k : Nat} {x : Ist} (hx : ps[k]? = some x) (u : Int) : (ps.set k { x with v := u }).flatMap Ist.cells = (ps.flatMap Ist.cells).set (k * 5 + 3) (.int .i64 u) := by
  induction ps generalizing k with
  | nil => simp at hx
  | cons p ps ih =>
    cases k with
    | zero =>
      simp only [List.getElem?_cons_zero, Option.some.injEq] at hx
      subst hx
      simp [Ist.cells]
    | succ k =>
      simp only [List.getElem?_cons_succ] at hx
      have e : (k + 1) * 5 + 3 = p.cells.length + (k * 5 + 3) := by show _ = 5 + (k * 5 + 3); omega
      rw [List.set_cons_succ, List.flatMap_cons, List.flatMap_cons, ih hx, e, List.set_append, if_neg (by omega), Nat.add_sub_cancel_left]
theorem ins_txt {ps : List Ist} {k : Nat} {x : Ist} {r : List UInt8} {u : Int} (htx : ∀ p ∈ ps, p.sz ≤ 1048600) (hx : ps[k]? = some x) (ho : x.o.length ≤ 6) (hr : r.length ≤ 1048576) :
    ∀ p ∈ insM (ps.set k { x with v := u }) (leftI x r u), p.sz ≤ 1048600 := by
  have h1 : ∀ p ∈ ps.set k { x with v := u }, p.sz ≤ 1048600 := fun p hp => by
    rcases List.mem_or_eq_of_mem_set hp with h | h
    · exact htx p h
    · rw [h]; exact htx x (List.mem_of_getElem? hx)
  intro p hp
  unfold insM at hp
  simp only [List.mem_append, List.mem_singleton] at hp
  rcases hp with (h | h) | h
  · exact h1 p (List.mem_of_mem_take h)
  · rw [h]; show r.length + x.o.length ≤ _; omega
  · exact h1 p (List.mem_of_mem_drop h)
theorem cells_row5 {W : World} {B : Nat} {y : Ist} (h : W.heap[B]? = some (.cells #[.string ⟨y.c.toArray⟩, .int .i64 y.k, .string ⟨y.o.toArray⟩, .int .i64 y.v, .int .i64 y.a] 46 (0, 0))) : IstC W B 0 y :=
  ⟨by rw [cell_of_row _ _ _ _ _ _ h]; rfl, by rw [cell_of_row _ _ _ _ _ _ h]; rfl, by rw [cell_of_row _ _ _ _ _ _ h]; rfl, by rw [cell_of_row _ _ _ _ _ _ h]; rfl, by rw [cell_of_row _ _ _ _ _ _ h]; rfl⟩

set_option maxRecDepth 100000 in
set_option maxHeartbeats 8000000 in
theorem split_go (A : Option Addr) (c : Nat) (ps : List Ist) (s r : List UInt8) (u : Int) (k : Nat) (x : Ist) (w : World) (h : ITbl w A ps) (hr : r.length ≤ 1048576)
    (h0 : manB ps = true) (hk : k < ps.length) (hx : ps[k]? = some x) (hf : finR ps s = ((k : Int), 0)) (h3 : x.k = 3) (h4 : inr u 0 x.v = true)
    (Q : List Ist × Int) (hQ0 : manB (insM (ps.set k { x with v := u }) (leftI x r u)) = true → Q = (insM (ps.set k { x with v := u }) (leftI x r u), 0)) (hQ1 : manB (insM (ps.set k { x with v := u }) (leftI x r u)) = false → Q = ([], 5)) :
    Calls Try.prog 13 #[.slice A ps.length c, .string ⟨s.toArray⟩, .string ⟨r.toArray⟩, .int .i64 u] w (NewIstsC w Q) := by
  have HF := Lib.hid (findi_i A c ps s w h)
  rw [hf] at HF
  have hn := (manB_iff.1 h0).1
  have hord := ordM_nat h0
  have hxok := ord_okM hord hx
  obtain ⟨hpc, hpo, _, ⟨hv0, hv1⟩, _, hka⟩ := iok hxok
  have hol : x.o.length ≤ 6 := (pcode_iff.1 hpo).1.2
  obtain ⟨hu0, hu1⟩ := inr_iff.1 h4
  have hxa : x.a = 0 := by rcases hka with h | h <;> omega
  have htx := Lib.hid h.txt
  have hR := h.row
  have hyok : ({ x with v := u } : Ist).ok = true := ok_val hxok hu0 hu1
  have hos := Lib.hid (ord_set (y := { x with v := u }) hord hx rfl hyok)
  have hsl : (ps.set k { x with v := u }).length = ps.length := List.length_set
  obtain ⟨qs, hqs⟩ : ∃ qs, qs = ps.set k { x with v := u } := ⟨_, rfl⟩
  have hfl := Lib.hid (flat_set_v hx u)
  have hit := Lib.hid (ins_txt (u := u) htx.out hx hol hr)
  rw [← hqs] at hos hsl hfl hit hQ0 hQ1
  have HX := Lib.hid hx
  have HQ0 := Lib.hid hQ0
  have HQ1 := Lib.hid hQ1
  clear h hf hord hxok hpc hpo hka hyok hx hqs hQ0 hQ1 h0
  have hwr : IntKind.i64.wrap (x.v - u) = x.v - u := by rw [IntKind.wrap_i64]; omega
  have hyl : leftI x r u = ⟨r, 3, x.o, x.v - u, 0⟩ := by unfold leftI; rw [h3, hxa]
  rw [hyl] at HQ0 HQ1 hit
  obtain ⟨y, hy⟩ : ∃ y : Ist, y = ⟨r, 3, x.o, x.v - u, 0⟩ := ⟨_, rfl⟩
  rw [← hy] at HQ0 HQ1 hit
  have hyc : y.c = r := by rw [hy]
  have hyk : y.k = 3 := by rw [hy]
  have hyo : y.o = x.o := by rw [hy]
  have hyv : y.v = x.v - u := by rw [hy]
  have hya : y.a = 0 := by rw [hy]
  have HYC := Lib.hid (And.intro hyc (And.intro hyk (And.intro hyo (And.intro hyv hya))))
  have HSR := Lib.hid (fun (W : World) (g q : Nat) (hI : IstR W (some ⟨g, 0, none⟩) qs) => search_iM (some ⟨g, 0, none⟩) q qs r W hI (by omega) hos.out)
  obtain ⟨pl, hpl⟩ : ∃ pl, pl = plcM qs r := ⟨_, rfl⟩
  have hplL : pl ≤ qs.length := by rw [hpl]; exact plc_leM _ _
  rw [← hpl] at HSR
  have HINS : Hid (qs.take pl ++ [y] ++ qs.drop pl = insM qs y) := Lib.hid (by unfold insM; rw [hyc, hpl])
  clear hyl hy hyc hyk hyo hyv hya hpl hos
  go_enter Try.func13, Try.ntmps13
  go_wp2_with fail
  refine HF.out.mono ?_
  rintro e w1 ⟨rfl, b1⟩
  obtain ⟨b, off, p, rfl, hl, hp, hp4⟩ := (hR.below b1).at hk
  obtain rfl : x = p := by have h1 := HX.out; have h2 := hp.out; rw [h1] at h2; exact Option.some.inj h2
  have c0 := hp4.c0; have c1 := hp4.c1; have c2 := hp4.c2; have c3 := hp4.c3; have c4 := hp4.c4
  obtain ⟨OB, hOB⟩ : ∃ OB : Obj, OB = .cells #[.string ⟨x.c.toArray⟩, .int .i64 3, .string ⟨x.o.toArray⟩, .int .i64 x.v, .int .i64 0] 46 := ⟨_, rfl⟩
  obtain ⟨OY, hOY⟩ : ∃ OY : Obj, OY = .cells #[.string ⟨r.toArray⟩, .int .i64 3, .string ⟨x.o.toArray⟩, .int .i64 (x.v - u), .int .i64 0] 46 := ⟨_, rfl⟩
  have hb8 : Below w.heap.size w ((w1.alloc OB).alloc OY).drew := ((b1.alloc b1.size OB).alloc (b1.alloc b1.size OB).size OY).drew
  have hs8 : (w1.alloc OB).heap.size = w1.heap.size + 1 := by simp
  have hT8 : (((w1.alloc OB).alloc OY).drew).heap[w1.heap.size + 1]? = some (.cells #[.string ⟨y.c.toArray⟩, .int .i64 y.k, .string ⟨y.o.toArray⟩, .int .i64 y.v, .int .i64 y.a] 46 (0, 0)) := by
    obtain ⟨h1, h2, h3, h4, h5⟩ := HYC.out
    rw [h1, h2, h3, h4, h5, ← hs8, ← hOY]
    exact heap_alloc_new (w1.alloc OB) OY
  have HC := Lib.hid (clone_i b off c ps _ (hR.below hb8) (by omega) (by omega))
  have HT8 := Lib.hid hT8
  have HB8 := Lib.hid hb8
  have HB1 := Lib.hid b1
  clear hp hp4 hR HF hT8 hb8 hs8
  subst hOB hOY
  go_wp2_with (go_at_call 49; refine (within_q h4 _).mono ?_; rintro e w' ⟨rfl, rfl⟩)
  go_region_with fail
  all_goals
    go_wp2_with fail
    refine HC.out.mono ?_
    rintro e w9 ⟨g, q, rfl, ho, b9⟩
    have hj : k * 5 + 3 < ps.length * 5 := by omega
    have d3 : w9.cell? ⟨g, k * 5 + 3, none⟩ = some (.int .i64 x.v) := by
      rw [ho.cellAt (k * 5 + 3) hj]
      exact flat_at Ist.cells 5 (fun _ => rfl) ps k 3 _ HX.out (by omega)
    have f3 := ho.frozenAt (k * 5 + 3)
    have hst := (ho.stored (k * 5 + 3) (.int .i64 u)).1
    rw [← hfl.out] at hst
    have hgl := (ho.lt g rfl)
    have hT9 := (b9.block _ (lt_some HT8.out)).trans HT8.out
    have hTg : w1.heap.size + 1 ≠ g := by have := lt_some HT8.out; omega
    have hT10 : (w9.setCell ⟨g, k * 5 + 3, none⟩ (.int .i64 u)).heap[w1.heap.size + 1]? = _ := (heap_setCell_other w9 ⟨g, k * 5 + 3, none⟩ _ (.int .i64 u) (fun e => hTg (by simpa using e))).trans hT9
    have hb10 : Below w.heap.size w (w9.setCell ⟨g, k * 5 + 3, none⟩ (.int .i64 u)) := (HB8.out.trans (b9.mono HB8.out.size)).setCell (p := ⟨g, k * 5 + 3, none⟩) (Nat.le_trans HB8.out.size hgl.1) _
    have HS10 := Lib.hid (HSR.out _ g q (Rw.ownS hst))
    rw [hsl] at HS10
    have ho10 : IstO (w9.setCell ⟨g, k * 5 + 3, none⟩ (.int .i64 u)) w.heap.size (some ⟨g, 0, none⟩) qs.length q qs := by
      rw [hsl]; exact own_monoI hst HB8.out.size
    have HO10 := Lib.hid ho10
    have hg9 := hgl.2
    clear ho hst hT9 b9 ho10 hgl
    go_wp2_with fail
    refine HS10.out.mono ?_
    rintro e w11 ⟨rfl, b11⟩
    have hT11 := (b11.block _ (lt_some hT10)).trans hT10
    have hcs := cells_row5 hT11
    have a0 := hcs.c0; have a1 := hcs.c1; have a2 := hcs.c2; have a3 := hcs.c3; have a4 := hcs.c4
    have hb11 := belowGo hb10 b11
    have hgw : g < w11.heap.size := Nat.lt_of_lt_of_le (by simpa using hg9) b11.size
    have bal := below_alloc w11 (.cells #[.string ⟨y.c.toArray⟩, .int .i64 y.k, .string ⟨y.o.toArray⟩, .int .i64 y.v, .int .i64 y.a] 46)
    have HI := Lib.hid ((insert_i w.heap.size g q pl w11.heap.size qs y (w11.alloc (.cells #[.string ⟨y.c.toArray⟩, .int .i64 y.k, .string ⟨y.o.toArray⟩, .int .i64 y.v, .int .i64 y.a] 46)) ((HO10.out.below b11).below bal) (by omega) hplL (by omega) (heap_alloc_new _ _) (Nat.le_trans hb11.size bal.size)).mono
      (fun e w' (h : InsRes _ _ _ _ _ e w') => (by
        obtain ⟨O, q2, he, ho, hb⟩ := h
        rw [HINS.out, ← insM_len qs y] at ho
        exact ⟨O, q2, by rw [insM_len]; exact he, ho, hb⟩ : ∃ O q2, e = .returned (.slice O (insM qs y).length q2) ∧ IstO w' w.heap.size O (insM qs y).length q2 (insM qs y) ∧ Below w.heap.size _ w')))
    rw [hsl] at HI
    have HBA := Lib.hid (hb11.trans (bal.mono hb11.size))
    have hL11 : (insM qs y).length ≤ 1048576 := by rw [insM_len]; omega
    clear hb11 bal hT10 hT11 hcs b11 HO10 hb10 HINS
    obtain ⟨L, hL⟩ : ∃ L, L = insM qs y := ⟨_, rfl⟩
    rw [← hL] at HI hit HQ0 HQ1 hL11
    clear hL
    rcases Bool.eq_false_or_eq_true (manB L) with hm | hm
    · have E := Lib.hid (HQ0.out hm)
      go_wp2_with (first
        | (go_at_call 52; refine HI.out.mono ?_; rintro e w13 ⟨O, q2, rfl, ho2, b13⟩)
        | (go_at_call 28; refine (manI_q ⟨IstO.row ho2, hit.out, hL11⟩ hm).mono ?_; rintro e w14 ⟨rfl, b14⟩))
      go_ret2
      unfold NewIstsC
      rw [E.out]
      exact ⟨O, q2, rfl, ho2.below b14, belowGo (HBA.out.trans b13) b14⟩
    · have E := Lib.hid (HQ1.out hm)
      go_wp2_with (first
        | (go_at_call 52; refine HI.out.mono ?_; rintro e w13 ⟨O, q2, rfl, ho2, b13⟩)
        | (go_at_call 28; refine (manI_q ⟨IstO.row ho2, hit.out, hL11⟩ hm).mono ?_; rintro e w14 ⟨rfl, b14⟩))
      go_ret2
      unfold NewIstsC
      rw [E.out]
      exact ⟨none, 0, rfl, World.ownsRow_nil _ _ _ _, belowGo (HBA.out.trans b13) b14⟩
set_option maxRecDepth 100000 in
set_option maxHeartbeats 4000000 in
theorem split_i (A : Option Addr) (c : Nat) (ps : List Ist) (s r : List UInt8) (u : Int) (w : World) (h : ITbl w A ps) (hr : r.length ≤ 1048576) :
    Calls Try.prog 13 #[.slice A ps.length c, .string ⟨s.toArray⟩, .string ⟨r.toArray⟩, .int .i64 u] w (NewIstsC w (splR ps s r u)) := by
  have W := sway ps s r u
  have HF := Lib.hid (findi_i A c ps s w h)
  obtain ⟨Q, hQ⟩ : ∃ Q, Q = splR ps s r u := ⟨_, rfl⟩
  obtain ⟨f, hf⟩ : ∃ f, f = finR ps s := ⟨_, rfl⟩
  rw [← hQ, ← hf] at W
  rw [← hf] at HF
  rw [← hQ]
  have hR := h.row
  cases W with
  | no n hn =>
    have hne : (n != 0) = true := by simpa using hn
    clear h hR hf hQ
    go_enter Try.func13, Try.ntmps13
    go_wp2_with fail
    refine HF.out.mono ?_
    rintro e w1 ⟨rfl, b1⟩
    go_wp2_with fail
    go_ret2
    exact ⟨none, 0, rfl, World.ownsRow_nil _ _ _ _, b1⟩
  | kind k x h0 hk hx h3 =>
    have hk3 : (x.k != 3) = true := by rw [bne, h3]; rfl
    have HX := Lib.hid hx
    clear h hf hQ h0 hx h3
    go_enter Try.func13, Try.ntmps13
    go_wp2_with fail
    refine HF.out.mono ?_
    rintro e w1 ⟨rfl, b1⟩
    obtain ⟨b, off, p, rfl, hl, hp, hp4⟩ := (hR.below b1).at hk
    obtain rfl : x = p := by have h1 := HX.out; have h2 := hp.out; rw [h1] at h2; exact Option.some.inj h2
    have c0 := hp4.c0; have c1 := hp4.c1; have c2 := hp4.c2; have c3 := hp4.c3; have c4 := hp4.c4
    have B := fun o => Lib.hid (b1.alloc b1.size o)
    clear hp hp4 hR HF
    go_wp2_with fail
    go_ret2
    exact ⟨none, 0, rfl, World.ownsRow_nil _ _ _ _, (B _).out⟩
  | val k x h0 hk hx h3 h4 =>
    have HX := Lib.hid hx
    clear h hf hQ h0 hx
    go_enter Try.func13, Try.ntmps13
    go_wp2_with fail
    refine HF.out.mono ?_
    rintro e w1 ⟨rfl, b1⟩
    obtain ⟨b, off, p, rfl, hl, hp, hp4⟩ := (hR.below b1).at hk
    obtain rfl : x = p := by have h1 := HX.out; have h2 := hp.out; rw [h1] at h2; exact Option.some.inj h2
    have c0 := hp4.c0; have c1 := hp4.c1; have c2 := hp4.c2; have c3 := hp4.c3; have c4 := hp4.c4
    have B := fun o => Lib.hid (b1.alloc b1.size o)
    clear hp hp4 hR HF
    go_wp2_with (go_at_call 49; refine (within_q h4 _).mono ?_; rintro e w' ⟨rfl, rfl⟩)
    go_ret2
    exact ⟨none, 0, rfl, World.ownsRow_nil _ _ _ _, (B _).out⟩
  | bad k x h0 hk hx h3 h4 hi hb => exact split_go A c ps s r u k x w h hr h0 hk hx hf.symm h3 h4 _ (fun h => by rw [hi] at h; cases h) (fun _ => rfl)
  | ok k x h0 hk hx h3 h4 hi hb => exact split_go A c ps s r u k x w h hr h0 hk hx hf.symm h3 h4 _ (fun _ => rfl) (fun h => by rw [hi] at h; cases h)
end Go.Proofs.Ythainomgmgaikaa
