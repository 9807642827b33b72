/- spec.SplitParcel. (by gen_spq.py) -/
import Derived.Test.YthainomgmgaikaaSpi
namespace Go.Proofs.Ythainomgmgaikaa
open Go.ChangeShapes Go.WideShapes Go.ChangeAt Go.RowKit
set_option linter.unusedVariables false

theorem set_of {ps : List Ist} {k i : Nat} {x p : Ist} {u : Int} (hx : ps[k]? = some x) (hp : ps[i]? = some p) : (ps.set k { x with v := u })[i]? = some (if i = k then { x with v := u } else p) := by
  rw [List.getElem?_set]
  by_cases e : k = i
  · subst e
    rw [if_pos rfl, if_pos (List.getElem?_eq_some_iff.1 hx).1, if_pos rfl]
  · rw [if_neg e, if_neg (fun e2 => e e2.symm)]; exact hp
set_option maxRecDepth 100000 in
set_option maxHeartbeats 8000000 in
theorem split_gos (A : Option Addr) (c : Nat) (ps : List Ist) (s r : List UInt8) (u : Int) (k : Nat) (x : Ist) (w : World) (h : ITbl w A ps) (hr : r.length ≤ 1048576)
    (h0 : manB ps = true) (hk : k < ps.length) (hx : ps[k]? = some x) (hf : fndIM ps s = (k : Int)) (h3 : x.k = 3) (h4 : inr u 0 x.v = true)
    (Q : List Ist × Int) (hQ0 : manB (insB (ps.set k { x with v := u }) (leftI x r u)) = true → Q = (insB (ps.set k { x with v := u }) (leftI x r u), 0)) (hQ1 : manB (insB (ps.set k { x with v := u }) (leftI x r u)) = false → Q = ([], 5)) :
    Calls Try.prog 14 #[.slice A ps.length c, .string ⟨s.toArray⟩, .string ⟨r.toArray⟩, .int .i64 u] w (NewIstsC w Q) := by
  obtain ⟨i0, hi, hz0, hz1, hz2⟩ := info_parts istInfo
  have HM := Lib.hid (manS_q (c := c) h h0)
  have HF := Lib.hid (fun w1 (b1 : Below w.heap.size w w1) => find_sM A c ps s w1 (h.below b1).row (by have := h.len; omega))
  rw [hf] at HF
  have hn := (manB_iff.1 h0).1
  have hord := ordM_nat h0
  have hxok := ord_okM hord hx
  obtain ⟨hpc, hpo, _, ⟨hv0, hv1⟩, _, hka⟩ := iok hxok
  have hol : x.o.length ≤ 6 := (pcode_iff.1 hpo).1.2
  obtain ⟨hu0, hu1⟩ := inr_iff.1 h4
  have hxa : x.a = 0 := by rcases hka with h | h <;> omega
  have htx := Lib.hid h.txt
  have hR := h.row
  have hsl : (ps.set k { x with v := u }).length = ps.length := List.length_set
  have HSET := Lib.hid (fun i p (hp : ps[i]? = some p) => set_of (u := u) hx hp)
  have h1s : ∀ p ∈ ps.set k { x with v := u }, p.sz ≤ 1048600 := fun p hp => by
    rcases List.mem_or_eq_of_mem_set hp with h | h
    · exact htx.out p h
    · rw [h]; exact htx.out x (List.mem_of_getElem? hx)
  obtain ⟨qs, hqs⟩ : ∃ qs, qs = ps.set k { x with v := u } := ⟨_, rfl⟩
  rw [← hqs] at hsl HSET hQ0 hQ1 h1s
  have HX := Lib.hid hx
  have hwr : IntKind.i64.wrap (x.v - u) = x.v - u := by rw [IntKind.wrap_i64]; omega
  have hyl : leftI x r u = ⟨r, 3, x.o, x.v - u, 0⟩ := by unfold leftI; rw [h3, hxa]
  rw [hyl] at hQ0 hQ1
  obtain ⟨y, hy⟩ : ∃ y : Ist, y = ⟨r, 3, x.o, x.v - u, 0⟩ := ⟨_, rfl⟩
  rw [← hy] at hQ0 hQ1
  have hyc : y.c = r := by rw [hy]
  have hyk : y.k = 3 := by rw [hy]
  have hyo : y.o = x.o := by rw [hy]
  have hyv : y.v = x.v - u := by rw [hy]
  have hya : y.a = 0 := by rw [hy]
  have HYC := Lib.hid (And.intro hyc (And.intro hyk (And.intro hyo (And.intro hyv hya))))
  have hit : ∀ p ∈ insB qs y, p.sz ≤ 1048600 := fun p hp => by
    unfold insB at hp
    simp only [List.mem_append, List.mem_singleton] at hp
    rcases hp with (h | h) | h
    · exact h1s p (List.mem_of_mem_take h)
    · rw [h]; unfold Ist.sz; rw [hyc, hyo]; omega
    · exact h1s p (List.mem_of_mem_drop h)
  have HIT := Lib.hid hit
  have HQ0 := Lib.hid hQ0
  have HQ1 := Lib.hid hQ1
  have HWAY := Lib.hid (fun i q (hq : qs[i]? = some q) (h : i ≤ plcB qs y.c) => outB_way hq h)
  have HLEN := Lib.hid (outB_len qs y)
  obtain ⟨pl, hpl⟩ : ∃ pl, pl = plcB qs y.c := ⟨_, rfl⟩
  have hplL : pl ≤ qs.length := by rw [hpl]; exact plcB_le _ _
  have HLT := Lib.hid (fun i q (hq : qs[i]? = some q) (h : i < pl) => outB_lt (y := y) hq (by rw [← hpl]; exact h))
  have HEQ := Lib.hid (fun i q (hq : qs[i]? = some q) (h : i = pl) => outB_eq (y := y) hq (by rw [← hpl]; exact h))
  have HGT := Lib.hid (fun i q (hq : qs[i]? = some q) (h : pl < i) => outB_gt (y := y) hq (by rw [← hpl]; exact h))
  have HEND := Lib.hid (fun (h : pl < qs.length) => outB_end (qs := qs) (y := y) (by rw [← hpl]; exact h))
  have HEND0 := Lib.hid (fun (h : ¬ pl < qs.length) => outB_end0 (qs := qs) (y := y) (by rw [← hpl]; exact h))
  rw [← hpl, hyc] at HWAY
  clear h hf hord hxok hpc hpo hka hx hqs hQ0 hQ1 h0 hyl hy hyc hyk hyo hyv hya hpl hit h1s
  go_enter Try.func14, Try.ntmps14
  go_wp2_with fail
  refine HM.out.mono ?_
  rintro e w1 ⟨rfl, b1⟩
  go_wp2_with fail
  refine (HF.out _ b1).mono ?_
  rintro e w2 ⟨rfl, rfl⟩
  obtain ⟨b, off, p, rfl, hl, hp, hp4⟩ := (hR.below b1).at hk
  obtain rfl : x = p := by have h1 := HX.out; have h2 := hp.out; rw [h1] at h2; exact Option.some.inj h2
  have c0 := hp4.c0; have c1 := hp4.c1; have c2 := hp4.c2; have c3 := hp4.c3; have c4 := hp4.c4
  obtain ⟨OB, hOB⟩ : ∃ OB : Obj, OB = .cells #[.string ⟨x.c.toArray⟩, .int .i64 3, .string ⟨x.o.toArray⟩, .int .i64 x.v, .int .i64 0] 46 := ⟨_, rfl⟩
  obtain ⟨OY, hOY⟩ : ∃ OY : Obj, OY = .cells #[.string ⟨r.toArray⟩, .int .i64 3, .string ⟨x.o.toArray⟩, .int .i64 (x.v - u), .int .i64 0] 46 := ⟨_, rfl⟩
  have hs8 : (w1.alloc OB).heap.size = w1.heap.size + 1 := by simp
  have hs9 : ((w1.alloc OB).alloc OY).heap.size = w1.heap.size + 2 := by simp
  have hb8 : Below w.heap.size w ((w1.alloc OB).alloc OY) := (b1.alloc b1.size OB).alloc (b1.alloc b1.size OB).size OY
  have hT8 : ((w1.alloc OB).alloc OY).heap[w1.heap.size + 1]? = some (.cells #[.string ⟨y.c.toArray⟩, .int .i64 y.k, .string ⟨y.o.toArray⟩, .int .i64 y.v, .int .i64 y.a] 46 (0, 0)) := by
    obtain ⟨h1, h2, h3, h4, h5⟩ := HYC.out
    rw [h1, h2, h3, h4, h5, ← hs8, ← hOY]
    exact heap_alloc_new (w1.alloc OB) OY
  have hmd := made0i ((w1.alloc OB).alloc OY) (w1.heap.size + 2) 46 5 (by omega)
  rw [hs9] at hmd
  have hbx := below_alloc ((w1.alloc OB).alloc OY) (Obj.cells #[] 46)
  rw [hs9] at hbx
  have HMD := Lib.hid hmd
  have HBX := Lib.hid hbx
  have HT8 := Lib.hid hT8
  have HB8 := Lib.hid hb8
  have HS9 := Lib.hid hs9
  have HRB := Lib.hid (fun W (b : Below w.heap.size w W) => hR.below b)
  have hB1 : w.heap.size ≤ w1.heap.size + 2 := by have := b1.size; omega
  have h2 : (r == r) = true := by simp
  clear hp hp4 hR hT8 hb8 hs8 hs9 hmd hbx HF HM
  obtain ⟨X, hX⟩ : ∃ X, X = (w1.alloc OB).alloc OY := ⟨_, rfl⟩
  rw [← hX] at HMD HBX HT8 HB8 HS9
  have HXX := Lib.hid hX
  clear hX
  subst hOB hOY
  go_wp2_with (go_at_call 53; refine (inn_q h4 _).mono ?_; rintro e w' ⟨rfl, rfl⟩)
  clear h3 hxa h2 hwr h4
  go_loopw [13, 14, 15] (fun o d i wr => ∃ (j : Nat) (dv : Bool) (L : List Ist), j ≤ ps.length ∧ i = .int .i64 j ∧ d = .bool dv ∧ wr.ownsRow (w1.heap.size + 2) 46 5 o L.length (L.flatMap Ist.cells) ∧ Hid (dv = decide (pl < j)) ∧ Hid (L = outB qs y j) ∧ Below (w1.heap.size + 2) X wr) (fun _ _ i _ => ps.length - (intOf i).toNat)
  case atStart => exact ⟨0, false, [], Nat.zero_le _, rfl, rfl, by have := HMD.out; rw [HXX.out] at this; exact this, Lib.hid (decide_eq_false (by omega)).symm, Lib.hid (outB_0 qs y).symm, by have := HBX.out; rw [HXX.out] at this ⊢; exact this⟩
  case round =>
    obtain ⟨j, dv, L, hj, rfl, rfl, hown, hdv, hL, hb⟩ := hrel
    obtain ⟨O, q0, rfl⟩ := own_form hown
    have hLl : L.length ≤ 12 := by have := HLEN.out j (by omega); rw [hL.out]; omega
    have hbw : Below w.heap.size w wr := HB8.out.trans (hb.mono hB1)
    have hszw : w1.heap.size + 2 ≤ wr.heap.size := by have := hb.size; rw [HS9.out] at this; exact this
    have hTw := (hb.block _ (by omega)).trans HT8.out
    have hTc := cells_row5 hTw
    have a0 := hTc.c0; have a1 := hTc.c1; have a2 := hTc.c2; have a3 := hTc.c3; have a4 := hTc.c4
    by_cases hlt : j < ps.length
    · obtain ⟨b', off', p, e2, hl', hp, h5⟩ := (HRB.out wr hbw).at hlt
      obtain ⟨rfl, rfl⟩ : b = b' ∧ off = off' := by injection e2 with e2; injection e2 with e3 e4; exact ⟨e3, e4⟩
      have hset := HSET.out j p hp.out
      have hpc : Op.bytesLess r (if j = k then ({ x with v := u } : Ist) else p).c = Op.bytesLess r p.c := by
        by_cases e : j = k
        · rw [if_pos e]
          subst e
          have h1 := HX.out; have h2 := hp.out; rw [h1] at h2; rw [← Option.some.inj h2]
        · rw [if_neg e]
      have hway := fun (h : j ≤ pl) => HWAY.out j _ hset h
      rw [hpc] at hway
      have hc0 := h5.c0; have hc1 := h5.c1; have hc2 := h5.c2; have hc3 := h5.c3; have hc4 := h5.c4
      have HH5 := Lib.hid (fun W (hB : Below (w1.heap.size + 2) wr W) => h5.belowB (by omega : b < w1.heap.size + 2) hB)
      have HB := Lib.hid hb
      have HZ := Lib.hid hszw
      have hlw : Hid (∀ W, Below (w1.heap.size + 2) wr W → w1.heap.size + 2 ≤ W.heap.size) := Lib.hid (fun W hB => Nat.le_trans hszw hB.size)
      clear e2 hpc h5 hbw hTw hTc
      by_cases ejk : j = k
      · obtain rfl : x = p := by
          subst ejk
          have h1 := HX.out; have h2 := hp.out; rw [h1] at h2; exact Option.some.inj h2
        rw [if_pos ejk] at hset
        rcases Nat.lt_trichotomy j pl with hw | hw | hw
        · obtain rfl : dv = false := by rw [hdv.out]; exact decide_eq_false (by omega)
          have hbl : Op.bytesLess r x.c = false := by rw [hway (by omega)]; exact decide_eq_false (by omega)
          have OUT : Hid (outB qs y (j + 1) = L ++ [({ x with v := u } : Ist)]) := Lib.hid (by rw [hL.out]; exact HLT.out j _ hset (by omega))
          have DV : Hid (false = decide (pl < j + 1)) := Lib.hid (decide_eq_false (by omega)).symm
          have hjk : ((j : Int) == (k : Int)) = true := by rw [beq_iff_eq]; omega
          have hown2 := hown.alloc (.cells #[.string ⟨x.c.toArray⟩, .int .i64 x.k, .string ⟨x.o.toArray⟩, .int .i64 u, .int .i64 x.a] 46)
          have hzz : Hid (wr.heap.size + 1 = (wr.alloc (.cells #[.string ⟨x.c.toArray⟩, .int .i64 x.k, .string ⟨x.o.toArray⟩, .int .i64 u, .int .i64 x.a] 46)).heap.size) := Lib.hid (by simp)
          have hszA : Hid (w1.heap.size + 2 ≤ (wr.alloc (.cells #[.string ⟨x.c.toArray⟩, .int .i64 x.k, .string ⟨x.o.toArray⟩, .int .i64 u, .int .i64 x.a] 46)).heap.size) := Lib.hid (by simp; omega)
          clear hp hset hway hdv hL hown hw ejk
          go_wp2_with (at_builtin; refine wpList_push _ rfl (.tmp 80) (.tmp 82) 24 rfl (w1.heap.size + 2) 46 i0 _ 5 56 Try.underlying24 hi hz0 hz1 hz2 rfl (by decide) _ L.length _ rfl hown2 [.string ⟨x.c.toArray⟩, .int .i64 x.k, .string ⟨x.o.toArray⟩, .int .i64 u, .int .i64 x.a] rfl (by simp [Value.oneCell']) (congrArg (fun n => Value.slice (some ⟨n, 0, none⟩) 1 1) hzz.out) (by unfold maxLen; omega) (by omega) hszA.out ?_; intro v' w' hown' hb')
          go_roundw
          case rel => exact ⟨j + 1, false, L ++ [({ x with v := u } : Ist)], by omega, by go_num, rfl, by simpa [Ist.cells] using hown', DV, Lib.hid OUT.out.symm, HB.out.trans (((Below.refl _ _).alloc HZ.out _).trans hb')⟩
          case measure => simp [intOf]; omega
        · obtain rfl : dv = false := by rw [hdv.out]; exact decide_eq_false (by omega)
          have hbl : Op.bytesLess r x.c = true := by rw [hway (by omega)]; exact decide_eq_true (by omega)
          have OUT : Hid (outB qs y (j + 1) = L ++ [y] ++ [({ x with v := u } : Ist)]) := Lib.hid (by rw [hL.out]; exact HEQ.out j _ hset (by omega))
          have DV : Hid (true = decide (pl < j + 1)) := Lib.hid (decide_eq_true (by omega)).symm
          have hjk : ((j : Int) == (k : Int)) = true := by rw [beq_iff_eq]; omega
          clear hp hset hway hdv hL hw ejk
          go_wp2_with (first
            | (at_builtin; refine wpList_push _ rfl (.tmp 67) (.tmp 69) 24 rfl (w1.heap.size + 2) 46 i0 _ 5 56 Try.underlying24 hi hz0 hz1 hz2 rfl (by decide) _ L.length _ rfl hown [.string ⟨y.c.toArray⟩, .int .i64 y.k, .string ⟨y.o.toArray⟩, .int .i64 y.v, .int .i64 y.a] rfl (by simp [Value.oneCell']) rfl (by unfold maxLen; omega) (by omega) HZ.out ?_; intro v1 wA hown1 hb1; have hd5 := HH5.out _ hb1; have d0 := hd5.c0; have d1 := hd5.c1; have d2 := hd5.c2; have d3 := hd5.c3; have d4 := hd5.c4; have hown2 := hown1.alloc (.cells #[.string ⟨x.c.toArray⟩, .int .i64 x.k, .string ⟨x.o.toArray⟩, .int .i64 u, .int .i64 x.a] 46); have hzB := Lib.hid (hlw.out _ hb1); have hzz : Hid (wA.heap.size + 1 = (wA.alloc (.cells #[.string ⟨x.c.toArray⟩, .int .i64 x.k, .string ⟨x.o.toArray⟩, .int .i64 u, .int .i64 x.a] 46)).heap.size) := Lib.hid (by simp); have hszA : Hid (w1.heap.size + 2 ≤ (wA.alloc (.cells #[.string ⟨x.c.toArray⟩, .int .i64 x.k, .string ⟨x.o.toArray⟩, .int .i64 u, .int .i64 x.a] 46)).heap.size) := Lib.hid (by have := hzB.out; simp; omega); obtain ⟨O1, q1, rfl⟩ := own_form hown1; clear hown1 hd5)
            | (at_builtin; refine wpList_push _ rfl (.tmp 80) (.tmp 82) 24 rfl (w1.heap.size + 2) 46 i0 _ 5 56 Try.underlying24 hi hz0 hz1 hz2 rfl (by decide) _ (L.length + 1) _ rfl hown2 [.string ⟨x.c.toArray⟩, .int .i64 x.k, .string ⟨x.o.toArray⟩, .int .i64 u, .int .i64 x.a] rfl (by simp [Value.oneCell']) (congrArg (fun n => Value.slice (some ⟨n, 0, none⟩) 1 1) hzz.out) (by unfold maxLen; omega) (by omega) hszA.out ?_; intro v' w' hown' hb'))
          go_roundw
          case rel => exact ⟨j + 1, true, L ++ [y] ++ [({ x with v := u } : Ist)], by omega, by go_num, rfl, by simpa [Ist.cells] using hown', DV, Lib.hid OUT.out.symm, (HB.out.trans hb1).trans (((Below.refl _ _).alloc hzB.out _).trans hb')⟩
          case measure => simp [intOf]; omega
        · obtain rfl : dv = true := by rw [hdv.out]; exact decide_eq_true (by omega)
          have OUT : Hid (outB qs y (j + 1) = L ++ [({ x with v := u } : Ist)]) := Lib.hid (by rw [hL.out]; exact HGT.out j _ hset (by omega))
          have DV : Hid (true = decide (pl < j + 1)) := Lib.hid (decide_eq_true (by omega)).symm
          have hjk : ((j : Int) == (k : Int)) = true := by rw [beq_iff_eq]; omega
          have hown2 := hown.alloc (.cells #[.string ⟨x.c.toArray⟩, .int .i64 x.k, .string ⟨x.o.toArray⟩, .int .i64 u, .int .i64 x.a] 46)
          have hzz : Hid (wr.heap.size + 1 = (wr.alloc (.cells #[.string ⟨x.c.toArray⟩, .int .i64 x.k, .string ⟨x.o.toArray⟩, .int .i64 u, .int .i64 x.a] 46)).heap.size) := Lib.hid (by simp)
          have hszA : Hid (w1.heap.size + 2 ≤ (wr.alloc (.cells #[.string ⟨x.c.toArray⟩, .int .i64 x.k, .string ⟨x.o.toArray⟩, .int .i64 u, .int .i64 x.a] 46)).heap.size) := Lib.hid (by simp; omega)
          clear hp hset hway hdv hL hown hw ejk
          go_wp2_with (at_builtin; refine wpList_push _ rfl (.tmp 80) (.tmp 82) 24 rfl (w1.heap.size + 2) 46 i0 _ 5 56 Try.underlying24 hi hz0 hz1 hz2 rfl (by decide) _ L.length _ rfl hown2 [.string ⟨x.c.toArray⟩, .int .i64 x.k, .string ⟨x.o.toArray⟩, .int .i64 u, .int .i64 x.a] rfl (by simp [Value.oneCell']) (congrArg (fun n => Value.slice (some ⟨n, 0, none⟩) 1 1) hzz.out) (by unfold maxLen; omega) (by omega) hszA.out ?_; intro v' w' hown' hb')
          go_roundw
          case rel => exact ⟨j + 1, true, L ++ [({ x with v := u } : Ist)], by omega, by go_num, rfl, by simpa [Ist.cells] using hown', DV, Lib.hid OUT.out.symm, HB.out.trans (((Below.refl _ _).alloc HZ.out _).trans hb')⟩
          case measure => simp [intOf]; omega
      · rw [if_neg ejk] at hset
        rcases Nat.lt_trichotomy j pl with hw | hw | hw
        · obtain rfl : dv = false := by rw [hdv.out]; exact decide_eq_false (by omega)
          have hbl : Op.bytesLess r p.c = false := by rw [hway (by omega)]; exact decide_eq_false (by omega)
          have OUT : Hid (outB qs y (j + 1) = L ++ [p]) := Lib.hid (by rw [hL.out]; exact HLT.out j _ hset (by omega))
          have DV : Hid (false = decide (pl < j + 1)) := Lib.hid (decide_eq_false (by omega)).symm
          have hjk : ((j : Int) == (k : Int)) = false := by rw [beq_eq_false_iff_ne]; omega
          have hown2 := hown.alloc (.cells #[.string ⟨p.c.toArray⟩, .int .i64 p.k, .string ⟨p.o.toArray⟩, .int .i64 p.v, .int .i64 p.a] 46)
          have hzz : Hid (wr.heap.size + 1 = (wr.alloc (.cells #[.string ⟨p.c.toArray⟩, .int .i64 p.k, .string ⟨p.o.toArray⟩, .int .i64 p.v, .int .i64 p.a] 46)).heap.size) := Lib.hid (by simp)
          have hszA : Hid (w1.heap.size + 2 ≤ (wr.alloc (.cells #[.string ⟨p.c.toArray⟩, .int .i64 p.k, .string ⟨p.o.toArray⟩, .int .i64 p.v, .int .i64 p.a] 46)).heap.size) := Lib.hid (by simp; omega)
          clear hp hset hway hdv hL hown hw ejk
          go_wp2_with (at_builtin; refine wpList_push _ rfl (.tmp 80) (.tmp 82) 24 rfl (w1.heap.size + 2) 46 i0 _ 5 56 Try.underlying24 hi hz0 hz1 hz2 rfl (by decide) _ L.length _ rfl hown2 [.string ⟨p.c.toArray⟩, .int .i64 p.k, .string ⟨p.o.toArray⟩, .int .i64 p.v, .int .i64 p.a] rfl (by simp [Value.oneCell']) (congrArg (fun n => Value.slice (some ⟨n, 0, none⟩) 1 1) hzz.out) (by unfold maxLen; omega) (by omega) hszA.out ?_; intro v' w' hown' hb')
          go_roundw
          case rel => exact ⟨j + 1, false, L ++ [p], by omega, by go_num, rfl, by simpa [Ist.cells] using hown', DV, Lib.hid OUT.out.symm, HB.out.trans (((Below.refl _ _).alloc HZ.out _).trans hb')⟩
          case measure => simp [intOf]; omega
        · obtain rfl : dv = false := by rw [hdv.out]; exact decide_eq_false (by omega)
          have hbl : Op.bytesLess r p.c = true := by rw [hway (by omega)]; exact decide_eq_true (by omega)
          have OUT : Hid (outB qs y (j + 1) = L ++ [y] ++ [p]) := Lib.hid (by rw [hL.out]; exact HEQ.out j _ hset (by omega))
          have DV : Hid (true = decide (pl < j + 1)) := Lib.hid (decide_eq_true (by omega)).symm
          have hjk : ((j : Int) == (k : Int)) = false := by rw [beq_eq_false_iff_ne]; omega
          clear hp hset hway hdv hL hw ejk
          go_wp2_with (first
            | (at_builtin; refine wpList_push _ rfl (.tmp 67) (.tmp 69) 24 rfl (w1.heap.size + 2) 46 i0 _ 5 56 Try.underlying24 hi hz0 hz1 hz2 rfl (by decide) _ L.length _ rfl hown [.string ⟨y.c.toArray⟩, .int .i64 y.k, .string ⟨y.o.toArray⟩, .int .i64 y.v, .int .i64 y.a] rfl (by simp [Value.oneCell']) rfl (by unfold maxLen; omega) (by omega) HZ.out ?_; intro v1 wA hown1 hb1; have hd5 := HH5.out _ hb1; have d0 := hd5.c0; have d1 := hd5.c1; have d2 := hd5.c2; have d3 := hd5.c3; have d4 := hd5.c4; have hown2 := hown1.alloc (.cells #[.string ⟨p.c.toArray⟩, .int .i64 p.k, .string ⟨p.o.toArray⟩, .int .i64 p.v, .int .i64 p.a] 46); have hzB := Lib.hid (hlw.out _ hb1); have hzz : Hid (wA.heap.size + 1 = (wA.alloc (.cells #[.string ⟨p.c.toArray⟩, .int .i64 p.k, .string ⟨p.o.toArray⟩, .int .i64 p.v, .int .i64 p.a] 46)).heap.size) := Lib.hid (by simp); have hszA : Hid (w1.heap.size + 2 ≤ (wA.alloc (.cells #[.string ⟨p.c.toArray⟩, .int .i64 p.k, .string ⟨p.o.toArray⟩, .int .i64 p.v, .int .i64 p.a] 46)).heap.size) := Lib.hid (by have := hzB.out; simp; omega); obtain ⟨O1, q1, rfl⟩ := own_form hown1; clear hown1 hd5)
            | (at_builtin; refine wpList_push _ rfl (.tmp 80) (.tmp 82) 24 rfl (w1.heap.size + 2) 46 i0 _ 5 56 Try.underlying24 hi hz0 hz1 hz2 rfl (by decide) _ (L.length + 1) _ rfl hown2 [.string ⟨p.c.toArray⟩, .int .i64 p.k, .string ⟨p.o.toArray⟩, .int .i64 p.v, .int .i64 p.a] rfl (by simp [Value.oneCell']) (congrArg (fun n => Value.slice (some ⟨n, 0, none⟩) 1 1) hzz.out) (by unfold maxLen; omega) (by omega) hszA.out ?_; intro v' w' hown' hb'))
          go_roundw
          case rel => exact ⟨j + 1, true, L ++ [y] ++ [p], by omega, by go_num, rfl, by simpa [Ist.cells] using hown', DV, Lib.hid OUT.out.symm, (HB.out.trans hb1).trans (((Below.refl _ _).alloc hzB.out _).trans hb')⟩
          case measure => simp [intOf]; omega
        · obtain rfl : dv = true := by rw [hdv.out]; exact decide_eq_true (by omega)
          have OUT : Hid (outB qs y (j + 1) = L ++ [p]) := Lib.hid (by rw [hL.out]; exact HGT.out j _ hset (by omega))
          have DV : Hid (true = decide (pl < j + 1)) := Lib.hid (decide_eq_true (by omega)).symm
          have hjk : ((j : Int) == (k : Int)) = false := by rw [beq_eq_false_iff_ne]; omega
          have hown2 := hown.alloc (.cells #[.string ⟨p.c.toArray⟩, .int .i64 p.k, .string ⟨p.o.toArray⟩, .int .i64 p.v, .int .i64 p.a] 46)
          have hzz : Hid (wr.heap.size + 1 = (wr.alloc (.cells #[.string ⟨p.c.toArray⟩, .int .i64 p.k, .string ⟨p.o.toArray⟩, .int .i64 p.v, .int .i64 p.a] 46)).heap.size) := Lib.hid (by simp)
          have hszA : Hid (w1.heap.size + 2 ≤ (wr.alloc (.cells #[.string ⟨p.c.toArray⟩, .int .i64 p.k, .string ⟨p.o.toArray⟩, .int .i64 p.v, .int .i64 p.a] 46)).heap.size) := Lib.hid (by simp; omega)
          clear hp hset hway hdv hL hown hw ejk
          go_wp2_with (at_builtin; refine wpList_push _ rfl (.tmp 80) (.tmp 82) 24 rfl (w1.heap.size + 2) 46 i0 _ 5 56 Try.underlying24 hi hz0 hz1 hz2 rfl (by decide) _ L.length _ rfl hown2 [.string ⟨p.c.toArray⟩, .int .i64 p.k, .string ⟨p.o.toArray⟩, .int .i64 p.v, .int .i64 p.a] rfl (by simp [Value.oneCell']) (congrArg (fun n => Value.slice (some ⟨n, 0, none⟩) 1 1) hzz.out) (by unfold maxLen; omega) (by omega) hszA.out ?_; intro v' w' hown' hb')
          go_roundw
          case rel => exact ⟨j + 1, true, L ++ [p], by omega, by go_num, rfl, by simpa [Ist.cells] using hown', DV, Lib.hid OUT.out.symm, HB.out.trans (((Below.refl _ _).alloc HZ.out _).trans hb')⟩
          case measure => simp [intOf]; omega
    · have hje : j = ps.length := by omega
      have hL11 : (insB qs y).length ≤ 1048576 := by rw [insB_len]; omega
      obtain ⟨I, hI⟩ : ∃ I, I = insB qs y := ⟨_, rfl⟩
      have HLE : Hid (L = outB qs y qs.length) := Lib.hid (by rw [hL.out, hsl, hje])
      have HDV : Hid (dv = decide (pl < qs.length)) := Lib.hid (by rw [hdv.out, hsl, hje])
      have HB := Lib.hid (hb.mono hB1)
      have HZ := Lib.hid hszw
      have hIl := insB_len qs y
      rw [← hI] at HQ0 HQ1 HIT hL11 HEND HEND0 hIl
      clear hI hje hL hdv hb hTw hTc
      by_cases hpq : pl < qs.length
      · obtain rfl : dv = true := by rw [HDV.out]; exact decide_eq_true hpq
        have HI : L = I := by rw [HLE.out]; exact HEND.out hpq
        subst HI
        have ho2 : IstO wr w.heap.size O L.length q0 L := own_monoI hown hB1
        have HO2 := Lib.hid ho2
        clear hown hIl ho2
        rcases Bool.eq_false_or_eq_true (manB L) with hm | hm
        · have E := Lib.hid (HQ0.out hm)
          go_wp2_with (go_at_call 34; refine (manS_q ⟨IstO.row HO2.out, HIT.out, hL11⟩ hm).mono ?_; rintro e w14 ⟨rfl, b14⟩)
          go_ret2
          unfold NewIstsC
          rw [E.out]
          exact ⟨O, q0, rfl, IstO.below HO2.out b14, belowGo (HB8.out.trans HB.out) b14⟩
        · have E := Lib.hid (HQ1.out hm)
          go_wp2_with (go_at_call 34; refine (manS_q ⟨IstO.row HO2.out, HIT.out, hL11⟩ hm).mono ?_; rintro e w14 ⟨rfl, b14⟩)
          go_ret2
          unfold NewIstsC
          rw [E.out]
          exact ⟨none, 0, rfl, World.ownsRow_nil _ _ _ _, belowGo (HB8.out.trans HB.out) b14⟩
      · obtain rfl : dv = false := by rw [HDV.out]; exact decide_eq_false hpq
        have HI : L ++ [y] = I := by rw [HLE.out]; exact HEND0.out hpq
        have hIl2 : I.length = L.length + 1 := by rw [← HI]; simp
        have HFL : Hid (I.flatMap Ist.cells = L.flatMap Ist.cells ++ [.string ⟨y.c.toArray⟩, .int .i64 y.k, .string ⟨y.o.toArray⟩, .int .i64 y.v, .int .i64 y.a]) := Lib.hid (by rw [← HI]; simp [Ist.cells])
        clear HI
        have HO1 := Lib.hid hown
        have HMI := Lib.hid (fun (W : World) (O3 : Option Addr) (q3 : Nat) (ho : IstO W w.heap.size O3 I.length q3 I) (bm : Bool) (hm : manB I = bm) => (by
          have h9 := manS_q (c := q3) (⟨IstO.row ho, HIT.out, hL11⟩ : ITbl W O3 I) hm
          rw [hIl2] at h9
          exact h9 : Calls Try.prog 34 #[.slice O3 (L.length + 1) q3] W (Gives W (.bool bm))))
        clear hown
        rcases Bool.eq_false_or_eq_true (manB I) with hm | hm
        · have E := Lib.hid (HQ0.out hm)
          go_wp2_with (first
            | (at_builtin; refine wpList_push _ rfl (.tmp 86) (.tmp 88) 24 rfl (w1.heap.size + 2) 46 i0 _ 5 56 Try.underlying24 hi hz0 hz1 hz2 rfl (by decide) _ L.length _ rfl HO1.out [.string ⟨y.c.toArray⟩, .int .i64 y.k, .string ⟨y.o.toArray⟩, .int .i64 y.v, .int .i64 y.a] rfl (by simp [Value.oneCell']) rfl (by unfold maxLen; omega) (by omega) HZ.out ?_; intro v' w' hown' hb'; obtain ⟨O3, q3, rfl⟩ := own_form hown'; have ho3 : IstO w' w.heap.size O3 I.length q3 I := (by have h9 := own_monoI hown' hB1; unfold IstO; rw [HFL.out, hIl2]; exact h9); clear hown')
            | (go_at_call 34; refine (HMI.out _ _ _ ho3 _ hm).mono ?_; rintro e w14 ⟨rfl, b14⟩))
          go_ret2
          unfold NewIstsC
          rw [E.out]
          exact ⟨O3, q3, hIl2 ▸ rfl, IstO.below ho3 b14, belowGo (HB8.out.trans (HB.out.trans (hb'.mono hB1))) b14⟩
        · have E := Lib.hid (HQ1.out hm)
          go_wp2_with (first
            | (at_builtin; refine wpList_push _ rfl (.tmp 86) (.tmp 88) 24 rfl (w1.heap.size + 2) 46 i0 _ 5 56 Try.underlying24 hi hz0 hz1 hz2 rfl (by decide) _ L.length _ rfl HO1.out [.string ⟨y.c.toArray⟩, .int .i64 y.k, .string ⟨y.o.toArray⟩, .int .i64 y.v, .int .i64 y.a] rfl (by simp [Value.oneCell']) rfl (by unfold maxLen; omega) (by omega) HZ.out ?_; intro v' w' hown' hb'; obtain ⟨O3, q3, rfl⟩ := own_form hown'; have ho3 : IstO w' w.heap.size O3 I.length q3 I := (by have h9 := own_monoI hown' hB1; unfold IstO; rw [HFL.out, hIl2]; exact h9); clear hown')
            | (go_at_call 34; refine (HMI.out _ _ _ ho3 _ hm).mono ?_; rintro e w14 ⟨rfl, b14⟩))
          go_ret2
          unfold NewIstsC
          rw [E.out]
          exact ⟨none, 0, rfl, World.ownsRow_nil _ _ _ _, belowGo (HB8.out.trans (HB.out.trans (hb'.mono hB1))) b14⟩
end Go.Proofs.Ythainomgmgaikaa
