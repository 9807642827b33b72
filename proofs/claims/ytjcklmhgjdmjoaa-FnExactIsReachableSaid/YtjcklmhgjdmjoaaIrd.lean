/- impl.IsReachable, over decisions. (by gen_ird.py) -/
import Derived.Test.YtjcklmhgjdmjoaaDci
import Derived.Test.YtjcklmhgjdmjoaaClb
namespace Go.Proofs.Ytjcklmhgjdmjoaa
open Go.ChangeShapes Go.WideShapes Go.ChangeAt Go.RowKit
set_option linter.unusedVariables false

theorem index_strD (A : Option Addr) (c : Nat) (xs : List (List UInt8)) (n : List UInt8) (w : World) (hx : Sr w A xs) (hn : xs.length ≤ 1000000) :
    Calls Try.prog 126 #[.slice A xs.length c, .string ⟨n.toArray⟩] w (Gives w (.int .i64 (idxI (fun x => n == x) xs))) := by
  go_enter Try.func126, Try.ntmps126
  go_wp2_with fail
  go_loop [8] (fun i => ∃ k : Nat, k ≤ xs.length ∧ i = .int .i64 k ∧ Hid (∀ (j : Nat) (q : List UInt8), j < k → xs[j]? = some q → (n == q) = false)) (fun i => xs.length - (intOf i).toNat)
  case atStart => exact ⟨0, Nat.zero_le _, rfl, Lib.hid fun j q hj => by omega⟩
  case round =>
    obtain ⟨k, hk, rfl, hno⟩ := hrel
    by_cases hlt : k < xs.length
    · obtain ⟨b', off, x, rfl, hbl, hc, hxk⟩ := hx.at hlt
      cases hv : (n == x) with
      | false =>
        have HN : Hid (∀ (j : Nat) (q : List UInt8), j < k + 1 → xs[j]? = some q → (n == q) = false) := Lib.hid fun j q hj hq2 => by
          rcases Nat.lt_or_ge j k with h1 | h1
          · exact hno.out j q h1 hq2
          · obtain rfl : j = k := by omega
            rw [hxk.out] at hq2; rw [← Option.some.inj hq2]; exact hv
        clear hno hxk hx
        go_wp2_with fail
        go_round
        case rel => exact ⟨k + 1, by omega, by go_num, HN⟩
        case measure => simp [intOf]; omega
      | true =>
        have E : Hid (idxI (fun x => n == x) xs = (k : Int)) := Lib.hid (idxI_some hxk.out hv hno.out)
        clear hno hxk hx
        go_wp2_with fail
        go_ret
        exact ⟨by rw [E.out] <;> rfl, Below.refl _ _⟩
    · have E : Hid (idxI (fun x => n == x) xs = -1) := Lib.hid (idxI_none fun j q hq => hno.out j q (by have := (List.getElem?_eq_some_iff.1 hq).1; omega) hq)
      clear hno hx
      go_wp2_with fail
      go_ret
      exact ⟨by rw [E.out] <;> rfl, Below.refl _ _⟩
theorem cont_strD (A : Option Addr) (c m : Nat) (xs : List (List UInt8)) (n : List UInt8) (w : World) (hx : Sr w A xs) (hm : xs.length = m) (hn : xs.length ≤ 1000000) {v : Bool} (hv : xs.contains n = v) :
    Calls Try.prog 92 #[.slice A m c, .string ⟨n.toArray⟩] w (Gives w (.bool v)) := by
  subst hm
  have HI := Lib.hid (index_strD A c xs n w hx hn)
  have hd : decide (0 ≤ idxI (fun x => n == x) xs) = v := by
    rw [idxI_any, ← hv, List.contains_eq_any_beq]
  clear hv hx
  generalize idxI (fun x => n == x) xs = r at *
  go_enter Try.func92, Try.ntmps92
  go_wp2_with fail
  refine HI.out.mono ?_
  rintro e w1 ⟨rfl, b1⟩
  go_wp2_with fail
  go_ret
  exact ⟨by rw [← hd] <;> rfl, b1⟩
set_option maxRecDepth 100000 in
set_option maxHeartbeats 4000000 in
theorem clo_taken (q : Evt) (A : Option Addr) (c : Nat) (ps : List Cls) (s : List UInt8) (g0 g1 : Nat) (w : World) (h : CTbl w A ps) (hrb : RB ps) (hc : ps.length ≤ c)
    (hc0 : w.cell? ⟨g0, 0, none⟩ = some (.slice A ps.length c)) (hg0 : g0 < w.heap.size) (hc1 : w.cell? ⟨g1, 0, none⟩ = some (.string ⟨s.toArray⟩)) (hg1 : g1 < w.heap.size) :
    Calls Try.prog 91 #[.agg #[.int .i64 q.d, .int .i64 q.k, .string ⟨q.c.toArray⟩, .int .i64 q.a, .bool q.p, .bool q.v, .bool q.r], .pointer (some ⟨g0, 0, none⟩), .pointer (some ⟨g1, 0, none⟩)] w (Gives w (.bool ((decL ps q).contains s))) := by
  have ke := (KeepE.new w q).drew
  have d0 := (ke.bel.cell (p := ⟨g0, 0, none⟩) hg0).trans hc0
  have D1 := Lib.hid (fun W (b : Below w.heap.size w W) => (b.cell (p := ⟨g1, 0, none⟩) hg1).trans hc1)
  have d1 := D1.out _ ke.bel
  have HT := Lib.hid (decide_i A c ps q _ (h.below ke.bel) hrb hc)
  have HB := Lib.hid ke.bel
  have HCL := Lib.hid (show (decL ps q).length ≤ 13 by rw [decL_len]; exact (chainL_pos hrb q).2)
  have c0 := ke.cells.c0; have c1 := ke.cells.c1; have c2 := ke.cells.c2; have c3 := ke.cells.c3; have c4 := ke.cells.c4; have c5 := ke.cells.c5; have c6 := ke.cells.c6
  have hfd : ∀ (a b : Value) (w : World), (Instr.field 31 (.agg #[a, b]) 1).run Try.prog w = .ok b w := fun _ _ _ => rfl
  clear h hrb ke hc0 hc1
  obtain ⟨v, hv⟩ : ∃ v, (decL ps q).contains s = v := ⟨_, rfl⟩
  rw [hv]
  have HV := Lib.hid hv
  clear hv
  have hy : (decE ps q).cs = decL ps q := rfl
  generalize decE ps q = x at *
  rw [← hy] at HV HCL
  clear hy
  go_enter Try.func91, Try.ntmps91
  go_wp2_with fail
  go_region_with (first
    | (go_at_call 70; refine HT.out.mono ?_; rintro e w1 ⟨B, d, rfl, o1, b1⟩; have t1 := belowGo HB.out b1; have d1' := D1.out _ t1)
    | (go_at_call 92; refine (cont_strD B d _ x.cs s _ o1.sr rfl (by have := HCL.out; omega) HV.out).mono ?_; rintro e w2 ⟨rfl, b2⟩))
  all_goals
    go_wp2_with fail
    go_ret
    exact ⟨rfl, belowGo t1 b2⟩
set_option maxHeartbeats 2000000 in
theorem idxTake (f : Evt → Bool) (A : Option Addr) (c : Nat) (ps : List Evt) (g0 g1 : Nat) (w : World) (hR : EvtR w A ps) (hn : ps.length ≤ 1000000000)
    (hf : ∀ (p : Evt) (W : World), p ∈ ps → Below w.heap.size w W → Calls Try.prog 91 #[.agg #[.int .i64 p.d, .int .i64 p.k, .string ⟨p.c.toArray⟩, .int .i64 p.a, .bool p.p, .bool p.v, .bool p.r], .pointer (some ⟨g0, 0, none⟩), .pointer (some ⟨g1, 0, none⟩)] W (Gives W (.bool (f p)))) :
    Calls Try.prog 127 #[.slice A ps.length c, .func (.func 91) #[] #[.pointer (some ⟨g0, 0, none⟩), .pointer (some ⟨g1, 0, none⟩)]] w (Gives w (.int .i64 (idxI f ps))) := by
  have HF := Lib.hid hf
  clear hf
  go_enter Try.func127, Try.ntmps127
  go_wp2_with fail
  go_loopw [8] (fun i wr => ∃ k : Nat, k ≤ ps.length ∧ i = .int .i64 k ∧ Hid (∀ (j : Nat) (q : Evt), j < k → ps[j]? = some q → f q = false) ∧ Below w.heap.size w wr) (fun i _ => ps.length - (intOf i).toNat)
  case atStart => exact ⟨0, Nat.zero_le _, rfl, Lib.hid fun j q hj => by omega, Below.refl _ _⟩
  case round =>
    obtain ⟨k, hk, rfl, hno, hb⟩ := hrel
    by_cases hlt : k < ps.length
    · obtain ⟨b, off, p, rfl, hl, hp, h4⟩ := (hR.below hb).at hlt
      have c0 := h4.c0; have c1 := h4.c1; have c2 := h4.c2; have c3 := h4.c3; have c4 := h4.c4; have c5 := h4.c5; have c6 := h4.c6
      have HC := Lib.hid (HF.out p wr (List.mem_of_getElem? hp.out) hb)
      obtain ⟨B, hB⟩ : ∃ B, f p = B := ⟨_, rfl⟩
      rw [hB] at HC
      cases B
      · have HN : Hid (∀ (j : Nat) (q : Evt), j < k + 1 → ps[j]? = some q → f q = false) := Lib.hid fun j q hj hq => by
          rcases Nat.lt_or_ge j k with h1 | h1
          · exact hno.out j q h1 hq
          · obtain rfl : j = k := by omega
            rw [hp.out] at hq; rw [← Option.some.inj hq]; exact hB
        clear hp hno h4 hR HF hB
        go_wp2_with fail
        refine HC.out.mono ?_
        rintro e w1 ⟨rfl, b1⟩
        go_wp2_with fail
        go_roundw
        case rel => exact ⟨k + 1, by omega, by go_num, HN, belowGo hb b1⟩
        case measure => simp [intOf]; omega
      · have E : Hid (idxI f ps = (k : Int)) := Lib.hid (idxI_some hp.out hB hno.out)
        clear hp hno h4 hR HF hB
        go_wp2_with fail
        refine HC.out.mono ?_
        rintro e w1 ⟨rfl, b1⟩
        go_wp2_with fail
        go_ret
        exact ⟨by rw [E.out] <;> rfl, belowGo hb b1⟩
    · have E : Hid (idxI f ps = -1) := Lib.hid (idxI_none fun j q hq => hno.out j q (by have := (List.getElem?_eq_some_iff.1 hq).1; omega) hq)
      clear hno hR HF
      go_wp2_with fail
      go_ret
      exact ⟨by rw [E.out] <;> rfl, hb⟩
theorem contE_i (f : Evt → Bool) (A : Option Addr) (c : Nat) (ps : List Evt) (v : Value) (b : Bool) (w : World) (hb : decide (0 ≤ idxI f ps) = b)
    (h : Calls Try.prog 127 #[.slice A ps.length c, v] w (Gives w (.int .i64 (idxI f ps)))) :
    Calls Try.prog 93 #[.slice A ps.length c, v] w (Gives w (.bool b)) := by
  have HI := Lib.hid h
  clear h
  generalize idxI f ps = r at *
  go_enter Try.func93, Try.ntmps93
  go_wp2_with fail
  refine HI.out.mono ?_
  rintro e w1 ⟨rfl, b1⟩
  go_wp2_with fail
  go_ret
  exact ⟨by rw [← hb] <;> rfl, b1⟩
/-- The list's box, the code's box. -/
structure KI2 (w : World) (A : Option Addr) (n c : Nat) (x : List UInt8) (W : World) : Prop where
  a : W.heap[w.heap.size]? = some (.cells #[.slice A n c] 24 (0, 0))
  b : W.heap[w.heap.size + 1]? = some (.cells #[.string ⟨x.toArray⟩] 9 (0, 0))
  bel : Below w.heap.size w W
theorem KI2.step {w W W' : World} {A : Option Addr} {n c : Nat} {x : List UInt8} (k : KI2 w A n c x W) (h : Below W.heap.size W W') : KI2 w A n c x W' := ⟨(h.block _ (lt_some k.a)).trans k.a, (h.block _ (lt_some k.b)).trans k.b, belowGo k.bel h⟩
theorem KI2.c0 {w W : World} {A : Option Addr} {n c : Nat} {x : List UInt8} (k : KI2 w A n c x W) : W.cell? ⟨w.heap.size, 0, none⟩ = some (.slice A n c) := by rw [cell_of_row _ _ _ _ _ _ k.a]; rfl
theorem KI2.c1 {w W : World} {A : Option Addr} {n c : Nat} {x : List UInt8} (k : KI2 w A n c x W) : W.cell? ⟨w.heap.size + 1, 0, none⟩ = some (.string ⟨x.toArray⟩) := by rw [cell_of_row _ _ _ _ _ _ k.b]; rfl
theorem KI2.new (w : World) (A : Option Addr) (n c : Nat) (x : List UInt8) : KI2 w A n c x ((w.alloc (.cells #[.slice A n c] 24)).alloc (.cells #[.string ⟨x.toArray⟩] 9)) := by
  have h1 := heap_alloc_new w (.cells #[.slice A n c] 24)
  have h2 := heap_alloc_new (w.alloc (.cells #[.slice A n c] 24)) (.cells #[.string ⟨x.toArray⟩] 9)
  have b2 := below_alloc (w.alloc (.cells #[.slice A n c] 24)) (.cells #[.string ⟨x.toArray⟩] 9)
  rw [show (w.alloc (.cells #[.slice A n c] 24)).heap.size = w.heap.size + 1 by simp] at h2
  exact ⟨(b2.block _ (lt_some h1)).trans h1, h2, belowGo (below_alloc _ _) b2⟩
set_option maxRecDepth 100000 in
set_option maxHeartbeats 4000000 in
theorem ir_i (A : Option Addr) (c : Nat) (ps : List Cls) (s : List UInt8) (w : World) (h : CTblC w A c ps) :
    Calls Try.prog 37 #[.slice A ps.length c, .string ⟨s.toArray⟩] w (Gives w (.tuple #[.bool (irR ps s).1, .int .i64 (irR ps s).2])) := by
  have hcap := h.cap
  replace h := h.tbl
  have k0 := KI2.new w A ps.length c s
  have kc0 := k0.c0; have kc1 := k0.c1
  have HF := Lib.hid (fc_i A c ps s _ (h.below k0.bel))
  have hn := h.len
  have HT := Lib.hid (fun W (hb : Below w.heap.size w W) => h.below hb)
  clear h
  rcases Bool.eq_false_or_eq_true (rbB ps) with hr | hr
  · by_cases hf : fndIC ps s < 0
    · have E := Lib.hid (irR_none hr hf)
      rw [fcR_none hr hf] at HF
      clear hr hf
      go_enter Try.func37, Try.ntmps37
      go_wp2_with fail
      refine HF.out.mono ?_
      rintro e w1 ⟨rfl, b1⟩
      have k1 := k0.step b1
      go_wp2_with fail
      go_ret2
      exact ⟨by rw [E.out] <;> rfl, k1.bel⟩
    · have E := Lib.hid (irR_ok hr hf)
      rw [fcR_ok hr hf] at HF
      have hrb := Lib.hid (rb_of hr)
      have HA := Lib.hid (show (shp 56).any (fun e => (decL ps e).contains s) = anyHit ps (fndIC ps s) 7 by
        rw [← any_shp]
        obtain ⟨pl, hpl⟩ : ∃ pl : Nat, fndIC ps s = (pl : Int) := ⟨(fndIC ps s).toNat, by omega⟩
        rw [hpl]
        congr 1
        funext e
        exact dec_has (rb_of hr) e hpl)
      clear hr hf
      go_enter Try.func37, Try.ntmps37
      go_wp2_with fail
      refine HF.out.mono ?_
      rintro e w1 ⟨rfl, b1⟩
      have k1 := k0.step b1
      have x0 := k1.c0; have x1 := k1.c1
      clear kc0 kc1 HF
      go_wp2_with fail
      refine (shapes_i _).mono ?_
      rintro e w3 ⟨B, d, rfl, oe, b3⟩
      have k3 := k1.step b3
      have HI := idxTake (fun e => (decL ps e).contains s) B d (shp 56) w.heap.size (w.heap.size + 1) w3 oe.row (by rw [shp_len]; omega)
        (fun p W _ hb => clo_taken p A c ps s w.heap.size (w.heap.size + 1) W (HT.out W (belowGo k3.bel hb)) hrb.out hcap
          (k3.step hb).c0 (lt_some (k3.step hb).a) (k3.step hb).c1 (lt_some (k3.step hb).b))
      have HC := Lib.hid (contE_i _ B d (shp 56) _ _ w3 ((idxI_any _ _).trans HA.out) HI)
      rw [shp_len] at HC
      generalize anyHit ps (fndIC ps s) 7 = v at *
      have T3 := Lib.hid k3.bel
      clear HI oe b3 HA k3
      go_wp2_with fail
      refine HC.out.mono ?_
      rintro e w4 ⟨rfl, b4⟩
      go_wp2_with fail
      go_ret2
      exact ⟨by rw [E.out] <;> rfl, belowGo T3.out b4⟩
  · have E := Lib.hid (@irR_no ps s hr)
    rw [fcR_no hr] at HF
    clear hr
    go_enter Try.func37, Try.ntmps37
    go_wp2_with fail
    refine HF.out.mono ?_
    rintro e w1 ⟨rfl, b1⟩
    have k1 := k0.step b1
    go_wp2_with fail
    go_ret2
    exact ⟨by rw [E.out] <;> rfl, k1.bel⟩
end Go.Proofs.Ytjcklmhgjdmjoaa
