/- impl.IsReachable, over the places that are taken. (by gen_irn.py) -/
import Derived.Test.YtpdkgjmppknbpaaPls
import Derived.Test.YtpdkgjmppknbpaaClb
namespace Go.Proofs.Ytpdkgjmppknbpaa
open Go.ChangeShapes Go.WideShapes Go.ChangeAt Go.RowKit
set_option linter.unusedVariables false

theorem index_int (A : Option Addr) (c : Nat) (xs : List Int) (n : Int) (w : World) (hx : Ir w A xs) (hn : xs.length ≤ 1000000) :
    Calls Try.prog 103 #[.slice A xs.length c, .int .i64 n] w (Gives w (.int .i64 (idxI (fun x => n == x) xs))) := by
  go_enter Try.func103, Try.ntmps103
  go_wp2_with fail
  go_loop [8] (fun i => ∃ k : Nat, k ≤ xs.length ∧ i = .int .i64 k ∧ Hid (∀ (j : Nat) (q : Int), j < k → xs[j]? = some q → (n == q) = false)) (fun i => xs.length - (intOf i).toNat)
  case atStart => exact ⟨0, Nat.zero_le _, rfl, Lib.hid fun j q hj => by omega⟩
  case round =>
    obtain ⟨k, hk, rfl, hno⟩ := hrel
    by_cases hlt : k < xs.length
    · obtain ⟨b', off, x, rfl, hc, hxk⟩ := hx.at hlt
      cases hv : (n == x) with
      | false =>
        have HN : Hid (∀ (j : Nat) (q : Int), j < k + 1 → xs[j]? = some q → (n == q) = false) := Lib.hid fun j q hj hq2 => by
          rcases Nat.lt_or_ge j k with h1 | h1
          · exact hno.out j q h1 hq2
          · obtain rfl : j = k := by omega
            rw [hxk.out] at hq2; rw [← Option.some.inj hq2]; exact hv
        clear hno hxk hx
        go_wp2_with fail
        go_round
        case rel => exact ⟨k + 1, by omega, by go_num, HN⟩
        case measure => simp [intOf]; omega
      | true =>
        have E : Hid (idxI (fun x => n == x) xs = (k : Int)) := Lib.hid (idxI_some hxk.out hv hno.out)
        clear hno hxk hx
        go_wp2_with fail
        go_ret
        exact ⟨by rw [E.out] <;> rfl, Below.refl _ _⟩
    · have E : Hid (idxI (fun x => n == x) xs = -1) := Lib.hid (idxI_none fun j q hq => hno.out j q (by have := (List.getElem?_eq_some_iff.1 hq).1; omega) hq)
      clear hno hx
      go_wp2_with fail
      go_ret
      exact ⟨by rw [E.out] <;> rfl, Below.refl _ _⟩
theorem cont_int (A : Option Addr) (c m : Nat) (xs : List Int) (n : Int) (w : World) (hx : Ir w A xs) (hm : xs.length = m) (hn : xs.length ≤ 1000000) {v : Bool} (hv : xs.contains n = v) :
    Calls Try.prog 80 #[.slice A m c, .int .i64 n] w (Gives w (.bool v)) := by
  subst hm
  have HI := Lib.hid (index_int A c xs n w hx hn)
  have hd : decide (0 ≤ idxI (fun x => n == x) xs) = v := by
    rw [idxI_any, ← hv, List.contains_eq_any_beq]
  clear hv hx
  generalize idxI (fun x => n == x) xs = r at *
  go_enter Try.func80, Try.ntmps80
  go_wp2_with fail
  refine HI.out.mono ?_
  rintro e w1 ⟨rfl, b1⟩
  go_wp2_with fail
  go_ret
  exact ⟨by rw [← hd] <;> rfl, b1⟩
set_option maxRecDepth 100000 in
set_option maxHeartbeats 4000000 in
theorem clo_taken (q : Evt) (A : Option Addr) (c pl : Nat) (ps : List Cls) (g0 g1 : Nat) (w : World) (h : CTbl w A ps) (hrb : RB ps) (hc : ps.length ≤ c)
    (hc0 : w.cell? ⟨g0, 0, none⟩ = some (.slice A ps.length c)) (hg0 : g0 < w.heap.size) (hc1 : w.cell? ⟨g1, 0, none⟩ = some (.int .i64 (pl : Int))) (hg1 : g1 < w.heap.size) :
    Calls Try.prog 79 #[.agg #[.int .i64 q.d, .int .i64 q.k, .string ⟨q.c.toArray⟩, .int .i64 q.a, .bool q.p, .bool q.v, .bool q.r], .pointer (some ⟨g0, 0, none⟩), .pointer (some ⟨g1, 0, none⟩)] w (Gives w (.bool ((chainL ps q).contains (pl : Int)))) := by
  have ke := (KeepE.new w q).drew
  have d0 := (ke.bel.cell (p := ⟨g0, 0, none⟩) hg0).trans hc0
  have D1 := Lib.hid (fun W (b : Below w.heap.size w W) => (b.cell (p := ⟨g1, 0, none⟩) hg1).trans hc1)
  have d1 := D1.out _ ke.bel
  have HT := Lib.hid (places_i A c ps q _ (h.below ke.bel) hrb hc)
  have HB := Lib.hid ke.bel
  have hcl := chain_len ps q 13 0
  have hLL : chainL ps q = chainC ps q 13 0 := rfl
  rw [← hLL] at hcl
  have HCL := Lib.hid hcl
  have c0 := ke.cells.c0; have c1 := ke.cells.c1; have c2 := ke.cells.c2; have c3 := ke.cells.c3; have c4 := ke.cells.c4; have c5 := ke.cells.c5; have c6 := ke.cells.c6
  clear h hrb ke hc0 hc1 hcl hLL
  obtain ⟨v, hv⟩ : ∃ v, (chainL ps q).contains (pl : Int) = v := ⟨_, rfl⟩
  rw [hv]
  have HV := Lib.hid hv
  clear hv
  go_enter Try.func79, Try.ntmps79
  go_wp2_with fail
  go_region_with (first
    | (go_at_call 81; refine HT.out.mono ?_; rintro e w1 ⟨B, d, rfl, o1, b1⟩; have t1 := belowGo HB.out b1; have d1' := D1.out _ t1)
    | (go_at_call 80; refine (cont_int B d _ (chainL ps q) (pl : Int) _ o1.ir rfl (by have := HCL.out; omega) HV.out).mono ?_; rintro e w2 ⟨rfl, b2⟩))
  all_goals
    go_wp2_with fail
    go_ret
    exact ⟨rfl, belowGo t1 b2⟩
set_option maxHeartbeats 2000000 in
theorem idxTake (f : Evt → Bool) (A : Option Addr) (c : Nat) (ps : List Evt) (g0 g1 : Nat) (w : World) (hR : EvtR w A ps) (hn : ps.length ≤ 1000000000)
    (hf : ∀ (p : Evt) (W : World), p ∈ ps → Below w.heap.size w W → Calls Try.prog 79 #[.agg #[.int .i64 p.d, .int .i64 p.k, .string ⟨p.c.toArray⟩, .int .i64 p.a, .bool p.p, .bool p.v, .bool p.r], .pointer (some ⟨g0, 0, none⟩), .pointer (some ⟨g1, 0, none⟩)] W (Gives W (.bool (f p)))) :
    Calls Try.prog 105 #[.slice A ps.length c, .func (.func 79) #[] #[.pointer (some ⟨g0, 0, none⟩), .pointer (some ⟨g1, 0, none⟩)]] w (Gives w (.int .i64 (idxI f ps))) := by
  have HF := Lib.hid hf
  clear hf
  go_enter Try.func105, Try.ntmps105
  go_wp2_with fail
  go_loopw [8] (fun i wr => ∃ k : Nat, k ≤ ps.length ∧ i = .int .i64 k ∧ Hid (∀ (j : Nat) (q : Evt), j < k → ps[j]? = some q → f q = false) ∧ Below w.heap.size w wr) (fun i _ => ps.length - (intOf i).toNat)
  case atStart => exact ⟨0, Nat.zero_le _, rfl, Lib.hid fun j q hj => by omega, Below.refl _ _⟩
  case round =>
    obtain ⟨k, hk, rfl, hno, hb⟩ := hrel
    by_cases hlt : k < ps.length
    · obtain ⟨b, off, p, rfl, hl, hp, h4⟩ := (hR.below hb).at hlt
      have c0 := h4.c0; have c1 := h4.c1; have c2 := h4.c2; have c3 := h4.c3; have c4 := h4.c4; have c5 := h4.c5; have c6 := h4.c6
      have HC := Lib.hid (HF.out p wr (List.mem_of_getElem? hp.out) hb)
      obtain ⟨B, hB⟩ : ∃ B, f p = B := ⟨_, rfl⟩
      rw [hB] at HC
      cases B
      · have HN : Hid (∀ (j : Nat) (q : Evt), j < k + 1 → ps[j]? = some q → f q = false) := Lib.hid fun j q hj hq => by
          rcases Nat.lt_or_ge j k with h1 | h1
          · exact hno.out j q h1 hq
          · obtain rfl : j = k := by omega
            rw [hp.out] at hq; rw [← Option.some.inj hq]; exact hB
        clear hp hno h4 hR HF hB
        go_wp2_with fail
        refine HC.out.mono ?_
        rintro e w1 ⟨rfl, b1⟩
        go_wp2_with fail
        go_roundw
        case rel => exact ⟨k + 1, by omega, by go_num, HN, belowGo hb b1⟩
        case measure => simp [intOf]; omega
      · have E : Hid (idxI f ps = (k : Int)) := Lib.hid (idxI_some hp.out hB hno.out)
        clear hp hno h4 hR HF hB
        go_wp2_with fail
        refine HC.out.mono ?_
        rintro e w1 ⟨rfl, b1⟩
        go_wp2_with fail
        go_ret
        exact ⟨by rw [E.out] <;> rfl, belowGo hb b1⟩
    · have E : Hid (idxI f ps = -1) := Lib.hid (idxI_none fun j q hq => hno.out j q (by have := (List.getElem?_eq_some_iff.1 hq).1; omega) hq)
      clear hno hR HF
      go_wp2_with fail
      go_ret
      exact ⟨by rw [E.out] <;> rfl, hb⟩
theorem contE_i (f : Evt → Bool) (A : Option Addr) (c : Nat) (ps : List Evt) (v : Value) (b : Bool) (w : World) (hb : decide (0 ≤ idxI f ps) = b)
    (h : Calls Try.prog 105 #[.slice A ps.length c, v] w (Gives w (.int .i64 (idxI f ps)))) :
    Calls Try.prog 82 #[.slice A ps.length c, v] w (Gives w (.bool b)) := by
  have HI := Lib.hid h
  clear h
  generalize idxI f ps = r at *
  go_enter Try.func82, Try.ntmps82
  go_wp2_with fail
  refine HI.out.mono ?_
  rintro e w1 ⟨rfl, b1⟩
  go_wp2_with fail
  go_ret
  exact ⟨by rw [← hb] <;> rfl, b1⟩
set_option maxRecDepth 100000 in
set_option maxHeartbeats 4000000 in
theorem ir_i (A : Option Addr) (c : Nat) (ps : List Cls) (s : List UInt8) (w : World) (h : CTblC w A c ps) :
    Calls Try.prog 51 #[.slice A ps.length c, .string ⟨s.toArray⟩] w (Gives w (.tuple #[.bool (irR ps s).1, .int .i64 (irR ps s).2])) := by
  have hcap := h.cap
  replace h := h.tbl
  have b0 := below_alloc w (.cells #[.slice A ps.length c] 38)
  have o0 := heap_alloc_new w (.cells #[.slice A ps.length c] 38)
  have HF := Lib.hid (fc_i A c ps s _ (h.below b0))
  have hn := h.len
  have HT := Lib.hid (fun W (hb : Below w.heap.size w W) => h.below hb)
  have HB := Lib.hid b0
  clear h
  rcases Bool.eq_false_or_eq_true (rbB ps) with hr | hr
  · by_cases hf : fndIC ps s < 0
    · have E := Lib.hid (irR_none hr hf)
      rw [fcR_none hr hf] at HF
      clear hr hf b0 o0
      go_enter Try.func51, Try.ntmps51
      go_wp2_with fail
      refine HF.out.mono ?_
      rintro e w1 ⟨rfl, b1⟩
      have t1 := Lib.hid (belowGo (belowGo HB.out b1) (below_alloc w1 (.cells #[.int .i64 0] 2)))
      go_wp2_with fail
      go_ret2
      exact ⟨by rw [E.out] <;> rfl, t1.out⟩
    · have E := Lib.hid (irR_ok hr hf)
      rw [fcR_ok hr hf] at HF
      have hbd := (fndIC_bd ps s).2
      have HA := Lib.hid (fun n => any_shp ps n)
      obtain ⟨pl, hpl⟩ : ∃ pl : Nat, fndIC ps s = (pl : Int) := ⟨(fndIC ps s).toNat, by omega⟩
      rw [hpl] at HF E hbd
      have hplt : pl < ps.length := by omega
      have hrb := Lib.hid (rb_of hr)
      clear hr hf hpl hbd
      go_enter Try.func51, Try.ntmps51
      go_wp2_with fail
      refine HF.out.mono ?_
      rintro e w1 ⟨rfl, b1⟩
      have b2 := below_alloc w1 (.cells #[.int .i64 (pl : Int)] 2)
      have o2 := heap_alloc_new w1 (.cells #[.int .i64 (pl : Int)] 2)
      have o1 := (b2.block _ (lt_some ((b1.block _ (lt_some o0)).trans o0))).trans ((b1.block _ (lt_some o0)).trans o0)
      have t2 := Lib.hid (belowGo (belowGo HB.out b1) b2)
      have HO1 := Lib.hid o1
      have HO2 := Lib.hid o2
      clear b1 b2 o0 o1 o2 b0 HF
      go_wp2_with fail
      refine (shapes_i _).mono ?_
      rintro e w3 ⟨B, d, rfl, oe, b3⟩
      have k1 := (b3.block _ (lt_some HO1.out)).trans HO1.out
      have k2 := (b3.block _ (lt_some HO2.out)).trans HO2.out
      have t3 := belowGo t2.out b3
      have HI := idxTake (fun e => (chainL ps e).contains (pl : Int)) B d (shp 56) w.heap.size w1.heap.size w3 oe.row (by rw [shp_len]; omega)
        (fun p W _ hb => clo_taken p A c pl ps w.heap.size w1.heap.size W (HT.out W (belowGo t3 hb)) hrb.out hcap
          (by rw [cell_of_row _ _ _ _ _ _ ((hb.block _ (lt_some k1)).trans k1)]; rfl) (Nat.lt_of_lt_of_le (lt_some k1) hb.size)
          (by rw [cell_of_row _ _ _ _ _ _ ((hb.block _ (lt_some k2)).trans k2)]; rfl) (Nat.lt_of_lt_of_le (lt_some k2) hb.size))
      have HC := Lib.hid (contE_i _ B d (shp 56) _ _ w3 ((idxI_any _ _).trans (HA.out _)) HI)
      rw [shp_len] at HC
      generalize anyHit ps (pl : Int) 7 = v at *
      clear HI k1 k2 HO1 HO2 oe b3 t2 HA
      go_wp2_with fail
      refine HC.out.mono ?_
      rintro e w4 ⟨rfl, b4⟩
      go_wp2_with fail
      go_ret2
      exact ⟨by rw [E.out] <;> rfl, belowGo t3 b4⟩
  · have E := Lib.hid (@irR_no ps s hr)
    rw [fcR_no hr] at HF
    clear hr b0 o0
    go_enter Try.func51, Try.ntmps51
    go_wp2_with fail
    refine HF.out.mono ?_
    rintro e w1 ⟨rfl, b1⟩
    have t1 := Lib.hid (belowGo (belowGo HB.out b1) (below_alloc w1 (.cells #[.int .i64 0] 2)))
    go_wp2_with fail
    go_ret2
    exact ⟨by rw [E.out] <;> rfl, t1.out⟩
end Go.Proofs.Ytpdkgjmppknbpaa
