import Derived.Test.YtjcklmhgjdmjoaaGreatChg
import Derived.Test.YtjcklmhgjdmjoaaGreatMLib
import Derived.Test.YtjcklmhgjdmjoaaGreatInts
import Derived.Test.YtjcklmhgjdmjoaaGreatMDif
namespace Go.Proofs.YtjcklmhgjdmjoaaGreat
open Go.ChangeShapes Go.WideShapes Go.ChangeAt Go.RowKit
set_option linter.unusedVariables false
theorem clB_iff {p q : Cls} : clB p q = true ↔ p = q := by
 constructor
 ·
  intro h
  unfold clB at h
  simp only [Bool.and_eq_true, beq_iff_eq] at h
  obtain ⟨h1, h2, h3, h4, h5, h6, h7⟩ := h
  cases p; cases q
  simp only at h1 h2 h3 h4 h5 h6 h7
  subst h1 h2 h3 h4 h5 h6 h7
  rfl
 ·
  rintro rfl; exact clB_same p
def outC (qs : List Cls) (p : Cls) : Bool := !(qs.any (fun q => clB p q))
theorem outC_t {qs : List Cls} {p : Cls} : outC qs p = true ↔ p ∉ qs := by
 unfold outC
 rw [Bool.not_eq_true', List.any_eq_false]
 constructor
 ·
  intro h hp; exact h p hp (clB_same p)
 ·
  intro h q hq e; rw [clB_iff.1 e] at h; exact h hq
def onlyC (ps qs : List Cls) : List (List UInt8) := (ps.filter (outC qs)).map Cls.c
theorem only_len (ps qs : List Cls) : (onlyC ps qs).length <= ps.length := fil_len _ _
theorem fnd_at {ps : List Cls} {s : List UInt8} (h : ¬ fndIC ps s < 0) : ∃ (k : Nat) (p : Cls), fndIC ps s = (k : Int) /\ ps[k]? = some p /\ p.c = s := by
 unfold fndIC at h ⊢
 cases hf : fndC ps s with
 | none => rw [hf] at h; simp at h
 | some k =>
  have hl := fnd_ltC hf
  refine ⟨k, ps[k], rfl, List.getElem?_eq_getElem hl, ?_⟩
  unfold fndC at hf
  rw [List.findIdx?_eq_some_iff_getElem] at hf
  obtain ⟨_, h2, _⟩ := hf
  simpa using h2
theorem fnd_not {ps : List Cls} {s : List UInt8} (h : fndIC ps s < 0) {p : Cls} (hp : p ∈ ps) : p.c ≠ s := by
 intro e
 unfold fndIC at h
 cases hf : fndC ps s with
 | some k => rw [hf] at h; simp at h; omega
 | none =>
  unfold fndC at hf
  rw [List.findIdx?_eq_none_iff] at hf
  have := hf p hp
  simp [e] at this
theorem RB.one {ps : List Cls} (h : RB ps) {p q : Cls} (hp : p ∈ ps) (hq : q ∈ ps) (e : p.c = q.c) : p = q := by
 obtain ⟨i, hi⟩ := List.getElem?_of_mem hp
 obtain ⟨j, hj⟩ := List.getElem?_of_mem hq
 have h1 := h.own i p hi
 have h2 := h.own j q hj
 rw [e, h2] at h1
 obtain rfl : j = i := by omega
 rw [hi] at hj; exact Option.some.inj hj
theorem chg_out {qs : List Cls} (h : RB qs) (p : Cls) : chgB qs p = outC qs p := by
 by_cases hf : fndIC qs p.c < 0
 ·
  unfold chgB
  rw [if_pos hf]
  exact (outC_t.2 fun hp => fnd_not hf hp rfl).symm
 ·
  obtain ⟨k, q, hk, hq, hc⟩ := fnd_at hf
  have : chgB qs p = !clB p q := by
   unfold chgB
   rw [if_neg hf, hk]
   simp [hq]
  rw [this]
  have hqm := List.mem_of_getElem? hq
  cases hb : clB p q with
  | true =>
   rw [clB_iff.1 hb]
   have : outC qs q = false := by
    rw [Bool.eq_false_iff]; intro e; exact outC_t.1 e hqm
   rw [this]; rfl
  | false =>
   refine (outC_t.2 fun hp => ?_).symm
   rw [h.one hp hqm hc.symm, clB_same] at hb
   cases hb
theorem only_eq {ps qs : List Cls} (h : RB ps) (h1 : RB qs) : ownU (onlyC ps qs ++ onlyC qs ps) = ownU (chgL ps qs) := by
 refine strict_eq (ownU_strict _) (ownU_strict _) fun x => ?_
 rw [ownU_mem, ownU_mem]
 unfold chgL onlyC
 rw [List.mem_append, List.mem_append, show ps.filter (chgB qs) = ps.filter (outC qs) from List.filter_congr fun p _ => chg_out h1 p]
 constructor
 ·
  rintro (hx | hx)
  ·
   exact .inl hx
  ·
   obtain ⟨q, hq, rfl⟩ := List.mem_map.1 hx
   obtain ⟨hq1, hq2⟩ := List.mem_filter.1 hq
   by_cases hf : fndIC ps q.c < 0
   ·
    exact .inr (List.mem_map.2 ⟨q, List.mem_filter.2 ⟨hq1, by unfold newB; exact decide_eq_true hf⟩, rfl⟩)
   ·
    obtain ⟨k, p, hk, hp, hc⟩ := fnd_at hf
    have hpm := List.mem_of_getElem? hp
    refine .inl (List.mem_map.2 ⟨p, List.mem_filter.2 ⟨hpm, outC_t.2 fun hpq => ?_⟩, hc⟩)
    rw [h1.one hpq hq1 hc] at hpm
    exact outC_t.1 hq2 hpm
 ·
  rintro (hx | hx)
  ·
   exact .inl hx
  ·
   obtain ⟨q, hq, rfl⟩ := List.mem_map.1 hx
   obtain ⟨hq1, hq2⟩ := List.mem_filter.1 hq
   refine .inr (List.mem_map.2 ⟨q, List.mem_filter.2 ⟨hq1, outC_t.2 fun hqp => ?_⟩, rfl⟩)
   unfold newB at hq2
   exact fnd_not (of_decide_eq_true hq2) hqp rfl
theorem out_snoc (ps qs : List Cls) (p : Cls) : onlyC (ps ++ [p]) qs = if outC qs p = true then onlyC ps qs ++ [p.c] else onlyC ps qs := fil_snoc (outC qs) ps p
end Go.Proofs.YtjcklmhgjdmjoaaGreat

namespace Go.Proofs.YtjcklmhgjdmjoaaGreat
open Go.ChangeShapes Go.WideShapes Go.ChangeAt Go.RowKit
set_option linter.unusedVariables false
theorem big_p10 (A : Option Addr) (c : Nat) (bs : List Int) (w : World) (hm : bs.length <= maxLen) :
  Calls Tryz.prog 4 #[.slice A bs.length c] w fun e w' => e = .returned (.bool (decide (4096 < bs.length))) /\ w = w' := by
 have hm2 : bs.length <= 9223372036854775807 := by unfold maxLen at hm; omega
 have E : Hid (decide (4096 < (bs.length : Int)) = decide (4096 < bs.length)) := Lib.hid (by rw [decide_eq_decide]; omega)
 go_enter Tryz.func4, Tryz.ntmps4
 go_wp2_with fail
 go_ret
 exact ⟨by rw [<- E.out] <;> rfl, rfl⟩
set_option maxHeartbeats 1000000 in
theorem likeT10 (A B : Option Addr) (n m c d : Nat) (ws : List (List UInt8)) (w : World) (hx : Sr w A ws) (hy : Sr w B ws) (hn : ws.length = n) (hm : ws.length = m) (hb : n <= 1000000000) :
  Calls Tryz.prog 24 #[.slice A n c, .slice B m d] w fun e w' => e = .returned (.bool true) /\ Below w.heap.size w w' := by
 subst hn hm
 have hl1 : ((ws.length : Int) != ws.length) = false := by simp
 go_enter Tryz.func24, Tryz.ntmps24
 go_wp2_with fail
 go_loopw [5] (fun i wr => ∃ k : Nat, k <= ws.length /\ i = .int .i64 k /\ ∃ n, wr = w.drewN n) (fun i _ => ws.length - (intOf i).toNat)
 case atStart => exact ⟨0, Nat.zero_le _, rfl, 0, rfl⟩
 case round =>
  obtain ⟨k, hk, rfl, n, rfl⟩ := hrel
  by_cases hlt : k < ws.length
  ·
   obtain ⟨b, off, r, rfl, hbl, hc, hrk⟩ := hx.at hlt
   obtain ⟨b2, off2, r2, rfl, hbl2, hc2, hrk2⟩ := hy.at hlt
   have : r = r2 := by have := hrk.out.symm.trans hrk2.out; simpa using this
   subst this
   clear hx hy hl1
   go_wp2_with fail
   go_quiet (fail)
   go_wp2_with fail
   go_roundw
   case rel => exact ⟨k + 1, by omega, by go_num, _, rfl⟩
   case measure => simp [intOf]; omega
  ·
   go_wp2_with fail
   go_ret
   exact ⟨rfl, below_drewN _ _⟩
set_option maxHeartbeats 1000000 in
theorem likeI10 (A B : Option Addr) (n m c d : Nat) (xs : List Int) (w : World) (hx : Ir w A xs) (hy : Ir w B xs) (hn : xs.length = n) (hm : xs.length = m) (hb : n <= 1000000000) :
  Calls Tryz.prog 26 #[.slice A n c, .slice B m d] w fun e w' => e = .returned (.bool true) /\ Below w.heap.size w w' := by
 subst hn hm
 have hl1 : ((xs.length : Int) != xs.length) = false := by simp
 go_enter Tryz.func26, Tryz.ntmps26
 go_wp2_with fail
 go_loopw [5] (fun i wr => ∃ k : Nat, k <= xs.length /\ i = .int .i64 k /\ ∃ n, wr = w.drewN n) (fun i _ => xs.length - (intOf i).toNat)
 case atStart => exact ⟨0, Nat.zero_le _, rfl, 0, rfl⟩
 case round =>
  obtain ⟨k, hk, rfl, n, rfl⟩ := hrel
  by_cases hlt : k < xs.length
  ·
   obtain ⟨b, off, x, rfl, hc, hxk⟩ := hx.at hlt
   obtain ⟨b2, off2, y, rfl, hc2, hyk⟩ := hy.at hlt
   have : x = y := by have := hxk.out.symm.trans hyk.out; simpa using this
   subst this
   clear hx hy hl1
   go_wp2_with fail
   go_quiet (fail)
   go_wp2_with fail
   go_roundw
   case rel => exact ⟨k + 1, by omega, by go_num, _, rfl⟩
   case measure => simp [intOf]; omega
  ·
   go_wp2_with fail
   go_ret
   exact ⟨rfl, below_drewN _ _⟩
set_option maxHeartbeats 2000000 in
theorem likeC10 (A B : Option Addr) (c d : Nat) (ps qs : List Cls) (w : World) (hx : ClsR w A ps) (hy : ClsR w B qs) (hn : ps.length <= 1000000000) (hm : qs.length <= 1000000000) :
  Calls Tryz.prog 28 #[.slice A ps.length c, .slice B qs.length d] w (Gives w (.bool (decide (ps = qs)))) := by
 by_cases hl : ps.length = qs.length
 ·
  have HD := Lib.hid (fun (k : Nat) (p q : Cls) (hp : ps[k]? = some p) (hq : qs[k]? = some q) (hv : clB p q = false) => (decide_eq_false (fun e => by
   rw [e, hq] at hp
   rw [<- Option.some.inj hp, clB_same] at hv
   cases hv) : decide (ps = qs) = false))
  have HE := Lib.hid (fun (h : ∀ j, j < ps.length -> ps[j]? = qs[j]?) => (decide_eq_true (by
   apply List.ext_getElem?
   intro j
   by_cases hj : j < ps.length
   ·
    exact h j hj
   ·
    rw [List.getElem?_eq_none (by omega), List.getElem?_eq_none (by omega)]) : decide (ps = qs) = true))
  generalize decide (ps = qs) = R at *
  have hl1 : ((ps.length : Int) != (qs.length : Int)) = false := by rw [hl]; simp
  have HL := Lib.hid hl
  clear hl
  go_enter Tryz.func28, Tryz.ntmps28
  go_wp2_with fail
  go_loopw [5] (fun i wr => ∃ k : Nat, k <= ps.length /\ i = .int .i64 k /\ Hid (∀ j, j < k -> ps[j]? = qs[j]?) /\ ∃ n, wr = w.drewN n) (fun i _ => ps.length - (intOf i).toNat)
  case atStart => exact ⟨0, Nat.zero_le _, rfl, Lib.hid (fun j hj => by omega), 0, rfl⟩
  case round =>
   obtain ⟨k, hk, rfl, hsame, n, rfl⟩ := hrel
   by_cases hlt : k < ps.length
   ·
    have hlt2 : k < qs.length := by rw [<- HL.out]; exact hlt
    obtain ⟨b, off, r, rfl, hbl, hrk, hc⟩ := hx.at hlt
    obtain ⟨b2, off2, r2, rfl, hbl2, hrk2, hc2⟩ := hy.at hlt2
    obtain ⟨c0, c1, c2, c3, c4, c5, c6⟩ := hc
    obtain ⟨d0, d1, d2, d3, d4, d5, d6⟩ := hc2
    have N := fun W => neq_cls W r r2
    obtain ⟨v, hv⟩ : ∃ v, clB r r2 = v := ⟨_, rfl⟩
    rw [hv] at N
    cases v
    ·
     have E := Lib.hid (HD.out k r r2 hrk.out hrk2.out hv)
     simp only [Bool.not_false] at N
     clear hx hy hl1 hv
     go_wp2_with fail
     go_quiet (fail)
     go_wp2_with fail
     go_ret
     exact ⟨by rw [E.out] <;> rfl, (below_drewN w n).trans ((below_drewN _ _).mono (below_drewN w n).size)⟩
    ·
     have HN : Hid (∀ j, j < k + 1 -> ps[j]? = qs[j]?) := Lib.hid fun j hj => by
      rcases Nat.lt_or_ge j k with h1 | h1
      ·
       exact hsame.out j h1
      ·
       obtain rfl : j = k := by omega
       rw [hrk.out, hrk2.out, clB_iff.1 hv]
     simp only [Bool.not_true] at N
     clear hx hy hl1 hv
     go_wp2_with fail
     go_quiet (fail)
     go_wp2_with fail
     go_roundw
     case rel => exact ⟨k + 1, by omega, by go_num, HN, _, rfl⟩
     case measure => simp [intOf]; omega
   ·
    have E := Lib.hid (HE.out fun j hj => hsame.out j (by omega))
    go_wp2_with fail
    go_ret
    exact ⟨by rw [E.out] <;> rfl, below_drewN _ _⟩
 ·
  have hl1 : ((ps.length : Int) != (qs.length : Int)) = true := by simp only [bne_iff_ne, ne_eq]; omega
  have E : Hid (decide (ps = qs) = false) := Lib.hid (decide_eq_false fun e => hl (by rw [e]))
  clear hl
  go_enter Tryz.func28, Tryz.ntmps28
  go_wp2_with fail
  go_ret
  exact ⟨by rw [E.out] <;> rfl, Below.refl _ _⟩
set_option maxRecDepth 100000 in
set_option maxHeartbeats 4000000 in
theorem likeD10 (A B : Option Addr) (n m c d : Nat) (es : List Edn) (w : World) (hx : EdnR w A es) (hy : EdnR w B es) (hn : es.length = n) (hm : es.length = m) (hb : n <= 1000000000) (hcs : ∀ e ∈ es, e.cs.length <= 1000000000) :
  Calls Tryz.prog 25 #[.slice A n c, .slice B m d] w (Gives w (.bool true)) := by
 subst hn hm
 have hl1 : ((es.length : Int) != es.length) = false := by simp
 have HX := Lib.hid (fun W (b : Below w.heap.size w W) => hx.below b)
 have HY := Lib.hid (fun W (b : Below w.heap.size w W) => hy.below b)
 clear hx hy
 go_enter Tryz.func25, Tryz.ntmps25
 go_wp2_with fail
 go_loopw [5] (fun i wr => ∃ k : Nat, k <= es.length /\ i = .int .i64 k /\ Below w.heap.size w wr) (fun i _ => es.length - (intOf i).toNat)
 case atStart => exact ⟨0, Nat.zero_le _, rfl, Below.refl _ _⟩
 case round =>
  obtain ⟨k, hk, rfl, hbw⟩ := hrel
  by_cases hlt : k < es.length
  ·
   obtain ⟨b, off, e, a, cp, rfl, hbl, he, x0, x1, hc1⟩ := (HX.out wr hbw).at hlt
   obtain ⟨b2, off2, e2, a2, cp2, rfl, hbl2, he2, y0, y1, hc2⟩ := (HY.out wr hbw).at hlt
   obtain rfl : e = e2 := by have := he.out.symm.trans he2.out; simpa using this
   have q0 : ∀ y : Sub (Bel wr), y.w.cell? ⟨b, off + k * 2, none⟩ = some (.int .i64 e.y) := fun y => (Below.cell (show Below wr.heap.size wr y.w from y.h) (p := ⟨b, off + k * 2, none⟩) hbl).trans x0
   have q1 : ∀ y : Sub (Bel wr), y.w.cell? ⟨b, off + k * 2 + 1, none⟩ = some (.slice a e.cs.length cp) := fun y => (Below.cell (show Below wr.heap.size wr y.w from y.h) (p := ⟨b, off + k * 2 + 1, none⟩) hbl).trans x1
   have p0 : ∀ y : Sub (Bel wr), y.w.cell? ⟨b2, off2 + k * 2, none⟩ = some (.int .i64 e.y) := fun y => (Below.cell (show Below wr.heap.size wr y.w from y.h) (p := ⟨b2, off2 + k * 2, none⟩) hbl2).trans y0
   have p1 : ∀ y : Sub (Bel wr), y.w.cell? ⟨b2, off2 + k * 2 + 1, none⟩ = some (.slice a2 e.cs.length cp2) := fun y => (Below.cell (show Below wr.heap.size wr y.w from y.h) (p := ⟨b2, off2 + k * 2 + 1, none⟩) hbl2).trans y1
   have hcl := hcs e (List.mem_of_getElem? he.out)
   have HC := Lib.hid (fun y : Sub (Bel wr) => (likeC10 a a2 cp cp2 e.cs e.cs y.w (hc1.below y.h) (hc2.below y.h) hcl hcl).mono fun x w' kk => (⟨by rw [kk.1]; simp, ⟨w', Bel.step y kk.2⟩, rfl⟩ : x = .returned (.bool true) /\ ∃ z : Sub (Bel wr), w' = z.w))
   have HB := Lib.hid (fun y : Sub (Bel wr) => (belowGo hbw y.h : Below w.heap.size w y.w))
   have hyy : (e.y != e.y) = false := by simp
   clear hl1 hc1 hc2 he he2 x0 x1 y0 y1
   go_wp2_with fail
   refine region_held (Bel wr) (by kernel_rfl) (by kernel_rfl) (Bel.drew wr) ?_
   repeat (go_big_quiet_step ((first | rfl | (go_at_call 28; exact HC.out _))))
   refine wpQuiet_nil ?_
   rintro _ ⟨y, rfl⟩
   go_wp2_with fail
   go_roundw
   case rel => exact ⟨k + 1, by omega, by go_num, HB.out y⟩
   case measure => simp [intOf]; omega
  ·
   go_wp2_with fail
   go_ret
   exact ⟨rfl, hbw⟩
theorem same_none {ps : List Cls} : (difE ps ps).2 = false := by
 rw [difE_none (fun i hi => by unfold neqD; simp)]
theorem cc_self {ps : List Cls} (h : rbB ps = true) : ccR ps ps = ([], 0) := by
 have R := rb_of h
 rw [ccR_ok h h]
 have h1 : chgL ps ps = [] := by
  unfold chgL
  have e1 : ps.filter (chgB ps) = [] := by
   rw [List.filter_eq_nil_iff]
   intro p hp e
   rw [chg_out R] at e
   exact outC_t.1 e hp
  have e2 : ps.filter (newB ps) = [] := by
   rw [List.filter_eq_nil_iff]
   intro p hp e
   unfold newB at e
   exact fnd_not (of_decide_eq_true e) hp rfl
  rw [e1, e2]; rfl
 rw [h1]; rfl
theorem ad_found {es : List Edn} {e : Edn} (h : lbB (addL es e) = true) : ∃ k : Nat, efR (addL es e) e.y = ((k : Int), 0) /\ (addL es e)[k]? = some e := by
 have hle := plc_leL es e.y
 have hk : (addL es e)[plcL es e.y]? = some e := by
  unfold addL
  rw [List.append_assoc, List.getElem?_append_right (by rw [List.length_take]; omega), List.length_take, Nat.min_eq_left hle, Nat.sub_self]
  rfl
 obtain ⟨h1, h2⟩ := hasL_at (lb_of h) hk rfl
 exact ⟨plcL es e.y, by rw [efR_has h h1, h2], hk⟩
theorem yo_code (es : List Edn) (s : List UInt8) : ((yoR es s).2 == 0) = lbB es := by
 rcases Bool.eq_false_or_eq_true (lbB es) with h | h
 ·
  rw [yoR_ok h, h]; rfl
 ·
  rw [yoR_no h, h]; rfl
theorem sd_zero {ps qs : List Cls} (h : (sdR ps qs).2 = 0) : rbB ps = true /\ rbB qs = true := by
 unfold sdR at h
 split at h
 ·
  assumption
 ·
  cases h
end Go.Proofs.YtjcklmhgjdmjoaaGreat

