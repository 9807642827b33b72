import Derived.Test.YtjcklmhgjdmjoaaGreatCla
import Derived.Test.YtjcklmhgjdmjoaaGreatMClm
import Derived.Test.YtjcklmhgjdmjoaaGreatMCll
import Derived.ChangeKeysEq
namespace Go.Proofs.YtjcklmhgjdmjoaaGreat
open Go.ChangeShapes Go.WideShapes Go.ChangeAt Go.RowKit
set_option linter.unusedVariables false
def idxI {T : Type} (f : T -> Bool) (ps : List T) : Int := match ps.findIdx? f with | none => -1 | some k => k
theorem idxI_none {T : Type} {f : T -> Bool} {ps : List T} (h : ∀ (j : Nat) (q : T), ps[j]? = some q -> f q = false) : idxI f ps = -1 := by
 have : ps.findIdx? f = none := by
  rw [List.findIdx?_eq_none_iff]
  intro x hx
  obtain ⟨j, hj⟩ := List.getElem?_of_mem hx
  exact h j x hj
 unfold idxI; rw [this]
theorem idxI_some {T : Type} {f : T -> Bool} {ps : List T} {k : Nat} {p : T} (hk : ps[k]? = some p) (hc : f p = true) (h : ∀ (j : Nat) (q : T), j < k -> ps[j]? = some q -> f q = false) : idxI f ps = (k : Int) := by
 have : ps.findIdx? f = some k := by
  rw [List.findIdx?_eq_some_iff_getElem]
  obtain ⟨hl, e⟩ := List.getElem?_eq_some_iff.1 hk
  refine ⟨hl, by rw [e]; exact hc, fun j hj => ?_⟩
  rw [h j _ hj (List.getElem?_eq_getElem (by omega))]; exact Bool.false_ne_true
 unfold idxI; rw [this]
theorem idxI_code (ps : List Cls) (s : List UInt8) : idxI (fun p => p.c == s) ps = fndIC ps s := rfl
theorem clo_code (p : Cls) (s : List UInt8) (g : Nat) (w : World) (hc : w.cell? ⟨g, 0, none⟩ = some (.string ⟨s.toArray⟩)) (hg : g < w.heap.size) :
  Calls Tryz.prog 79 #[.agg #[.string ⟨p.c.toArray⟩, .int .i64 p.k, .int .i64 p.p, .int .i64 p.v, .int .i64 p.r, .int .i64 p.e, .string ⟨p.t.toArray⟩], .pointer (some ⟨g, 0, none⟩)] w (Gives w (.bool (p.c == s))) := by
 have B : ∀ o, Hid (Below w.heap.size w (w.alloc o)) := fun o => Lib.hid ((Below.refl _ _).alloc (Nat.le_refl _) _)
 have hc2 : ∀ o, (w.alloc o).cell? ⟨g, 0, none⟩ = some (.string ⟨s.toArray⟩) := fun o => ((B o).out.cell (p := ⟨g, 0, none⟩) hg).trans hc
 go_enter Tryz.func79, Tryz.ntmps79
 go_wp2_with fail
 go_ret
 exact ⟨by simp, (B _).out⟩
set_option maxHeartbeats 2000000 in
theorem idxCode (f : Cls -> Bool) (A : Option Addr) (c : Nat) (ps : List Cls) (g : Nat) (w : World) (hR : ClsR w A ps) (hn : ps.length <= 1000000000)
  (hf : ∀ (p : Cls) (W : World), p ∈ ps -> Below w.heap.size w W -> Calls Tryz.prog 79 #[.agg #[.string ⟨p.c.toArray⟩, .int .i64 p.k, .int .i64 p.p, .int .i64 p.v, .int .i64 p.r, .int .i64 p.e, .string ⟨p.t.toArray⟩], .pointer (some ⟨g, 0, none⟩)] W (Gives W (.bool (f p)))) :
  Calls Tryz.prog 78 #[.slice A ps.length c, .func (.func 79) #[] #[.pointer (some ⟨g, 0, none⟩)]] w (Gives w (.int .i64 (idxI f ps))) := by
 have HF := Lib.hid hf
 clear hf
 go_enter Tryz.func78, Tryz.ntmps78
 go_wp2_with fail
 go_loopw [8] (fun i wr => ∃ k : Nat, k <= ps.length /\ i = .int .i64 k /\ Hid (∀ (j : Nat) (q : Cls), j < k -> ps[j]? = some q -> f q = false) /\ Below w.heap.size w wr) (fun i _ => ps.length - (intOf i).toNat)
 case atStart => exact ⟨0, Nat.zero_le _, rfl, Lib.hid fun j q hj => by omega, Below.refl _ _⟩
 case round =>
  obtain ⟨k, hk, rfl, hno, hb⟩ := hrel
  by_cases hlt : k < ps.length
  ·
   obtain ⟨b, off, p, rfl, hl, hp, h4⟩ := (hR.below hb).at hlt
   have c0 := h4.c0; have c1 := h4.c1; have c2 := h4.c2; have c3 := h4.c3; have c4 := h4.c4; have c5 := h4.c5; have c6 := h4.c6
   have HC := Lib.hid (HF.out p wr (List.mem_of_getElem? hp.out) hb)
   obtain ⟨B, hB⟩ : ∃ B, f p = B := ⟨_, rfl⟩
   rw [hB] at HC
   cases B
   ·
    have HN : Hid (∀ (j : Nat) (q : Cls), j < k + 1 -> ps[j]? = some q -> f q = false) := Lib.hid fun j q hj hq => by
     rcases Nat.lt_or_ge j k with h1 | h1
     ·
      exact hno.out j q h1 hq
     ·
      obtain rfl : j = k := by omega
      rw [hp.out] at hq; rw [<- Option.some.inj hq]; exact hB
    clear hp hno h4 hR HF hB
    go_wp2_with fail
    refine HC.out.mono ?_
    rintro e w1 ⟨rfl, b1⟩
    go_wp2_with fail
    go_roundw
    case rel => exact ⟨k + 1, by omega, by go_num, HN, belowGo hb b1⟩
    case measure => simp [intOf]; omega
   ·
    have E : Hid (idxI f ps = (k : Int)) := Lib.hid (idxI_some hp.out hB hno.out)
    clear hp hno h4 hR HF hB
    go_wp2_with fail
    refine HC.out.mono ?_
    rintro e w1 ⟨rfl, b1⟩
    go_wp2_with fail
    go_ret
    exact ⟨by rw [E.out] <;> rfl, belowGo hb b1⟩
  ·
   have E : Hid (idxI f ps = -1) := Lib.hid (idxI_none fun j q hq => hno.out j q (by have := (List.getElem?_eq_some_iff.1 hq).1; omega) hq)
   clear hno hR HF
   go_wp2_with fail
   go_ret
   exact ⟨by rw [E.out] <;> rfl, hb⟩
theorem place_iC (A : Option Addr) (c : Nat) (ps : List Cls) (s : List UInt8) (w : World) (hR : ClsR w A ps) (hn : ps.length <= 1000000000) :
  Calls Tryz.prog 53 #[.slice A ps.length c, .string ⟨s.toArray⟩] w (Gives w (.int .i64 (fndIC ps s))) := by
 have b0 := below_alloc w (.cells #[.string ⟨s.toArray⟩] 9)
 have hc : (w.alloc (.cells #[.string ⟨s.toArray⟩] 9)).cell? ⟨w.heap.size, 0, none⟩ = some (.string ⟨s.toArray⟩) := by rw [cell_of_row _ _ _ _ _ _ (heap_alloc_new w _)]; rfl
 have hlt : w.heap.size < (w.alloc (.cells #[.string ⟨s.toArray⟩] 9)).heap.size := by simp
 have HI := Lib.hid (idxCode (fun p => p.c == s) A c ps w.heap.size (w.alloc (.cells #[.string ⟨s.toArray⟩] 9)) (hR.below b0) hn (fun p W _ hb => clo_code p s w.heap.size W ((hb.cell (p := ⟨w.heap.size, 0, none⟩) hlt).trans hc) (Nat.lt_of_lt_of_le hlt hb.size)))
 rw [idxI_code] at HI
 have HB := Lib.hid b0
 clear b0 hc hlt hR
 go_enter Tryz.func53, Tryz.ntmps53
 go_wp2_with fail
 refine HI.out.mono ?_
 rintro e w1 ⟨rfl, b1⟩
 go_wp2_with fail
 go_ret
 exact ⟨rfl, belowGo HB.out b1⟩
def allC (p : Cls) : Bool := p.k == -1 && (p.p == 0 && (p.v == 0 && p.r == 0))
set_option maxRecDepth 100000 in
theorem all_run (x y z : Int) (W : World) : (binOp .eql 115 (.agg #[.int .i64 x, .int .i64 y, .int .i64 z]) (.agg #[.int .i64 0, .int .i64 0, .int .i64 0])).run Tryz.prog W = .ok (.bool (x == 0 && (y == 0 && z == 0))) W := by
 have h : (Op.equalIn (9999 + 1) 115 (.agg #[.int .i64 x, .int .i64 y, .int .i64 z]) (.agg #[.int .i64 0, .int .i64 0, .int .i64 0])).run Tryz.prog W = .ok (x == 0 && (y == 0 && z == 0)) W := by
  obtain ⟨i, hi⟩ : ∃ i, Tryz.prog.info? 2 = some i := ⟨_, rfl⟩
  rw [run_equalIn_array W 9999 _ _ Tryz.underlying115 hi]
  obtain ⟨k, hk⟩ : ∃ k, 9999 = k + 1 := ⟨9998, rfl⟩
  rw [hk]
  have H := fun (x y : Int) => run_equalIn_int (P := Tryz.prog) W k 2 .i64 .i64 x y Tryz.underlying2
  have hc : Tryz.prog.cellsOf 2 = 1 := by kernel_rfl
  clear hk hi
  rw [hc]
  have p0 : ∀ x y z : Int, (part 2 #[.int .i64 x, .int .i64 y, .int .i64 z] (0 * 1)).run Tryz.prog W = .ok (.int .i64 x) W := fun _ _ _ => by kernel_rfl
  have p1 : ∀ x y z : Int, (part 2 #[.int .i64 x, .int .i64 y, .int .i64 z] (1 * 1)).run Tryz.prog W = .ok (.int .i64 y) W := fun _ _ _ => by kernel_rfl
  have p2 : ∀ x y z : Int, (part 2 #[.int .i64 x, .int .i64 y, .int .i64 z] (2 * 1)).run Tryz.prog W = .ok (.int .i64 z) W := fun _ _ _ => by kernel_rfl
  rw [show List.range 3 = [0, 1, 2] from rfl]
  simp only [Op.eqItems, Sem.run_bind, p0, p1, p2, H, Result.andThen_ok]
  cases h1 : x == 0 <;> cases h2 : y == 0 <;> cases h3 : z == 0 <;> simp [h1, h2, h3, Op.eqItems, Sem.run_bind, p0, p1, p2, H, Result.andThen_ok]
 rw [run_eql_struct]
 exact (congrArg (fun r => Result.andThen r _) h).trans rfl
set_option maxHeartbeats 2000000 in
theorem forAll_i (p : Cls) (w : World) : Calls Tryz.prog 59 #[.agg #[.string ⟨p.c.toArray⟩, .int .i64 p.k, .int .i64 p.p, .int .i64 p.v, .int .i64 p.r, .int .i64 p.e, .string ⟨p.t.toArray⟩]] w (Gives w (.bool (allC p))) := by
 have kb := KeepC.new w p
 have HO := Lib.hid (fun w => order_i p w)
 have q0 := fun W => all_run p.p p.v p.r W
 have E : Hid (allC p = (p.k == -1 && (p.p == 0 && (p.v == 0 && p.r == 0)))) := Lib.hid rfl
 rcases Bool.eq_false_or_eq_true (p.k == -1) with h | h
 ·
  rw [h] at E
  go_enter Tryz.func59, Tryz.ntmps59
  go_wp2_with (go_at_call 83; refine (HO.out _).mono ?_; rintro e w1 ⟨rfl, b1⟩; replace kb := kb.step b1)
  go_ret
  exact ⟨by rw [E.out] <;> rfl, kb.bel⟩
 ·
  rw [h] at E
  go_enter Tryz.func59, Tryz.ntmps59
  go_wp2_with fail
  go_ret
  exact ⟨by rw [E.out] <;> rfl, kb.bel⟩
theorem endB_eq (p : Cls) : endB p = (allC p && p.e != 3) := by
 unfold endB allC; simp only [Bool.and_assoc]
theorem rb_endI {ps : List Cls} {p : Cls} (h : 1 <= ps.length /\ ps.length <= 12) (h1 : rbTo ps ps.length = true) (hp : ps[ps.length - 1]? = some p) : rbB ps = allC p := by
 rw [rb_end h h1 hp, endB_eq]
 have hk : ps.length - 1 < ps.length := by omega
 have a := rbTo_at h1 hk
 rw [rbAt_some hp] at a
 have hb := (fndIC_bd ps p.t).2
 have he : (p.e != 3) = true := by
  rw [bne_iff_ne]
  intro he
  rw [he] at a
  simp at a
  omega
 rw [he, Bool.and_true]
theorem isRb_i_no (A : Option Addr) (c : Nat) (ps : List Cls) (w : World) (h : ¬(1 <= ps.length /\ ps.length <= 12)) (hn : ps.length <= 1048590) :
  Calls Tryz.prog 32 #[.slice A ps.length c] w (Gives w (.bool (rbB ps))) := by
 have E := Lib.hid (rb_len h)
 generalize rbB ps = r at *
 generalize ps.length = n at *
 by_cases h0 : n = 0
 ·
  subst h0
  clear h hn
  go_enter Tryz.func32, Tryz.ntmps32
  go_wp2_with fail
  go_ret
  exact ⟨by rw [E.out] <;> rfl, Below.refl _ _⟩
 ·
  have z0 : ((n : Int) == 0) = false := by simp; omega
  have z1 : decide ((12 : Int) < (n : Int)) = true := by simp; omega
  clear h
  go_enter Tryz.func32, Tryz.ntmps32
  go_wp2_with fail
  go_ret
  exact ⟨by rw [E.out] <;> rfl, Below.refl _ _⟩
set_option maxRecDepth 100000 in
set_option maxHeartbeats 8000000 in
theorem isRb_i_ok (A : Option Addr) (c m : Nat) (ps : List Cls) (w : World) (h : CTbl w A ps) (hm : ps.length = m + 1) (h12 : m + 1 <= 12) :
  Calls Tryz.prog 32 #[.slice A (m + 1) c] w (Gives w (.bool (rbB ps))) := by
 have HR := Lib.hid h.row
 have HS := Lib.hid h.txt
 have HM := Lib.hid hm
 have z0 : (((m : Int) + 1) == 0) = false := by simp; omega
 have z1 : decide ((12 : Int) < (m : Int) + 1) = false := by simp; omega
 have HFN : Hid (∀ s W, Below w.heap.size w W -> Calls Tryz.prog 53 #[.slice A (m + 1) c, .string ⟨(s : List UInt8).toArray⟩] W (Gives W (.int .i64 (fndIC ps s)))) := Lib.hid (fun s W hb => by
  rw [<- HM.out]; exact place_iC A c ps s W (HR.out.below hb) (by rw [HM.out]; omega))
 clear h hm
 go_enter Tryz.func32, Tryz.ntmps32
 go_wp2_with fail
 go_loopw [15] (fun i wr => ∃ k : Nat, k <= m + 1 /\ i = .int .i64 k /\ Hid (rbTo ps k = true) /\ Below w.heap.size w wr) (fun i _ => m + 1 - (intOf i).toNat)
 case atStart => exact ⟨0, Nat.zero_le _, rfl, Lib.hid rfl, Below.refl _ _⟩
 case round =>
  obtain ⟨k, hk, rfl, hok, hb⟩ := hrel
  by_cases hlt : k < m + 1
  ·
   obtain ⟨b, off, p, rfl, hl, hp, h4⟩ := (HR.out.below hb).at (k := k) (by rw [HM.out]; omega)
   obtain ⟨hpc, hpt⟩ := sz_c (HS.out p (List.mem_of_getElem? hp.out))
   have c0 := h4.c0; have c1 := h4.c1; have c2 := h4.c2; have c3 := h4.c3; have c4 := h4.c4; have c5 := h4.c5; have c6 := h4.c6
   have kb := KeepC.new wr p
   have HV := Lib.hid (fun W => cvalid_i p W hpc hpt)
   have E := Lib.hid (rbAt_some hp.out)
   have HNO := Lib.hid (fun h => rb_no (ps := ps) (k := k) (by rw [HM.out]; omega) h)
   clear hp h4 hpc hpt
   rcases Bool.eq_false_or_eq_true p.ok with hv | hv
   ·
    rw [hv] at HV E
    obtain ⟨f1, hf1⟩ : ∃ f1, fndIC ps p.c = f1 := ⟨_, rfl⟩
    obtain ⟨f2, hf2⟩ : ∃ f2, fndIC ps p.t = f2 := ⟨_, rfl⟩
    have HF1 : Hid (∀ W, Below w.heap.size w W -> Calls Tryz.prog 53 #[.slice (some ⟨b, off, none⟩) (m + 1) c, .string ⟨p.c.toArray⟩] W (Gives W (.int .i64 f1))) := Lib.hid (hf1 ▸ HFN.out p.c)
    have HF2 : Hid (∀ W, Below w.heap.size w W -> Calls Tryz.prog 53 #[.slice (some ⟨b, off, none⟩) (m + 1) c, .string ⟨p.t.toArray⟩] W (Gives W (.int .i64 f2))) := Lib.hid (hf2 ▸ HFN.out p.t)
    rw [hf1, hf2] at E
    clear hf1 hf2
    by_cases hf : f1 = (k : Int)
    ·
     subst hf
     have zk : ((k : Int) != (k : Int)) = false := by simp
     rcases Bool.eq_false_or_eq_true (p.e == 3) with he | he
     ·
      rw [he] at E
      by_cases hl2 : f2 <= (k : Int)
      ·
       have EN := Lib.hid (HNO.out (by rw [E.out, decide_eq_false (show ¬(k : Int) < f2 by omega)]; simp))
       have z2 : decide (f2 <= (k : Int)) = true := decide_eq_true hl2
       clear E HNO hv
       go_wp2_with fail
       refine (HV.out _).mono ?_
       rintro e w1 ⟨rfl, b1⟩
       replace kb := kb.step b1
       have d0 := kb.cells.c0; have d1 := kb.cells.c1; have d2 := kb.cells.c2; have d3 := kb.cells.c3; have d4 := kb.cells.c4; have d5 := kb.cells.c5; have d6 := kb.cells.c6
       go_wp2_with fail
       refine (HF1.out _ (belowGo hb kb.bel)).mono ?_
       rintro e w2 ⟨rfl, b2⟩
       replace kb := kb.step b2
       clear d0 d1 d2 d3 d4 d5 d6
       have d0 := kb.cells.c0; have d1 := kb.cells.c1; have d2 := kb.cells.c2; have d3 := kb.cells.c3; have d4 := kb.cells.c4; have d5 := kb.cells.c5; have d6 := kb.cells.c6
       go_wp2_with fail
       refine (HF2.out _ (belowGo hb kb.bel)).mono ?_
       rintro e w3 ⟨rfl, b3⟩
       replace kb := kb.step b3
       clear d0 d1 d2 d3 d4 d5 d6
       have d0 := kb.cells.c0; have d1 := kb.cells.c1; have d2 := kb.cells.c2; have d3 := kb.cells.c3; have d4 := kb.cells.c4; have d5 := kb.cells.c5; have d6 := kb.cells.c6
       go_wp2_with fail
       go_ret
       exact ⟨by rw [EN.out] <;> rfl, belowGo hb kb.bel⟩
      ·
       have EK : Hid (rbTo ps (k + 1) = true) := Lib.hid (by rw [rbTo_succ, hok.out, E.out, decide_eq_true (show (k : Int) < f2 by omega)]; simp)
       have z2 : decide (f2 <= (k : Int)) = false := decide_eq_false hl2
       clear E HNO hv hok
       go_wp2_with fail
       refine (HV.out _).mono ?_
       rintro e w1 ⟨rfl, b1⟩
       replace kb := kb.step b1
       have d0 := kb.cells.c0; have d1 := kb.cells.c1; have d2 := kb.cells.c2; have d3 := kb.cells.c3; have d4 := kb.cells.c4; have d5 := kb.cells.c5; have d6 := kb.cells.c6
       go_wp2_with fail
       refine (HF1.out _ (belowGo hb kb.bel)).mono ?_
       rintro e w2 ⟨rfl, b2⟩
       replace kb := kb.step b2
       clear d0 d1 d2 d3 d4 d5 d6
       have d0 := kb.cells.c0; have d1 := kb.cells.c1; have d2 := kb.cells.c2; have d3 := kb.cells.c3; have d4 := kb.cells.c4; have d5 := kb.cells.c5; have d6 := kb.cells.c6
       go_wp2_with fail
       refine (HF2.out _ (belowGo hb kb.bel)).mono ?_
       rintro e w3 ⟨rfl, b3⟩
       replace kb := kb.step b3
       clear d0 d1 d2 d3 d4 d5 d6
       have d0 := kb.cells.c0; have d1 := kb.cells.c1; have d2 := kb.cells.c2; have d3 := kb.cells.c3; have d4 := kb.cells.c4; have d5 := kb.cells.c5; have d6 := kb.cells.c6
       go_wp2_with fail
       go_roundw
       case rel => exact ⟨k + 1, by omega, by go_num, EK, belowGo hb kb.bel⟩
       case measure => simp [intOf]; omega
     ·
      have EK : Hid (rbTo ps (k + 1) = true) := Lib.hid (by rw [rbTo_succ, hok.out, E.out, he]; simp)
      clear E HNO hv hok
      go_wp2_with fail
      refine (HV.out _).mono ?_
      rintro e w1 ⟨rfl, b1⟩
      replace kb := kb.step b1
      have d0 := kb.cells.c0; have d1 := kb.cells.c1; have d2 := kb.cells.c2; have d3 := kb.cells.c3; have d4 := kb.cells.c4; have d5 := kb.cells.c5; have d6 := kb.cells.c6
      go_wp2_with fail
      refine (HF1.out _ (belowGo hb kb.bel)).mono ?_
      rintro e w2 ⟨rfl, b2⟩
      replace kb := kb.step b2
      clear d0 d1 d2 d3 d4 d5 d6
      have d0 := kb.cells.c0; have d1 := kb.cells.c1; have d2 := kb.cells.c2; have d3 := kb.cells.c3; have d4 := kb.cells.c4; have d5 := kb.cells.c5; have d6 := kb.cells.c6
      go_wp2_with fail
      go_roundw
      case rel => exact ⟨k + 1, by omega, by go_num, EK, belowGo hb kb.bel⟩
      case measure => simp [intOf]; omega
    ·
     have zk : (f1 != (k : Int)) = true := bne_iff_ne.2 hf
     have EN := Lib.hid (HNO.out (by rw [E.out, beq_eq_false_iff_ne.2 hf]; simp))
     clear E HNO hv
     go_wp2_with fail
     refine (HV.out _).mono ?_
     rintro e w1 ⟨rfl, b1⟩
     replace kb := kb.step b1
     have d0 := kb.cells.c0; have d1 := kb.cells.c1; have d2 := kb.cells.c2; have d3 := kb.cells.c3; have d4 := kb.cells.c4; have d5 := kb.cells.c5; have d6 := kb.cells.c6
     go_wp2_with fail
     refine (HF1.out _ (belowGo hb kb.bel)).mono ?_
     rintro e w2 ⟨rfl, b2⟩
     replace kb := kb.step b2
     clear d0 d1 d2 d3 d4 d5 d6
     have d0 := kb.cells.c0; have d1 := kb.cells.c1; have d2 := kb.cells.c2; have d3 := kb.cells.c3; have d4 := kb.cells.c4; have d5 := kb.cells.c5; have d6 := kb.cells.c6
     go_wp2_with fail
     go_ret
     exact ⟨by rw [EN.out] <;> rfl, belowGo hb kb.bel⟩
   ·
    rw [hv] at HV E
    have EN := Lib.hid (HNO.out (by rw [E.out]; rfl))
    clear E HNO hv
    go_wp2_with fail
    refine (HV.out _).mono ?_
    rintro e w1 ⟨rfl, b1⟩
    replace kb := kb.step b1
    have d0 := kb.cells.c0; have d1 := kb.cells.c1; have d2 := kb.cells.c2; have d3 := kb.cells.c3; have d4 := kb.cells.c4; have d5 := kb.cells.c5; have d6 := kb.cells.c6
    go_wp2_with fail
    go_ret
    exact ⟨by rw [EN.out] <;> rfl, belowGo hb kb.bel⟩
  ·
   have hkm : Hid (rbTo ps ps.length = true) := Lib.hid (by have := hok.out; rwa [show k = ps.length by rw [HM.out]; omega] at this)
   obtain ⟨b, off, p, rfl, hl, hp, h4⟩ := (HR.out.below hb).at (k := m) (by rw [HM.out]; omega)
   have c0 := h4.c0; have c1 := h4.c1; have c2 := h4.c2; have c3 := h4.c3; have c4 := h4.c4; have c5 := h4.c5; have c6 := h4.c6
   have E : Hid (rbB ps = allC p) := Lib.hid (rb_endI (by rw [HM.out]; omega) hkm.out (by rw [HM.out]; exact hp.out))
   have HA := Lib.hid (fun w => forAll_i p w)
   generalize allC p = v at *
   clear hp h4 hok
   go_wp2_with fail
   refine (HA.out _).mono ?_
   rintro e w1 ⟨rfl, b1⟩
   go_wp2_with fail
   go_ret
   exact ⟨by rw [E.out] <;> rfl, belowGo hb b1⟩
theorem isRb_i (A : Option Addr) (c : Nat) (ps : List Cls) (w : World) (h : CTbl w A ps) :
  Calls Tryz.prog 32 #[.slice A ps.length c] w (Gives w (.bool (rbB ps))) := by
 by_cases hn : 1 <= ps.length /\ ps.length <= 12
 ·
  obtain ⟨m, hm⟩ : ∃ m, ps.length = m + 1 := ⟨ps.length - 1, by omega⟩
  rw [hm]
  exact isRb_i_ok A c m ps w h hm (by omega)
 ·
  exact isRb_i_no A c ps w hn h.len
end Go.Proofs.YtjcklmhgjdmjoaaGreat
