import Derived.Test.YtjcklmhgjdmjoaaGreatMClm
import Derived.Test.YtjcklmhgjdmjoaaGreatClc
import Derived.Test.YtjcklmhgjdmjoaaGreatMEvl
namespace Go.Proofs.YtjcklmhgjdmjoaaGreat
open Go.ChangeShapes Go.WideShapes Go.ChangeAt Go.RowKit
set_option linter.unusedVariables false
end Go.Proofs.YtjcklmhgjdmjoaaGreat

namespace Go.Proofs.YtjcklmhgjdmjoaaGreat
open Go.ChangeShapes Go.WideShapes Go.ChangeAt Go.RowKit
set_option linter.unusedVariables false
theorem ClsR.drop {w : World} {g off : Nat} {rs : List Cls} (h : ClsR w (some ⟨g, off, none⟩) rs) (k : Nat) : ClsR w (some ⟨g, off + k * 7, none⟩) (rs.drop k) := fun hp => by
 have hl := flat_len Cls.cells 7 (fun _ => rfl) rs
 have hl2 := flat_len Cls.cells 7 (fun _ => rfl) (rs.drop k)
 rw [List.length_drop] at hl2
 obtain ⟨b, o, e, hb, hcell⟩ := h (by omega)
 simp only [Option.some.injEq, Addr.mk.injEq, and_true] at e
 obtain ⟨rfl, rfl⟩ := e
 refine ⟨g, off + k * 7, rfl, hb, fun j v hj => ?_⟩
 have hsp : rs.flatMap Cls.cells = (rs.take k).flatMap Cls.cells ++ (rs.drop k).flatMap Cls.cells := by rw [<- List.flatMap_append, List.take_append_drop]
 have hlt := flat_len Cls.cells 7 (fun _ => rfl) (rs.take k)
 rw [List.length_take, Nat.min_eq_left (by omega)] at hlt
 rw [Nat.add_assoc]
 refine hcell (k * 7 + j) v ?_
 rw [hsp, List.getElem?_append_right (by omega), hlt, Nat.add_sub_cancel_left]
 exact hj
theorem matches_nok (p : Cls) (q : Evt) (w : World) (h : (p.k != -1) = true) (h1 : (p.k != q.k) = true) :
  Calls Tryz.prog 101 #[.agg #[.string ⟨p.c.toArray⟩, .int .i64 p.k, .int .i64 p.p, .int .i64 p.v, .int .i64 p.r, .int .i64 p.e, .string ⟨p.t.toArray⟩], .agg #[.int .i64 q.d, .int .i64 q.k, .string ⟨q.c.toArray⟩, .int .i64 q.a, .bool q.p, .bool q.v, .bool q.r]] w (Gives w (.bool (matchB p q))) := by
 have kc := (KeepC.new w p).step (below_alloc _ (.cells #[.int .i64 q.d, .int .i64 q.k, .string ⟨q.c.toArray⟩, .int .i64 q.a, .bool q.p, .bool q.v, .bool q.r] 30))
 have HB := Lib.hid kc.bel
 have E := Lib.hid (match_no h h1)
 clear kc
 go_enter Tryz.func101, Tryz.ntmps101
 go_wp2_with fail
 go_ret
 exact ⟨by rw [E.out] <;> rfl, HB.out⟩
theorem matches_i (p : Cls) (q : Evt) (w : World) (hok : p.ok = true) :
  Calls Tryz.prog 101 #[.agg #[.string ⟨p.c.toArray⟩, .int .i64 p.k, .int .i64 p.p, .int .i64 p.v, .int .i64 p.r, .int .i64 p.e, .string ⟨p.t.toArray⟩], .agg #[.int .i64 q.d, .int .i64 q.k, .string ⟨q.c.toArray⟩, .int .i64 q.a, .bool q.p, .bool q.v, .bool q.r]] w (Gives w (.bool (matchB p q))) := by
 obtain ⟨_, _, h2, h3, h4, _⟩ := cok hok
 rcases Bool.eq_false_or_eq_true (p.k != -1) with h | h
 ·
  rcases Bool.eq_false_or_eq_true (p.k != q.k) with h1 | h1
  ·
   exact matches_nok p q w h h1
  ·
   exact matches_yes p q w (by omega) (by omega) (by omega) (.inr h1)
 ·
  exact matches_yes p q w (by omega) (by omega) (by omega) (.inl h)
theorem clo_match (p : Cls) (q : Evt) (g : Nat) (w : World) (hc : EvtC w g 0 q) (hg : g < w.heap.size) (hok : p.ok = true) :
  Calls Tryz.prog 100 #[.agg #[.string ⟨p.c.toArray⟩, .int .i64 p.k, .int .i64 p.p, .int .i64 p.v, .int .i64 p.r, .int .i64 p.e, .string ⟨p.t.toArray⟩], .pointer (some ⟨g, 0, none⟩)] w (Gives w (.bool (matchB p q))) := by
 have kb := KeepC.new w p
 have h2 := hc.below hg kb.bel
 have c0 := h2.c0; have c1 := h2.c1; have c2 := h2.c2; have c3 := h2.c3; have c4 := h2.c4; have c5 := h2.c5; have c6 := h2.c6
 have HM := Lib.hid (fun w => matches_i p q w hok)
 have HB := Lib.hid kb.bel
 clear hc h2 kb hok
 go_enter Tryz.func100, Tryz.ntmps100
 go_wp2_with (go_at_call 101; refine (HM.out _).mono ?_; rintro e w1 ⟨rfl, b1⟩)
 go_ret
 exact ⟨rfl, belowGo HB.out b1⟩
theorem idxI_first {T : Type} {f : T -> Bool} {ps : List T} (h : ps.findIdx f < ps.length) : idxI f ps = (ps.findIdx f : Int) :=
 idxI_some (List.getElem?_eq_getElem h) (List.findIdx_getElem (w := h)) fun j q hj hq => by
  obtain ⟨hl, e⟩ := List.getElem?_eq_some_iff.1 hq
  have := List.not_of_lt_findIdx hj
  rw [<- e]
  simpa using this
set_option maxHeartbeats 2000000 in
theorem idxMatch (f : Cls -> Bool) (A : Option Addr) (c : Nat) (ps : List Cls) (g : Nat) (w : World) (hR : ClsR w A ps) (hn : ps.length <= 1000000000)
  (hf : ∀ (p : Cls) (W : World), p ∈ ps -> Below w.heap.size w W -> Calls Tryz.prog 100 #[.agg #[.string ⟨p.c.toArray⟩, .int .i64 p.k, .int .i64 p.p, .int .i64 p.v, .int .i64 p.r, .int .i64 p.e, .string ⟨p.t.toArray⟩], .pointer (some ⟨g, 0, none⟩)] W (Gives W (.bool (f p)))) :
  Calls Tryz.prog 78 #[.slice A ps.length c, .func (.func 100) #[] #[.pointer (some ⟨g, 0, none⟩)]] w (Gives w (.int .i64 (idxI f ps))) := by
 have HF := Lib.hid hf
 clear hf
 go_enter Tryz.func78, Tryz.ntmps78
 go_wp2_with fail
 go_loopw [8] (fun i wr => ∃ k : Nat, k <= ps.length /\ i = .int .i64 k /\ Hid (∀ (j : Nat) (q : Cls), j < k -> ps[j]? = some q -> f q = false) /\ Below w.heap.size w wr) (fun i _ => ps.length - (intOf i).toNat)
 case atStart => exact ⟨0, Nat.zero_le _, rfl, Lib.hid fun j q hj => by omega, Below.refl _ _⟩
 case round =>
  obtain ⟨k, hk, rfl, hno, hb⟩ := hrel
  by_cases hlt : k < ps.length
  ·
   obtain ⟨b, off, p, rfl, hl, hp, h4⟩ := (hR.below hb).at hlt
   have c0 := h4.c0; have c1 := h4.c1; have c2 := h4.c2; have c3 := h4.c3; have c4 := h4.c4; have c5 := h4.c5; have c6 := h4.c6
   have HC := Lib.hid (HF.out p wr (List.mem_of_getElem? hp.out) hb)
   obtain ⟨B, hB⟩ : ∃ B, f p = B := ⟨_, rfl⟩
   rw [hB] at HC
   cases B
   ·
    have HN : Hid (∀ (j : Nat) (q : Cls), j < k + 1 -> ps[j]? = some q -> f q = false) := Lib.hid fun j q hj hq => by
     rcases Nat.lt_or_ge j k with h1 | h1
     ·
      exact hno.out j q h1 hq
     ·
      obtain rfl : j = k := by omega
      rw [hp.out] at hq; rw [<- Option.some.inj hq]; exact hB
    clear hp hno h4 hR HF hB
    go_wp2_with fail
    refine HC.out.mono ?_
    rintro e w1 ⟨rfl, b1⟩
    go_wp2_with fail
    go_roundw
    case rel => exact ⟨k + 1, by omega, by go_num, HN, belowGo hb b1⟩
    case measure => simp [intOf]; omega
   ·
    have E : Hid (idxI f ps = (k : Int)) := Lib.hid (idxI_some hp.out hB hno.out)
    clear hp hno h4 hR HF hB
    go_wp2_with fail
    refine HC.out.mono ?_
    rintro e w1 ⟨rfl, b1⟩
    go_wp2_with fail
    go_ret
    exact ⟨by rw [E.out] <;> rfl, belowGo hb b1⟩
  ·
   have E : Hid (idxI f ps = -1) := Lib.hid (idxI_none fun j q hq => hno.out j q (by have := (List.getElem?_eq_some_iff.1 hq).1; omega) hq)
   clear hno hR HF
   go_wp2_with fail
   go_ret
   exact ⟨by rw [E.out] <;> rfl, hb⟩
set_option maxHeartbeats 2000000 in
theorem placeM_i (A : Option Addr) (c k : Nat) (ps : List Cls) (q : Evt) (w : World) (h : CTbl w A ps) (hrb : RB ps) (hk : k < ps.length) (hc : ps.length <= c) :
  Calls Tryz.prog 84 #[.slice A ps.length c, .int .i64 (k : Int), .agg #[.int .i64 q.d, .int .i64 q.k, .string ⟨q.c.toArray⟩, .int .i64 q.a, .bool q.p, .bool q.v, .bool q.r]] w (Gives w (.int .i64 (firstC ps k q : Int))) := by
 have h12 := hrb.hi
 have ke := KeepE.new w q
 obtain ⟨b, off, p0, rfl, -, -, -⟩ := h.row.at hk
 have hlt : w.heap.size < (w.alloc (.cells #[.int .i64 q.d, .int .i64 q.k, .string ⟨q.c.toArray⟩, .int .i64 q.a, .bool q.p, .bool q.v, .bool q.r] 30)).heap.size := by simp
 have hF := hrb.first hk q
 have HJ : firstC ps k q = k + (ps.drop k).findIdx (fun p => matchB p q) := rfl
 have hl : (ps.drop k).length = ps.length - k := List.length_drop
 have HI := idxMatch (fun p => matchB p q) (some ⟨b, off + k * 7, none⟩) (c - k) (ps.drop k) w.heap.size (w.alloc (.cells #[.int .i64 q.d, .int .i64 q.k, .string ⟨q.c.toArray⟩, .int .i64 q.a, .bool q.p, .bool q.v, .bool q.r] 30)) ((h.row.drop k).below ke.bel) (by omega)
  (fun p W hp hb => clo_match p q w.heap.size W (ke.cells.below hlt hb) (Nat.lt_of_lt_of_le hlt hb.size) (by
   obtain ⟨i, hi⟩ := List.getElem?_of_mem (List.mem_of_mem_drop hp)
   exact hrb.ok i p hi))
 rw [idxI_first (by omega), hl] at HI
 have HI := Lib.hid HI
 have HB := Lib.hid ke.bel
 rw [HJ] at hF ⊢
 clear hrb HJ hl h ke
 generalize (ps.drop k).findIdx (fun p => matchB p q) = j at *
 generalize ps.length = n at *
 have g1 : (n : Int) - (k : Int) = ((n - k : Nat) : Int) := by omega
 have g2 : (c : Int) - (k : Int) = ((c - k : Nat) : Int) := by omega
 go_enter Tryz.func84, Tryz.ntmps84
 go_wp2_with fail
 refine HI.out.mono ?_
 rintro e w1 ⟨rfl, b1⟩
 go_wp2_with fail
 go_ret
 exact ⟨by simp, belowGo HB.out b1⟩
structure CTblC (w : World) (A : Option Addr) (c : Nat) (ps : List Cls) : Prop where
 tbl : CTbl w A ps
 cap : ps.length <= c
theorem CTblC.row {w : World} {A : Option Addr} {c : Nat} {ps : List Cls} (h : CTblC w A c ps) : ClsR w A ps := h.tbl.row
theorem CTblC.len {w : World} {A : Option Addr} {c : Nat} {ps : List Cls} (h : CTblC w A c ps) : ps.length <= 1048590 := h.tbl.len
theorem CTblC.below {w w' : World} {A : Option Addr} {c : Nat} {ps : List Cls} (h : CTblC w A c ps) (hb : Below w.heap.size w w') : CTblC w' A c ps := ⟨h.tbl.below hb, h.cap⟩
theorem cls_cap {w : World} {base : Nat} {A : Option Addr} {n c : Nat} {ps : List Cls} (h : ClsO w base A n c ps) : n <= c := by
 rcases h.2 with ⟨e, e2⟩ | ⟨g, cap, cur, e, _, _, hle, _⟩
 ·
  have := h.1; injection e; omega
 ·
  injection e with e1 e2 e3; omega
theorem ctblC_of {w : World} {base : Nat} {A : Option Addr} {c : Nat} {ps : List Cls} (h : ClsO w base A ps.length c ps) (htx : ∀ p ∈ ps, p.sz <= 1048576) (hn : ps.length <= 1048576) : CTblC w A c ps := ⟨ctbl_of h htx hn, cls_cap h⟩
end Go.Proofs.YtjcklmhgjdmjoaaGreat

namespace Go.Proofs.YtjcklmhgjdmjoaaGreat
open Go.ChangeShapes Go.WideShapes Go.ChangeAt Go.RowKit
set_option linter.unusedVariables false
end Go.Proofs.YtjcklmhgjdmjoaaGreat

