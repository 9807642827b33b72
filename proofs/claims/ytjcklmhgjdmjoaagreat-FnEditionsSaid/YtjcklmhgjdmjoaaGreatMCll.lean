import Derived.Test.YtjcklmhgjdmjoaaGreatMCls
import Derived.Test.YtjcklmhgjdmjoaaGreatMCode
import Derived.Test.YtjcklmhgjdmjoaaGreatMCal
import Derived.Test.YtjcklmhgjdmjoaaGreatInts
import Derived.Test.YtjcklmhgjdmjoaaGreatMEvt
import Derived.Test.YtjcklmhgjdmjoaaGreatMHeld
namespace Go.Proofs.YtjcklmhgjdmjoaaGreat
open Go.ChangeShapes Go.WideShapes Go.ChangeAt Go.RowKit
set_option linter.unusedVariables false
def Cls.ok (r : Cls) : Bool := pcode r.c && (inr r.k (-1) 6 && (inr r.p 0 2 && (inr r.v 0 2 && (inr r.r 0 2 && (inr r.e 0 3 && (if r.e == 3 then pcode r.t else r.t.isEmpty))))))
inductive CWay (r : Cls) : Bool -> Prop where
 | code (h : pcode r.c = false) : CWay r false
 | kind (h : pcode r.c = true) (h1 : inr r.k (-1) 6 = false) : CWay r false
 | per (h : pcode r.c = true) (h1 : inr r.k (-1) 6 = true) (h2 : inr r.p 0 2 = false) : CWay r false
 | vol (h : pcode r.c = true) (h1 : inr r.k (-1) 6 = true) (h2 : inr r.p 0 2 = true) (h3 : inr r.v 0 2 = false) : CWay r false
 | rea (h : pcode r.c = true) (h1 : inr r.k (-1) 6 = true) (h2 : inr r.p 0 2 = true) (h3 : inr r.v 0 2 = true) (h4 : inr r.r 0 2 = false) : CWay r false
 | res (h : pcode r.c = true) (h1 : inr r.k (-1) 6 = true) (h2 : inr r.p 0 2 = true) (h3 : inr r.v 0 2 = true) (h4 : inr r.r 0 2 = true) (h5 : inr r.e 0 3 = false) : CWay r false
 | go (b : Bool) (h : pcode r.c = true) (h1 : inr r.k (-1) 6 = true) (h2 : inr r.p 0 2 = true) (h3 : inr r.v 0 2 = true) (h4 : inr r.r 0 2 = true) (h5 : inr r.e 0 3 = true) (h6 : (r.e == 3) = true) (h7 : pcode r.t = b) : CWay r b
 | fin (b : Bool) (h : pcode r.c = true) (h1 : inr r.k (-1) 6 = true) (h2 : inr r.p 0 2 = true) (h3 : inr r.v 0 2 = true) (h4 : inr r.r 0 2 = true) (h5 : inr r.e 0 3 = true) (h6 : (r.e == 3) = false) (h7 : r.t.isEmpty = b) : CWay r b
theorem cway (r : Cls) : CWay r r.ok := by
 have e : r.ok = (pcode r.c && (inr r.k (-1) 6 && (inr r.p 0 2 && (inr r.v 0 2 && (inr r.r 0 2 && (inr r.e 0 3 && (if r.e == 3 then pcode r.t else r.t.isEmpty))))))) := rfl
 rw [e]
 rcases Bool.eq_false_or_eq_true (pcode r.c) with h | h
 ·
  rcases Bool.eq_false_or_eq_true (inr r.k (-1) 6) with h1 | h1
  ·
   rcases Bool.eq_false_or_eq_true (inr r.p 0 2) with h2 | h2
   ·
    rcases Bool.eq_false_or_eq_true (inr r.v 0 2) with h3 | h3
    ·
     rcases Bool.eq_false_or_eq_true (inr r.r 0 2) with h4 | h4
     ·
      rcases Bool.eq_false_or_eq_true (inr r.e 0 3) with h5 | h5
      ·
       rcases Bool.eq_false_or_eq_true (r.e == 3) with h6 | h6
       ·
        rw [h, h1, h2, h3, h4, h5, if_pos h6]; exact .go _ h h1 h2 h3 h4 h5 h6 rfl
       ·
        rw [h, h1, h2, h3, h4, h5, if_neg (by rw [h6]; decide)]; exact .fin _ h h1 h2 h3 h4 h5 h6 rfl
      ·
       rw [h, h1, h2, h3, h4, h5]; exact .res h h1 h2 h3 h4 h5
     ·
      rw [h, h1, h2, h3, h4]; exact .rea h h1 h2 h3 h4
    ·
     rw [h, h1, h2, h3]; exact .vol h h1 h2 h3
   ·
    rw [h, h1, h2]; exact .per h h1 h2
  ·
   rw [h, h1]; exact .kind h h1
 ·
  rw [h]; exact .code h
theorem cok {r : Cls} (h : r.ok = true) : pcode r.c = true /\ (-1 <= r.k /\ r.k <= 6) /\ (0 <= r.p /\ r.p <= 2) /\ (0 <= r.v /\ r.v <= 2) /\ (0 <= r.r /\ r.r <= 2) /\ (0 <= r.e /\ r.e <= 3) /\ ((r.e = 3 /\ pcode r.t = true) ∨ (r.e ≠ 3 /\ r.t = [])) := by
 have W := cway r
 rw [h] at W
 cases W with
 | go _ h h1 h2 h3 h4 h5 h6 h7 =>
  simp only [inr, decide_eq_true_eq, beq_iff_eq] at h1 h2 h3 h4 h5 h6
  exact ⟨h, h1, h2, h3, h4, h5, .inl ⟨h6, h7⟩⟩
 | fin _ h h1 h2 h3 h4 h5 h6 h7 =>
  simp only [inr, decide_eq_true_eq, beq_eq_false_iff_ne] at h1 h2 h3 h4 h5 h6
  exact ⟨h, h1, h2, h3, h4, h5, .inr ⟨h6, by simpa using h7⟩⟩
structure KeepC (w0 : World) (p : Cls) (W : World) : Prop where
 a : W.heap[w0.heap.size]? = some (.cells #[.string ⟨p.c.toArray⟩, .int .i64 p.k, .int .i64 p.p, .int .i64 p.v, .int .i64 p.r, .int .i64 p.e, .string ⟨p.t.toArray⟩] 47 (0, 0))
 bel : Below w0.heap.size w0 W
theorem KeepC.step {w0 W w' : World} {p : Cls} (k : KeepC w0 p W) (b : Below W.heap.size W w') : KeepC w0 p w' := ⟨(b.block _ (lt_some k.a)).trans k.a, belowGo k.bel b⟩
theorem KeepC.drew {w0 W : World} {p : Cls} (k : KeepC w0 p W) : KeepC w0 p W.drew := ⟨k.a, k.bel.drew⟩
theorem KeepC.new (w : World) (p : Cls) : KeepC w p (w.alloc (.cells #[.string ⟨p.c.toArray⟩, .int .i64 p.k, .int .i64 p.p, .int .i64 p.v, .int .i64 p.r, .int .i64 p.e, .string ⟨p.t.toArray⟩] 47)) := ⟨heap_alloc_new _ _, (Below.refl _ _).alloc (Nat.le_refl _) _⟩
theorem KeepC.cells {w0 W : World} {p : Cls} (k : KeepC w0 p W) : ClsC W w0.heap.size 0 p :=
 ⟨by rw [cell_of_row _ _ _ _ _ _ k.a]; rfl, by rw [cell_of_row _ _ _ _ _ _ k.a]; rfl, by rw [cell_of_row _ _ _ _ _ _ k.a]; rfl, by rw [cell_of_row _ _ _ _ _ _ k.a]; rfl, by rw [cell_of_row _ _ _ _ _ _ k.a]; rfl, by rw [cell_of_row _ _ _ _ _ _ k.a]; rfl, by rw [cell_of_row _ _ _ _ _ _ k.a]; rfl⟩
theorem pcodeI_qC {s : List UInt8} {b : Bool} (h : pcode s = b) (hl : s.length <= 9223372036854775807) (w : World) : Calls Tryz.prog 74 #[.string ⟨s.toArray⟩] w fun e w' => e = .returned (.bool b) /\ w = w' :=
 (isPcode_i s w hl).mono fun e w' k => ⟨by rw [<- h]; exact k.1, k.2⟩
theorem pcodeS_qC {s : List UInt8} {b : Bool} (h : pcode s = b) (hl : s.length <= 9223372036854775807) (w : World) : Calls Tryz.prog 80 #[.string ⟨s.toArray⟩] w fun e w' => e = .returned (.bool b) /\ w = w' :=
 (isPcode_s s w hl).mono fun e w' k => ⟨by rw [<- h]; exact k.1, k.2⟩
theorem innC_q {n lo hi : Int} {b : Bool} (h : inr n lo hi = b) (w : World) : Calls Tryz.prog 57 #[.int .i64 n, .int .i64 lo, .int .i64 hi] w fun e w' => e = .returned (.bool b) /\ w = w' := h ▸ inr_s n lo hi w
theorem needC_q {n : Int} {b : Bool} (h : inr n 0 2 = b) (w : World) : Calls Tryz.prog 81 #[.int .i64 n] w fun e w' => e = .returned (.bool b) /\ w = w' := by
 go_enter Tryz.func81, Tryz.ntmps81
 go_wp2_with (go_at_call 57; refine (innC_q (by assumption) _).mono ?_; rintro e w' ⟨rfl, rfl⟩)
 go_ret
 exact ⟨rfl, rfl⟩
theorem empC (s : List UInt8) : ((⟨s.toArray⟩ : ByteArray).toList == (⟨#[]⟩ : ByteArray).toList) = s.isEmpty := by
 have h1 : (⟨s.toArray⟩ : ByteArray).toList = s := by simp [ByteArray.toList_eq]
 have h2 : (⟨#[]⟩ : ByteArray).toList = [] := by simp [ByteArray.toList_eq]
 rw [h1, h2]; cases s <;> rfl
set_option maxRecDepth 100000 in
set_option maxHeartbeats 4000000 in
theorem cvalid_s (p : Cls) (w : World) (hc : p.c.length <= 9223372036854775807) (ht : p.t.length <= 9223372036854775807) : Calls Tryz.prog 54 #[.agg #[.string ⟨p.c.toArray⟩, .int .i64 p.k, .int .i64 p.p, .int .i64 p.v, .int .i64 p.r, .int .i64 p.e, .string ⟨p.t.toArray⟩]] w (Gives w (.bool p.ok)) := by
 have B : ∀ o, Hid (Below w.heap.size w (w.alloc o)) := fun o => Lib.hid ((Below.refl _ _).alloc (Nat.le_refl _) _)
 have W := cway p
 obtain ⟨b, hb⟩ : ∃ b, b = p.ok := ⟨_, rfl⟩
 rw [<- hb] at W
 rw [<- hb]
 clear hb
 cases W
 all_goals
  go_enter Tryz.func54, Tryz.ntmps54
  go_wp2_with (first
   | (go_at_call 57; refine (innC_q (by assumption) _).mono ?_; rintro e w' ⟨rfl, rfl⟩)
   | (go_at_call 81; refine (needC_q (by assumption) _).mono ?_; rintro e w' ⟨rfl, rfl⟩)
   | (go_at_call 80; refine (pcodeS_qC (by assumption) (by assumption) _).mono ?_; rintro e w' ⟨rfl, rfl⟩))
  go_ret
  exact ⟨by first | rfl | simp_all, (B _).out⟩
structure CTbl (w : World) (A : Option Addr) (ps : List Cls) : Prop where
 row : ClsR w A ps
 txt : ∀ p ∈ ps, p.sz <= 1048600
 len : ps.length <= 1048590
theorem CTbl.below {w w' : World} {A : Option Addr} {ps : List Cls} (h : CTbl w A ps) (hb : Below w.heap.size w w') : CTbl w' A ps := ⟨h.row.below hb, h.txt, h.len⟩
theorem ctbl_of {w : World} {base : Nat} {A : Option Addr} {c : Nat} {ps : List Cls} (h : ClsO w base A ps.length c ps) (htx : ∀ p ∈ ps, p.sz <= 1048576) (hn : ps.length <= 1048576) : CTbl w A ps := ⟨h.row, fun p hp => Nat.le_trans (htx p hp) (by decide), by omega⟩
theorem sz_c {p : Cls} (h : p.sz <= 1048600) : p.c.length <= 9223372036854775807 /\ p.t.length <= 9223372036854775807 := by unfold Cls.sz at h; omega
def fndC (ps : List Cls) (c : List UInt8) : Option Nat := ps.findIdx? (fun p => p.c == c)
def fndIC (ps : List Cls) (c : List UInt8) : Int := match fndC ps c with | none => -1 | some k => k
theorem fnd_noneC {ps : List Cls} {c : List UInt8} (h : ∀ (j : Nat) (q : Cls), ps[j]? = some q -> (q.c == c) = false) : fndC ps c = none := by
 unfold fndC; rw [List.findIdx?_eq_none_iff]
 intro x hx
 obtain ⟨j, hj⟩ := List.getElem?_of_mem hx
 exact h j x hj
theorem fnd_someC {ps : List Cls} {c : List UInt8} {k : Nat} {p : Cls} (hk : ps[k]? = some p) (hc : (p.c == c) = true) (h : ∀ (j : Nat) (q : Cls), j < k -> ps[j]? = some q -> (q.c == c) = false) : fndC ps c = some k := by
 unfold fndC
 rw [List.findIdx?_eq_some_iff_getElem]
 obtain ⟨hl, e⟩ := List.getElem?_eq_some_iff.1 hk
 refine ⟨hl, by rw [e]; exact hc, fun j hj => ?_⟩
 rw [h j _ hj (List.getElem?_eq_getElem (by omega))]; exact Bool.false_ne_true
theorem fnd_ltC {ps : List Cls} {c : List UInt8} {k : Nat} (h : fndC ps c = some k) : k < ps.length := by
 unfold fndC at h
 exact (List.findIdx?_eq_some_iff_getElem.1 h).1
theorem fndIC_bd (ps : List Cls) (c : List UInt8) : -1 <= fndIC ps c /\ fndIC ps c < ps.length := by
 unfold fndIC
 cases h : fndC ps c with
 | none => simp; omega
 | some k => have := fnd_ltC h; simp; omega
set_option maxHeartbeats 1000000 in
theorem find_sC (A : Option Addr) (c : Nat) (ps : List Cls) (s : List UInt8) (w : World) (hR : ClsR w A ps) (hn : ps.length <= 1000000000) :
  Calls Tryz.prog 40 #[.slice A ps.length c, .string ⟨s.toArray⟩] w fun e w' => e = .returned (.int .i64 (fndIC ps s)) /\ w = w' := by
 go_enter Tryz.func40, Tryz.ntmps40
 go_wp2_with fail
 go_loop [5] (fun i => ∃ k : Nat, k <= ps.length /\ i = .int .i64 k /\ Hid (∀ (j : Nat) (q : Cls), j < k -> ps[j]? = some q -> (q.c == s) = false)) (fun i => ps.length - (intOf i).toNat)
 case atStart => exact ⟨0, Nat.zero_le _, rfl, Lib.hid fun j q hj => by omega⟩
 case round =>
  obtain ⟨k, hk, rfl, hno⟩ := hrel
  by_cases hlt : k < ps.length
  ·
   obtain ⟨b, off, p, rfl, hl, hp, h4⟩ := hR.at hlt
   have c0 := h4.c0
   rcases Bool.eq_false_or_eq_true (p.c == s) with he | he
   ·
    have E : Hid (fndIC ps s = (k : Int)) := Lib.hid (by unfold fndIC; rw [fnd_someC hp.out he hno.out])
    clear hp hno h4 hR
    go_wp2_with fail
    go_ret
    exact ⟨by rw [E.out] <;> rfl, rfl⟩
   ·
    have HN : Hid (∀ (j : Nat) (q : Cls), j < k + 1 -> ps[j]? = some q -> (q.c == s) = false) := Lib.hid fun j q hj hq => by
     rcases Nat.lt_or_ge j k with h1 | h1
     ·
      exact hno.out j q h1 hq
     ·
      obtain rfl : j = k := by omega
      rw [hp.out] at hq; rw [<- Option.some.inj hq]; exact he
    clear hp hno h4 hR
    go_wp2_with fail
    go_round
    case rel => exact ⟨k + 1, by omega, by go_num, HN⟩
    case measure => simp [intOf]; omega
  ·
   have E : Hid (fndIC ps s = -1) := Lib.hid (by
    unfold fndIC
    rw [fnd_noneC fun j q hq => hno.out j q (by have := (List.getElem?_eq_some_iff.1 hq).1; omega) hq])
   clear hno hR
   go_wp2_with fail
   go_ret
   exact ⟨by rw [E.out] <;> rfl, rfl⟩
end Go.Proofs.YtjcklmhgjdmjoaaGreat

namespace Go.Proofs.YtjcklmhgjdmjoaaGreat
open Go.ChangeShapes Go.WideShapes Go.ChangeAt Go.RowKit
set_option linter.unusedVariables false
def meetB (n : Int) (t : Bool) : Bool := n == 0 || (t == (n == 1))
def matchB (p : Cls) (e : Evt) : Bool := (p.k == -1 || p.k == e.k) && (meetB p.p e.p && (meetB p.v e.v && meetB p.r e.r))
theorem meets_s {n : Int} {t b : Bool} (h : meetB n t = b) (w : World) : Calls Tryz.prog 114 #[.int .i64 n, .bool t] w fun e w' => e = .returned (.bool b) /\ w = w' := by
 subst h
 have E : Hid (meetB n t = (n == 0 || (t == (n == 1)))) := Lib.hid rfl
 rcases Bool.eq_false_or_eq_true (n == 0) with h0 | h0
 ·
  go_enter Tryz.func114, Tryz.ntmps114
  go_wp2_with fail
  go_ret
  exact ⟨by rw [E.out, h0] <;> rfl, rfl⟩
 ·
  go_enter Tryz.func114, Tryz.ntmps114
  go_wp2_with fail
  go_ret
  exact ⟨by rw [E.out, h0] <;> rfl, rfl⟩
inductive MWay (p : Cls) (e : Evt) : Bool -> Prop where
 | no (h0 : (p.k == -1) = false) (h : (p.k == e.k) = false) : MWay p e false
 | aper (h0 : (p.k == -1) = true) (h1 : meetB p.p e.p = false) : MWay p e false
 | avol (h0 : (p.k == -1) = true) (h1 : meetB p.p e.p = true) (h2 : meetB p.v e.v = false) : MWay p e false
 | afin (b : Bool) (h0 : (p.k == -1) = true) (h1 : meetB p.p e.p = true) (h2 : meetB p.v e.v = true) (h3 : meetB p.r e.r = b) : MWay p e b
 | kper (h0 : (p.k == -1) = false) (h : (p.k == e.k) = true) (h1 : meetB p.p e.p = false) : MWay p e false
 | kvol (h0 : (p.k == -1) = false) (h : (p.k == e.k) = true) (h1 : meetB p.p e.p = true) (h2 : meetB p.v e.v = false) : MWay p e false
 | kfin (b : Bool) (h0 : (p.k == -1) = false) (h : (p.k == e.k) = true) (h1 : meetB p.p e.p = true) (h2 : meetB p.v e.v = true) (h3 : meetB p.r e.r = b) : MWay p e b
theorem mway (p : Cls) (e : Evt) : MWay p e (matchB p e) := by
 have E : matchB p e = ((p.k == -1 || p.k == e.k) && (meetB p.p e.p && (meetB p.v e.v && meetB p.r e.r))) := rfl
 rw [E]
 rcases Bool.eq_false_or_eq_true (p.k == -1) with h0 | h0
 ·
  rcases Bool.eq_false_or_eq_true (meetB p.p e.p) with h1 | h1
  ·
   rcases Bool.eq_false_or_eq_true (meetB p.v e.v) with h2 | h2
   ·
    rw [h0, h1, h2]; exact .afin _ h0 h1 h2 rfl
   ·
    rw [h0, h1, h2]; exact .avol h0 h1 h2
  ·
   rw [h0, h1]; exact .aper h0 h1
 ·
  rcases Bool.eq_false_or_eq_true (p.k == e.k) with h | h
  ·
   rcases Bool.eq_false_or_eq_true (meetB p.p e.p) with h1 | h1
   ·
    rcases Bool.eq_false_or_eq_true (meetB p.v e.v) with h2 | h2
    ·
     rw [h0, h, h1, h2]; exact .kfin _ h0 h h1 h2 rfl
    ·
     rw [h0, h, h1, h2]; exact .kvol h0 h h1 h2
   ·
    rw [h0, h, h1]; exact .kper h0 h h1
  ·
   rw [h0, h]; exact .no h0 h
set_option maxRecDepth 100000 in
set_option maxHeartbeats 4000000 in
theorem matches_s (p : Cls) (q : Evt) (w : World) : Calls Tryz.prog 109 #[.agg #[.string ⟨p.c.toArray⟩, .int .i64 p.k, .int .i64 p.p, .int .i64 p.v, .int .i64 p.r, .int .i64 p.e, .string ⟨p.t.toArray⟩], .agg #[.int .i64 q.d, .int .i64 q.k, .string ⟨q.c.toArray⟩, .int .i64 q.a, .bool q.p, .bool q.v, .bool q.r]] w (Gives w (.bool (matchB p q))) := by
 have B : ∀ o o2, Hid (Below w.heap.size w ((w.alloc o).alloc o2)) := fun o o2 => Lib.hid (belowGo (below_alloc w o) (below_alloc _ o2))
 have W := mway p q
 obtain ⟨b, hb⟩ : ∃ b, b = matchB p q := ⟨_, rfl⟩
 rw [<- hb] at W
 rw [<- hb]
 clear hb
 cases W
 all_goals
  go_enter Tryz.func109, Tryz.ntmps109
  go_wp2_with (go_at_call 114; refine (meets_s (by assumption) _).mono ?_; rintro e w' ⟨rfl, rfl⟩)
  go_ret
  exact ⟨by first | rfl | simp_all, (B _ _).out⟩
def rbAt (ps : List Cls) (i : Nat) : Bool :=
 match ps[i]? with
 | none => true
 | some p => p.ok && (fndIC ps p.c == (i : Int) && (!(p.e == 3) || decide ((i : Int) < fndIC ps p.t)))
def rbTo (ps : List Cls) (k : Nat) : Bool := (List.range k).all (rbAt ps)
def endB (p : Cls) : Bool := p.k == -1 && (p.p == 0 && (p.v == 0 && (p.r == 0 && p.e != 3)))
def rbB (ps : List Cls) : Bool := decide (1 <= ps.length /\ ps.length <= 12) && (rbTo ps ps.length && (match ps[ps.length - 1]? with | some p => endB p | none => false))
theorem rbAt_some {ps : List Cls} {k : Nat} {p : Cls} (h : ps[k]? = some p) : rbAt ps k = (p.ok && (fndIC ps p.c == (k : Int) && (!(p.e == 3) || decide ((k : Int) < fndIC ps p.t)))) := by unfold rbAt; rw [h]
theorem rbTo_succ (ps : List Cls) (k : Nat) : rbTo ps (k + 1) = (rbTo ps k && rbAt ps k) := by simp [rbTo, List.range_succ]
theorem rbTo_no {ps : List Cls} {k n : Nat} (h : rbAt ps k = false) (hk : k < n) : rbTo ps n = false := by
 unfold rbTo; rw [List.all_eq_false]; exact ⟨k, List.mem_range.2 hk, by rw [h]; decide⟩
theorem rbTo_at {ps : List Cls} {k n : Nat} (h : rbTo ps n = true) (hk : k < n) : rbAt ps k = true := by
 unfold rbTo at h; rw [List.all_eq_true] at h; exact h k (List.mem_range.2 hk)
theorem rb_no {ps : List Cls} {k : Nat} (hk : k < ps.length) (h : rbAt ps k = false) : rbB ps = false := by
 unfold rbB; rw [rbTo_no h hk]; simp
theorem rb_len {ps : List Cls} (h : ¬(1 <= ps.length /\ ps.length <= 12)) : rbB ps = false := by
 unfold rbB; rw [decide_eq_false h]; rfl
theorem rb_end {ps : List Cls} {p : Cls} (h : 1 <= ps.length /\ ps.length <= 12) (h1 : rbTo ps ps.length = true) (hp : ps[ps.length - 1]? = some p) : rbB ps = endB p := by
 unfold rbB; rw [decide_eq_true h, h1, hp]; rfl
structure RB (ps : List Cls) : Prop where
 lo : 1 <= ps.length
 hi : ps.length <= 12
 ok : ∀ (k : Nat) (p : Cls), ps[k]? = some p -> p.ok = true
 own : ∀ (k : Nat) (p : Cls), ps[k]? = some p -> fndIC ps p.c = (k : Int)
 to : ∀ (k : Nat) (p : Cls), ps[k]? = some p -> p.e = 3 -> (k : Int) < fndIC ps p.t
 fin : ∀ p, ps[ps.length - 1]? = some p -> endB p = true
theorem rb_of {ps : List Cls} (h : rbB ps = true) : RB ps := by
 unfold rbB at h
 rw [Bool.and_eq_true, Bool.and_eq_true, decide_eq_true_eq] at h
 obtain ⟨⟨h1, h2⟩, h3, h4⟩ := h
 have H := fun (k : Nat) (p : Cls) (hp : ps[k]? = some p) => by
  have a := rbTo_at h3 (List.getElem?_eq_some_iff.1 hp).1
  rw [rbAt_some hp, Bool.and_eq_true, Bool.and_eq_true] at a
  exact a
 refine ⟨h1, h2, fun k p hp => (H k p hp).1, fun k p hp => by simpa using (H k p hp).2.1, fun k p hp he => ?_, fun p hp => by rw [hp] at h4; exact h4⟩
 have a := (H k p hp).2.2
 rw [he] at a
 simpa using a
end Go.Proofs.YtjcklmhgjdmjoaaGreat

namespace Go.Proofs.YtjcklmhgjdmjoaaGreat
open Go.ChangeShapes Go.WideShapes Go.ChangeAt Go.RowKit
set_option linter.unusedVariables false
theorem ilen_no {n : Nat} (h : ¬(1 <= n /\ n <= 12)) : inr (n : Int) 1 12 = false := by unfold inr; rw [decide_eq_false_iff_not]; omega
theorem ilen_ok {n : Nat} (h : 1 <= n /\ n <= 12) : inr (n : Int) 1 12 = true := by unfold inr; rw [decide_eq_true_eq]; omega
theorem rb_of_no {ps : List Cls} (A : Option Addr) (c : Nat) (w : World) (h : ¬(1 <= ps.length /\ ps.length <= 12)) :
  Calls Tryz.prog 30 #[.slice A ps.length c] w (Gives w (.bool (rbB ps))) := by
 have E := Lib.hid (rb_len h)
 have HI := Lib.hid (ilen_no h)
 clear h
 go_enter Tryz.func30, Tryz.ntmps30
 go_wp2_with (go_at_call 57; refine (innC_q HI.out _).mono ?_; rintro e w' ⟨rfl, rfl⟩)
 go_ret
 exact ⟨by rw [E.out] <;> rfl, Below.refl _ _⟩
set_option maxRecDepth 100000 in
set_option maxHeartbeats 8000000 in
theorem isRb_s_ok (A : Option Addr) (c m : Nat) (ps : List Cls) (w : World) (h : CTbl w A ps) (hm : ps.length = m + 1) (h12 : m + 1 <= 12) :
  Calls Tryz.prog 30 #[.slice A (m + 1) c] w (Gives w (.bool (rbB ps))) := by
 have HR := Lib.hid h.row
 have HS := Lib.hid h.txt
 have HM := Lib.hid hm
 have HI : Hid (inr ((m + 1 : Nat) : Int) 1 12 = true) := Lib.hid (ilen_ok (by omega))
 have HFN : Hid (∀ s W, Below w.heap.size w W -> Calls Tryz.prog 40 #[.slice A (m + 1) c, .string ⟨(s : List UInt8).toArray⟩] W fun e w' => e = .returned (.int .i64 (fndIC ps s)) /\ W = w') := Lib.hid (fun s W hb => by
  rw [<- HM.out]; exact find_sC A c ps s W (HR.out.below hb) (by rw [HM.out]; omega))
 clear h hm
 go_enter Tryz.func30, Tryz.ntmps30
 go_wp2_with (go_at_call 57; refine (innC_q (by simpa using HI.out) _).mono ?_; rintro e w' ⟨rfl, rfl⟩)
 go_loopw [3] (fun i wr => ∃ k : Nat, k <= m + 1 /\ i = .int .i64 k /\ Hid (rbTo ps k = true) /\ Below w.heap.size w wr) (fun i _ => m + 1 - (intOf i).toNat)
 case atStart => exact ⟨0, Nat.zero_le _, rfl, Lib.hid rfl, Below.refl _ _⟩
 case round =>
  obtain ⟨k, hk, rfl, hok, hb⟩ := hrel
  by_cases hlt : k < m + 1
  ·
   obtain ⟨b, off, p, rfl, hl, hp, h4⟩ := (HR.out.below hb).at (k := k) (by rw [HM.out]; omega)
   obtain ⟨hpc, hpt⟩ := sz_c (HS.out p (List.mem_of_getElem? hp.out))
   have c0 := h4.c0; have c1 := h4.c1; have c2 := h4.c2; have c3 := h4.c3; have c4 := h4.c4; have c5 := h4.c5; have c6 := h4.c6
   have kb := KeepC.new wr p
   have HV := Lib.hid (fun W => cvalid_s p W hpc hpt)
   have E := Lib.hid (rbAt_some hp.out)
   have HNO := Lib.hid (fun h => rb_no (ps := ps) (k := k) (by rw [HM.out]; omega) h)
   clear hp h4 hpc hpt
   rcases Bool.eq_false_or_eq_true p.ok with hv | hv
   ·
    rw [hv] at HV E
    obtain ⟨f1, hf1⟩ : ∃ f1, fndIC ps p.c = f1 := ⟨_, rfl⟩
    obtain ⟨f2, hf2⟩ : ∃ f2, fndIC ps p.t = f2 := ⟨_, rfl⟩
    rw [hf1, hf2] at E
    by_cases hf : f1 = (k : Int)
    ·
     subst hf
     have z1 : ((k : Int) != (k : Int)) = false := by simp
     rcases Bool.eq_false_or_eq_true (p.e == 3) with he | he
     ·
      rw [he] at E
      by_cases hl2 : f2 <= (k : Int)
      ·
       have EN := Lib.hid (HNO.out (by rw [E.out, decide_eq_false (show ¬(k : Int) < f2 by omega)]; simp))
       have z2 : decide (f2 <= (k : Int)) = true := decide_eq_true hl2
       clear E HNO hv
       go_wp2_with (first
        | (go_at_call 54; refine (HV.out _).mono ?_; rintro e w1 ⟨rfl, b1⟩; have kb1 := kb.step b1; have t1 := belowGo hb kb1.bel; have d0 := kb1.cells.c0; have d5 := kb1.cells.c5; have d6 := kb1.cells.c6)
        | (go_at_call 40; refine (HFN.out _ _ t1).mono ?_; rintro e w' ⟨rfl, rfl⟩))
       go_ret
       exact ⟨by rw [EN.out] <;> rfl, t1⟩
      ·
       have EK : Hid (rbTo ps (k + 1) = true) := Lib.hid (by rw [rbTo_succ, hok.out, E.out, decide_eq_true (show (k : Int) < f2 by omega)]; simp)
       have z2 : decide (f2 <= (k : Int)) = false := decide_eq_false hl2
       clear E HNO hv hok
       go_wp2_with (first
        | (go_at_call 54; refine (HV.out _).mono ?_; rintro e w1 ⟨rfl, b1⟩; have kb1 := kb.step b1; have t1 := belowGo hb kb1.bel; have d0 := kb1.cells.c0; have d5 := kb1.cells.c5; have d6 := kb1.cells.c6)
        | (go_at_call 40; refine (HFN.out _ _ t1).mono ?_; rintro e w' ⟨rfl, rfl⟩))
       go_roundw
       case rel => exact ⟨k + 1, by omega, by go_num, EK, t1⟩
       case measure => simp [intOf]; omega
     ·
      have EK : Hid (rbTo ps (k + 1) = true) := Lib.hid (by rw [rbTo_succ, hok.out, E.out, he]; simp)
      clear E HNO hv hok
      go_wp2_with (first
       | (go_at_call 54; refine (HV.out _).mono ?_; rintro e w1 ⟨rfl, b1⟩; have kb1 := kb.step b1; have t1 := belowGo hb kb1.bel; have d0 := kb1.cells.c0; have d5 := kb1.cells.c5; have d6 := kb1.cells.c6)
       | (go_at_call 40; refine (HFN.out _ _ t1).mono ?_; rintro e w' ⟨rfl, rfl⟩))
      go_roundw
      case rel => exact ⟨k + 1, by omega, by go_num, EK, t1⟩
      case measure => simp [intOf]; omega
    ·
     have z1 : (f1 != (k : Int)) = true := bne_iff_ne.2 hf
     have EN := Lib.hid (HNO.out (by rw [E.out, beq_eq_false_iff_ne.2 hf]; simp))
     clear E HNO hv
     go_wp2_with (first
      | (go_at_call 54; refine (HV.out _).mono ?_; rintro e w1 ⟨rfl, b1⟩; have kb1 := kb.step b1; have t1 := belowGo hb kb1.bel; have d0 := kb1.cells.c0; have d5 := kb1.cells.c5; have d6 := kb1.cells.c6)
      | (go_at_call 40; refine (HFN.out _ _ t1).mono ?_; rintro e w' ⟨rfl, rfl⟩))
     go_ret
     exact ⟨by rw [EN.out] <;> rfl, t1⟩
   ·
    rw [hv] at HV E
    have EN := Lib.hid (HNO.out (by rw [E.out]; rfl))
    clear E HNO hv
    go_wp2_with (go_at_call 54; refine (HV.out _).mono ?_; rintro e w1 ⟨rfl, b1⟩; have t1 := belowGo hb (kb.step b1).bel)
    go_ret
    exact ⟨by rw [EN.out] <;> rfl, t1⟩
  ·
   have hkm : Hid (rbTo ps ps.length = true) := Lib.hid (by have := hok.out; rwa [show k = ps.length by rw [HM.out]; omega] at this)
   obtain ⟨b, off, p, rfl, hl, hp, h4⟩ := (HR.out.below hb).at (k := m) (by rw [HM.out]; omega)
   have c0 := h4.c0; have c1 := h4.c1; have c2 := h4.c2; have c3 := h4.c3; have c4 := h4.c4; have c5 := h4.c5; have c6 := h4.c6
   have E : Hid (rbB ps = endB p) := Lib.hid (rb_end (by rw [HM.out]; omega) hkm.out (by rw [HM.out]; exact hp.out))
   have E2 : Hid (endB p = (p.k == -1 && (p.p == 0 && (p.v == 0 && (p.r == 0 && p.e != 3))))) := Lib.hid rfl
   have hbx := Lib.hid (belowGo hb (KeepC.new wr p).bel)
   clear hp h4 hok
   rcases Bool.eq_false_or_eq_true (p.k == -1) with h0 | h0 <;> rcases Bool.eq_false_or_eq_true (p.p == 0) with h1 | h1 <;> rcases Bool.eq_false_or_eq_true (p.v == 0) with h2 | h2 <;> rcases Bool.eq_false_or_eq_true (p.r == 0) with h3 | h3
   all_goals
    rw [h0, h1, h2, h3] at E2
    go_wp2_with fail
    go_ret
    exact ⟨by rw [E.out, E2.out] <;> simp, hbx.out⟩
theorem isRb_s (A : Option Addr) (c : Nat) (ps : List Cls) (w : World) (h : CTbl w A ps) :
  Calls Tryz.prog 30 #[.slice A ps.length c] w (Gives w (.bool (rbB ps))) := by
 by_cases hn : 1 <= ps.length /\ ps.length <= 12
 ·
  obtain ⟨m, hm⟩ : ∃ m, ps.length = m + 1 := ⟨ps.length - 1, by omega⟩
  rw [hm]
  exact isRb_s_ok A c m ps w h hm (by omega)
 ·
  exact rb_of_no A c w hn
theorem rbS_q {w : World} {A : Option Addr} {c : Nat} {ps : List Cls} {b : Bool} (h : CTbl w A ps) (hb : rbB ps = b) : Calls Tryz.prog 30 #[.slice A ps.length c] w (Gives w (.bool b)) := by
 rw [<- hb]; exact isRb_s A c ps w h
end Go.Proofs.YtjcklmhgjdmjoaaGreat

