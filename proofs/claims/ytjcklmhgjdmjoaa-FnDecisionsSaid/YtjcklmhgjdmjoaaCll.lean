/- Clauses in plain lists; one clause by itself; spec.IsClause, spec.l09Find. -/
import Derived.Test.YtjcklmhgjdmjoaaMCls
import Derived.Test.YtjcklmhgjdmjoaaMCode
import Derived.Test.YtjcklmhgjdmjoaaMCal
import Derived.Test.YtjcklmhgjdmjoaaInts
namespace Go.Proofs.Ytjcklmhgjdmjoaa
open Go.ChangeShapes Go.WideShapes Go.ChangeAt Go.RowKit
set_option linter.unusedVariables false

/-- A clause is as described. -/
def Cls.ok (r : Cls) : Bool := pcode r.c && (inr r.k (-1) 6 && (inr r.p 0 2 && (inr r.v 0 2 && (inr r.r 0 2 && (inr r.e 0 3 && (if r.e == 3 then pcode r.t else r.t.isEmpty))))))
/-- The ways through the conditions on a clause. -/
inductive CWay (r : Cls) : Bool → Prop where
  | code (h : pcode r.c = false) : CWay r false
  | kind (h : pcode r.c = true) (h1 : inr r.k (-1) 6 = false) : CWay r false
  | per (h : pcode r.c = true) (h1 : inr r.k (-1) 6 = true) (h2 : inr r.p 0 2 = false) : CWay r false
  | vol (h : pcode r.c = true) (h1 : inr r.k (-1) 6 = true) (h2 : inr r.p 0 2 = true) (h3 : inr r.v 0 2 = false) : CWay r false
  | rea (h : pcode r.c = true) (h1 : inr r.k (-1) 6 = true) (h2 : inr r.p 0 2 = true) (h3 : inr r.v 0 2 = true) (h4 : inr r.r 0 2 = false) : CWay r false
  | res (h : pcode r.c = true) (h1 : inr r.k (-1) 6 = true) (h2 : inr r.p 0 2 = true) (h3 : inr r.v 0 2 = true) (h4 : inr r.r 0 2 = true) (h5 : inr r.e 0 3 = false) : CWay r false
  | go (b : Bool) (h : pcode r.c = true) (h1 : inr r.k (-1) 6 = true) (h2 : inr r.p 0 2 = true) (h3 : inr r.v 0 2 = true) (h4 : inr r.r 0 2 = true) (h5 : inr r.e 0 3 = true) (h6 : (r.e == 3) = true) (h7 : pcode r.t = b) : CWay r b
  | fin (b : Bool) (h : pcode r.c = true) (h1 : inr r.k (-1) 6 = true) (h2 : inr r.p 0 2 = true) (h3 : inr r.v 0 2 = true) (h4 : inr r.r 0 2 = true) (h5 : inr r.e 0 3 = true) (h6 : (r.e == 3) = false) (h7 : r.t.isEmpty = b) : CWay r b
theorem cway (r : Cls) : CWay r r.ok := by
  have e : r.ok = (pcode r.c && (inr r.k (-1) 6 && (inr r.p 0 2 && (inr r.v 0 2 && (inr r.r 0 2 && (inr r.e 0 3 && (if r.e == 3 then pcode r.t else r.t.isEmpty))))))) := rfl
  rw [e]
  rcases Bool.eq_false_or_eq_true (pcode r.c) with h | h
  · rcases Bool.eq_false_or_eq_true (inr r.k (-1) 6) with h1 | h1
    · rcases Bool.eq_false_or_eq_true (inr r.p 0 2) with h2 | h2
      · rcases Bool.eq_false_or_eq_true (inr r.v 0 2) with h3 | h3
        · rcases Bool.eq_false_or_eq_true (inr r.r 0 2) with h4 | h4
          · rcases Bool.eq_false_or_eq_true (inr r.e 0 3) with h5 | h5
            · rcases Bool.eq_false_or_eq_true (r.e == 3) with h6 | h6
              · rw [h, h1, h2, h3, h4, h5, if_pos h6]; exact .go _ h h1 h2 h3 h4 h5 h6 rfl
              · rw [h, h1, h2, h3, h4, h5, if_neg (by rw [h6]; decide)]; exact .fin _ h h1 h2 h3 h4 h5 h6 rfl
            · rw [h, h1, h2, h3, h4, h5]; exact .res h h1 h2 h3 h4 h5
          · rw [h, h1, h2, h3, h4]; exact .rea h h1 h2 h3 h4
        · rw [h, h1, h2, h3]; exact .vol h h1 h2 h3
      · rw [h, h1, h2]; exact .per h h1 h2
    · rw [h, h1]; exact .kind h h1
  · rw [h]; exact .code h
theorem cok {r : Cls} (h : r.ok = true) : pcode r.c = true ∧ (-1 ≤ r.k ∧ r.k ≤ 6) ∧ (0 ≤ r.p ∧ r.p ≤ 2) ∧ (0 ≤ r.v ∧ r.v ≤ 2) ∧ (0 ≤ r.r ∧ r.r ≤ 2) ∧ (0 ≤ r.e ∧ r.e ≤ 3) ∧ ((r.e = 3 ∧ pcode r.t = true) ∨ (r.e ≠ 3 ∧ r.t = [])) := by
  have W := cway r
  rw [h] at W
  cases W with
  | go _ h h1 h2 h3 h4 h5 h6 h7 =>
    simp only [inr, decide_eq_true_eq, beq_iff_eq] at h1 h2 h3 h4 h5 h6
    exact ⟨h, h1, h2, h3, h4, h5, .inl ⟨h6, h7⟩⟩
  | fin _ h h1 h2 h3 h4 h5 h6 h7 =>
    simp only [inr, decide_eq_true_eq, beq_eq_false_iff_ne] at h1 h2 h3 h4 h5 h6
    exact ⟨h, h1, h2, h3, h4, h5, .inr ⟨h6, by simpa using h7⟩⟩
/-- A box of a clause stands as it was laid; nothing below is written. -/
structure KeepC (w0 : World) (p : Cls) (W : World) : Prop where
  a : W.heap[w0.heap.size]? = some (.cells #[.string ⟨p.c.toArray⟩, .int .i64 p.k, .int .i64 p.p, .int .i64 p.v, .int .i64 p.r, .int .i64 p.e, .string ⟨p.t.toArray⟩] 54 (0, 0))
  bel : Below w0.heap.size w0 W
theorem KeepC.step {w0 W w' : World} {p : Cls} (k : KeepC w0 p W) (b : Below W.heap.size W w') : KeepC w0 p w' := ⟨(b.block _ (lt_some k.a)).trans k.a, belowGo k.bel b⟩
theorem KeepC.drew {w0 W : World} {p : Cls} (k : KeepC w0 p W) : KeepC w0 p W.drew := ⟨k.a, k.bel.drew⟩
theorem KeepC.new (w : World) (p : Cls) : KeepC w p (w.alloc (.cells #[.string ⟨p.c.toArray⟩, .int .i64 p.k, .int .i64 p.p, .int .i64 p.v, .int .i64 p.r, .int .i64 p.e, .string ⟨p.t.toArray⟩] 54)) := ⟨heap_alloc_new _ _, (Below.refl _ _).alloc (Nat.le_refl _) _⟩
theorem KeepC.cells {w0 W : World} {p : Cls} (k : KeepC w0 p W) : ClsC W w0.heap.size 0 p :=
  ⟨by rw [cell_of_row _ _ _ _ _ _ k.a]; rfl, by rw [cell_of_row _ _ _ _ _ _ k.a]; rfl, by rw [cell_of_row _ _ _ _ _ _ k.a]; rfl, by rw [cell_of_row _ _ _ _ _ _ k.a]; rfl, by rw [cell_of_row _ _ _ _ _ _ k.a]; rfl, by rw [cell_of_row _ _ _ _ _ _ k.a]; rfl, by rw [cell_of_row _ _ _ _ _ _ k.a]; rfl⟩
theorem pcodeI_qC {s : List UInt8} {b : Bool} (h : pcode s = b) (hl : s.length ≤ 9223372036854775807) (w : World) : Calls Try.prog 114 #[.string ⟨s.toArray⟩] w fun e w' => e = .returned (.bool b) ∧ w = w' :=
  (isPcode_i s w hl).mono fun e w' k => ⟨by rw [← h]; exact k.1, k.2⟩
theorem pcodeS_qC {s : List UInt8} {b : Bool} (h : pcode s = b) (hl : s.length ≤ 9223372036854775807) (w : World) : Calls Try.prog 120 #[.string ⟨s.toArray⟩] w fun e w' => e = .returned (.bool b) ∧ w = w' :=
  (isPcode_s s w hl).mono fun e w' k => ⟨by rw [← h]; exact k.1, k.2⟩
theorem innC_q {n lo hi : Int} {b : Bool} (h : inr n lo hi = b) (w : World) : Calls Try.prog 84 #[.int .i64 n, .int .i64 lo, .int .i64 hi] w fun e w' => e = .returned (.bool b) ∧ w = w' := h ▸ inr_s n lo hi w
theorem needC_q {n : Int} {b : Bool} (h : inr n 0 2 = b) (w : World) : Calls Try.prog 138 #[.int .i64 n] w fun e w' => e = .returned (.bool b) ∧ w = w' := by
  go_enter Try.func138, Try.ntmps138
  go_wp2_with (go_at_call 84; refine (innC_q (by assumption) _).mono ?_; rintro e w' ⟨rfl, rfl⟩)
  go_ret
  exact ⟨rfl, rfl⟩
theorem empC (s : List UInt8) : ((⟨s.toArray⟩ : ByteArray).toList == (⟨#[]⟩ : ByteArray).toList) = s.isEmpty := by
  have h1 : (⟨s.toArray⟩ : ByteArray).toList = s := by simp [ByteArray.toList_eq]
  have h2 : (⟨#[]⟩ : ByteArray).toList = [] := by simp [ByteArray.toList_eq]
  rw [h1, h2]; cases s <;> rfl
set_option maxRecDepth 100000 in
set_option maxHeartbeats 4000000 in
theorem cvalid_s (p : Cls) (w : World) (hc : p.c.length ≤ 9223372036854775807) (ht : p.t.length ≤ 9223372036854775807) : Calls Try.prog 118 #[.agg #[.string ⟨p.c.toArray⟩, .int .i64 p.k, .int .i64 p.p, .int .i64 p.v, .int .i64 p.r, .int .i64 p.e, .string ⟨p.t.toArray⟩]] w (Gives w (.bool p.ok)) := by
  have B : ∀ o, Hid (Below w.heap.size w (w.alloc o)) := fun o => Lib.hid ((Below.refl _ _).alloc (Nat.le_refl _) _)
  have W := cway p
  obtain ⟨b, hb⟩ : ∃ b, b = p.ok := ⟨_, rfl⟩
  rw [← hb] at W
  rw [← hb]
  clear hb
  cases W
  all_goals
    go_enter Try.func118, Try.ntmps118
    go_wp2_with (first
      | (go_at_call 84; refine (innC_q (by assumption) _).mono ?_; rintro e w' ⟨rfl, rfl⟩)
      | (go_at_call 138; refine (needC_q (by assumption) _).mono ?_; rintro e w' ⟨rfl, rfl⟩)
      | (go_at_call 120; refine (pcodeS_qC (by assumption) (by assumption) _).mono ?_; rintro e w' ⟨rfl, rfl⟩))
    go_ret
    exact ⟨by first | rfl | simp_all, (B _).out⟩
/-- Clauses that a function takes: their texts are short. -/
structure CTbl (w : World) (A : Option Addr) (ps : List Cls) : Prop where
  row : ClsR w A ps
  txt : ∀ p ∈ ps, p.sz ≤ 1048600
  len : ps.length ≤ 1048590
theorem CTbl.below {w w' : World} {A : Option Addr} {ps : List Cls} (h : CTbl w A ps) (hb : Below w.heap.size w w') : CTbl w' A ps := ⟨h.row.below hb, h.txt, h.len⟩
theorem ctbl_of {w : World} {base : Nat} {A : Option Addr} {c : Nat} {ps : List Cls} (h : ClsO w base A ps.length c ps) (htx : ∀ p ∈ ps, p.sz ≤ 1048576) (hn : ps.length ≤ 1048576) : CTbl w A ps := ⟨h.row, fun p hp => Nat.le_trans (htx p hp) (by decide), by omega⟩
theorem sz_c {p : Cls} (h : p.sz ≤ 1048600) : p.c.length ≤ 9223372036854775807 ∧ p.t.length ≤ 9223372036854775807 := by unfold Cls.sz at h; omega
def fndC (ps : List Cls) (c : List UInt8) : Option Nat := ps.findIdx? (fun p => p.c == c)
def fndIC (ps : List Cls) (c : List UInt8) : Int := match fndC ps c with | none => -1 | some k => k
theorem fnd_noneC {ps : List Cls} {c : List UInt8} (h : ∀ (j : Nat) (q : Cls), ps[j]? = some q → (q.c == c) = false) : fndC ps c = none := by
  unfold fndC; rw [List.findIdx?_eq_none_iff]
  intro x hx
  obtain ⟨j, hj⟩ := List.getElem?_of_mem hx
  exact h j x hj
theorem fnd_someC {ps : List Cls} {c : List UInt8} {k : Nat} {p : Cls} (hk : ps[k]? = some p) (hc : (p.c == c) = true) (h : ∀ (j : Nat) (q : Cls), j < k → ps[j]? = some q → (q.c == c) = false) : fndC ps c = some k := by
  unfold fndC
  rw [List.findIdx?_eq_some_iff_getElem]
  obtain ⟨hl, e⟩ := List.getElem?_eq_some_iff.1 hk
  refine ⟨hl, by rw [e]; exact hc, fun j hj => ?_⟩
  rw [h j _ hj (List.getElem?_eq_getElem (by omega))]; exact Bool.false_ne_true
theorem fnd_ltC {ps : List Cls} {c : List UInt8} {k : Nat} (h : fndC ps c = some k) : k < ps.length := by
  unfold fndC at h
  exact (List.findIdx?_eq_some_iff_getElem.1 h).1
theorem fndIC_bd (ps : List Cls) (c : List UInt8) : -1 ≤ fndIC ps c ∧ fndIC ps c < ps.length := by
  unfold fndIC
  cases h : fndC ps c with
  | none => simp; omega
  | some k => have := fnd_ltC h; simp; omega
set_option maxHeartbeats 1000000 in
theorem find_sC (A : Option Addr) (c : Nat) (ps : List Cls) (s : List UInt8) (w : World) (hR : ClsR w A ps) (hn : ps.length ≤ 1000000000) :
    Calls Try.prog 88 #[.slice A ps.length c, .string ⟨s.toArray⟩] w fun e w' => e = .returned (.int .i64 (fndIC ps s)) ∧ w = w' := by
  go_enter Try.func88, Try.ntmps88
  go_wp2_with fail
  go_loop [5] (fun i => ∃ k : Nat, k ≤ ps.length ∧ i = .int .i64 k ∧ Hid (∀ (j : Nat) (q : Cls), j < k → ps[j]? = some q → (q.c == s) = false)) (fun i => ps.length - (intOf i).toNat)
  case atStart => exact ⟨0, Nat.zero_le _, rfl, Lib.hid fun j q hj => by omega⟩
  case round =>
    obtain ⟨k, hk, rfl, hno⟩ := hrel
    by_cases hlt : k < ps.length
    · obtain ⟨b, off, p, rfl, hl, hp, h4⟩ := hR.at hlt
      have c0 := h4.c0
      rcases Bool.eq_false_or_eq_true (p.c == s) with he | he
      · have E : Hid (fndIC ps s = (k : Int)) := Lib.hid (by unfold fndIC; rw [fnd_someC hp.out he hno.out])
        clear hp hno h4 hR
        go_wp2_with fail
        go_ret
        exact ⟨by rw [E.out] <;> rfl, rfl⟩
      · have HN : Hid (∀ (j : Nat) (q : Cls), j < k + 1 → ps[j]? = some q → (q.c == s) = false) := Lib.hid fun j q hj hq => by
          rcases Nat.lt_or_ge j k with h1 | h1
          · exact hno.out j q h1 hq
          · obtain rfl : j = k := by omega
            rw [hp.out] at hq; rw [← Option.some.inj hq]; exact he
        clear hp hno h4 hR
        go_wp2_with fail
        go_round
        case rel => exact ⟨k + 1, by omega, by go_num, HN⟩
        case measure => simp [intOf]; omega
    · have E : Hid (fndIC ps s = -1) := Lib.hid (by
        unfold fndIC
        rw [fnd_noneC fun j q hq => hno.out j q (by have := (List.getElem?_eq_some_iff.1 hq).1; omega) hq])
      clear hno hR
      go_wp2_with fail
      go_ret
      exact ⟨by rw [E.out] <;> rfl, rfl⟩
end Go.Proofs.Ytjcklmhgjdmjoaa
