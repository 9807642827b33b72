/- impl.placesTaken: all places that are taken one after the other; the result of a decision. -/
import Derived.Test.YtpdkgjmppknbpaaShp
import Derived.Test.YtpdkgjmppknbpaaDif
namespace Go.Proofs.Ytpdkgjmppknbpaa
open Go.ChangeShapes Go.WideShapes Go.ChangeAt Go.RowKit
set_option linter.unusedVariables false

theorem intInfoN : (Try.prog.info? 3).map (fun i => (i.zero, i.size, i.bytes)) = some (some (.int .i64 0), 1, 8) := by kernel_rfl
/-- A row of indices of the call's own. -/
def OiN (w : World) (base : Nat) (A : Option Addr) (n c : Nat) (xs : List Int) : Prop := w.ownsRow base 3 1 (.slice A n c) n (xs.map (Value.int .i64))
theorem OiN.below {w w' : World} {base : Nat} {A : Option Addr} {n c : Nat} {xs : List Int} (h : OiN w base A n c xs) (hb : Below w.heap.size w w') : OiN w' base A n c xs := own_below h hb
theorem OiN.ir {w : World} {base : Nat} {A : Option Addr} {n c : Nat} {xs : List Int} (h : OiN w base A n c xs) : Ir w A xs := Rw.ownS h
theorem OiN.mono {w : World} {base base' : Nat} {A : Option Addr} {n c : Nat} {xs : List Int} (h : OiN w base A n c xs) (hb : base' ≤ base) : OiN w base' A n c xs := by
  refine ⟨h.1, h.2.imp id ?_⟩
  rintro ⟨g, cap, cur, h1, h2, h3⟩
  exact ⟨g, cap, cur, h1, by omega, h3⟩
theorem placeM_0 (A : Option Addr) (c : Nat) (ps : List Cls) (q : Evt) (w : World) (h : CTbl w A ps) (hrb : RB ps) (hc : ps.length ≤ c) :
    Calls Try.prog 104 #[.slice A ps.length c, .int .i64 0, .agg #[.int .i64 q.d, .int .i64 q.k, .string ⟨q.c.toArray⟩, .int .i64 q.a, .bool q.p, .bool q.v, .bool q.r]] w (Gives w (.int .i64 (firstC ps 0 q : Int))) := placeM_i A c 0 ps q w h hrb (Nat.lt_of_lt_of_le (by decide) hrb.lo) hc
set_option maxRecDepth 100000 in
set_option maxHeartbeats 8000000 in
theorem places_i (A : Option Addr) (c : Nat) (ps : List Cls) (q : Evt) (w : World) (h : CTbl w A ps) (hrb : RB ps) (hc : ps.length ≤ c) :
    Calls Try.prog 81 #[.slice A ps.length c, .agg #[.int .i64 q.d, .int .i64 q.k, .string ⟨q.c.toArray⟩, .int .i64 q.a, .bool q.p, .bool q.v, .bool q.r]] w fun e w' =>
      ∃ B d, e = .returned (.slice B (chainL ps q).length d) ∧ OiN w' w.heap.size B (chainL ps q).length d (chainL ps q) ∧ Below w.heap.size w w' := by
  obtain ⟨i0, hi, hz0, hz1, hz2⟩ := info_parts intInfoN
  have HT := Lib.hid h
  have HB := Lib.hid hrb
  have h12 := hrb.hi
  have h1 := hrb.lo
  have ke := KeepE.new w q
  have H0 := Lib.hid (fun W (hb : Below w.heap.size w W) => placeM_0 A c ps q W (h.below hb) hrb hc)
  have HM := Lib.hid (fun k (hk : k < ps.length) W (hb : Below w.heap.size w W) => placeM_i A c k ps q W (h.below hb) hrb hk hc)
  have HP := Lib.hid (fun s W (hb : Below w.heap.size w W) => place_iC A c ps s W (h.row.below hb) (by omega))
  have EL : Hid (chainL ps q = chainC ps q 13 0) := Lib.hid rfl
  have hf0 := hrb.first (k := 0) (by omega) q
  clear h hrb
  obtain ⟨j0, hj0⟩ : ∃ j, j = firstC ps 0 q := ⟨_, rfl⟩
  rw [← hj0] at H0 hf0
  have HJ0 := Lib.hid hj0
  clear hj0
  go_enter Try.func81, Try.ntmps81
  have c0 := ke.cells.c0; have c1 := ke.cells.c1; have c2 := ke.cells.c2; have c3 := ke.cells.c3; have c4 := ke.cells.c4; have c5 := ke.cells.c5; have c6 := ke.cells.c6
  go_wp2_with fail
  refine (H0.out _ ke.bel).mono ?_
  rintro e w1 ⟨rfl, b1⟩
  replace ke := ke.step b1
  have hsz1 : w.heap.size ≤ w1.heap.size := ke.bel.size
  have O1 : OiN (w1.alloc (.cells #[.int .i64 (j0 : Int)] 3)) (w.heap.size + 1) (some ⟨w1.heap.size, 0, none⟩) 1 1 [(j0 : Int)] := by
    exact ⟨rfl, .inr ⟨w1.heap.size, 1, #[.int .i64 (j0 : Int)], rfl, by have := lt_some ke.a; omega, heap_alloc_new w1 _, Nat.le_refl _, by unfold maxLen; omega, by simp, by simp⟩⟩
  have ke1 := ke.step (below_alloc w1 (.cells #[.int .i64 (j0 : Int)] 3))
  clear c0 c1 c2 c3 c4 c5 c6 b1
  go_wp2_with fail
  go_loopw [5, 6] (fun i v wr => ∃ (n k j : Nat) (xs : List Int) (B : Option Addr) (d : Nat), i = .int .i64 (j : Int) ∧ v = .slice B (xs.length + 1) d ∧ j < ps.length ∧ k ≤ j ∧ 13 ≤ n + k ∧ xs.length ≤ k ∧ Hid (j = firstC ps k q) ∧ Hid (xs ++ chainC ps q n k = chainL ps q) ∧ Hid (OiN wr (w.heap.size + 1) B (xs.length + 1) d (xs ++ [(j : Int)])) ∧ KeepE w q wr) (fun i _ _ => ps.length - (intOf i).toNat)
  case atStart => exact ⟨13, 0, j0, [], _, 1, rfl, rfl, hf0, Nat.zero_le _, by omega, by simp, HJ0, Lib.hid (by rw [EL.out]; rfl), Lib.hid O1, ke1⟩
  case round =>
    clear ke ke1 O1 H0 HJ0 EL hf0 hsz1
    obtain ⟨n, k, j, xs, B, d, rfl, rfl, hj, hkj, hn, hxk, hjj, hc0, hown, ke⟩ := hrel
    obtain ⟨n, rfl⟩ : ∃ m, n = m + 1 := ⟨n - 1, by omega⟩
    obtain ⟨b, off, p, rfl, hl, hp, h4⟩ := (HT.out.below ke.bel).row.at hj
    have hp2 : Hid (ps[firstC ps k q]? = some p) := Lib.hid (by rw [← hjj.out]; exact hp.out)
    rcases Bool.eq_false_or_eq_true (p.e == 3) with he | he
    · have hto := HB.out.to j p hp.out (by simpa using he)
      have hbd := (fndIC_bd ps p.t).2
      obtain ⟨m, hm⟩ : ∃ m : Nat, fndIC ps p.t = (m : Int) := ⟨(fndIC ps p.t).toNat, by omega⟩
      have hmp : m < ps.length := by omega
      have hjm : j < m := by omega
      have EC : Hid ((xs ++ [(j : Int)]) ++ chainC ps q n m = chainL ps q) := Lib.hid (by
        rw [← hc0.out, chain_go hp2.out he, hm, ← hjj.out]; simp)
      obtain ⟨j2, hj2⟩ : ∃ j2, j2 = firstC ps m q := ⟨_, rfl⟩
      have hj2l : j2 < ps.length := by rw [hj2]; exact HB.out.first hmp q
      have hmj2 : m ≤ j2 := by rw [hj2]; exact first_ge ps m q
      have QM := Lib.hid (fun z : Sub (Bel wr) => (HM.out m hmp z.w (belowGo ke.bel z.h)).mono fun e w' h => (⟨by rw [hj2]; exact h.1, ⟨w', Bel.step z h.2⟩, rfl⟩ : e = .returned (.int .i64 (j2 : Int)) ∧ ∃ z2 : Sub (Bel wr), w' = z2.w))
      have QP := Lib.hid (fun z : Sub (Bel wr) => (HP.out p.t z.w (belowGo ke.bel z.h)).mono fun e w' h => (⟨by rw [← hm]; exact h.1, ⟨w', Bel.step z h.2⟩, rfl⟩ : e = .returned (.int .i64 (m : Int)) ∧ ∃ z2 : Sub (Bel wr), w' = z2.w))
      have HJ2 := Lib.hid hj2
      have HK := Lib.hid (fun z : Sub (Bel wr) => ke.step z.h)
      have HO := Lib.hid (fun z : Sub (Bel wr) => hown.out.below z.h)
      have q6 : ∀ z : Sub (Bel wr), z.w.cell? ⟨b, off + j * 7 + 6, none⟩ = some (.string ⟨p.t.toArray⟩) := fun z => (h4.below hl z.h).c6
      have c5 := h4.c5
      have r0 : ∀ z : Sub (Bel wr), z.w.cell? ⟨w.heap.size, 0, none⟩ = some (.int .i64 q.d) := fun z => (ke.step z.h).cells.c0
      have r1 : ∀ z : Sub (Bel wr), z.w.cell? ⟨w.heap.size, 1, none⟩ = some (.int .i64 q.k) := fun z => (ke.step z.h).cells.c1
      have r2 : ∀ z : Sub (Bel wr), z.w.cell? ⟨w.heap.size, 2, none⟩ = some (.string ⟨q.c.toArray⟩) := fun z => (ke.step z.h).cells.c2
      have r3 : ∀ z : Sub (Bel wr), z.w.cell? ⟨w.heap.size, 3, none⟩ = some (.int .i64 q.a) := fun z => (ke.step z.h).cells.c3
      have r4 : ∀ z : Sub (Bel wr), z.w.cell? ⟨w.heap.size, 4, none⟩ = some (.bool q.p) := fun z => (ke.step z.h).cells.c4
      have r5 : ∀ z : Sub (Bel wr), z.w.cell? ⟨w.heap.size, 5, none⟩ = some (.bool q.v) := fun z => (ke.step z.h).cells.c5
      have r6 : ∀ z : Sub (Bel wr), z.w.cell? ⟨w.heap.size, 6, none⟩ = some (.bool q.r) := fun z => (ke.step z.h).cells.c6
      clear hc0 hp hp2 hjj hto hbd hm hj2 h4 ke hown
      go_wp2_with fail
      refine region_held (Bel wr) (by kernel_rfl) (by kernel_rfl) (Bel.drew wr) ?_
      repeat (go_big_quiet_step ((first | rfl | (go_at_call 64; exact QP.out _) | (go_at_call 104; exact QM.out _))))
      refine wpQuiet_nil ?_
      rintro _ ⟨y, rfl⟩
      have hown := (HO.out y)
      have hk2 := HK.out y
      generalize y.w = wq at *
      have hsz : w.heap.size + 1 ≤ wq.heap.size := lt_some hk2.a
      unfold OiN at hown
      go_wp2_with (at_builtin; refine wpList_push _ rfl (.tmp 28) (.tmp 30) 105 rfl (w.heap.size + 1) 3 i0 _ 1 8 Try.underlying105 hi hz0 hz1 hz2 rfl (by decide) (.slice B (xs.length + 1) d) (xs.length + 1) _ rfl hown [.int .i64 (j2 : Int)] rfl (by simp [Value.oneCell']) rfl (by unfold maxLen; omega) (by omega) hsz ?_; intro v' w' hown' hb'; have kb2 := hk2.push hb')
      obtain ⟨B', d', rfl⟩ := own_form hown'
      have own2 : OiN w' (w.heap.size + 1) B' ((xs ++ [(j : Int)]).length + 1) d' ((xs ++ [(j : Int)]) ++ [(j2 : Int)]) := by simpa [OiN] using hown'
      go_roundw
      case rel => exact ⟨n, m, j2, xs ++ [(j : Int)], B', d', rfl, by simp, hj2l, hmj2, by omega, by simp; omega, HJ2, EC, Lib.hid own2, kb2⟩
      case measure => simp [intOf]; omega
    · have E : Hid (xs ++ [(j : Int)] = chainL ps q) := Lib.hid (by rw [← hc0.out, chain_stop hp2.out he, ← hjj.out])
      have c5 := h4.c5
      have hbw := Lib.hid ke.bel
      clear hc0 hp hp2 hjj h4 ke HM HP
      go_wp2_with fail
      go_ret
      rw [← E.out]
      exact ⟨B, d, by simp, by have := hown.out; rw [List.length_append]; exact this.mono (Nat.le_succ _), hbw.out⟩
/-! ### the result -/
set_option maxRecDepth 100000 in
set_option maxHeartbeats 4000000 in
theorem resF_i (A : Option Addr) (c : Nat) (ps : List Cls) (q : Evt) (w : World) (h : CTbl w A ps) (hrb : RB ps) (hc : ps.length ≤ c) :
    Calls Try.prog 74 #[.slice A ps.length c, .agg #[.int .i64 q.d, .int .i64 q.k, .string ⟨q.c.toArray⟩, .int .i64 q.a, .bool q.p, .bool q.v, .bool q.r]] w (Gives w (.int .i64 (resC ps q))) := by
  have h12 := hrb.hi
  have h1 := hrb.lo
  have kb := KeepE.new w q
  have HC := Lib.hid (places_i A c ps q _ (h.below kb.bel) hrb hc)
  obtain ⟨xs, j, p, e1, e2, e3⟩ := chain_last hrb q 13 0 (by omega) (by omega)
  have hj := (List.getElem?_eq_some_iff.1 e2).1
  have E := Lib.hid (resC_of e1 e2)
  have EL : Hid (chainL ps q = xs ++ [(j : Int)]) := Lib.hid e1
  obtain ⟨b, off, p', rfl, hl, hp, h4⟩ := h.row.at hj
  obtain rfl : p = p' := by have a := hp.out; rw [e2] at a; exact Option.some.inj a
  have HR := Lib.hid (fun W (hb : Below w.heap.size w W) => (h4.below hl hb).c5)
  have HLn : Hid (xs.length ≤ 12) := Lib.hid (by have := chain_len ps q 13 0; rw [e1, List.length_append] at this; simp at this; omega)
  clear h hrb e1 e2 e3 hp h4
  rw [EL.out] at HC
  have c0 := kb.cells.c0; have c1 := kb.cells.c1; have c2 := kb.cells.c2; have c3 := kb.cells.c3; have c4 := kb.cells.c4; have c5 := kb.cells.c5; have c6 := kb.cells.c6
  go_enter Try.func74, Try.ntmps74
  go_wp2_with fail
  refine HC.out.mono ?_
  rintro e w1 ⟨C, cc, rfl, o1, b1⟩
  have t1 := kb.bel.trans (b1.mono kb.bel.size)
  obtain ⟨g, o, x, hC, hc, hx⟩ := o1.ir.at (k := xs.length) (by simp)
  have hx2 : x = (j : Int) := by have a := hx.out; simpa using a.symm
  subst hx2
  have r5 := HR.out _ t1
  have hlen : (xs ++ [(j : Int)]).length = xs.length + 1 := by simp
  have hL := HLn.out
  rw [hlen]
  subst hC
  have T1 := Lib.hid t1
  clear o1 b1 hx hlen t1 HC c0 c1 c2 c3 c4 c5 c6
  go_wp2_with fail
  go_ret
  exact ⟨by rw [E.out] <;> rfl, T1.out⟩
end Go.Proofs.Ytpdkgjmppknbpaa
