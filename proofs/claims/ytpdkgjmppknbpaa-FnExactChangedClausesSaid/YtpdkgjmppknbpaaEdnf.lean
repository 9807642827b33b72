/- laws.toEdition, szEdition, eqEdition, markEdition, heldEdition and their slices. -/
import Derived.Test.YtpdkgjmppknbpaaEdn
namespace Go.Proofs.Ytpdkgjmppknbpaa
open Go.ChangeShapes Go.WideShapes Go.ChangeAt Go.RowKit
set_option linter.unusedVariables false

/-! ### sizes -/
theorem Cls.szl_or : ∀ (rs : List Cls) (n : Int), Cls.szl rs n < 0 → n < -1 ∨ Cls.szl rs n = -1
  | [], n, h => by simp only [Cls.szl] at h ⊢; omega
  | r :: rs, n, h => by
    unfold Cls.szl at h ⊢
    by_cases hn : n < 0
    · rw [if_pos hn] at h ⊢; omega
    · rw [if_neg hn] at h ⊢
      by_cases h1 : n - (r.sz : Int) < 0
      · rw [if_pos h1, Cls.szl_neg]; omega
      · rw [if_neg h1] at h ⊢
        rcases Cls.szl_or rs _ h with h2 | h2 <;> omega
theorem Cls.szT_or (rs : List Cls) (n : Int) (h : Cls.szT rs n < 0) : Cls.szT rs n = -1 := by
  unfold Cls.szT at h ⊢
  by_cases h1 : n - rs.length < 0
  · rw [if_pos h1]
  · rw [if_neg h1] at h ⊢
    rcases Cls.szl_or rs _ h with h2 | h2
    · omega
    · exact h2
def Edn.szl : List Edn → Int → Int
  | [], n => n
  | e :: es, n => if n < 0 then n else Edn.szl es (Cls.szT e.cs n)
def Edn.szT (es : List Edn) (n : Int) : Int := if n - es.length < 0 then -1 else Edn.szl es (n - es.length)
theorem Edn.szl_neg (es : List Edn) : Edn.szl es (-1) = -1 := by cases es <;> rfl
theorem Edn.szl_cons {e : Edn} {es : List Edn} {m : Int} (hm : 0 ≤ m) : Edn.szl (e :: es) m = Edn.szl es (Cls.szT e.cs m) := by rw [Edn.szl, if_neg (by omega)]
/-- How many clauses in all. -/
def Edn.tot : List Edn → Nat
  | [] => 0
  | e :: es => e.cs.length + Edn.tot es
theorem Cls.szl_le (rs : List Cls) (n : Int) (h : 0 ≤ Cls.szl rs n) : Cls.szl rs n ≤ n := (Cls.szl_bd rs n h).1
theorem Cls.szT_le {rs : List Cls} {n : Int} (h : 0 ≤ Cls.szT rs n) : Cls.szT rs n + rs.length ≤ n := by
  unfold Cls.szT at h ⊢
  by_cases h1 : n - rs.length < 0
  · rw [if_pos h1] at h; omega
  · rw [if_neg h1] at h ⊢
    have := Cls.szl_le rs _ h
    omega
theorem Edn.szl_bd : ∀ (es : List Edn) (n : Int), 0 ≤ Edn.szl es n → Edn.szl es n + Edn.tot es ≤ n ∧ ∀ e ∈ es, ∀ r ∈ e.cs, (r.sz : Int) ≤ n
  | [], n, h => ⟨by simp [Edn.szl, Edn.tot], fun r hr => by cases hr⟩
  | e :: es, n, h => by
    unfold Edn.szl at h ⊢
    by_cases hn : n < 0
    · rw [if_pos hn] at h; omega
    · rw [if_neg hn] at h ⊢
      have h0 : 0 ≤ Cls.szT e.cs n := by
        by_cases hq : 0 ≤ Cls.szT e.cs n
        · exact hq
        · rw [Cls.szT_or e.cs n (by omega), Edn.szl_neg] at h; omega
      obtain ⟨h2, h3⟩ := Edn.szl_bd es _ h
      have h4 := Cls.szT_le h0
      have h5 := Cls.szT_bd h0
      refine ⟨by simp only [Edn.tot]; omega, fun q hq r hr => ?_⟩
      rcases List.mem_cons.1 hq with rfl | hq
      · exact h5.2.2 r hr
      · have := h3 q hq r hr; omega
theorem Edn.szT_bd {es : List Edn} {n : Int} (h : 0 ≤ Edn.szT es n) : Edn.szT es n + Edn.tot es + es.length ≤ n ∧ ∀ e ∈ es, ∀ r ∈ e.cs, (r.sz : Int) ≤ n := by
  unfold Edn.szT at h ⊢
  by_cases h1 : n - es.length < 0
  · rw [if_pos h1] at h; omega
  · rw [if_neg h1] at h ⊢
    obtain ⟨h2, h3⟩ := Edn.szl_bd es _ h
    exact ⟨by omega, fun e he r hr => by have := h3 e he r hr; omega⟩
theorem szEdition_l (y : Int) (A : Option Addr) (c : Nat) (cs : List Cls) (n : Int) (w : World) (hR : ClsR w A cs) (hw : ∀ r ∈ cs, r.wf) (hl : cs.length ≤ maxLen) (h0 : 0 ≤ n) (h1 : n ≤ 2000000) :
    Calls Try.prog 19 #[.agg #[.int .i64 y, .slice A cs.length c], .int .i64 n] w (Gives w (.int .i64 (Cls.szT cs n))) := by
  have HC := Lib.hid (fun (W : World) (b : Below w.heap.size w W) => szClauseS_l A c cs n W (hR.below b) hw hl h0 h1)
  have B : ∀ o, Hid (Below w.heap.size w (w.alloc o)) := fun o => Lib.hid ((Below.refl _ _).alloc (Nat.le_refl _) _)
  have HN := Lib.hid (Cls.szT_or cs n)
  obtain ⟨M, hM⟩ : ∃ M, M = Cls.szT cs n := ⟨_, rfl⟩
  rw [← hM] at HC HN ⊢
  clear hR hw hl h0 h1 hM
  by_cases hneg : M < 0
  · obtain rfl := HN.out hneg
    go_enter Try.func19, Try.ntmps19
    go_wp2_with (go_at_call 31; refine (HC.out _ (B _).out).mono ?_; rintro e w1 ⟨rfl, b1⟩)
    go_ret
    exact ⟨rfl, (B _).out.trans (b1.mono (B _).out.size)⟩
  · go_enter Try.func19, Try.ntmps19
    go_wp2_with (go_at_call 31; refine (HC.out _ (B _).out).mono ?_; rintro e w1 ⟨rfl, b1⟩)
    go_ret
    exact ⟨rfl, (B _).out.trans (b1.mono (B _).out.size)⟩
set_option maxHeartbeats 1000000 in
theorem szEditionS_l (A : Option Addr) (c : Nat) (rs : List Edn) (n : Int) (w : World) (hR : EdnR w A rs) (hw : ∀ r ∈ rs, r.wf) (hl : rs.length ≤ maxLen) (h0 : 0 ≤ n) (h1 : n ≤ 2000000) :
    Calls Try.prog 12 #[.slice A rs.length c, .int .i64 n] w (Gives w (.int .i64 (Edn.szT rs n))) := by
  unfold maxLen at hl
  by_cases hn : n - rs.length < 0
  · have E : Hid (Edn.szT rs n = -1) := Lib.hid (by rw [Edn.szT, if_pos hn])
    go_enter Try.func12, Try.ntmps12
    go_wp2_with fail
    go_ret
    exact ⟨by rw [E.out] <;> rfl, Below.refl _ _⟩
  · have E : Hid (Edn.szT rs n = Edn.szl rs (n - rs.length)) := Lib.hid (by rw [Edn.szT, if_neg hn])
    go_enter Try.func12, Try.ntmps12
    go_wp2_with fail
    go_loopw [1, 5] (fun m i wr => ∃ (k : Nat) (M : Int), k ≤ rs.length ∧ i = .int .i64 k ∧ m = .int .i64 M ∧ 0 ≤ M ∧ M ≤ n ∧ Hid (Edn.szl (rs.drop k) M = Edn.szl rs (n - rs.length)) ∧ Below w.heap.size w wr) (fun _ i _ => rs.length - (intOf i).toNat)
    case atStart => exact ⟨0, _, Nat.zero_le _, rfl, rfl, by omega, by omega, Lib.hid rfl, Below.refl _ _⟩
    case round =>
      obtain ⟨k, M, hk, rfl, rfl, hM0, hM1, hs, hb⟩ := hrel
      by_cases hlt : k < rs.length
      · obtain ⟨b, off, r, a, c', rfl, _, hr, c0, c1, hcl⟩ := (hR.below hb).at hlt
        have hrl := hw r (List.mem_of_getElem? hr.out)
        have HS : Hid (Edn.szl (rs.drop (k + 1)) (Cls.szT r.cs M) = Edn.szl rs (n - rs.length)) := Lib.hid (by rw [← hs.out, drop_of hr.out, Edn.szl_cons hM0])
        have HC := Lib.hid (szEdition_l r.y a c' r.cs M wr hcl hrl.2.2 hrl.2.1 (by omega) (by omega))
        have HN := Lib.hid (Cls.szT_or r.cs M)
        have HL := Lib.hid (fun h => Cls.szT_le (rs := r.cs) (n := M) h)
        obtain ⟨M2, hM2⟩ : ∃ M2, M2 = Cls.szT r.cs M := ⟨_, rfl⟩
        rw [← hM2] at HS HC HN HL
        clear hs hw hrl hcl hM2
        by_cases hneg : M2 < 0
        · obtain rfl := HN.out hneg
          have HS := Lib.hid (HS.out.symm.trans (Edn.szl_neg _))
          go_wp2_with (go_at_call 19; refine HC.out.mono ?_; rintro e w1 ⟨rfl, b1⟩)
          go_ret
          exact ⟨by rw [E.out, HS.out] <;> rfl, hb.trans (b1.mono hb.size)⟩
        · have hM20 : 0 ≤ M2 := by omega
          have hM21 : M2 ≤ n := by have := HL.out hM20; omega
          clear hneg HL HN
          go_wp2_with (go_at_call 19; refine HC.out.mono ?_; rintro e w1 ⟨rfl, b1⟩)
          go_roundw
          case rel => exact ⟨k + 1, _, by omega, by go_num, rfl, by omega, by omega, HS, hb.trans (b1.mono hb.size)⟩
          case measure => simp [intOf]; omega
      · have HS : Hid (M = Edn.szl rs (n - rs.length)) := Lib.hid (by rw [← hs.out, List.drop_eq_nil_of_le (by omega)]; rfl)
        clear hs
        go_wp2_with fail
        go_ret
        exact ⟨by rw [E.out, ← HS.out] <;> rfl, hb⟩

/-! ### equal ones -/
theorem eqEdition_same (y : Int) (A B : Option Addr) (n m c d : Nat) (cs : List Cls) (w : World) (hx : ClsR w A cs) (hy : ClsR w B cs) (hn1 : cs.length = n) (hm1 : cs.length = m) (hn : n ≤ 1000000000) :
    Calls Try.prog 23 #[.agg #[.int .i64 y, .slice A n c], .agg #[.int .i64 y, .slice B m d]] w (Gives w (.bool true)) := by
  have HC := Lib.hid (fun (W : World) (b : Below w.heap.size w W) => eqClauseS_l A B n m c d cs W (hx.below b) (hy.below b) hn1 hm1 hn)
  have B2 : ∀ o p, Hid (Below w.heap.size w ((w.alloc o).alloc p)) := fun o p => Lib.hid (((Below.refl _ _).alloc (Nat.le_refl _) _).alloc (by simp) _)
  have d1 : (y != y) = false := by simp
  clear hx hy
  go_enter Try.func23, Try.ntmps23
  go_wp2_with (go_at_call 36; refine (HC.out _ (B2 _ _).out).mono ?_; rintro e w1 ⟨rfl, b1⟩)
  go_ret
  exact ⟨rfl, (B2 _ _).out.trans (b1.mono (B2 _ _).out.size)⟩
set_option maxHeartbeats 2000000 in
theorem eqEditionS_l (A B : Option Addr) (n m c d : Nat) (rs : List Edn) (w : World) (hx : EdnR w A rs) (hy : EdnR w B rs) (hn1 : rs.length = n) (hm1 : rs.length = m) (hn : n ≤ 1000000000) (hcs : ∀ e ∈ rs, e.cs.length ≤ 1000000000) :
    Calls Try.prog 16 #[.slice A n c, .slice B m d] w (Gives w (.bool true)) := by
  subst hn1 hm1
  go_enter Try.func16, Try.ntmps16
  go_wp2_with fail
  go_loopw [5] (fun i wr => ∃ k : Nat, k ≤ rs.length ∧ i = .int .i64 k ∧ Below w.heap.size w wr) (fun i _ => rs.length - (intOf i).toNat)
  case atStart => exact ⟨0, Nat.zero_le _, rfl, Below.refl _ _⟩
  case round =>
    obtain ⟨k, hk, rfl, hb⟩ := hrel
    by_cases hlt : k < rs.length
    · obtain ⟨b, off, r, a, e1, rfl, hl, hr, u0, u1, hc1⟩ := (hx.below hb).at hlt
      obtain ⟨b', off', q, a', e2, rfl, hl', hq, v0, v1, hc2⟩ := (hy.below hb).at hlt
      obtain rfl : r = q := by have h1 := hr.out; have h2 := hq.out; rw [h1] at h2; exact Option.some.inj h2
      have q0 : ∀ z : Sub (Bel wr), z.w.cell? ⟨b, off + k * 2, none⟩ = some (.int .i64 r.y) := fun z => (Below.cell (show Below wr.heap.size wr z.w from z.h) (p := ⟨b, off + k * 2, none⟩) hl).trans u0
      have q1 : ∀ z : Sub (Bel wr), z.w.cell? ⟨b, off + k * 2 + 1, none⟩ = some (.slice a r.cs.length e1) := fun z => (Below.cell (show Below wr.heap.size wr z.w from z.h) (p := ⟨b, off + k * 2 + 1, none⟩) hl).trans u1
      have p0 : ∀ z : Sub (Bel wr), z.w.cell? ⟨b', off' + k * 2, none⟩ = some (.int .i64 r.y) := fun z => (Below.cell (show Below wr.heap.size wr z.w from z.h) (p := ⟨b', off' + k * 2, none⟩) hl').trans v0
      have p1 : ∀ z : Sub (Bel wr), z.w.cell? ⟨b', off' + k * 2 + 1, none⟩ = some (.slice a' r.cs.length e2) := fun z => (Below.cell (show Below wr.heap.size wr z.w from z.h) (p := ⟨b', off' + k * 2 + 1, none⟩) hl').trans v1
      have HB := Lib.hid (fun y : Sub (Bel wr) => (belowGo hb y.h : Below w.heap.size w y.w))
      have HE := Lib.hid (fun z : Sub (Bel wr) => (eqEdition_same r.y a a' r.cs.length r.cs.length e1 e2 r.cs z.w (hc1.below z.h) (hc2.below z.h) rfl rfl (hcs r (List.mem_of_getElem? hr.out))).mono fun e w' h => (⟨h.1, ⟨w', Bel.step z h.2⟩, rfl⟩ : e = .returned (.bool true) ∧ ∃ z : Sub (Bel wr), w' = z.w))
      clear hx hy hr hq u0 u1 v0 v1 hc1 hc2
      go_wp2_with fail
      refine region_held (Bel wr) (by kernel_rfl) (by kernel_rfl) (Bel.drew wr) ?_
      repeat (go_big_quiet_step ((first | rfl | (go_at_call 23; exact HE.out _))))
      refine wpQuiet_nil ?_
      rintro _ ⟨y, rfl⟩
      go_wp2_with fail
      go_roundw
      case rel => exact ⟨k + 1, by omega, by go_num, HB.out y⟩
      case measure => simp [intOf]; omega
    · clear hx hy
      go_wp2_with fail
      go_ret
      exact ⟨rfl, hb⟩
end Go.Proofs.Ytpdkgjmppknbpaa
