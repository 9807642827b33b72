import Derived.Test.YtaehkkcaoniphaaPa
import Derived.Deep.QuietTactic
import Derived.Deep.RegionHeld3
import Derived.WalkLawsBesides
import Derived.WalkSpells
import Derived.StillTailTactics
/- append of one element onto a row of the call's own. -/
namespace Go.Proofs.Ytaehkkcaoniphaa
open Go.ChangeShapes Go.WideShapes Go.ChangeAt Go.RowKit
set_option linter.unusedVariables false

theorem wpList_push {P : Program} (w : World) {ops : Array Oper} {rest : List Oper} {o : Oper} {a : Act} {Q : Exit → Act → World → Prop} (hgd : o.guard = none) (s x : Operand) (t : TypeId)
    (ho : o.op = .call { callee := .builtin .append, args := #[s, x], argTypes := #[t, t] })
    (base : Nat) (e : TypeId) (i : TypeInfo) (z : Value) (size bytes : Nat) (ht : P.underlying t = some (.slice e)) (hi : P.info? e = some i) (hz : i.zero = some z)
    (hsize : i.size = size) (hby : i.bytes = bytes) (hzs : z.cells.size = size) (hsz : 0 < size)
    (v : Value) (n : Nat) (xs : List Value) (hs : a.eval s = v) (hown : w.ownsRow base e size v n xs)
    (news : List Value) (hl : news.length = size) (h1 : ∀ u ∈ news, u.oneCell' = true)
    (hx : a.eval x = .slice (some ⟨w.heap.size, 0, none⟩) 1 1)
    (h63 : n + 1 ≤ maxLen) (hbytes : (n + 1) * bytes ≤ 140737488355328) (hbase : base ≤ w.heap.size)
    (h : ∀ v' w', w'.ownsRow base e size v' (n + 1) (xs ++ news) → Below base w w' → wpList P ops Q rest (a.put o.dst v') w') :
    wpList P ops Q (o :: rest) a (w.alloc (.cells news.toArray e)) := by
  refine wpList_append_own _ hgd s x t ho base e i z size bytes ht hi hz hsize hby hzs hsz v n xs hs (hown.alloc _) ⟨w.heap.size, 0, none⟩ 1 1 news hx (by omega) ?_ h1 h63 hbytes
    (by simp only [World.size_alloc]; omega) (fun v' w' h2 h3 _ => h v' w' h2 ?_)
  · intro j u hu
    rw [show ((⟨w.heap.size, 0, none⟩ : Addr).add j) = ⟨w.heap.size, 0 + j, none⟩ from by unfold Addr.add; split <;> simp_all,
      cell_of_row _ _ _ _ _ _ (heap_alloc_new w _)]
    simpa using hu
  · exact (((Below.refl base w).alloc hbase _)).grown h3 (by simp only [World.size_alloc]; omega) (fun k hk => (hown.lt k hk).1)

/-- The slice of a row that is owned, as the walk has it. -/
theorem own_form {w : World} {base : Nat} {e : TypeId} {size n : Nat} {v : Value} {xs : List Value} (h : w.ownsRow base e size v n xs) : ∃ A c, v = .slice A n c := by
  rcases h.2 with ⟨rfl, rfl⟩ | ⟨g, cap, _, rfl, _⟩
  · exact ⟨none, 0, rfl⟩
  · exact ⟨_, _, rfl⟩

/-- Two rows in different blocks. -/
def Sep (u v : Value) : Prop := ∀ k, u.ownBlock = some k → v.ownBlock ≠ some k
theorem Sep.symm {u v : Value} (h : Sep u v) : Sep v u := fun k hv hu => h k hu hv
theorem own_sep {w w' : World} {base : Nat} {e : TypeId} {size n : Nat} {u v : Value} {xs : List Value} (h : w.ownsRow base e size v n xs) (hs : Sep u v) (hg : w.grownBy w' u.ownBlock) : w'.ownsRow base e size v n xs := by
  refine h.kept hg ?_
  cases hv : v.ownBlock with
  | none => exact .inl rfl
  | some k => exact .inr (fun e => hs k e.symm hv)
theorem sep_push {w : World} {base : Nat} {e : TypeId} {size n : Nat} {u v u' : Value} {xs : List Value} (h : w.ownsRow base e size v n xs) (hs : Sep u v) (hu : u'.ownBlock = u.ownBlock ∨ ∃ k, w.heap.size ≤ k ∧ u'.ownBlock = some k) : Sep u' v := by
  intro k hk hv
  rcases hu with hu | ⟨k', h1, h2⟩
  · exact hs k (hu ▸ hk) hv
  · have := (h.lt k hv).2
    rw [h2] at hk; cases hk; omega

theorem wpList_push2 {P : Program} (w : World) {ops : Array Oper} {rest : List Oper} {o : Oper} {a : Act} {Q : Exit → Act → World → Prop} (hgd : o.guard = none) (s x : Operand) (t : TypeId)
    (ho : o.op = .call { callee := .builtin .append, args := #[s, x], argTypes := #[t, t] })
    (base : Nat) (e : TypeId) (i : TypeInfo) (z : Value) (size bytes : Nat) (ht : P.underlying t = some (.slice e)) (hi : P.info? e = some i) (hz : i.zero = some z)
    (hsize : i.size = size) (hby : i.bytes = bytes) (hzs : z.cells.size = size) (hsz : 0 < size)
    (v : Value) (n : Nat) (xs : List Value) (hs : a.eval s = v) (hown : w.ownsRow base e size v n xs)
    (news : List Value) (hl : news.length = size) (h1 : ∀ u ∈ news, u.oneCell' = true)
    (hx : a.eval x = .slice (some ⟨w.heap.size, 0, none⟩) 1 1)
    (h63 : n + 1 ≤ maxLen) (hbytes : (n + 1) * bytes ≤ 140737488355328) (hbase : base ≤ w.heap.size)
    (h : ∀ v' w', w'.ownsRow base e size v' (n + 1) (xs ++ news) → w.grownBy w' v.ownBlock → (v'.ownBlock = v.ownBlock ∨ ∃ k, w.heap.size ≤ k ∧ v'.ownBlock = some k) → wpList P ops Q rest (a.put o.dst v') w') :
    wpList P ops Q (o :: rest) a (w.alloc (.cells news.toArray e)) := by
  refine wpList_append_own_at _ hgd s x t ho base e i z size bytes ht hi hz hsize hby hzs hsz v n xs hs (hown.alloc _) ⟨w.heap.size, 0, none⟩ 1 1 news hx (by omega) ?_ h1 h63 hbytes
    (by simp only [World.size_alloc]; omega) (fun v' w' h2 h3 _ h5 => h v' w' h2 ((World.grownBy_alloc w _ _).trans h3) ?_)
  · intro j u hu
    rw [show ((⟨w.heap.size, 0, none⟩ : Addr).add j) = ⟨w.heap.size, 0 + j, none⟩ from by unfold Addr.add; split <;> simp_all,
      cell_of_row _ _ _ _ _ _ (heap_alloc_new w _)]
    simpa using hu
  · rcases h5 with h5 | h5
    · exact .inl h5
    · exact .inr ⟨_, by simp only [World.size_alloc]; omega, h5⟩
end Go.Proofs.Ytaehkkcaoniphaa

/- laws.toRate, szRateS, toRateS, eqRate, eqRateS: rates are copied, counted and compared. -/
namespace Go.Proofs.Ytaehkkcaoniphaa
open Go.ChangeShapes Go.WideShapes Go.ChangeAt Go.RowKit
set_option linter.unusedVariables false

theorem toRate_l (r : Rt) (w : World) : Calls Try.prog 35 #[.agg #[.string ⟨r.c.toArray⟩, .int .i64 r.day, .int .i64 r.num, .int .i64 r.den]] w
    (Gives w (.agg #[.string ⟨r.c.toArray⟩, .int .i64 r.day, .int .i64 r.num, .int .i64 r.den])) := by
  have B : ∀ o p q, Hid (Below w.heap.size w (((w.alloc o).alloc p).alloc q)) := fun o p q => Lib.hid ((((Below.refl _ _).alloc (Nat.le_refl _) _).alloc (by simp) _).alloc (by simp; omega) _)
  go_enter Try.func35, Try.ntmps35
  go_wp2_with fail
  exact bodyPost_ret (v := .agg #[.string ⟨r.c.toArray⟩, .int .i64 r.day, .int .i64 r.num, .int .i64 r.den]) (by simp [results, Try.results35, go_sem]) rfl ⟨rfl, (B _ _ _).out⟩

theorem eqRate_l (a b : Rt) (w : World) : Calls Try.prog 62 #[.agg #[.string ⟨a.c.toArray⟩, .int .i64 a.day, .int .i64 a.num, .int .i64 a.den], .agg #[.string ⟨b.c.toArray⟩, .int .i64 b.day, .int .i64 b.num, .int .i64 b.den]] w
    (Gives w (.bool (a.c == b.c && (a.day == b.day && (a.num == b.num && a.den == b.den))))) := by
  have B : ∀ o p, Hid (Below w.heap.size w ((w.alloc o).alloc p)) := fun o p => Lib.hid (((Below.refl _ _).alloc (Nat.le_refl _) _).alloc (by simp) _)
  obtain ⟨ac, ad, an, ae⟩ := a
  obtain ⟨bc, bd, bn, be⟩ := b
  rcases Bool.eq_false_or_eq_true (ac == bc) with h0 | h0
  · rcases Bool.eq_false_or_eq_true (ad != bd) with h1 | h1
    · have E : Hid ((ac == bc && (ad == bd && (an == bn && ae == be))) = false) := Lib.hid (by have : (ad == bd) = false := by simpa using h1
                                                                                               simp [this])
      go_enter Try.func62, Try.ntmps62
      go_wp2_with fail
      go_ret
      exact ⟨by rw [E.out] <;> rfl, (B _ _).out⟩
    · rcases Bool.eq_false_or_eq_true (an != bn) with h2 | h2
      · have E : Hid ((ac == bc && (ad == bd && (an == bn && ae == be))) = false) := Lib.hid (by have : (an == bn) = false := by simpa using h2
                                                                                                 simp [this])
        go_enter Try.func62, Try.ntmps62
        go_wp2_with fail
        go_ret
        exact ⟨by rw [E.out] <;> rfl, (B _ _).out⟩
      · rcases Bool.eq_false_or_eq_true (ae != be) with h3 | h3
        · have E : Hid ((ac == bc && (ad == bd && (an == bn && ae == be))) = false) := Lib.hid (by have : (ae == be) = false := by simpa using h3
                                                                                                   simp [this])
          go_enter Try.func62, Try.ntmps62
          go_wp2_with fail
          go_ret
          exact ⟨by rw [E.out] <;> rfl, (B _ _).out⟩
        · have E : Hid ((ac == bc && (ad == bd && (an == bn && ae == be))) = true) := Lib.hid (by
            have h1' : (ad == bd) = true := by simpa using h1
            have h2' : (an == bn) = true := by simpa using h2
            have h3' : (ae == be) = true := by simpa using h3
            simp [h0, h1', h2', h3'])
          go_enter Try.func62, Try.ntmps62
          go_wp2_with fail
          go_ret
          exact ⟨by rw [E.out] <;> rfl, (B _ _).out⟩
  · have E : Hid ((ac == bc && (ad == bd && (an == bn && ae == be))) = false) := Lib.hid (by simp [h0])
    go_enter Try.func62, Try.ntmps62
    go_wp2_with fail
    go_ret
    exact ⟨by rw [E.out] <;> rfl, (B _ _).out⟩

/-! ### rows of rates -/
theorem szRate_l (r : Rt) (n : Int) (w : World) (h0 : 0 ≤ n) (h1 : n ≤ 2000000) (hl : r.c.length ≤ maxLen) :
    Calls Try.prog 33 #[.agg #[.string ⟨r.c.toArray⟩, .int .i64 r.day, .int .i64 r.num, .int .i64 r.den], .int .i64 n] w (Gives w (.int .i64 (if n - r.c.length < 0 then -1 else n - r.c.length))) := by
  unfold maxLen at hl
  have hz : (⟨r.c.toArray⟩ : ByteArray).size = r.c.length := rfl
  have B : ∀ o, Hid (Below w.heap.size w (w.alloc o)) := fun o => Lib.hid ((Below.refl _ _).alloc (Nat.le_refl _) _)
  by_cases h : n - r.c.length < 0
  · have E : Hid ((if n - r.c.length < 0 then -1 else n - r.c.length : Int) = -1) := Lib.hid (by rw [if_pos h])
    go_enter Try.func33, Try.ntmps33
    go_wp2_with fail
    go_ret
    exact ⟨by first | rfl | exact congrArg (fun x => Ending.returned (Value.int .i64 x)) E.out.symm, (B _).out⟩
  · have E : Hid ((if n - r.c.length < 0 then -1 else n - r.c.length : Int) = n - r.c.length) := Lib.hid (by rw [if_neg h])
    go_enter Try.func33, Try.ntmps33
    go_wp2_with fail
    go_ret
    exact ⟨by first | rfl | exact congrArg (fun x => Ending.returned (Value.int .i64 x)) E.out.symm, (B _).out⟩
theorem Rr.below {w w' : World} {A : Option Addr} {rs : List Rt} (h : Rr w A rs) (hb : Below w.heap.size w w') : Rr w' A rs := Rw.below h hb
def szT (rs : List Rt) (n : Int) : Int := if n - rs.length < 0 then -1 else szl rs (n - rs.length)
theorem szl_neg (rs : List Rt) : szl rs (-1) = -1 := by cases rs <;> rfl
theorem szl_bd : ∀ (rs : List Rt) (n : Int), 0 ≤ szl rs n → szl rs n ≤ n ∧ ∀ r ∈ rs, (r.c.length : Int) ≤ n
  | [], n, h => ⟨Int.le_refl _, fun r hr => by cases hr⟩
  | r :: rs, n, h => by
    unfold szl at h ⊢
    by_cases hn : n < 0
    · rw [if_pos hn] at h; omega
    · rw [if_neg hn] at h ⊢
      by_cases h1 : n - r.c.length < 0
      · rw [if_pos h1, szl_neg] at h; omega
      · rw [if_neg h1] at h ⊢
        obtain ⟨h2, h3⟩ := szl_bd rs _ h
        refine ⟨by omega, fun q hq => ?_⟩
        rcases List.mem_cons.1 hq with rfl | hq
        · omega
        · have := h3 q hq; omega
theorem szT_bd {rs : List Rt} {n : Int} (h : 0 ≤ szT rs n) : szT rs n ≤ n ∧ (rs.length : Int) ≤ n ∧ ∀ r ∈ rs, (r.c.length : Int) ≤ n := by
  unfold szT at h ⊢
  by_cases h1 : n - rs.length < 0
  · rw [if_pos h1] at h; omega
  · rw [if_neg h1] at h ⊢
    obtain ⟨h2, h3⟩ := szl_bd rs _ h
    exact ⟨by omega, by omega, fun r hr => by have := h3 r hr; omega⟩
theorem szl_cons {r : Rt} {rs : List Rt} {m : Int} (hm : 0 ≤ m) : szl (r :: rs) m = szl rs (if m - r.c.length < 0 then -1 else m - r.c.length) := by rw [szl, if_neg (by omega)]
/-- Rates that came in: each text is no longer than a text can be. -/
def Rok (rs : List Rt) : Prop := ∀ r ∈ rs, r.c.length ≤ maxLen
set_option maxHeartbeats 1000000 in
theorem szRateS_l (A : Option Addr) (c : Nat) (rs : List Rt) (n : Int) (w : World) (hR : Rr w A rs) (hw : Rok rs) (hl : rs.length ≤ maxLen) (h0 : 0 ≤ n) (h1 : n ≤ 2000000) :
    Calls Try.prog 32 #[.slice A rs.length c, .int .i64 n] w (Gives w (.int .i64 (szT rs n))) := by
  unfold maxLen at hl
  by_cases hn : n - rs.length < 0
  · have E : Hid (szT rs n = -1) := Lib.hid (by rw [szT, if_pos hn])
    go_enter Try.func32, Try.ntmps32
    go_wp2_with fail
    go_ret
    exact ⟨by rw [E.out] <;> rfl, Below.refl _ _⟩
  · have E : Hid (szT rs n = szl rs (n - rs.length)) := Lib.hid (by rw [szT, if_neg hn])
    go_enter Try.func32, Try.ntmps32
    go_wp2_with fail
    go_loopw [1, 5] (fun m i wr => ∃ (k : Nat) (M : Int), k ≤ rs.length ∧ i = .int .i64 k ∧ m = .int .i64 M ∧ 0 ≤ M ∧ M ≤ n ∧ Hid (szl (rs.drop k) M = szl rs (n - rs.length)) ∧ Below w.heap.size w wr) (fun _ i _ => rs.length - (intOf i).toNat)
    case atStart => exact ⟨0, _, Nat.zero_le _, rfl, rfl, by omega, by omega, Lib.hid rfl, Below.refl _ _⟩
    case round =>
      obtain ⟨k, M, hk, rfl, rfl, hM0, hM1, hs, hb⟩ := hrel
      by_cases hlt : k < rs.length
      · obtain ⟨b, off, r, rfl, _, hr, c0, c1, c2, c3⟩ := (hR.below hb).at hlt
        have hrl := hw r (List.mem_of_getElem? hr.out)
        have HS : Hid (szl (rs.drop (k + 1)) (if M - r.c.length < 0 then -1 else M - r.c.length) = szl rs (n - rs.length)) := Lib.hid (by rw [← hs.out, drop_of hr.out, szl_cons hM0])
        have HC := Lib.hid (szRate_l r M wr (by omega) (by omega) hrl)
        clear hs hw hrl
        by_cases hneg : M - r.c.length < 0
        · rw [if_pos hneg] at HS HC
          have HS := Lib.hid (HS.out.symm.trans (szl_neg _))
          go_wp2_with (go_at_call 33; refine HC.out.mono ?_; rintro e w1 ⟨rfl, b1⟩)
          go_ret
          exact ⟨by rw [E.out, HS.out] <;> rfl, hb.trans (b1.mono hb.size)⟩
        · rw [if_neg hneg] at HS HC
          go_wp2_with (go_at_call 33; refine HC.out.mono ?_; rintro e w1 ⟨rfl, b1⟩)
          go_roundw
          case rel => exact ⟨k + 1, _, by omega, by go_num, rfl, by omega, by omega, HS, hb.trans (b1.mono hb.size)⟩
          case measure => simp [intOf]; omega
      · have HS : Hid (M = szl rs (n - rs.length)) := Lib.hid (by rw [← hs.out, List.drop_eq_nil_of_le (by omega)]; rfl)
        clear hs
        go_wp2_with fail
        go_ret
        exact ⟨by rw [E.out, ← HS.out] <;> rfl, hb⟩

/-! ### a row of rates of the call's own -/
theorem rateInfo : (Try.prog.info? 30).map (fun i => (i.zero, i.size, i.bytes)) = some (some (.agg #[.string ⟨#[]⟩, .int .i64 0, .int .i64 0, .int .i64 0]), 4, 40) := by kernel_rfl
def Or (w : World) (base : Nat) (A : Option Addr) (n c : Nat) (rs : List Rt) : Prop := w.ownsRow base 30 4 (.slice A n c) n (rs.flatMap Rt.cells)
theorem Rw.ownS {w : World} {base n size : Nat} {e : TypeId} {A : Option Addr} {c : Nat} {vs : List Value} (h : w.ownsRow base e size (.slice A n c) n vs) : Rw w A vs := fun hp => by
  rcases h.2 with ⟨hv, hx⟩ | ⟨g, cap, cur, hv, _, hh, _⟩
  · have h1 := h.1; rw [hx, Nat.zero_mul] at h1; omega
  · have hlt := (h.lt g (by rw [hv]; rfl)).2
    injection hv with hA _ _
    subst hA
    refine ⟨g, 0, rfl, hlt, fun j v hj => ?_⟩
    have := h.cells (g := g) rfl j v hj
    rwa [show ((⟨g, 0, none⟩ : Addr).add j) = ⟨g, 0 + j, none⟩ from by unfold Addr.add; split <;> simp_all] at this
section
variable {w w' : World} {base : Nat} {A : Option Addr} {n c : Nat} {rs : List Rt}
theorem Or.len (h : Or w base A n c rs) : rs.length = n := by
  have := h.1; rw [flat_len Rt.cells 4 (fun _ => rfl)] at this; omega
theorem Or.rr (h : Or w base A n c rs) : Rr w A rs := Rw.ownS h
theorem Or.bd (h : Or w base A n c rs) : Bd A w.heap.size := fun a e => (h.lt a.block (by rw [e]; rfl)).2
theorem Or.lo (h : Or w base A n c rs) : ∀ k, (Value.slice A n c).ownBlock = some k → base ≤ k := fun k e => (h.lt k e).1
theorem own_below {e : TypeId} {size : Nat} {v : Value} {xs : List Value} (h : w.ownsRow base e size v n xs) (hb : Below w.heap.size w w') : w'.ownsRow base e size v n xs := by
  refine ⟨h.1, ?_⟩
  rcases h.2 with h1 | ⟨g, cap, cur, h1, h2, h3, h4⟩
  · exact .inl h1
  · exact .inr ⟨g, cap, cur, h1, h2, (hb.block g (by
      rcases Nat.lt_or_ge g w.heap.size with hlt | hge
      · exact hlt
      · rw [Array.getElem?_eq_none hge] at h3; cases h3)).trans h3, h4⟩
theorem Or.below (h : Or w base A n c rs) (hb : Below w.heap.size w w') : Or w' base A n c rs := own_below h hb
theorem Or.mono {base' : Nat} (h : Or w base A n c rs) (hb : base' ≤ base) : Or w base' A n c rs := by
  refine ⟨h.1, h.2.imp id ?_⟩
  rintro ⟨g, cap, cur, h1, h2, h3⟩
  exact ⟨g, cap, cur, h1, by omega, h3⟩
end
/-- What a function that hands back new rates leaves. -/
def NewRates (w : World) (rs : List Rt) (e : Ending) (w' : World) : Prop :=
  ∃ A c, e = .returned (.slice A rs.length c) ∧ Or w' w.heap.size A rs.length c rs ∧ Below w.heap.size w w'
theorem set4 {ys : List Value} {k : Nat} (hk : k * 4 + 3 < ys.length) {a b c d : Value} {P : List Value} (h : ys.take (k * 4) = P) :
    ((((ys.set (k * 4) a).set (k * 4 + 1) b).set (k * 4 + 2) c).set (k * 4 + 3) d).take ((k + 1) * 4) = P ++ [a, b, c, d] := by
  apply List.ext_getElem?
  intro j
  subst h
  rw [List.getElem?_take, List.getElem?_append, List.length_take, Nat.min_eq_left (by omega)]
  by_cases h1 : j < k * 4
  · rw [if_pos (by omega), if_pos h1, List.getElem?_take, if_pos h1]
    rw [List.getElem?_set_ne (by omega), List.getElem?_set_ne (by omega), List.getElem?_set_ne (by omega), List.getElem?_set_ne (by omega)]
  · rw [if_neg h1]
    by_cases h2 : j < (k + 1) * 4
    · rw [if_pos h2]
      have : j = k * 4 ∨ j = k * 4 + 1 ∨ j = k * 4 + 2 ∨ j = k * 4 + 3 := by omega
      rcases this with rfl | rfl | rfl | rfl
      · rw [List.getElem?_set_ne (by omega), List.getElem?_set_ne (by omega), List.getElem?_set_ne (by omega), List.getElem?_set_self (by omega), Nat.sub_self]; rfl
      · rw [List.getElem?_set_ne (by omega), List.getElem?_set_ne (by omega), List.getElem?_set_self (by simp; omega), show k * 4 + 1 - k * 4 = 1 by omega]; rfl
      · rw [List.getElem?_set_ne (by omega), List.getElem?_set_self (by simp; omega), show k * 4 + 2 - k * 4 = 2 by omega]; rfl
      · rw [List.getElem?_set_self (by simp; omega), show k * 4 + 3 - k * 4 = 3 by omega]; rfl
    · rw [if_neg h2, List.getElem?_eq_none (by simp; omega)]
theorem stored4 {w : World} {base g n c : Nat} {e : TypeId} {xs : List Value} (h : w.ownsRow base e 4 (.slice (some ⟨g, 0, none⟩) n c) n xs) (j : Nat) (a b d f : Value) :
    ((((w.setCell ⟨g, j, none⟩ a).setCell ⟨g, j + 1, none⟩ b).setCell ⟨g, j + 2, none⟩ d).setCell ⟨g, j + 3, none⟩ f).ownsRow base e 4 (.slice (some ⟨g, 0, none⟩) n c) n ((((xs.set j a).set (j + 1) b).set (j + 2) d).set (j + 3) f) ∧
    w.grownBy ((((w.setCell ⟨g, j, none⟩ a).setCell ⟨g, j + 1, none⟩ b).setCell ⟨g, j + 2, none⟩ d).setCell ⟨g, j + 3, none⟩ f) (some g) := by
  have h1 := h.stored j a
  have h2 := h1.1.stored (j + 1) b
  have h3 := h2.1.stored (j + 2) d
  have h4 := h3.1.stored (j + 3) f
  exact ⟨h4.1, ((h1.2.trans h2.2).trans h3.2).trans h4.2⟩

theorem own_at {w : World} {base g n c size : Nat} {e : TypeId} {xs : List Value} (h : w.ownsRow base e size (.slice (some ⟨g, 0, none⟩) n c) n xs) (j : Nat) (hj : j < xs.length) : ∃ v, w.cell? ⟨g, j, none⟩ = some v :=
  ⟨xs[j], by rw [h.cellAt j (by rw [← h.1]; exact hj)]; simp [hj]⟩
set_option maxHeartbeats 2000000 in
theorem toRateS_l (A : Option Addr) (c : Nat) (rs : List Rt) (w : World) (hR : Rr w A rs) (hn : rs.length ≤ 1048576) :
    Calls Try.prog 34 #[.slice A rs.length c] w (NewRates w rs) := by
  obtain ⟨i0, hi, hz0, hz1, hz2⟩ := info_parts rateInfo
  go_enter Try.func34, Try.ntmps34
  go_wp2_with (at_make; refine wpList_make_full _ rfl _ _ 24 rfl w.heap.size 30 i0 _ 4 Try.underlying24 hi hz0 hz1 .i64 .i64 _ _ rs.length rfl rfl rfl rfl (by rw [hz2]; omega) (by unfold maxLen; omega) (Nat.le_refl _) ?_; intro w1 hown1 hg1)
  have hb1 : Below w.heap.size w w1 := (Below.refl _ _).grown hg1 (Nat.le_refl _) (by simp)
  clear hg1
  go_loopw [4] (fun i wr => ∃ (k : Nat) (ys : List Value), k ≤ rs.length ∧ i = .int .i64 k ∧ wr.ownsRow w.heap.size 30 4 (.slice (some ⟨w.heap.size, 0, none⟩) rs.length rs.length) rs.length ys ∧
    Hid (ys.take (k * 4) = (rs.take k).flatMap Rt.cells) ∧ Below w.heap.size w wr) (fun i _ => rs.length - (intOf i).toNat)
  case atStart => exact ⟨0, _, Nat.zero_le _, rfl, hown1, Lib.hid (by simp), hb1⟩
  case round =>
    obtain ⟨k, ys, hk, rfl, hown, ht, hb⟩ := hrel
    clear hown1 hb1
    by_cases hlt : k < rs.length
    · obtain ⟨b, off, r, rfl, _, hr, c0, c1, c2, c3⟩ := (hR.below hb).at hlt
      have HT : Hid ((((((ys.set (k * 4) (.string ⟨r.c.toArray⟩)).set (k * 4 + 1) (.int .i64 r.day)).set (k * 4 + 2) (.int .i64 r.num)).set (k * 4 + 3) (.int .i64 r.den))).take ((k + 1) * 4) = (rs.take (k + 1)).flatMap Rt.cells) := Lib.hid (by
        rw [set4 (by have := hown.1; omega) ht.out, snoc_of hr.out, List.flatMap_append]; simp [Rt.cells])
      have HO := Lib.hid hown
      have hyl : k * 4 + 3 < ys.length := by have := hown.1; omega
      clear ht hown
      go_wp2_with fail
      refine (toRate_l r _).mono ?_
      rintro e w1 ⟨rfl, b1⟩
      have hown := own_below HO.out b1
      clear HO
      have hb2 := hb.trans (b1.mono hb.size)
      obtain ⟨o0, k0⟩ := own_at hown (k * 4) (by omega)
      obtain ⟨o1, k1⟩ := own_at hown (k * 4 + 1) (by omega)
      obtain ⟨o2, k2⟩ := own_at hown (k * 4 + 2) (by omega)
      obtain ⟨o3, k3⟩ := own_at hown (k * 4 + 3) (by omega)
      have f0 := hown.frozenAt (k * 4)
      have f1 := hown.frozenAt (k * 4 + 1)
      have f2 := hown.frozenAt (k * 4 + 2)
      have f3 := hown.frozenAt (k * 4 + 3)
      have HS := Lib.hid (stored4 hown (k * 4) (.string ⟨r.c.toArray⟩) (.int .i64 r.day) (.int .i64 r.num) (.int .i64 r.den))
      clear hown
      go_wp2_with fail
      go_roundw
      case rel => exact ⟨k + 1, _, by omega, by go_num, HS.out.1, HT, hb2.grown HS.out.2 hb2.size (by simp)⟩
      case measure => simp [intOf]; omega
    · have HT : Hid (ys = rs.flatMap Rt.cells) := Lib.hid (by
        have h1 := ht.out; have h2 := hown.1
        rwa [take_all hk hlt, List.take_of_length_le (by omega)] at h1)
      clear ht
      go_wp2_with fail
      go_ret
      exact ⟨_, _, rfl, by have := HT.out; subst this; exact hown, hb⟩
end Go.Proofs.Ytaehkkcaoniphaa

/- laws.eqRateS: equal rates are told equal. -/
namespace Go.Proofs.Ytaehkkcaoniphaa
open Go.ChangeShapes Go.WideShapes Go.ChangeAt Go.RowKit
set_option linter.unusedVariables false

/-- The four cells of a rate. -/
structure Cells4 (W : World) (b o : Nat) (r : Rt) : Prop where
  c0 : W.cell? ⟨b, o, none⟩ = some (.string ⟨r.c.toArray⟩)
  c1 : W.cell? ⟨b, o + 1, none⟩ = some (.int .i64 r.day)
  c2 : W.cell? ⟨b, o + 2, none⟩ = some (.int .i64 r.num)
  c3 : W.cell? ⟨b, o + 3, none⟩ = some (.int .i64 r.den)
theorem Cells4.below {w W : World} {b o : Nat} {r : Rt} (h : Cells4 w b o r) (hl : b < w.heap.size) (hb : Below w.heap.size w W) : Cells4 W b o r :=
  ⟨(hb.cell (p := ⟨b, o, none⟩) hl).trans h.c0, (hb.cell (p := ⟨b, o + 1, none⟩) hl).trans h.c1, (hb.cell (p := ⟨b, o + 2, none⟩) hl).trans h.c2, (hb.cell (p := ⟨b, o + 3, none⟩) hl).trans h.c3⟩
theorem Rr.four {w : World} {A : Option Addr} {rs : List Rt} (h : Rr w A rs) {k : Nat} (hk : k < rs.length) :
    ∃ b off r, A = some ⟨b, off, none⟩ ∧ b < w.heap.size ∧ Hid (rs[k]? = some r) ∧ Cells4 w b (off + k * 4) r := by
  obtain ⟨b, off, r, e, hl, hr, c0, c1, c2, c3⟩ := h.at hk
  exact ⟨b, off, r, e, hl, hr, c0, c1, c2, c3⟩
/-- Two rates stand as they did; nothing below is written. -/
def Held2 (w0 : World) (b o b' o' : Nat) (r q : Rt) (W : World) : Prop :=
  Below w0.heap.size w0 W ∧ W.cell? ⟨b, o, none⟩ = some (.string ⟨r.c.toArray⟩) ∧ W.cell? ⟨b, o + 1, none⟩ = some (.int .i64 r.day) ∧ W.cell? ⟨b, o + 2, none⟩ = some (.int .i64 r.num) ∧ W.cell? ⟨b, o + 3, none⟩ = some (.int .i64 r.den) ∧
    W.cell? ⟨b', o', none⟩ = some (.string ⟨q.c.toArray⟩) ∧ W.cell? ⟨b', o' + 1, none⟩ = some (.int .i64 q.day) ∧ W.cell? ⟨b', o' + 2, none⟩ = some (.int .i64 q.num) ∧ W.cell? ⟨b', o' + 3, none⟩ = some (.int .i64 q.den)
theorem held2 {w0 W : World} {b o b' o' : Nat} {r q : Rt} (h : Cells4 w0 b o r) (hl : b < w0.heap.size) (h' : Cells4 w0 b' o' q) (hl' : b' < w0.heap.size) (hb : Below w0.heap.size w0 W) :
    Below w0.heap.size w0 W ∧ W.cell? ⟨b, o, none⟩ = some (.string ⟨r.c.toArray⟩) ∧ W.cell? ⟨b, o + 1, none⟩ = some (.int .i64 r.day) ∧ W.cell? ⟨b, o + 2, none⟩ = some (.int .i64 r.num) ∧ W.cell? ⟨b, o + 3, none⟩ = some (.int .i64 r.den) ∧
    W.cell? ⟨b', o', none⟩ = some (.string ⟨q.c.toArray⟩) ∧ W.cell? ⟨b', o' + 1, none⟩ = some (.int .i64 q.day) ∧ W.cell? ⟨b', o' + 2, none⟩ = some (.int .i64 q.num) ∧ W.cell? ⟨b', o' + 3, none⟩ = some (.int .i64 q.den) := by
  have g := h.below hl hb
  have g' := h'.below hl' hb
  exact ⟨hb, g.c0, g.c1, g.c2, g.c3, g'.c0, g'.c1, g'.c2, g'.c3⟩
theorem eqRate_same (r : Rt) (w0 W : World) (hb : Below w0.heap.size w0 W) : Calls Try.prog 62 #[.agg #[.string ⟨r.c.toArray⟩, .int .i64 r.day, .int .i64 r.num, .int .i64 r.den], .agg #[.string ⟨r.c.toArray⟩, .int .i64 r.day, .int .i64 r.num, .int .i64 r.den]] W
    fun e w' => e = .returned (.bool true) ∧ Below w0.heap.size w0 w' := by
  refine (eqRate_l r r W).mono ?_
  rintro e w' ⟨rfl, b1⟩
  exact ⟨by simp, belowGo hb b1⟩

set_option maxHeartbeats 2000000 in
theorem eqRateS_l (A B : Option Addr) (c d : Nat) (rs : List Rt) (w : World) (hx : Rr w A rs) (hy : Rr w B rs) (hn : rs.length ≤ 1000000000) :
    Calls Try.prog 36 #[.slice A rs.length c, .slice B rs.length d] w (Gives w (.bool true)) := by
  go_enter Try.func36, Try.ntmps36
  go_wp2_with fail
  go_loopw [5] (fun i wr => ∃ k : Nat, k ≤ rs.length ∧ i = .int .i64 k ∧ Below w.heap.size w wr) (fun i _ => rs.length - (intOf i).toNat)
  case atStart => exact ⟨0, Nat.zero_le _, rfl, Below.refl _ _⟩
  case round =>
    obtain ⟨k, hk, rfl, hb⟩ := hrel
    by_cases hlt : k < rs.length
    · obtain ⟨b, off, r, rfl, hl, hr, h4⟩ := (hx.below hb).four hlt
      obtain ⟨b', off', q, rfl, hl', hq, h4'⟩ := (hy.below hb).four hlt
      obtain rfl : r = q := by have h1 := hr.out; have h2 := hq.out; rw [h1] at h2; exact Option.some.inj h2
      have HK := Lib.hid (fun W (hW : Below wr.heap.size wr W) => held2 h4 hl h4' hl' hW)
      have HE := Lib.hid (fun W (hW : Below wr.heap.size wr W) => eqRate_same r wr W hW)
      have k0 := HK.out _ ((Below.refl wr.heap.size wr).drew)
      have c0 := h4.c0; have c1 := h4.c1; have c2 := h4.c2; have c3 := h4.c3
      have d0 := h4'.c0; have d1 := h4'.c1; have d2 := h4'.c2; have d3 := h4'.c3
      clear hx hy hr hq h4 h4'
      go_wp2_with fail
      go_region_held3 (fun W => Below wr.heap.size wr W ∧ W.cell? ⟨b, off + k * 4, none⟩ = some (.string ⟨r.c.toArray⟩) ∧ W.cell? ⟨b, off + k * 4 + 1, none⟩ = some (.int .i64 r.day) ∧ W.cell? ⟨b, off + k * 4 + 2, none⟩ = some (.int .i64 r.num) ∧ W.cell? ⟨b, off + k * 4 + 3, none⟩ = some (.int .i64 r.den) ∧
          W.cell? ⟨b', off' + k * 4, none⟩ = some (.string ⟨r.c.toArray⟩) ∧ W.cell? ⟨b', off' + k * 4 + 1, none⟩ = some (.int .i64 r.day) ∧ W.cell? ⟨b', off' + k * 4 + 2, none⟩ = some (.int .i64 r.num) ∧ W.cell? ⟨b', off' + k * 4 + 3, none⟩ = some (.int .i64 r.den))
        (first | exact k0 | assumption | exact HK.out _ (by assumption))
        (first | (go_at_call 62; refine (HE.out _ ?_).mono ?_; (first | assumption | exact (by assumption : _ ∧ _).1); rintro e w1 ⟨rfl, b1⟩))
      all_goals
        go_wp2_with fail
        go_roundw
        case rel => exact ⟨k + 1, by omega, by go_num, belowGo hb (by first | assumption | exact (by assumption : _ ∧ _).1)⟩
        case measure => simp [intOf]; omega
    · clear hx hy
      go_wp2_with fail
      go_ret
      exact ⟨rfl, hb⟩
end Go.Proofs.Ytaehkkcaoniphaa

/- Codes of currencies: impl.IsCode and spec.IsCode. -/
namespace Go.Proofs.Ytaehkkcaoniphaa
open Go.ChangeShapes Go.WideShapes Go.ChangeAt Go.RowKit
set_option linter.unusedVariables false

theorem byte_at (s : List UInt8) (k : Nat) (b : UInt8) (hb : s[k]? = some b) : ∀ h, ((⟨s.toArray⟩ : ByteArray)[k]'h).toNat = b.toNat := by
  intro h
  obtain ⟨h2, e⟩ := List.getElem?_eq_some_iff.1 hb
  rw [← e]; rfl
theorem all_no {s : List UInt8} {k : Nat} {b : UInt8} (hb : s[k]? = some b) (h : upb b = false) : s.all upb = false := by
  rw [List.all_eq_false]; exact ⟨b, List.mem_of_getElem? hb, by simp [h]⟩
theorem all_take {s : List UInt8} {k : Nat} (hk : k ≤ s.length) (hl : ¬ k < s.length) (h : (s.take k).all upb = true) : s.all upb = true := by rwa [take_all hk hl] at h
theorem upb_no {c : UInt8} : upb c = false ↔ (c.toNat : Int) < 65 ∨ 90 < (c.toNat : Int) := by
  unfold upb; rw [decide_eq_false_iff_not]; omega

set_option maxHeartbeats 1000000 in
theorem hasOnly_i (s : List UInt8) (w : World) (hl : s.length ≤ 9223372036854775807) : Calls Try.prog 61 #[.string ⟨s.toArray⟩, .int .u8 65, .int .u8 90] w fun e w' => e = .returned (.bool (s.all upb)) ∧ w = w' := by
  have hz : (⟨s.toArray⟩ : ByteArray).size = s.length := rfl
  go_enter Try.func61, Try.ntmps61
  go_wp2_with fail
  go_loop [10, 7] (fun i j => ∃ k : Nat, k ≤ s.length ∧ i = .int .i64 k ∧ Hid ((s.take k).all upb = true)) (fun i _ => s.length - (intOf i).toNat)
  case atStart => exact ⟨0, Nat.zero_le _, rfl, Lib.hid rfl⟩
  case round =>
    obtain ⟨k, hk, rfl, ht⟩ := hrel
    by_cases hlt : k < s.length
    · obtain ⟨b, hbk⟩ : ∃ b, s[k]? = some b := ⟨s[k], by simp [hlt]⟩
      have hbn := byte_at s k b hbk
      have hb255 : (b.toNat : Int) ≤ 255 := by have := b.toNat_lt; omega
      rcases (by omega : ((b.toNat : Int) < 65) ∨ (¬ (b.toNat : Int) < 65 ∧ 90 < (b.toNat : Int)) ∨ (¬ (b.toNat : Int) < 65 ∧ ¬ 90 < (b.toNat : Int))) with h | ⟨h, h'⟩ | ⟨h, h'⟩
      · have E := Lib.hid (all_no hbk (upb_no.2 (.inl h)))
        have d : decide (b.toNat < 65) = true := by simp; omega
        clear hbk ht
        go_wp2_with fail
        go_ret
        exact ⟨by rw [E.out] <;> rfl, rfl⟩
      · have E := Lib.hid (all_no hbk (upb_no.2 (.inr h')))
        have d : decide (b.toNat < 65) = false := by simp; omega
        have d' : decide (90 < b.toNat) = true := by simp; omega
        clear hbk ht
        go_wp2_with fail
        go_ret
        exact ⟨by rw [E.out] <;> rfl, rfl⟩
      · have HT : Hid ((s.take (k + 1)).all upb = true) := Lib.hid (by rw [snoc_of hbk, List.all_append, ht.out]; simp [upb]; omega)
        have d : decide (b.toNat < 65) = false := by simp; omega
        have d' : decide (90 < b.toNat) = false := by simp; omega
        clear hbk ht
        go_wp2_with fail
        go_round
        case rel => exact ⟨k + 1, by omega, by go_num, HT⟩
        case measure => simp [intOf]; omega
    · have E := Lib.hid (all_take hk hlt ht.out)
      clear ht
      go_wp2_with fail
      go_ret
      exact ⟨by rw [E.out] <;> rfl, rfl⟩
theorem code_no3 {s : List UInt8} (h : s.length ≠ 3) : codeB s = false := by
  unfold codeB; rw [Bool.and_eq_false_iff]; left; rw [decide_eq_false_iff_not]; omega
theorem code_3 {s : List UInt8} (h : s.length = 3) : codeB s = s.all upb := by
  unfold codeB; rw [show decide ((s.length : Int) = 3) = true by rw [decide_eq_true_eq]; omega, Bool.true_and]
theorem isCode_i (s : List UInt8) (w : World) (hl : s.length ≤ 9223372036854775807) : Calls Try.prog 30 #[.string ⟨s.toArray⟩] w fun e w' => e = .returned (.bool (codeB s)) ∧ w = w' := by
  have hz : (⟨s.toArray⟩ : ByteArray).size = s.length := rfl
  by_cases h3 : s.length = 3
  · have E := Lib.hid (code_3 h3)
    have d : ((s.length : Int) == 3) = true := by rw [beq_iff_eq]; omega
    clear h3
    go_enter Try.func30, Try.ntmps30
    go_wp2_with (go_at_call 61; refine (hasOnly_i s _ hl).mono ?_; rintro e w' ⟨rfl, rfl⟩)
    go_ret
    exact ⟨by rw [E.out] <;> rfl, rfl⟩
  · have E := Lib.hid (code_no3 h3)
    have d : ((s.length : Int) == 3) = false := by rw [beq_eq_false_iff_ne]; omega
    clear h3
    go_enter Try.func30, Try.ntmps30
    go_wp2_with fail
    go_ret
    exact ⟨by rw [E.out] <;> rfl, rfl⟩
theorem code_no {s : List UInt8} (h : s.all upb = false) : codeB s = false := by unfold codeB; rw [h, Bool.and_false]
theorem code_len {s : List UInt8} (h : s.all upb = true) : codeB s = ((s.length : Int) == 3) := by
  unfold codeB; rw [h, Bool.and_true]; rfl
set_option maxHeartbeats 1000000 in
theorem isCode_s (s : List UInt8) (w : World) (hl : s.length ≤ 9223372036854775807) : Calls Try.prog 31 #[.string ⟨s.toArray⟩] w fun e w' => e = .returned (.bool (codeB s)) ∧ w = w' := by
  have hz : (⟨s.toArray⟩ : ByteArray).size = s.length := rfl
  go_enter Try.func31, Try.ntmps31
  go_wp2_with fail
  go_loop [3] (fun i => ∃ k : Nat, k ≤ s.length ∧ i = .int .i64 k ∧ Hid ((s.take k).all upb = true)) (fun i => s.length - (intOf i).toNat)
  case atStart => exact ⟨0, Nat.zero_le _, rfl, Lib.hid rfl⟩
  case round =>
    obtain ⟨k, hk, rfl, ht⟩ := hrel
    by_cases hlt : k < s.length
    · obtain ⟨b, hbk⟩ : ∃ b, s[k]? = some b := ⟨s[k], by simp [hlt]⟩
      have hbn := byte_at s k b hbk
      have hb255 : (b.toNat : Int) ≤ 255 := by have := b.toNat_lt; omega
      rcases (by omega : ((b.toNat : Int) < 65) ∨ (¬ (b.toNat : Int) < 65 ∧ 90 < (b.toNat : Int)) ∨ (¬ (b.toNat : Int) < 65 ∧ ¬ 90 < (b.toNat : Int))) with h | ⟨h, h'⟩ | ⟨h, h'⟩
      · have E := Lib.hid (code_no (all_no hbk (upb_no.2 (.inl h))))
        have d : decide (b.toNat < 65) = true := by simp; omega
        clear hbk ht
        go_wp2_with fail
        go_ret
        exact ⟨by rw [E.out] <;> rfl, rfl⟩
      · have E := Lib.hid (code_no (all_no hbk (upb_no.2 (.inr h'))))
        have d : decide (b.toNat < 65) = false := by simp; omega
        have d' : decide (90 < b.toNat) = true := by simp; omega
        clear hbk ht
        go_wp2_with fail
        go_ret
        exact ⟨by rw [E.out] <;> rfl, rfl⟩
      · have HT : Hid ((s.take (k + 1)).all upb = true) := Lib.hid (by rw [snoc_of hbk, List.all_append, ht.out]; simp [upb]; omega)
        have d : decide (b.toNat < 65) = false := by simp; omega
        have d' : decide (90 < b.toNat) = false := by simp; omega
        clear hbk ht
        go_wp2_with fail
        go_round
        case rel => exact ⟨k + 1, by omega, by go_num, HT⟩
        case measure => simp [intOf]; omega
    · have E := Lib.hid (code_len (all_take hk hlt ht.out))
      clear ht
      go_wp2_with fail
      go_ret
      exact ⟨by rw [E.out] <;> rfl, rfl⟩
end Go.Proofs.Ytaehkkcaoniphaa

/- impl.isWithin. -/
namespace Go.Proofs.Ytaehkkcaoniphaa
open Go.ChangeShapes Go.WideShapes Go.ChangeAt Go.RowKit
set_option linter.unusedVariables false

theorem within_i (n lo hi : Int) (w : World) : Calls Try.prog 81 #[.int .i64 n, .int .i64 lo, .int .i64 hi] w fun e w' => e = .returned (.bool (inr n lo hi)) ∧ w = w' := by
  rcases (by omega : (lo ≤ n ∧ n ≤ hi) ∨ n < lo ∨ (lo ≤ n ∧ hi < n)) with ⟨a, b⟩ | a | ⟨a, b⟩
  · have E : Hid (inr n lo hi = true) := Lib.hid (inr_iff.2 ⟨a, b⟩)
    go_enter Try.func81, Try.ntmps81
    go_wp2
    go_ret
    exact ⟨by rw [E.out] <;> rfl, rfl⟩
  · have E : Hid (inr n lo hi = false) := Lib.hid (inr_no.2 (.inl a))
    have d : decide (lo ≤ n) = false := by simp; omega
    go_enter Try.func81, Try.ntmps81
    go_wp2
    go_ret
    exact ⟨by rw [E.out] <;> rfl, rfl⟩
  · have E : Hid (inr n lo hi = false) := Lib.hid (inr_no.2 (.inr b))
    have d : decide (n ≤ hi) = false := by simp; omega
    go_enter Try.func81, Try.ntmps81
    go_wp2
    go_ret
    exact ⟨by rw [E.out] <;> rfl, rfl⟩
theorem within_q {n lo hi : Int} {b : Bool} (h : inr n lo hi = b) (w : World) : Calls Try.prog 81 #[.int .i64 n, .int .i64 lo, .int .i64 hi] w fun e w' => e = .returned (.bool b) ∧ w = w' :=
  (within_i n lo hi w).mono fun e w' k => ⟨by rw [← h]; exact k.1, k.2⟩
end Go.Proofs.Ytaehkkcaoniphaa

/- Numbers of years, days, weekdays. -/
namespace Go.Proofs.Ytaehkkcaoniphaa
open Go.ChangeShapes Go.WideShapes Go.ChangeAt Go.RowKit
set_option linter.unusedVariables false

theorem start_i (y : Int) (w : World) (h0 : 1970 ≤ y) (h1 : y ≤ 1000000000000) : Calls Try.prog 85 #[.int .i64 y] w fun e w' => e = .returned (.int .i64 (start y)) ∧ w = w' := by
  have E : Hid ((y - 1970) * 365 + (y - 1970 + 1) / 4 = start y) := Lib.hid (by unfold start; omega)
  go_enter Try.func85, Try.ntmps85
  go_wp2
  go_ret
  exact ⟨by rw [E.out] <;> rfl, rfl⟩
theorem isDay_i (n : Int) (w : World) : Calls Try.prog 78 #[.int .i64 n] w fun e w' => e = .returned (.bool (inr n 0 36524)) ∧ w = w' := by
  go_enter Try.func78, Try.ntmps78
  go_wp2_with (first | (go_at_call 85; refine (start_i _ _ (by omega) (by omega)).mono ?_; rintro e w' ⟨rfl, rfl⟩; rw [start_end]) | (go_at_call 81; refine (within_i _ _ _ _).mono ?_; rintro e w' ⟨rfl, rfl⟩))
  go_ret
  exact ⟨rfl, rfl⟩
theorem is_s (n : Int) (w : World) : Calls Try.prog 71 #[.int .i64 n] w fun e w' => e = .returned (.bool (inr n 0 36524)) ∧ w = w' := by
  go_enter Try.func71, Try.ntmps71
  go_wp2_with (go_at_call 72; refine (in_s _ _ _ _).mono ?_; rintro e w' ⟨rfl, rfl⟩)
  go_ret
  exact ⟨rfl, rfl⟩
theorem isDay_q {n : Int} {b : Bool} (h : inr n 0 36524 = b) (w : World) : Calls Try.prog 78 #[.int .i64 n] w fun e w' => e = .returned (.bool b) ∧ w = w' :=
  (isDay_i n w).mono fun e w' k => ⟨by rw [← h]; exact k.1, k.2⟩
theorem is_q {n : Int} {b : Bool} (h : inr n 0 36524 = b) (w : World) : Calls Try.prog 71 #[.int .i64 n] w fun e w' => e = .returned (.bool b) ∧ w = w' :=
  (is_s n w).mono fun e w' k => ⟨by rw [← h]; exact k.1, k.2⟩
end Go.Proofs.Ytaehkkcaoniphaa

/- Comparisons: cmp.Compare, cmp.Or, impl.compareRates; spec.l03Before. -/
namespace Go.Proofs.Ytaehkkcaoniphaa
open Go.ChangeShapes Go.WideShapes Go.ChangeAt Go.RowKit
set_option linter.unusedVariables false

def ordS (x y : List UInt8) : Int := if Op.bytesLess x y = true then -1 else if x = y then 0 else 1
def ordI (x y : Int) : Int := if x < y then -1 else if x = y then 0 else 1
theorem cmpS_i (x y : List UInt8) (w : World) : Calls Try.prog 74 #[.string ⟨x.toArray⟩, .string ⟨y.toArray⟩] w fun e w' => e = .returned (.int .i64 (ordS x y)) ∧ w = w' := by
  rcases Bool.eq_false_or_eq_true (Op.bytesLess x y) with h | h
  · have E : Hid (ordS x y = -1) := Lib.hid (by rw [ordS, if_pos h])
    go_enter Try.func74, Try.ntmps74
    go_wp2
    go_ret
    exact ⟨by rw [E.out] <;> rfl, rfl⟩
  · rcases Bool.eq_false_or_eq_true (x == y) with h2 | h2
    · obtain rfl : x = y := by simpa using h2
      have E : Hid (ordS x x = 0) := Lib.hid (by rw [ordS, if_neg (by simp [h]), if_pos rfl])
      go_enter Try.func74, Try.ntmps74
      go_wp2
      go_ret
      exact ⟨by rw [E.out] <;> rfl, rfl⟩
    · have E : Hid (ordS x y = 1) := Lib.hid (by rw [ordS, if_neg (by simp [h]), if_neg (by simpa using h2)])
      go_enter Try.func74, Try.ntmps74
      go_wp2
      go_ret
      exact ⟨by rw [E.out] <;> rfl, rfl⟩
theorem cmpI_i (x y : Int) (w : World) : Calls Try.prog 75 #[.int .i64 x, .int .i64 y] w fun e w' => e = .returned (.int .i64 (ordI x y)) ∧ w = w' := by
  rcases (by omega : x < y ∨ x = y ∨ y < x) with h | rfl | h
  · have E : Hid (ordI x y = -1) := Lib.hid (by rw [ordI, if_pos h])
    go_enter Try.func75, Try.ntmps75
    go_wp2
    go_ret
    exact ⟨by rw [E.out] <;> rfl, rfl⟩
  · have E : Hid (ordI x x = 0) := Lib.hid (by rw [ordI, if_neg (by omega), if_pos rfl])
    go_enter Try.func75, Try.ntmps75
    go_wp2
    go_ret
    exact ⟨by rw [E.out] <;> rfl, rfl⟩
  · have E : Hid (ordI x y = 1) := Lib.hid (by rw [ordI, if_neg (by omega), if_neg (by omega)])
    go_enter Try.func75, Try.ntmps75
    go_wp2
    go_ret
    exact ⟨by rw [E.out] <;> rfl, rfl⟩
def orI (a b : Int) : Int := if a = 0 then b else a
theorem or_i (a b : Int) (w : World) : Calls Try.prog 73 #[.slice (some ⟨w.heap.size, 0, none⟩) 2 2] (w.alloc (.cells #[.int .i64 a, .int .i64 b] 3)) fun e w' => e = .returned (.int .i64 (orI a b)) ∧ w.alloc (.cells #[.int .i64 a, .int .i64 b] 3) = w' := by
  by_cases ha : a = 0
  · have E : Hid (orI a b = b) := Lib.hid (by rw [orI, if_pos ha])
    subst ha
    by_cases hb : b = 0
    · subst hb
      go_enter Try.func73, Try.ntmps73
      go_wp2_with fail
      go_loop [8, 5] (fun i v => ∃ k : Nat, k ≤ 2 ∧ i = .int .i64 k) (fun i _ => 2 - (intOf i).toNat)
      case atStart => exact ⟨0, by omega, rfl⟩
      case round =>
        obtain ⟨k, hk, rfl⟩ := hrel
        rcases (by omega : k = 0 ∨ k = 1 ∨ k = 2) with rfl | rfl | rfl
        · go_wp2_with fail
          go_round
          case rel => exact ⟨1, by omega, rfl⟩
          case measure => simp [intOf]
        · go_wp2_with fail
          go_round
          case rel => exact ⟨2, by omega, rfl⟩
          case measure => simp [intOf]
        · go_wp2_with fail
          go_ret
          exact ⟨by rw [E.out] <;> rfl, rfl⟩
    · have hb' : (b == 0) = false := by simpa using hb
      have hb2 : (b != 0) = true := by simpa using hb
      go_enter Try.func73, Try.ntmps73
      go_wp2_with fail
      go_loop [8, 5] (fun i v => ∃ k : Nat, k ≤ 1 ∧ i = .int .i64 k) (fun i _ => 2 - (intOf i).toNat)
      case atStart => exact ⟨0, by omega, rfl⟩
      case round =>
        obtain ⟨k, hk, rfl⟩ := hrel
        rcases (by omega : k = 0 ∨ k = 1) with rfl | rfl
        · go_wp2_with fail
          go_round
          case rel => exact ⟨1, by omega, rfl⟩
          case measure => simp [intOf]
        · go_wp2_with fail
          go_ret
          exact ⟨by rw [E.out] <;> rfl, rfl⟩
  · have E : Hid (orI a b = a) := Lib.hid (by rw [orI, if_neg ha])
    have ha' : (a == 0) = false := by simpa using ha
    have ha2 : (a != 0) = true := by simpa using ha
    clear ha
    go_enter Try.func73, Try.ntmps73
    go_wp2_with fail
    go_loop [8, 5] (fun i v => i = .int .i64 0) (fun i _ => 2 - (intOf i).toNat)
    case atStart => rfl
    case round =>
      obtain rfl := hrel
      go_wp2_with fail
      go_ret
      exact ⟨by rw [E.out] <;> rfl, rfl⟩

/-! ### rates -/
def ordR (a b : Rt) : Int := orI (ordS a.c b.c) (ordI a.day b.day)
theorem ordR_neg (a b : Rt) : decide (ordR a b < 0) = bef a b := by
  unfold ordR bef orI ordS
  rcases Bool.eq_false_or_eq_true (Op.bytesLess a.c b.c) with h | h
  · simp [h]
  · by_cases h2 : a.c = b.c
    · simp [h2, less_irr, ordI]
      by_cases h3 : a.day < b.day
      · simp [h3]
      · by_cases h4 : a.day = b.day <;> simp [h3, h4]
    · simp [h, h2]
/-- Two boxes stand as they were laid; nothing below is written. -/
structure Keep2 (w0 : World) (x y : Array Value) (t : TypeId) (W : World) : Prop where
  a : W.heap[w0.heap.size]? = some (.cells x t (0, 0))
  b : W.heap[w0.heap.size + 1]? = some (.cells y t (0, 0))
  bel : Below w0.heap.size w0 W
theorem lt_some {wr : World} {g : Nat} {o : Obj} (h : wr.heap[g]? = some o) : g < wr.heap.size := by
  rcases Nat.lt_or_ge g wr.heap.size with hlt | hge
  · exact hlt
  · rw [Array.getElem?_eq_none hge] at h; cases h
theorem Keep2.step {w0 W w' : World} {x y : Array Value} {t : TypeId} (k : Keep2 w0 x y t W) (b : Below W.heap.size W w') : Keep2 w0 x y t w' :=
  ⟨(b.block _ (lt_some k.a)).trans k.a, (b.block _ (lt_some k.b)).trans k.b, belowGo k.bel b⟩
theorem Keep2.drew {w0 W : World} {x y : Array Value} {t : TypeId} (k : Keep2 w0 x y t W) : Keep2 w0 x y t W.drew := ⟨k.a, k.b, k.bel.drew⟩
theorem Keep2.new (w : World) (x y : Array Value) (t : TypeId) : Keep2 w x y t ((w.alloc (.cells x t)).alloc (.cells y t)) :=
  ⟨heap_alloc2_old _ _ _, heap_alloc2_new _ _ _, ((Below.refl _ _).alloc (Nat.le_refl _) _).alloc (by simp) _⟩
theorem Keep2.all {w0 W : World} {a b c d e f g h : Value} {t : TypeId} (k : Keep2 w0 #[a, b, c, d] #[e, f, g, h] t W) :
    W.cell? ⟨w0.heap.size, 0, none⟩ = some a ∧ W.cell? ⟨w0.heap.size, 1, none⟩ = some b ∧ W.cell? ⟨w0.heap.size + 1, 0, none⟩ = some e ∧ W.cell? ⟨w0.heap.size + 1, 1, none⟩ = some f ∧ Keep2 w0 #[a, b, c, d] #[e, f, g, h] t W :=
  ⟨by rw [cell_of_row _ _ _ _ _ _ k.a]; rfl, by rw [cell_of_row _ _ _ _ _ _ k.a]; rfl, by rw [cell_of_row _ _ _ _ _ _ k.b]; rfl, by rw [cell_of_row _ _ _ _ _ _ k.b]; rfl, k⟩
theorem Keep2.alloc {w0 W : World} {x y : Array Value} {t : TypeId} (k : Keep2 w0 x y t W) (o : Obj) : Keep2 w0 x y t (W.alloc o) := k.step ((Below.refl _ _).alloc (Nat.le_refl _) _)

theorem still_tail {P : Program} {id : Nat} {Q : Exit → Act → World → Prop} {a : Act} {w : World} {l : List Oper} (n : Nat) (hm : P.follows .mixedOrders = true) (hB : Region.lexTailB .any l.toArray n = true)
    (h : wpStill P l.toArray w.drew (fun a' => wpList P l.toArray Q (l.drop n) a' w.drew) (l.take n) a) : (Code.region id l.toArray true).wp P Q a w := wp_region_still_tail n hm hB h
set_option maxRecDepth 100000 in
set_option maxHeartbeats 400000 in
theorem cmpR_i (a b : Rt) (w : World) : Calls Try.prog 52 #[.agg #[.string ⟨a.c.toArray⟩, .int .i64 a.day, .int .i64 a.num, .int .i64 a.den], .agg #[.string ⟨b.c.toArray⟩, .int .i64 b.day, .int .i64 b.num, .int .i64 b.den]] w
    (Gives w (.int .i64 (ordR a b))) := by
  have HC := Lib.hid (fun x y w => (cmpS_i x y w).mono fun e w' h => (⟨h.1, h.2.symm⟩ : e = .returned (.int .i64 (ordS x y)) ∧ w' = w))
  have HD := Lib.hid (fun x y w => (cmpI_i x y w).mono fun e w' h => (⟨h.1, h.2.symm⟩ : e = .returned (.int .i64 (ordI x y)) ∧ w' = w))
  have HO := Lib.hid (fun x y w => or_i x y w)
  have E : Hid (ordR a b = orI (ordS a.c b.c) (ordI a.day b.day)) := Lib.hid rfl
  have k0 := (Keep2.new w #[.string ⟨a.c.toArray⟩, .int .i64 a.day, .int .i64 a.num, .int .i64 a.den] #[.string ⟨b.c.toArray⟩, .int .i64 b.day, .int .i64 b.num, .int .i64 b.den] 30).drew
  go_enter Try.func52, Try.ntmps52
  go_wp2_with fail
  refine still_tail 10 (by kernel_rfl) (by kernel_rfl) ?_
  simp only [List.take_succ_cons, List.take_zero, List.drop_succ_cons, List.drop_zero]
  generalize ((w.alloc (.cells #[.string ⟨a.c.toArray⟩, .int .i64 a.day, .int .i64 a.num, .int .i64 a.den] 30)).alloc (.cells #[.string ⟨b.c.toArray⟩, .int .i64 b.day, .int .i64 b.num, .int .i64 b.den] 30)).drew = W at *
  obtain ⟨c0, c1, c2, c3, _⟩ := k0.all
  repeat still_step
  still_call (HC.out _ _ _)
  repeat still_step
  still_call (HD.out _ _ _)
  refine wpStill_nil ?_
  go_wp2_with fail
  refine (HO.out _ _ _).mono ?_
  rintro e w1 ⟨rfl, rfl⟩
  go_wp2_with fail
  go_ret
  exact ⟨by rw [E.out] <;> rfl, (k0.alloc _).bel⟩

theorem bef_lt {a b : Rt} (h : Op.bytesLess a.c b.c = true) : bef a b = true := by simp [bef, h]
theorem bef_no {a b : Rt} (h : Op.bytesLess a.c b.c = false) (h2 : (a.c == b.c) = false) : bef a b = false := by simp [bef, h, h2]
theorem bef_day {a b : Rt} (h : Op.bytesLess a.c b.c = false) (h2 : (a.c == b.c) = true) : bef a b = decide (a.day < b.day) := by simp [bef, h, h2]
theorem before_s (a b : Rt) (w : World) : Calls Try.prog 55 #[.agg #[.string ⟨a.c.toArray⟩, .int .i64 a.day, .int .i64 a.num, .int .i64 a.den], .agg #[.string ⟨b.c.toArray⟩, .int .i64 b.day, .int .i64 b.num, .int .i64 b.den]] w
    (Gives w (.bool (bef a b))) := by
  have B : ∀ o p, Hid (Below w.heap.size w ((w.alloc o).alloc p)) := fun o p => Lib.hid (((Below.refl _ _).alloc (Nat.le_refl _) _).alloc (by simp) _)
  rcases Bool.eq_false_or_eq_true (Op.bytesLess a.c b.c) with h | h
  · have E := Lib.hid (bef_lt h)
    go_enter Try.func55, Try.ntmps55
    go_wp2_with fail
    go_ret
    exact ⟨by rw [E.out] <;> rfl, (B _ _).out⟩
  · rcases Bool.eq_false_or_eq_true (a.c == b.c) with h2 | h2
    · have E := Lib.hid (bef_day h h2)
      go_enter Try.func55, Try.ntmps55
      go_wp2_with fail
      go_ret
      exact ⟨by rw [E.out] <;> rfl, (B _ _).out⟩
    · have E := Lib.hid (bef_no h h2)
      go_enter Try.func55, Try.ntmps55
      go_wp2_with fail
      go_ret
      exact ⟨by rw [E.out] <;> rfl, (B _ _).out⟩
end Go.Proofs.Ytaehkkcaoniphaa

