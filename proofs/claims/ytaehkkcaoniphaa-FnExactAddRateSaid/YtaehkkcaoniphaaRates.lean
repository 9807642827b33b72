/- laws.toRate, szRateS, toRateS, eqRate, eqRateS: rates are copied, counted and compared. -/
import Derived.Test.YtaehkkcaoniphaaFx
import Derived.Test.YtaehkkcaoniphaaPush
import Derived.Deep.QuietTactic
import Derived.Deep.RegionHeld3
namespace Go.Proofs.Ytaehkkcaoniphaa
open Go.ChangeShapes Go.WideShapes Go.ChangeAt Go.RowKit
set_option linter.unusedVariables false

theorem toRate_l (r : Rt) (w : World) : Calls Try.prog 35 #[.agg #[.string ⟨r.c.toArray⟩, .int .i64 r.day, .int .i64 r.num, .int .i64 r.den]] w
    (Gives w (.agg #[.string ⟨r.c.toArray⟩, .int .i64 r.day, .int .i64 r.num, .int .i64 r.den])) := by
  have B : ∀ o p q, Hid (Below w.heap.size w (((w.alloc o).alloc p).alloc q)) := fun o p q => Lib.hid ((((Below.refl _ _).alloc (Nat.le_refl _) _).alloc (by simp) _).alloc (by simp; omega) _)
  go_enter Try.func35, Try.ntmps35
  go_wp2_with fail
  exact bodyPost_ret (v := .agg #[.string ⟨r.c.toArray⟩, .int .i64 r.day, .int .i64 r.num, .int .i64 r.den]) (by simp [results, Try.results35, go_sem]) rfl ⟨rfl, (B _ _ _).out⟩

theorem eqRate_l (a b : Rt) (w : World) : Calls Try.prog 62 #[.agg #[.string ⟨a.c.toArray⟩, .int .i64 a.day, .int .i64 a.num, .int .i64 a.den], .agg #[.string ⟨b.c.toArray⟩, .int .i64 b.day, .int .i64 b.num, .int .i64 b.den]] w
    (Gives w (.bool (a.c == b.c && (a.day == b.day && (a.num == b.num && a.den == b.den))))) := by
  have B : ∀ o p, Hid (Below w.heap.size w ((w.alloc o).alloc p)) := fun o p => Lib.hid (((Below.refl _ _).alloc (Nat.le_refl _) _).alloc (by simp) _)
  obtain ⟨ac, ad, an, ae⟩ := a
  obtain ⟨bc, bd, bn, be⟩ := b
  rcases Bool.eq_false_or_eq_true (ac == bc) with h0 | h0
  · rcases Bool.eq_false_or_eq_true (ad != bd) with h1 | h1
    · have E : Hid ((ac == bc && (ad == bd && (an == bn && ae == be))) = false) := Lib.hid (by have : (ad == bd) = false := by simpa using h1
                                                                                               simp [this])
      go_enter Try.func62, Try.ntmps62
      go_wp2_with fail
      go_ret
      exact ⟨by rw [E.out] <;> rfl, (B _ _).out⟩
    · rcases Bool.eq_false_or_eq_true (an != bn) with h2 | h2
      · have E : Hid ((ac == bc && (ad == bd && (an == bn && ae == be))) = false) := Lib.hid (by have : (an == bn) = false := by simpa using h2
                                                                                                 simp [this])
        go_enter Try.func62, Try.ntmps62
        go_wp2_with fail
        go_ret
        exact ⟨by rw [E.out] <;> rfl, (B _ _).out⟩
      · rcases Bool.eq_false_or_eq_true (ae != be) with h3 | h3
        · have E : Hid ((ac == bc && (ad == bd && (an == bn && ae == be))) = false) := Lib.hid (by have : (ae == be) = false := by simpa using h3
                                                                                                   simp [this])
          go_enter Try.func62, Try.ntmps62
          go_wp2_with fail
          go_ret
          exact ⟨by rw [E.out] <;> rfl, (B _ _).out⟩
        · have E : Hid ((ac == bc && (ad == bd && (an == bn && ae == be))) = true) := Lib.hid (by
            have h1' : (ad == bd) = true := by simpa using h1
            have h2' : (an == bn) = true := by simpa using h2
            have h3' : (ae == be) = true := by simpa using h3
            simp [h0, h1', h2', h3'])
          go_enter Try.func62, Try.ntmps62
          go_wp2_with fail
          go_ret
          exact ⟨by rw [E.out] <;> rfl, (B _ _).out⟩
  · have E : Hid ((ac == bc && (ad == bd && (an == bn && ae == be))) = false) := Lib.hid (by simp [h0])
    go_enter Try.func62, Try.ntmps62
    go_wp2_with fail
    go_ret
    exact ⟨by rw [E.out] <;> rfl, (B _ _).out⟩

/-! ### rows of rates -/
theorem szRate_l (r : Rt) (n : Int) (w : World) (h0 : 0 ≤ n) (h1 : n ≤ 2000000) (hl : r.c.length ≤ maxLen) :
    Calls Try.prog 33 #[.agg #[.string ⟨r.c.toArray⟩, .int .i64 r.day, .int .i64 r.num, .int .i64 r.den], .int .i64 n] w (Gives w (.int .i64 (if n - r.c.length < 0 then -1 else n - r.c.length))) := by
  unfold maxLen at hl
  have hz : (⟨r.c.toArray⟩ : ByteArray).size = r.c.length := rfl
  have B : ∀ o, Hid (Below w.heap.size w (w.alloc o)) := fun o => Lib.hid ((Below.refl _ _).alloc (Nat.le_refl _) _)
  by_cases h : n - r.c.length < 0
  · have E : Hid ((if n - r.c.length < 0 then -1 else n - r.c.length : Int) = -1) := Lib.hid (by rw [if_pos h])
    go_enter Try.func33, Try.ntmps33
    go_wp2_with fail
    go_ret
    exact ⟨by first | rfl | exact congrArg (fun x => Ending.returned (Value.int .i64 x)) E.out.symm, (B _).out⟩
  · have E : Hid ((if n - r.c.length < 0 then -1 else n - r.c.length : Int) = n - r.c.length) := Lib.hid (by rw [if_neg h])
    go_enter Try.func33, Try.ntmps33
    go_wp2_with fail
    go_ret
    exact ⟨by first | rfl | exact congrArg (fun x => Ending.returned (Value.int .i64 x)) E.out.symm, (B _).out⟩
theorem Rr.below {w w' : World} {A : Option Addr} {rs : List Rt} (h : Rr w A rs) (hb : Below w.heap.size w w') : Rr w' A rs := Rw.below h hb
def szT (rs : List Rt) (n : Int) : Int := if n - rs.length < 0 then -1 else szl rs (n - rs.length)
theorem szl_neg (rs : List Rt) : szl rs (-1) = -1 := by cases rs <;> rfl
theorem szl_bd : ∀ (rs : List Rt) (n : Int), 0 ≤ szl rs n → szl rs n ≤ n ∧ ∀ r ∈ rs, (r.c.length : Int) ≤ n
  | [], n, h => ⟨Int.le_refl _, fun r hr => by cases hr⟩
  | r :: rs, n, h => by
    unfold szl at h ⊢
    by_cases hn : n < 0
    · rw [if_pos hn] at h; omega
    · rw [if_neg hn] at h ⊢
      by_cases h1 : n - r.c.length < 0
      · rw [if_pos h1, szl_neg] at h; omega
      · rw [if_neg h1] at h ⊢
        obtain ⟨h2, h3⟩ := szl_bd rs _ h
        refine ⟨by omega, fun q hq => ?_⟩
        rcases List.mem_cons.1 hq with rfl | hq
        · omega
        · have := h3 q hq; omega
theorem szT_bd {rs : List Rt} {n : Int} (h : 0 ≤ szT rs n) : szT rs n ≤ n ∧ (rs.length : Int) ≤ n ∧ ∀ r ∈ rs, (r.c.length : Int) ≤ n := by
  unfold szT at h ⊢
  by_cases h1 : n - rs.length < 0
  · rw [if_pos h1] at h; omega
  · rw [if_neg h1] at h ⊢
    obtain ⟨h2, h3⟩ := szl_bd rs _ h
    exact ⟨by omega, by omega, fun r hr => by have := h3 r hr; omega⟩
theorem szl_cons {r : Rt} {rs : List Rt} {m : Int} (hm : 0 ≤ m) : szl (r :: rs) m = szl rs (if m - r.c.length < 0 then -1 else m - r.c.length) := by rw [szl, if_neg (by omega)]
/-- Rates that came in: each text is no longer than a text can be. -/
def Rok (rs : List Rt) : Prop := ∀ r ∈ rs, r.c.length ≤ maxLen
set_option maxHeartbeats 1000000 in
theorem szRateS_l (A : Option Addr) (c : Nat) (rs : List Rt) (n : Int) (w : World) (hR : Rr w A rs) (hw : Rok rs) (hl : rs.length ≤ maxLen) (h0 : 0 ≤ n) (h1 : n ≤ 2000000) :
    Calls Try.prog 32 #[.slice A rs.length c, .int .i64 n] w (Gives w (.int .i64 (szT rs n))) := by
  unfold maxLen at hl
  by_cases hn : n - rs.length < 0
  · have E : Hid (szT rs n = -1) := Lib.hid (by rw [szT, if_pos hn])
    go_enter Try.func32, Try.ntmps32
    go_wp2_with fail
    go_ret
    exact ⟨by rw [E.out] <;> rfl, Below.refl _ _⟩
  · have E : Hid (szT rs n = szl rs (n - rs.length)) := Lib.hid (by rw [szT, if_neg hn])
    go_enter Try.func32, Try.ntmps32
    go_wp2_with fail
    go_loopw [1, 5] (fun m i wr => ∃ (k : Nat) (M : Int), k ≤ rs.length ∧ i = .int .i64 k ∧ m = .int .i64 M ∧ 0 ≤ M ∧ M ≤ n ∧ Hid (szl (rs.drop k) M = szl rs (n - rs.length)) ∧ Below w.heap.size w wr) (fun _ i _ => rs.length - (intOf i).toNat)
    case atStart => exact ⟨0, _, Nat.zero_le _, rfl, rfl, by omega, by omega, Lib.hid rfl, Below.refl _ _⟩
    case round =>
      obtain ⟨k, M, hk, rfl, rfl, hM0, hM1, hs, hb⟩ := hrel
      by_cases hlt : k < rs.length
      · obtain ⟨b, off, r, rfl, _, hr, c0, c1, c2, c3⟩ := (hR.below hb).at hlt
        have hrl := hw r (List.mem_of_getElem? hr.out)
        have HS : Hid (szl (rs.drop (k + 1)) (if M - r.c.length < 0 then -1 else M - r.c.length) = szl rs (n - rs.length)) := Lib.hid (by rw [← hs.out, drop_of hr.out, szl_cons hM0])
        have HC := Lib.hid (szRate_l r M wr (by omega) (by omega) hrl)
        clear hs hw hrl
        by_cases hneg : M - r.c.length < 0
        · rw [if_pos hneg] at HS HC
          have HS := Lib.hid (HS.out.symm.trans (szl_neg _))
          go_wp2_with (go_at_call 33; refine HC.out.mono ?_; rintro e w1 ⟨rfl, b1⟩)
          go_ret
          exact ⟨by rw [E.out, HS.out] <;> rfl, hb.trans (b1.mono hb.size)⟩
        · rw [if_neg hneg] at HS HC
          go_wp2_with (go_at_call 33; refine HC.out.mono ?_; rintro e w1 ⟨rfl, b1⟩)
          go_roundw
          case rel => exact ⟨k + 1, _, by omega, by go_num, rfl, by omega, by omega, HS, hb.trans (b1.mono hb.size)⟩
          case measure => simp [intOf]; omega
      · have HS : Hid (M = szl rs (n - rs.length)) := Lib.hid (by rw [← hs.out, List.drop_eq_nil_of_le (by omega)]; rfl)
        clear hs
        go_wp2_with fail
        go_ret
        exact ⟨by rw [E.out, ← HS.out] <;> rfl, hb⟩

/-! ### a row of rates of the call's own -/
theorem rateInfo : (Try.prog.info? 30).map (fun i => (i.zero, i.size, i.bytes)) = some (some (.agg #[.string ⟨#[]⟩, .int .i64 0, .int .i64 0, .int .i64 0]), 4, 40) := by kernel_rfl
def Or (w : World) (base : Nat) (A : Option Addr) (n c : Nat) (rs : List Rt) : Prop := w.ownsRow base 30 4 (.slice A n c) n (rs.flatMap Rt.cells)
theorem Rw.ownS {w : World} {base n size : Nat} {e : TypeId} {A : Option Addr} {c : Nat} {vs : List Value} (h : w.ownsRow base e size (.slice A n c) n vs) : Rw w A vs := fun hp => by
  rcases h.2 with ⟨hv, hx⟩ | ⟨g, cap, cur, hv, _, hh, _⟩
  · have h1 := h.1; rw [hx, Nat.zero_mul] at h1; omega
  · have hlt := (h.lt g (by rw [hv]; rfl)).2
    injection hv with hA _ _
    subst hA
    refine ⟨g, 0, rfl, hlt, fun j v hj => ?_⟩
    have := h.cells (g := g) rfl j v hj
    rwa [show ((⟨g, 0, none⟩ : Addr).add j) = ⟨g, 0 + j, none⟩ from by unfold Addr.add; split <;> simp_all] at this
section
variable {w w' : World} {base : Nat} {A : Option Addr} {n c : Nat} {rs : List Rt}
theorem Or.len (h : Or w base A n c rs) : rs.length = n := by
  have := h.1; rw [flat_len Rt.cells 4 (fun _ => rfl)] at this; omega
theorem Or.rr (h : Or w base A n c rs) : Rr w A rs := Rw.ownS h
theorem Or.bd (h : Or w base A n c rs) : Bd A w.heap.size := fun a e => (h.lt a.block (by rw [e]; rfl)).2
theorem Or.lo (h : Or w base A n c rs) : ∀ k, (Value.slice A n c).ownBlock = some k → base ≤ k := fun k e => (h.lt k e).1
theorem own_below {e : TypeId} {size : Nat} {v : Value} {xs : List Value} (h : w.ownsRow base e size v n xs) (hb : Below w.heap.size w w') : w'.ownsRow base e size v n xs := by
  refine ⟨h.1, ?_⟩
  rcases h.2 with h1 | ⟨g, cap, cur, h1, h2, h3, h4⟩
  · exact .inl h1
  · exact .inr ⟨g, cap, cur, h1, h2, (hb.block g (by
      rcases Nat.lt_or_ge g w.heap.size with hlt | hge
      · exact hlt
      · rw [Array.getElem?_eq_none hge] at h3; cases h3)).trans h3, h4⟩
theorem Or.below (h : Or w base A n c rs) (hb : Below w.heap.size w w') : Or w' base A n c rs := own_below h hb
theorem Or.mono {base' : Nat} (h : Or w base A n c rs) (hb : base' ≤ base) : Or w base' A n c rs := by
  refine ⟨h.1, h.2.imp id ?_⟩
  rintro ⟨g, cap, cur, h1, h2, h3⟩
  exact ⟨g, cap, cur, h1, by omega, h3⟩
end
/-- What a function that hands back new rates leaves. -/
def NewRates (w : World) (rs : List Rt) (e : Ending) (w' : World) : Prop :=
  ∃ A c, e = .returned (.slice A rs.length c) ∧ Or w' w.heap.size A rs.length c rs ∧ Below w.heap.size w w'
theorem set4 {ys : List Value} {k : Nat} (hk : k * 4 + 3 < ys.length) {a b c d : Value} {P : List Value} (h : ys.take (k * 4) = P) :
    ((((ys.set (k * 4) a).set (k * 4 + 1) b).set (k * 4 + 2) c).set (k * 4 + 3) d).take ((k + 1) * 4) = P ++ [a, b, c, d] := by
  apply List.ext_getElem?
  intro j
  subst h
  rw [List.getElem?_take, List.getElem?_append, List.length_take, Nat.min_eq_left (by omega)]
  by_cases h1 : j < k * 4
  · rw [if_pos (by omega), if_pos h1, List.getElem?_take, if_pos h1]
    rw [List.getElem?_set_ne (by omega), List.getElem?_set_ne (by omega), List.getElem?_set_ne (by omega), List.getElem?_set_ne (by omega)]
  · rw [if_neg h1]
    by_cases h2 : j < (k + 1) * 4
    · rw [if_pos h2]
      have : j = k * 4 ∨ j = k * 4 + 1 ∨ j = k * 4 + 2 ∨ j = k * 4 + 3 := by omega
      rcases this with rfl | rfl | rfl | rfl
      · rw [List.getElem?_set_ne (by omega), List.getElem?_set_ne (by omega), List.getElem?_set_ne (by omega), List.getElem?_set_self (by omega), Nat.sub_self]; rfl
      · rw [List.getElem?_set_ne (by omega), List.getElem?_set_ne (by omega), List.getElem?_set_self (by simp; omega), show k * 4 + 1 - k * 4 = 1 by omega]; rfl
      · rw [List.getElem?_set_ne (by omega), List.getElem?_set_self (by simp; omega), show k * 4 + 2 - k * 4 = 2 by omega]; rfl
      · rw [List.getElem?_set_self (by simp; omega), show k * 4 + 3 - k * 4 = 3 by omega]; rfl
    · rw [if_neg h2, List.getElem?_eq_none (by simp; omega)]
theorem stored4 {w : World} {base g n c : Nat} {e : TypeId} {xs : List Value} (h : w.ownsRow base e 4 (.slice (some ⟨g, 0, none⟩) n c) n xs) (j : Nat) (a b d f : Value) :
    ((((w.setCell ⟨g, j, none⟩ a).setCell ⟨g, j + 1, none⟩ b).setCell ⟨g, j + 2, none⟩ d).setCell ⟨g, j + 3, none⟩ f).ownsRow base e 4 (.slice (some ⟨g, 0, none⟩) n c) n ((((xs.set j a).set (j + 1) b).set (j + 2) d).set (j + 3) f) ∧
    w.grownBy ((((w.setCell ⟨g, j, none⟩ a).setCell ⟨g, j + 1, none⟩ b).setCell ⟨g, j + 2, none⟩ d).setCell ⟨g, j + 3, none⟩ f) (some g) := by
  have h1 := h.stored j a
  have h2 := h1.1.stored (j + 1) b
  have h3 := h2.1.stored (j + 2) d
  have h4 := h3.1.stored (j + 3) f
  exact ⟨h4.1, ((h1.2.trans h2.2).trans h3.2).trans h4.2⟩

theorem own_at {w : World} {base g n c size : Nat} {e : TypeId} {xs : List Value} (h : w.ownsRow base e size (.slice (some ⟨g, 0, none⟩) n c) n xs) (j : Nat) (hj : j < xs.length) : ∃ v, w.cell? ⟨g, j, none⟩ = some v :=
  ⟨xs[j], by rw [h.cellAt j (by rw [← h.1]; exact hj)]; simp [hj]⟩
set_option maxHeartbeats 2000000 in
theorem toRateS_l (A : Option Addr) (c : Nat) (rs : List Rt) (w : World) (hR : Rr w A rs) (hn : rs.length ≤ 1048576) :
    Calls Try.prog 34 #[.slice A rs.length c] w (NewRates w rs) := by
  obtain ⟨i0, hi, hz0, hz1, hz2⟩ := info_parts rateInfo
  go_enter Try.func34, Try.ntmps34
  go_wp2_with (at_make; refine wpList_make_full _ rfl _ _ 24 rfl w.heap.size 30 i0 _ 4 Try.underlying24 hi hz0 hz1 .i64 .i64 _ _ rs.length rfl rfl rfl rfl (by rw [hz2]; omega) (by unfold maxLen; omega) (Nat.le_refl _) ?_; intro w1 hown1 hg1)
  have hb1 : Below w.heap.size w w1 := (Below.refl _ _).grown hg1 (Nat.le_refl _) (by simp)
  clear hg1
  go_loopw [4] (fun i wr => ∃ (k : Nat) (ys : List Value), k ≤ rs.length ∧ i = .int .i64 k ∧ wr.ownsRow w.heap.size 30 4 (.slice (some ⟨w.heap.size, 0, none⟩) rs.length rs.length) rs.length ys ∧
    Hid (ys.take (k * 4) = (rs.take k).flatMap Rt.cells) ∧ Below w.heap.size w wr) (fun i _ => rs.length - (intOf i).toNat)
  case atStart => exact ⟨0, _, Nat.zero_le _, rfl, hown1, Lib.hid (by simp), hb1⟩
  case round =>
    obtain ⟨k, ys, hk, rfl, hown, ht, hb⟩ := hrel
    clear hown1 hb1
    by_cases hlt : k < rs.length
    · obtain ⟨b, off, r, rfl, _, hr, c0, c1, c2, c3⟩ := (hR.below hb).at hlt
      have HT : Hid ((((((ys.set (k * 4) (.string ⟨r.c.toArray⟩)).set (k * 4 + 1) (.int .i64 r.day)).set (k * 4 + 2) (.int .i64 r.num)).set (k * 4 + 3) (.int .i64 r.den))).take ((k + 1) * 4) = (rs.take (k + 1)).flatMap Rt.cells) := Lib.hid (by
        rw [set4 (by have := hown.1; omega) ht.out, snoc_of hr.out, List.flatMap_append]; simp [Rt.cells])
      have HO := Lib.hid hown
      have hyl : k * 4 + 3 < ys.length := by have := hown.1; omega
      clear ht hown
      go_wp2_with fail
      refine (toRate_l r _).mono ?_
      rintro e w1 ⟨rfl, b1⟩
      have hown := own_below HO.out b1
      clear HO
      have hb2 := hb.trans (b1.mono hb.size)
      obtain ⟨o0, k0⟩ := own_at hown (k * 4) (by omega)
      obtain ⟨o1, k1⟩ := own_at hown (k * 4 + 1) (by omega)
      obtain ⟨o2, k2⟩ := own_at hown (k * 4 + 2) (by omega)
      obtain ⟨o3, k3⟩ := own_at hown (k * 4 + 3) (by omega)
      have f0 := hown.frozenAt (k * 4)
      have f1 := hown.frozenAt (k * 4 + 1)
      have f2 := hown.frozenAt (k * 4 + 2)
      have f3 := hown.frozenAt (k * 4 + 3)
      have HS := Lib.hid (stored4 hown (k * 4) (.string ⟨r.c.toArray⟩) (.int .i64 r.day) (.int .i64 r.num) (.int .i64 r.den))
      clear hown
      go_wp2_with fail
      go_roundw
      case rel => exact ⟨k + 1, _, by omega, by go_num, HS.out.1, HT, hb2.grown HS.out.2 hb2.size (by simp)⟩
      case measure => simp [intOf]; omega
    · have HT : Hid (ys = rs.flatMap Rt.cells) := Lib.hid (by
        have h1 := ht.out; have h2 := hown.1
        rwa [take_all hk hlt, List.take_of_length_le (by omega)] at h1)
      clear ht
      go_wp2_with fail
      go_ret
      exact ⟨_, _, rfl, by have := HT.out; subst this; exact hown, hb⟩
end Go.Proofs.Ytaehkkcaoniphaa
