/- impl.ratesOn. -/
import Derived.Test.YtaehkkcaoniphaaRts
namespace Go.Proofs.Ytaehkkcaoniphaa
open Go.ChangeShapes Go.WideShapes Go.ChangeAt Go.RowKit
set_option linter.unusedVariables false

def noRate (rs : List Rt) (day : Int) (c : List UInt8) : Bool := (rateL c day rs).2 == 0
def ratesC (rs : List Rt) (day : Int) (cs : List (List UInt8)) : Int :=
  if (tabB rs && cs.all codeB) = true then (if inr day 0 36524 = true then (if cs.any (noRate rs day) = true then 4 else 0) else 2) else 1
/-- Rates of the currencies, in their order. -/
def GoodRs (rs : List Rt) (day : Int) (cs : List (List UInt8)) (ys : List Rt) : Prop := ys.length = cs.length ∧ ∀ (k : Nat) (c : List UInt8), cs[k]? = some c → ∃ r, ys[k]? = some r ∧ GoodR rs day c r
theorem GoodRs.nil (rs : List Rt) (day : Int) : GoodRs rs day [] [] := ⟨rfl, fun k c h => by simp at h⟩
theorem GoodRs.snoc {rs : List Rt} {day : Int} {cs : List (List UInt8)} {ys : List Rt} {c : List UInt8} {r : Rt} (h : GoodRs rs day cs ys) (hr : GoodR rs day c r) : GoodRs rs day (cs ++ [c]) (ys ++ [r]) := by
  refine ⟨by simp [h.1], fun k c' hc => ?_⟩
  rcases Nat.lt_or_ge k cs.length with hk | hk
  · rw [List.getElem?_append_left hk] at hc
    obtain ⟨q, h1, h2⟩ := h.2 k c' hc
    exact ⟨q, by rw [List.getElem?_append_left (by rw [h.1]; exact hk)]; exact h1, h2⟩
  · rw [List.getElem?_append_right hk] at hc
    have hz : k - cs.length = 0 := by have := (List.getElem?_eq_some_iff.1 hc).1; simp at this; omega
    rw [hz] at hc; simp at hc; subst hc
    exact ⟨r, by rw [List.getElem?_append_right (by rw [h.1]; exact hk), h.1, hz]; rfl, hr⟩
theorem good_den {rs : List Rt} {day : Int} {c : List UInt8} {r : Rt} (h : GoodR rs day c r) : noRate rs day c = false := by
  unfold noRate; rw [h.1, beq_eq_false_iff_ne]; have := h.2.2.2.1; simp only; omega
theorem GoodRs.none {rs : List Rt} {day : Int} {cs : List (List UInt8)} {ys : List Rt} (h : GoodRs rs day cs ys) : cs.any (noRate rs day) = false := by
  rw [List.any_eq_false]
  intro c hc
  obtain ⟨k, hk⟩ := List.getElem?_of_mem hc
  obtain ⟨r, _, h2⟩ := h.2 k c hk
  rw [good_den h2]; exact Bool.false_ne_true
theorem any_of {rs : List Rt} {day : Int} {cs : List (List UInt8)} {k : Nat} {c : List UInt8} (hc : cs[k]? = some c) (h : rateL c day rs = (0, 0)) : cs.any (noRate rs day) = true := by
  rw [List.any_eq_true]; exact ⟨c, List.mem_of_getElem? hc, by unfold noRate; rw [h]; rfl⟩
/-- What 'ratesOn' leaves. -/
def RatesP (w : World) (rs : List Rt) (day : Int) (cs : List (List UInt8)) (e : Ending) (w' : World) : Prop :=
  ∃ A q ys, e = .returned (.tuple #[.slice A ys.length q, .int .i64 (ratesC rs day cs)]) ∧ Or w' w.heap.size A ys.length q ys ∧ (ratesC rs day cs = 0 → GoodRs rs day cs ys) ∧ Below w.heap.size w w'
theorem Or.nil (w : World) (base : Nat) : Or w base none 0 0 [] := World.ownsRow_nil _ _ _ _
theorem rates_1 {rs : List Rt} {day : Int} {cs : List (List UInt8)} (h : (tabB rs && cs.all codeB) = false) : ratesC rs day cs = 1 := by simp [ratesC, h]
theorem rates_2 {rs : List Rt} {day : Int} {cs : List (List UInt8)} (h : tabB rs = true) (h2 : cs.all codeB = true) (h3 : inr day 0 36524 = false) : ratesC rs day cs = 2 := by unfold ratesC; rw [h, h2, h3]; rfl
theorem rates_4 {rs : List Rt} {day : Int} {cs : List (List UInt8)} (h : tabB rs = true) (h2 : cs.all codeB = true) (h3 : inr day 0 36524 = true) (h4 : cs.any (noRate rs day) = true) : ratesC rs day cs = 4 := by unfold ratesC; rw [h, h2, h3, h4]; rfl
theorem rates_0 {rs : List Rt} {day : Int} {cs : List (List UInt8)} (h : tabB rs = true) (h2 : cs.all codeB = true) (h3 : inr day 0 36524 = true) (h4 : cs.any (noRate rs day) = false) : ratesC rs day cs = 0 := by unfold ratesC; rw [h, h2, h3, h4]; rfl
theorem latest_q {rs : List Rt} (ht : tabB rs = true) {s : List UInt8} {day : Int} {w : World} {b n : Nat} {D : DataW Value} (hown : w.ownsMap Try.prog 116 rV b n D) (hD : Bkd D (bookF rs)) (hs : codeB s = true) (hd : inr day 0 36524 = true) :
    Calls Try.prog 80 #[.map (some b), .string ⟨s.toArray⟩, .int .i64 day] w fun e w' => ∃ (r : Rt) (ok : Bool), e = .returned (.tuple #[.agg #[.string ⟨r.c.toArray⟩, .int .i64 r.day, .int .i64 r.num, .int .i64 r.den], .bool ok]) ∧
      ((ok = true ∧ GoodR rs day s r) ∨ (ok = false ∧ rateL s day rs = (0, 0))) ∧ Below w.heap.size w w' := by
  refine (latest_i s day w b n D (bookF rs) hown hD (book_wf ht) hs (inr_iff.1 hd)).mono ?_
  rintro e w' ⟨r, ok, h1, h2, h3⟩
  exact ⟨r, ok, h1, book_latest ht hs (inr_iff.1 hd).1 h2, h3⟩

set_option maxRecDepth 100000 in
set_option maxHeartbeats 4000000 in
theorem ratesOn_i (A : Option Addr) (c : Nat) (rs : List Rt) (day : Int) (B : Option Addr) (d : Nat) (cs : List (List UInt8)) (w : World) (h : Tbl w A rs) (hS : Sr w B cs) (hl : ∀ c ∈ cs, c.length ≤ 9223372036854775807) (hn : cs.length ≤ 2) :
    Calls Try.prog 56 #[.slice A rs.length c, .int .i64 day, .slice B cs.length d] w (RatesP w rs day cs) := by
  obtain ⟨i0, hi, hz0, hz1, hz2⟩ := info_parts rateInfo
  rcases Bool.eq_false_or_eq_true (tabB rs) with ht | ht
  · have HT := Lib.hid (tabI_q (c := c) h ht)
    rcases Bool.eq_false_or_eq_true (cs.all codeB) with hc | hc
    · rcases Bool.eq_false_or_eq_true (inr day 0 36524) with hd | hd
      · have HB := Lib.hid (fun w' => bookOf_i A c rs w')
        have H4 := Lib.hid (fun h4 => rates_4 ht hc hd h4)
        have H0 := Lib.hid (fun h4 => rates_0 ht hc hd h4)
        have HL := Lib.hid (fun (w : World) (b n : Nat) (D : DataW Value) hown hD s hs => latest_q (w := w) (b := b) (n := n) (D := D) (s := s) (day := day) ht hown hD hs hd)
        have HN := Lib.hid h.len
        go_enter Try.func56, Try.ntmps56
        go_wp2_with (first
          | (go_at_call 17; refine HT.out.mono ?_; rintro e w1 ⟨rfl, b1⟩; have hS1 := hS.below b1; have h1 := h.below b1)
          | (go_at_call 77; refine (areCodes_q hc hS1 hl (by omega)).mono ?_; rintro e w' ⟨rfl, rfl⟩)
          | (go_at_call 78; refine (isDay_q hd _).mono ?_; rintro e w' ⟨rfl, rfl⟩)
          | (go_at_call 79; refine (HB.out w1 h1 ht).mono ?_; rintro e w2 ⟨D, rfl, hown, hD, b2⟩; have hS2 := hS1.below b2; have hb2 := belowGo b1 b2))
        generalize w1.heap.size = mb at *
        have hD2 := Lib.hid hD
        clear HT HB hS hS1 h h1 b2 b1 ht hd hD
        go_loopw [9, 30] (fun o i wr => ∃ (k : Nat) (ys : List Rt), k ≤ cs.length ∧ i = .int .i64 k ∧ wr.ownsRow w2.heap.size 30 4 o ys.length (ys.flatMap Rt.cells) ∧ Hid (GoodRs rs day (cs.take k) ys) ∧ Below w2.heap.size w2 wr) (fun _ i _ => cs.length - (intOf i).toNat)
        case atStart => exact ⟨0, [], Nat.zero_le _, rfl, made0 _ _ _ _ (Nat.le_refl _), Lib.hid (GoodRs.nil _ _), below_alloc _ _⟩
        case round =>
          obtain ⟨k, ys, hk, rfl, hrow, hys, hb⟩ := hrel
          obtain ⟨O, q, rfl⟩ := own_form hrow
          have hyl : ys.length ≤ 2 := by rw [hys.out.1, List.length_take]; omega
          by_cases hlt : k < cs.length
          · obtain ⟨b, off, s, rfl, hbl, c0, hs⟩ := (hS2.below hb).at hlt
            have hcd : codeB s = true := List.all_eq_true.1 hc s (List.mem_of_getElem? hs.out)
            have HC := Lib.hid (HL.out wr mb _ D (owns_below hown hb) hD2.out s hcd)
            have HG := Lib.hid (fun (r : Rt) (hr : GoodR rs day s r) => (by rw [snoc_of hs.out]; exact hys.out.snoc hr : GoodRs rs day (cs.take (k + 1)) (ys ++ [r])))
            have HE := Lib.hid (fun hr : rateL s day rs = (0, 0) => H4.out (any_of hs.out hr))
            clear hS2 hs hys hc hl
            go_wp2_with (first
              | (go_at_call 80; refine HC.out.mono ?_; rintro e w3 ⟨r, ok, rfl, hr, b3⟩
                 have hb3 := hb.trans (b3.mono hb.size)
                 have hrow3 := (own_below hrow b3).alloc (.cells #[.string ⟨r.c.toArray⟩, .int .i64 r.day, .int .i64 r.num, .int .i64 r.den] 30)
                 have hsz : w2.heap.size ≤ (w3.alloc (.cells #[.string ⟨r.c.toArray⟩, .int .i64 r.day, .int .i64 r.num, .int .i64 r.den] 30)).heap.size := Nat.le_trans hb3.size (by simp)
                 have hsz := Lib.hid hsz
                 have hzz : Hid (w3.heap.size + 1 = (w3.alloc (.cells #[.string ⟨r.c.toArray⟩, .int .i64 r.day, .int .i64 r.num, .int .i64 r.den] 30)).heap.size) := Lib.hid (by simp)
                 rcases hr with ⟨rfl, hr⟩ | ⟨rfl, hr⟩)
              | (at_builtin; refine wpList_push _ rfl (.tmp 43) (.tmp 45) 24 rfl w2.heap.size 30 i0 _ 4 40 Try.underlying24 hi hz0 hz1 hz2 rfl (by decide) _ ys.length _ rfl hrow3 [.string ⟨r.c.toArray⟩, .int .i64 r.day, .int .i64 r.num, .int .i64 r.den] rfl (by simp [Value.oneCell']) (congrArg (fun n => Value.slice (some ⟨n, 0, none⟩) 1 1) hzz.out) (by unfold maxLen; omega) (by omega) hsz.out ?_; intro v' w' hown' hb'))
            · refine ⟨⟨k + 1, ys ++ [r], by omega, by go_num, by simpa [Rt.cells] using hown', Lib.hid (HG.out r hr), hb3.trans (((Below.refl _ _).alloc (Nat.le_refl _) _ |>.mono hb3.size).trans hb')⟩, ?_⟩
              simp [intOf]; omega
            · have E := Lib.hid (HE.out hr)
              go_ret2
              unfold RatesP
              rw [E.out]
              exact ⟨none, 0, [], rfl, Or.nil _ _, (fun h => absurd h (by decide)), hb2.trans ((hb3.alloc hb3.size _).mono hb2.size)⟩
          · have HG : Hid (GoodRs rs day cs ys) := Lib.hid (by have := hys.out; rwa [take_all hk hlt] at this)
            have E := Lib.hid (H0.out HG.out.none)
            clear hys hS2 hl
            go_wp2_with fail
            go_ret2
            unfold RatesP
            rw [E.out]
            exact ⟨O, q, ys, rfl, Or.mono hrow hb2.size, fun _ => HG.out, hb2.trans (hb.mono hb2.size)⟩
      · have E := Lib.hid (rates_2 ht hc hd)
        go_enter Try.func56, Try.ntmps56
        go_wp2_with (first
          | (go_at_call 17; refine HT.out.mono ?_; rintro e w1 ⟨rfl, b1⟩; have hS1 := hS.below b1)
          | (go_at_call 77; refine (areCodes_q hc hS1 hl (by omega)).mono ?_; rintro e w' ⟨rfl, rfl⟩)
          | (go_at_call 78; refine (isDay_q hd _).mono ?_; rintro e w' ⟨rfl, rfl⟩))
        go_ret2
        unfold RatesP
        rw [E.out]
        exact ⟨none, 0, [], rfl, Or.nil _ _, (fun h => absurd h (by decide)), b1⟩
    · have E := Lib.hid (rates_1 (rs := rs) (day := day) (cs := cs) (by rw [hc, Bool.and_false]))
      go_enter Try.func56, Try.ntmps56
      go_wp2_with (first
        | (go_at_call 17; refine HT.out.mono ?_; rintro e w1 ⟨rfl, b1⟩; have hS1 := hS.below b1)
        | (go_at_call 77; refine (areCodes_q hc hS1 hl (by omega)).mono ?_; rintro e w' ⟨rfl, rfl⟩))
      go_ret2
      unfold RatesP
      rw [E.out]
      exact ⟨none, 0, [], rfl, Or.nil _ _, (fun h => absurd h (by decide)), b1⟩
  · have HT := Lib.hid (tabI_q (c := c) h ht)
    have E := Lib.hid (rates_1 (rs := rs) (day := day) (cs := cs) (by rw [ht, Bool.false_and]))
    go_enter Try.func56, Try.ntmps56
    go_wp2_with (go_at_call 17; refine HT.out.mono ?_; rintro e w1 ⟨rfl, b1⟩)
    go_ret2
    unfold RatesP
    rw [E.out]
    exact ⟨none, 0, [], rfl, Or.nil _ _, (fun h => absurd h (by decide)), b1⟩
end Go.Proofs.Ytaehkkcaoniphaa
