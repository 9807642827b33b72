import Derived.Test.YtaehkkcaoniphaaPd
import Derived.Laws.Append
/- spec.RateOn; the law of RateOn. -/
namespace Go.Proofs.Ytaehkkcaoniphaa
open Go.ChangeShapes Go.WideShapes Go.ChangeAt Go.RowKit
set_option linter.unusedVariables false

theorem rate_nn {rs : List Rt} (ht : tabB rs = true) (c : List UInt8) (day : Int) : 0 ≤ (rateL c day rs).2 := by
  unfold rateL
  split
  · decide
  · split
    · decide
    · rename_i r hr
      obtain ⟨k, hk, _⟩ := lastOn_some hr
      have := Rt.ok_iff.1 (tab_ok ht hk)
      show 0 ≤ r.den
      omega
def cdO (rs : List Rt) (f t : List UInt8) (day : Int) (ba : Bool) : Int := cdB (tabB rs) (codeB f) (codeB t) (inr day 0 36524) ba
theorem cdB_0 {bt bf bc bd ba : Bool} (h : cdB bt bf bc bd ba = 0) : bt = true ∧ bf = true ∧ bc = true ∧ bd = true ∧ ba = true := by
  revert bt bf bc bd ba; decide
theorem ratesC_one {rs : List Rt} {c : List UInt8} {day : Int} : ratesC rs day [c] = if cdO rs c c day true = 0 then (if noRate rs day c = true then 4 else 0) else cdO rs c c day true := by
  unfold ratesC cdO
  simp only [List.all_cons, List.all_nil, List.any_cons, List.any_nil, Bool.and_true, Bool.or_false]
  generalize tabB rs = a
  generalize codeB c = b
  generalize inr day 0 36524 = d
  generalize noRate rs day c = e
  revert a b d e; decide
theorem no_rate {rs : List Rt} (ht : tabB rs = true) {c : List UInt8} {day : Int} : noRate rs day c = true ↔ ¬ 0 < (rateL c day rs).2 := by
  have := rate_nn ht c day
  unfold noRate; rw [beq_iff_eq]; omega
theorem rateR_a {rs : List Rt} {c : List UInt8} {day k : Int} (h : cdO rs c c day true = k) (hk : k ≠ 0) : rateR rs c day = (0, 0, k) := by
  have : ratesC rs day [c] = k := by rw [ratesC_one, h, if_neg hk]
  unfold rateR; rw [this, if_neg hk]
theorem rateR_b {rs : List Rt} {c : List UInt8} {day : Int} (h : cdO rs c c day true = 0) (hd : 0 < (rateL c day rs).2) : rateR rs c day = ((rateL c day rs).1, (rateL c day rs).2, 0) := by
  have h1 : noRate rs day c = false := by
    cases e : noRate rs day c with
    | false => rfl
    | true => exact absurd hd ((no_rate (cdB_0 h).1).1 e)
  have : ratesC rs day [c] = 0 := by rw [ratesC_one, h, if_pos rfl, h1]; rfl
  unfold rateR; rw [if_pos this]
theorem rateR_c {rs : List Rt} {c : List UInt8} {day : Int} (h : cdO rs c c day true = 0) (hd : ¬ 0 < (rateL c day rs).2) : rateR rs c day = (0, 0, 4) := by
  have : ratesC rs day [c] = 4 := by rw [ratesC_one, h, if_pos rfl, (no_rate (cdB_0 h).1).2 hd]; rfl
  unfold rateR; rw [this]; rfl

set_option maxRecDepth 100000 in
set_option maxHeartbeats 4000000 in
theorem rateOn_s (A : Option Addr) (d : Nat) (rs : List Rt) (c : List UInt8) (day : Int) (w : World) (h : Tbl w A rs) (hc : c.length ≤ 9223372036854775807) :
    Calls Try.prog 15 #[.slice A rs.length d, .string ⟨c.toArray⟩, .int .i64 day] w (Gives w (.tuple #[.int .i64 (rateR rs c day).1, .int .i64 (rateR rs c day).2.1, .int .i64 (rateR rs c day).2.2])) := by
  have HC := Lib.hid (l03Code_q (d := d) (amount := 0) h hc hc rfl rfl rfl rfl (show amt 0 = true from rfl) (t := c) (f := c) (day := day))
  have HA := Lib.hid (fun k => @rateR_a rs c day k)
  have HB := Lib.hid (@rateR_b rs c day)
  have HN := Lib.hid (@rateR_c rs c day)
  have HR := Lib.hid (fun w' (hb : Below w.heap.size w w') => l03Rate_s A d rs c day w' (h.below hb))
  rw [show cdB (tabB rs) (codeB c) (codeB c) (inr day 0 36524) true = cdO rs c c day true from rfl] at HC
  generalize cdO rs c c day true = k at *
  generalize rateR rs c day = R at *
  generalize rateL c day rs = p at *
  obtain ⟨n, m⟩ := p
  simp only at HB HN HR
  clear h
  by_cases hk : k = 0
  · subst hk
    by_cases hm : 0 < m
    · have E := Lib.hid (HB.out rfl hm)
      have hm2 : decide (0 < m) = true := by simpa using hm
      rw [hm2] at HR
      clear HA HB HN
      go_enter Try.func15, Try.ntmps15
      go_wp2_with (first
        | (go_at_call 46; refine HC.out.mono ?_; rintro e w1 ⟨rfl, b1⟩)
        | (go_at_call 57; refine (HR.out _ b1).mono ?_; rintro e w' ⟨rfl, rfl⟩))
      go_ret3
      rw [E.out]
      exact ⟨rfl, b1⟩
    · have E := Lib.hid (HN.out rfl hm)
      have hm2 : decide (0 < m) = false := by simpa using hm
      rw [hm2] at HR
      clear HA HB HN
      go_enter Try.func15, Try.ntmps15
      go_wp2_with (first
        | (go_at_call 46; refine HC.out.mono ?_; rintro e w1 ⟨rfl, b1⟩)
        | (go_at_call 57; refine (HR.out _ b1).mono ?_; rintro e w' ⟨rfl, rfl⟩))
      go_ret3
      rw [E.out]
      exact ⟨rfl, b1⟩
  · have E := Lib.hid (HA.out k rfl hk)
    clear HA HB HN HR
    go_enter Try.func15, Try.ntmps15
    go_wp2_with (go_at_call 46; refine HC.out.mono ?_; rintro e w1 ⟨rfl, b1⟩)
    go_ret3
    rw [E.out]
    exact ⟨rfl, b1⟩

end Go.Proofs.Ytaehkkcaoniphaa

/- spec.AddRate. -/
namespace Go.Proofs.Ytaehkkcaoniphaa
open Go.ChangeShapes Go.WideShapes Go.ChangeAt Go.RowKit
set_option linter.unusedVariables false

def sameR (q r : Rt) : Bool := (q.c == r.c) && (q.day == r.day)
def stepA (r : Rt) (s : List Rt × Bool) (q : Rt) : List Rt × Bool :=
  ((if sameR q r = true then (if (!s.2 && (sameR q r || bef r q)) = true then s.1 ++ [r] else s.1) else (if (!s.2 && (sameR q r || bef r q)) = true then s.1 ++ [r] else s.1) ++ [q]), s.2 || (sameR q r || bef r q))
def addS (r : Rt) (rs : List Rt) : List Rt × Bool := rs.foldl (stepA r) ([], false)
theorem addS_snoc (r : Rt) (rs : List Rt) (q : Rt) : addS r (rs ++ [q]) = stepA r (addS r rs) q := by simp [addS, List.foldl_append]
def addL (rs : List Rt) (r : Rt) : List Rt := if (addS r rs).2 = true then (addS r rs).1 else (addS r rs).1 ++ [r]
def addR (rs : List Rt) (r : Rt) : List Rt × Int := if tabB rs = true then (if tabB (addL rs r) = true then (addL rs r, 0) else ([], 1)) else ([], 1)
theorem addR_no {rs : List Rt} {r : Rt} (h : tabB rs = false) : addR rs r = ([], 1) := by unfold addR; rw [if_neg (by rw [h]; exact Bool.false_ne_true)]
theorem addR_1 {rs : List Rt} {r : Rt} (h : tabB rs = true) (h2 : tabB (addL rs r) = false) : addR rs r = ([], 1) := by unfold addR; rw [if_pos h, if_neg (by rw [h2]; exact Bool.false_ne_true)]
theorem addR_0 {rs : List Rt} {r : Rt} (h : tabB rs = true) (h2 : tabB (addL rs r) = true) : addR rs r = (addL rs r, 0) := by unfold addR; rw [if_pos h, if_pos h2]
theorem addS_all {r : Rt} {P : Rt → Prop} (hr : P r) (rs : List Rt) : (∀ q ∈ rs, P q) → ∀ q ∈ (addS r rs).1, P q := by
  refine rev_ind (P := fun rs => (∀ q ∈ rs, P q) → ∀ q ∈ (addS r rs).1, P q) ?_ ?_ rs
  · intro _ q hq; cases hq
  · intro rs x ih h
    have ih := ih fun q hq => h q (by simp [hq])
    have hx := h x (by simp)
    rw [addS_snoc]
    unfold stepA
    intro q hq
    simp only at hq
    have key : ∀ q ∈ (if (!(addS r rs).2 && (sameR x r || bef r x)) = true then (addS r rs).1 ++ [r] else (addS r rs).1), P q := by
      intro q hq
      split at hq
      · rcases List.mem_append.1 hq with h1 | h1
        · exact ih q h1
        · simp at h1; subst h1; exact hr
      · exact ih q hq
    split at hq
    · exact key q hq
    · rcases List.mem_append.1 hq with h1 | h1
      · exact key q h1
      · simp at h1; subst h1; exact hx
theorem addS_len (r : Rt) (rs : List Rt) : (addS r rs).1.length ≤ 2 * rs.length := by
  refine rev_ind (P := fun rs => (addS r rs).1.length ≤ 2 * rs.length) ?_ ?_ rs
  · simp [addS]
  · intro rs x ih
    rw [addS_snoc]
    unfold stepA
    simp only [List.length_append, List.length_singleton]
    (repeat' split) <;> (try simp only [List.length_append, List.length_singleton]) <;> omega
/-- What a function leaves that hands back new rates and a code. -/
def NewRatesC (w : World) (p : List Rt × Int) (e : Ending) (w' : World) : Prop :=
  ∃ A c, e = .returned (.tuple #[.slice A p.1.length c, .int .i64 p.2]) ∧ Or w' w.heap.size A p.1.length c p.1 ∧ Below w.heap.size w w'
theorem ways3 (q r : Rt) : (sameR q r = true ∧ (q.c == r.c) = true ∧ (q.day == r.day) = true) ∨ (sameR q r = false ∧ (q.c == r.c) = true ∧ (q.day == r.day) = false) ∨ (sameR q r = false ∧ (q.c == r.c) = false) := by
  unfold sameR
  cases q.c == r.c <;> cases q.day == r.day <;> simp

set_option maxRecDepth 100000 in
set_option maxHeartbeats 8000000 in
theorem addRate_s (A : Option Addr) (d : Nat) (rs : List Rt) (r : Rt) (w : World) (h : Tbl w A rs) (hrl : r.c.length ≤ 1048576) :
    Calls Try.prog 12 #[.slice A rs.length d, .agg #[.string ⟨r.c.toArray⟩, .int .i64 r.day, .int .i64 r.num, .int .i64 r.den]] w (NewRatesC w (addR rs r)) := by
  obtain ⟨i0, hi, hz0, hz1, hz2⟩ := info_parts rateInfo
  have kb := KeepB.new w #[.string ⟨r.c.toArray⟩, .int .i64 r.day, .int .i64 r.num, .int .i64 r.den] 30
  have h0 := h.below kb.bel
  rcases Bool.eq_false_or_eq_true (tabB rs) with ht | ht
  · have HT := Lib.hid (tabS_q (c := d) h0 ht)
    have H1 := Lib.hid (fun h2 => @addR_1 rs r ht h2)
    have H0 := Lib.hid (fun h2 => @addR_0 rs r ht h2)
    have hn : rs.length ≤ 20 := (tabB_iff.1 ht).2
    clear ht h
    go_enter Try.func12, Try.ntmps12
    go_wp2_with (go_at_call 54; refine HT.out.mono ?_; rintro e w1 ⟨rfl, b1⟩)
    have kb1 := kb.step b1
    have h1 := h0.below b1
    have hw1 : w.heap.size < w1.heap.size := lt_some kb1.a
    clear HT kb h0 b1
    go_loopw [6, 7, 8] (fun o dn i wr => ∃ (k : Nat) (ys : List Rt) (b : Bool), k ≤ rs.length ∧ i = .int .i64 k ∧ dn = .bool b ∧ wr.ownsRow w1.heap.size 30 4 o ys.length (ys.flatMap Rt.cells) ∧ Hid (addS r (rs.take k) = (ys, b)) ∧ Below w1.heap.size w1 wr) (fun _ _ i _ => rs.length - (intOf i).toNat)
    case atStart => exact ⟨0, [], false, Nat.zero_le _, rfl, rfl, made0 _ _ _ _ (Nat.le_refl _), Lib.hid rfl, below_alloc _ _⟩
    case round =>
      obtain ⟨k, ys, b, hk, rfl, rfl, hown, hys, hb⟩ := hrel
      obtain ⟨O, c, rfl⟩ := own_form hown
      have hyl : ys.length ≤ 40 := by have := addS_len r (rs.take k); rw [hys.out, List.length_take] at this; simp only at this; omega
      by_cases hlt : k < rs.length
      · obtain ⟨bb, off, q, rfl, hl0, hq, h40⟩ := h1.row.four hlt
        have h4 := h40.below hl0 hb
        have hl : bb < wr.heap.size := Nat.lt_of_lt_of_le hl0 hb.size
        have HQ := Lib.hid (fun W (hW : Below w1.heap.size w1 W) => h40.below hl0 hW)
        clear h40
        have kr := (kb1.step hb).all
        have e0 := kr.1; have e1 := kr.2.1; have e2 := kr.2.2.1; have e3 := kr.2.2.2.1
        have c0 := h4.c0; have c1 := h4.c1; have c2 := h4.c2; have c3 := h4.c3
        have HS : Hid (addS r (rs.take (k + 1)) = stepA r (ys, b) q) := Lib.hid (by rw [snoc_of hq.out, addS_snoc, hys.out])
        obtain ⟨S, hS⟩ : ∃ S : World → Prop, ∀ W, S W ↔ Below wr.heap.size wr W := ⟨_, fun _ => Iff.rfl⟩
        have HD := Lib.hid (fun n => (hS (wr.drewN n).drew).2 (below_drewN wr n).drew)
        have f0 : ∀ y : Sub S, y.w.cell? ⟨w.heap.size, 0, none⟩ = some (.string ⟨r.c.toArray⟩) := fun y => (((kb1.step hb).step ((hS _).1 y.h)).all).1
        have f1 : ∀ y : Sub S, y.w.cell? ⟨w.heap.size, 1, none⟩ = some (.int .i64 r.day) := fun y => (((kb1.step hb).step ((hS _).1 y.h)).all).2.1
        have f2 : ∀ y : Sub S, y.w.cell? ⟨w.heap.size, 2, none⟩ = some (.int .i64 r.num) := fun y => (((kb1.step hb).step ((hS _).1 y.h)).all).2.2.1
        have f3 : ∀ y : Sub S, y.w.cell? ⟨w.heap.size, 3, none⟩ = some (.int .i64 r.den) := fun y => (((kb1.step hb).step ((hS _).1 y.h)).all).2.2.2.1
        have g0 : ∀ y : Sub S, y.w.cell? ⟨bb, off + k * 4, none⟩ = some (.string ⟨q.c.toArray⟩) := fun y => (h4.below hl ((hS _).1 y.h)).c0
        have g1 : ∀ y : Sub S, y.w.cell? ⟨bb, off + k * 4 + 1, none⟩ = some (.int .i64 q.day) := fun y => (h4.below hl ((hS _).1 y.h)).c1
        have g2 : ∀ y : Sub S, y.w.cell? ⟨bb, off + k * 4 + 2, none⟩ = some (.int .i64 q.num) := fun y => (h4.below hl ((hS _).1 y.h)).c2
        have g3 : ∀ y : Sub S, y.w.cell? ⟨bb, off + k * 4 + 3, none⟩ = some (.int .i64 q.den) := fun y => (h4.below hl ((hS _).1 y.h)).c3
        have HB := Lib.hid (fun y : Sub S => (hb.trans (((hS _).1 y.h).mono hb.size) : Below w1.heap.size w1 y.w))
        have HO := Lib.hid (fun y : Sub S => own_below hown ((hS _).1 y.h))
        have HC := Lib.hid (fun y : Sub S => (before_s r q y.w).mono fun e w' h => (⟨h.1, ⟨w', (hS _).2 (belowGo ((hS _).1 y.h) h.2)⟩, rfl⟩ : e = .returned (.bool (bef r q)) ∧ ∃ z : Sub S, w' = z.w))
        clear h4 kr hq hys hS
        rcases ways3 q r with ⟨hs, t1, t2⟩ | ⟨hs, t1, t2⟩ | ⟨hs, t1⟩
        · cases b
          · have HN : Hid (addS r (rs.take (k + 1)) = (ys ++ [r], true)) := Lib.hid (by rw [HS.out]; unfold stepA; simp [hs])
            clear HS HC
            go_wp2_with fail
            go_quiet (fail)
            go_wp2_with fail
            refine region_held S (by kernel_rfl) (by kernel_rfl) (HD.out _) ?_
            repeat (go_big_quiet_step ((first | rfl)))
            refine wpQuiet_nil ?_
            rintro _ ⟨y, rfl⟩
            have hown2 := HO.out y
            have hby := HB.out y
            have hsz := hby.size
            have e0 := f0 y; have e1 := f1 y; have e2 := f2 y; have e3 := f3 y
            have c0 := g0 y; have c1 := g1 y; have c2 := g2 y; have c3 := g3 y
            go_wp2_with (at_builtin; refine wpList_push _ rfl (.tmp 51) (.tmp 53) 24 rfl w1.heap.size 30 i0 _ 4 40 Try.underlying24 hi hz0 hz1 hz2 rfl (by decide) _ (ys.length) _ rfl hown2 [.string ⟨r.c.toArray⟩, .int .i64 r.day, .int .i64 r.num, .int .i64 r.den] rfl (by simp [Value.oneCell']) rfl (by unfold maxLen; omega) (by omega) hsz ?_; intro v3 w3 hown3 hb3)
            go_roundw
            case rel => exact ⟨k + 1, ys ++ [r], true, by omega, by go_num, rfl, by simpa [Rt.cells] using hown3, HN, hby.trans hb3⟩
            case measure => simp [intOf]; omega
          · have HN : Hid (addS r (rs.take (k + 1)) = (ys, true)) := Lib.hid (by rw [HS.out]; unfold stepA; simp [hs])
            clear HS HC
            go_wp2_with fail
            go_quiet (fail)
            go_wp2_with fail
            refine region_held S (by kernel_rfl) (by kernel_rfl) (HD.out _) ?_
            repeat (go_big_quiet_step ((first | rfl)))
            refine wpQuiet_nil ?_
            rintro _ ⟨y, rfl⟩
            have hown2 := HO.out y
            have hby := HB.out y
            have hsz := hby.size
            have e0 := f0 y; have e1 := f1 y; have e2 := f2 y; have e3 := f3 y
            have c0 := g0 y; have c1 := g1 y; have c2 := g2 y; have c3 := g3 y
            go_wp2_with fail
            go_roundw
            case rel => exact ⟨k + 1, ys, true, by omega, by go_num, rfl, hown2, HN, hby⟩
            case measure => simp [intOf]; omega
        · cases b
          · rcases Bool.eq_false_or_eq_true (bef r q) with hbf | hbf
            · rw [hbf] at HC
              have HN : Hid (addS r (rs.take (k + 1)) = (ys ++ [r] ++ [q], true)) := Lib.hid (by rw [HS.out]; unfold stepA; simp [hs, hbf])
              clear HS
              go_wp2_with fail
              go_quiet (fail)
              go_wp2_with fail
              refine region_held S (by kernel_rfl) (by kernel_rfl) (HD.out _) ?_
              repeat (go_big_quiet_step ((first | rfl | (go_at_call 55; exact HC.out _))))
              refine wpQuiet_nil ?_
              rintro _ ⟨y, rfl⟩
              have hown2 := HO.out y
              have hby := HB.out y
              have hsz := hby.size
              have e0 := f0 y; have e1 := f1 y; have e2 := f2 y; have e3 := f3 y
              have c0 := g0 y; have c1 := g1 y; have c2 := g2 y; have c3 := g3 y
              go_wp2_with (first | (at_builtin; refine wpList_push _ rfl (.tmp 51) (.tmp 53) 24 rfl w1.heap.size 30 i0 _ 4 40 Try.underlying24 hi hz0 hz1 hz2 rfl (by decide) _ (ys.length) _ rfl hown2 [.string ⟨r.c.toArray⟩, .int .i64 r.day, .int .i64 r.num, .int .i64 r.den] rfl (by simp [Value.oneCell']) rfl (by unfold maxLen; omega) (by omega) hsz ?_; intro v3 w3 hown3 hb3; have hb4 := hby.trans hb3; have hsz4 := hb4.size; have c0 := (HQ.out _ hb4).c0; have c1 := (HQ.out _ hb4).c1; have c2 := (HQ.out _ hb4).c2; have c3 := (HQ.out _ hb4).c3) | (at_builtin; refine wpList_push _ rfl (.tmp 57) (.tmp 62) 24 rfl w1.heap.size 30 i0 _ 4 40 Try.underlying24 hi hz0 hz1 hz2 rfl (by decide) _ (ys.length + 1) _ rfl hown3 [.string ⟨q.c.toArray⟩, .int .i64 q.day, .int .i64 q.num, .int .i64 q.den] rfl (by simp [Value.oneCell']) rfl (by unfold maxLen; omega) (by omega) hsz4 ?_; intro v5 w5 hown5 hb5))
              go_roundw
              case rel => exact ⟨k + 1, ys ++ [r] ++ [q], true, by omega, by go_num, rfl, by simpa [Rt.cells, Nat.add_assoc] using hown5, HN, hb4.trans hb5⟩
              case measure => simp [intOf]; omega
            · rw [hbf] at HC
              have HN : Hid (addS r (rs.take (k + 1)) = (ys ++ [q], false)) := Lib.hid (by rw [HS.out]; unfold stepA; simp [hs, hbf])
              clear HS
              go_wp2_with fail
              go_quiet (fail)
              go_wp2_with fail
              refine region_held S (by kernel_rfl) (by kernel_rfl) (HD.out _) ?_
              repeat (go_big_quiet_step ((first | rfl | (go_at_call 55; exact HC.out _))))
              refine wpQuiet_nil ?_
              rintro _ ⟨y, rfl⟩
              have hown2 := HO.out y
              have hby := HB.out y
              have hsz := hby.size
              have e0 := f0 y; have e1 := f1 y; have e2 := f2 y; have e3 := f3 y
              have c0 := g0 y; have c1 := g1 y; have c2 := g2 y; have c3 := g3 y
              go_wp2_with (at_builtin; refine wpList_push _ rfl (.tmp 57) (.tmp 62) 24 rfl w1.heap.size 30 i0 _ 4 40 Try.underlying24 hi hz0 hz1 hz2 rfl (by decide) _ (ys.length) _ rfl hown2 [.string ⟨q.c.toArray⟩, .int .i64 q.day, .int .i64 q.num, .int .i64 q.den] rfl (by simp [Value.oneCell']) rfl (by unfold maxLen; omega) (by omega) hsz ?_; intro v3 w3 hown3 hb3)
              go_roundw
              case rel => exact ⟨k + 1, ys ++ [q], false, by omega, by go_num, rfl, by simpa [Rt.cells] using hown3, HN, hby.trans hb3⟩
              case measure => simp [intOf]; omega
          · have HN : Hid (addS r (rs.take (k + 1)) = (ys ++ [q], true)) := Lib.hid (by rw [HS.out]; unfold stepA; simp [hs])
            clear HS HC
            go_wp2_with fail
            go_quiet (fail)
            go_wp2_with fail
            refine region_held S (by kernel_rfl) (by kernel_rfl) (HD.out _) ?_
            repeat (go_big_quiet_step ((first | rfl)))
            refine wpQuiet_nil ?_
            rintro _ ⟨y, rfl⟩
            have hown2 := HO.out y
            have hby := HB.out y
            have hsz := hby.size
            have e0 := f0 y; have e1 := f1 y; have e2 := f2 y; have e3 := f3 y
            have c0 := g0 y; have c1 := g1 y; have c2 := g2 y; have c3 := g3 y
            go_wp2_with (at_builtin; refine wpList_push _ rfl (.tmp 57) (.tmp 62) 24 rfl w1.heap.size 30 i0 _ 4 40 Try.underlying24 hi hz0 hz1 hz2 rfl (by decide) _ (ys.length) _ rfl hown2 [.string ⟨q.c.toArray⟩, .int .i64 q.day, .int .i64 q.num, .int .i64 q.den] rfl (by simp [Value.oneCell']) rfl (by unfold maxLen; omega) (by omega) hsz ?_; intro v3 w3 hown3 hb3)
            go_roundw
            case rel => exact ⟨k + 1, ys ++ [q], true, by omega, by go_num, rfl, by simpa [Rt.cells] using hown3, HN, hby.trans hb3⟩
            case measure => simp [intOf]; omega
        · cases b
          · rcases Bool.eq_false_or_eq_true (bef r q) with hbf | hbf
            · rw [hbf] at HC
              have HN : Hid (addS r (rs.take (k + 1)) = (ys ++ [r] ++ [q], true)) := Lib.hid (by rw [HS.out]; unfold stepA; simp [hs, hbf])
              clear HS
              go_wp2_with fail
              go_quiet (fail)
              go_wp2_with fail
              refine region_held S (by kernel_rfl) (by kernel_rfl) (HD.out _) ?_
              repeat (go_big_quiet_step ((first | rfl | (go_at_call 55; exact HC.out _))))
              refine wpQuiet_nil ?_
              rintro _ ⟨y, rfl⟩
              have hown2 := HO.out y
              have hby := HB.out y
              have hsz := hby.size
              have e0 := f0 y; have e1 := f1 y; have e2 := f2 y; have e3 := f3 y
              have c0 := g0 y; have c1 := g1 y; have c2 := g2 y; have c3 := g3 y
              go_wp2_with (first | (at_builtin; refine wpList_push _ rfl (.tmp 51) (.tmp 53) 24 rfl w1.heap.size 30 i0 _ 4 40 Try.underlying24 hi hz0 hz1 hz2 rfl (by decide) _ (ys.length) _ rfl hown2 [.string ⟨r.c.toArray⟩, .int .i64 r.day, .int .i64 r.num, .int .i64 r.den] rfl (by simp [Value.oneCell']) rfl (by unfold maxLen; omega) (by omega) hsz ?_; intro v3 w3 hown3 hb3; have hb4 := hby.trans hb3; have hsz4 := hb4.size; have c0 := (HQ.out _ hb4).c0; have c1 := (HQ.out _ hb4).c1; have c2 := (HQ.out _ hb4).c2; have c3 := (HQ.out _ hb4).c3) | (at_builtin; refine wpList_push _ rfl (.tmp 57) (.tmp 62) 24 rfl w1.heap.size 30 i0 _ 4 40 Try.underlying24 hi hz0 hz1 hz2 rfl (by decide) _ (ys.length + 1) _ rfl hown3 [.string ⟨q.c.toArray⟩, .int .i64 q.day, .int .i64 q.num, .int .i64 q.den] rfl (by simp [Value.oneCell']) rfl (by unfold maxLen; omega) (by omega) hsz4 ?_; intro v5 w5 hown5 hb5))
              go_roundw
              case rel => exact ⟨k + 1, ys ++ [r] ++ [q], true, by omega, by go_num, rfl, by simpa [Rt.cells, Nat.add_assoc] using hown5, HN, hb4.trans hb5⟩
              case measure => simp [intOf]; omega
            · rw [hbf] at HC
              have HN : Hid (addS r (rs.take (k + 1)) = (ys ++ [q], false)) := Lib.hid (by rw [HS.out]; unfold stepA; simp [hs, hbf])
              clear HS
              go_wp2_with fail
              go_quiet (fail)
              go_wp2_with fail
              refine region_held S (by kernel_rfl) (by kernel_rfl) (HD.out _) ?_
              repeat (go_big_quiet_step ((first | rfl | (go_at_call 55; exact HC.out _))))
              refine wpQuiet_nil ?_
              rintro _ ⟨y, rfl⟩
              have hown2 := HO.out y
              have hby := HB.out y
              have hsz := hby.size
              have e0 := f0 y; have e1 := f1 y; have e2 := f2 y; have e3 := f3 y
              have c0 := g0 y; have c1 := g1 y; have c2 := g2 y; have c3 := g3 y
              go_wp2_with (at_builtin; refine wpList_push _ rfl (.tmp 57) (.tmp 62) 24 rfl w1.heap.size 30 i0 _ 4 40 Try.underlying24 hi hz0 hz1 hz2 rfl (by decide) _ (ys.length) _ rfl hown2 [.string ⟨q.c.toArray⟩, .int .i64 q.day, .int .i64 q.num, .int .i64 q.den] rfl (by simp [Value.oneCell']) rfl (by unfold maxLen; omega) (by omega) hsz ?_; intro v3 w3 hown3 hb3)
              go_roundw
              case rel => exact ⟨k + 1, ys ++ [q], false, by omega, by go_num, rfl, by simpa [Rt.cells] using hown3, HN, hby.trans hb3⟩
              case measure => simp [intOf]; omega
          · have HN : Hid (addS r (rs.take (k + 1)) = (ys ++ [q], true)) := Lib.hid (by rw [HS.out]; unfold stepA; simp [hs])
            clear HS HC
            go_wp2_with fail
            go_quiet (fail)
            go_wp2_with fail
            refine region_held S (by kernel_rfl) (by kernel_rfl) (HD.out _) ?_
            repeat (go_big_quiet_step ((first | rfl)))
            refine wpQuiet_nil ?_
            rintro _ ⟨y, rfl⟩
            have hown2 := HO.out y
            have hby := HB.out y
            have hsz := hby.size
            have e0 := f0 y; have e1 := f1 y; have e2 := f2 y; have e3 := f3 y
            have c0 := g0 y; have c1 := g1 y; have c2 := g2 y; have c3 := g3 y
            go_wp2_with (at_builtin; refine wpList_push _ rfl (.tmp 57) (.tmp 62) 24 rfl w1.heap.size 30 i0 _ 4 40 Try.underlying24 hi hz0 hz1 hz2 rfl (by decide) _ (ys.length) _ rfl hown2 [.string ⟨q.c.toArray⟩, .int .i64 q.day, .int .i64 q.num, .int .i64 q.den] rfl (by simp [Value.oneCell']) rfl (by unfold maxLen; omega) (by omega) hsz ?_; intro v3 w3 hown3 hb3)
            go_roundw
            case rel => exact ⟨k + 1, ys ++ [q], true, by omega, by go_num, rfl, by simpa [Rt.cells] using hown3, HN, hby.trans hb3⟩
            case measure => simp [intOf]; omega
      · have HA : Hid (addS r rs = (ys, b)) := Lib.hid (by have := hys.out; rwa [take_all hk hlt] at this)
        have htx : ∀ x ∈ ys, x.c.length ≤ 1048576 := fun x hx => addS_all (P := fun x => x.c.length ≤ 1048576) hrl rs h1.txt x (by rw [HA.out]; exact hx)
        have kr := (kb1.step hb).all
        have e0 := kr.1; have e1 := kr.2.1; have e2 := kr.2.2.1; have e3 := kr.2.2.2.1
        have hw : w.heap.size ≤ w1.heap.size := Nat.le_of_lt hw1
        have hwb : Below w.heap.size w wr := (kb1.step hb).bel
        clear hys kr kb1
        cases b
        · have hL : addL rs r = ys ++ [r] := by unfold addL; rw [HA.out]; rfl
          rw [hL] at H0 H1
          have htx2 : ∀ x ∈ ys ++ [r], x.c.length ≤ 1048576 := fun x hx => by
            rcases List.mem_append.1 hx with hx | hx
            · exact htx x hx
            · simp at hx; subst hx; exact hrl
          have hl2 : (ys ++ [r]).length = ys.length + 1 := by simp
          rcases Bool.eq_false_or_eq_true (tabB (ys ++ [r])) with hb2 | hb2
          · have E := Lib.hid (H0.out hb2)
            clear H0 H1 HA
            go_wp2_with (first
              | (at_builtin; refine wpList_push _ rfl (.tmp 66) (.tmp 68) 24 rfl w1.heap.size 30 i0 _ 4 40 Try.underlying24 hi hz0 hz1 hz2 rfl (by decide) _ ys.length _ rfl hown [.string ⟨r.c.toArray⟩, .int .i64 r.day, .int .i64 r.num, .int .i64 r.den] rfl (by simp [Value.oneCell']) rfl (by unfold maxLen; omega) (by omega) hb.size ?_; intro v3 w3 hown3 hb3; obtain ⟨O3, c3, rfl⟩ := own_form hown3)
              | (go_at_call 54; rw [← hl2]; refine (tabS_q (rs := ys ++ [r]) ⟨(show Or w3 w1.heap.size O3 (ys ++ [r]).length c3 (ys ++ [r]) by unfold Or; rw [hl2]; simpa [Rt.cells] using hown3).rr, htx2, by rw [hl2]; omega⟩ hb2).mono ?_; rintro e w4 ⟨rfl, b4⟩))
            go_ret2
            unfold NewRatesC
            rw [E.out]
            exact ⟨O3, c3, by show Ending.returned (.tuple #[.slice O3 (ys.length + 1) c3, .int .i64 0]) = _; rw [← hl2], by
              have h5 : Or w3 w1.heap.size O3 (ys ++ [r]).length c3 (ys ++ [r]) := by unfold Or; rw [hl2]; simpa [Rt.cells] using hown3
              exact (h5.below b4).mono hw, (hwb.trans (hb3.mono hw)).trans (b4.mono (hwb.trans (hb3.mono hw)).size)⟩
          · have E := Lib.hid (H1.out hb2)
            clear H0 H1 HA
            go_wp2_with (first
              | (at_builtin; refine wpList_push _ rfl (.tmp 66) (.tmp 68) 24 rfl w1.heap.size 30 i0 _ 4 40 Try.underlying24 hi hz0 hz1 hz2 rfl (by decide) _ ys.length _ rfl hown [.string ⟨r.c.toArray⟩, .int .i64 r.day, .int .i64 r.num, .int .i64 r.den] rfl (by simp [Value.oneCell']) rfl (by unfold maxLen; omega) (by omega) hb.size ?_; intro v3 w3 hown3 hb3; obtain ⟨O3, c3, rfl⟩ := own_form hown3)
              | (go_at_call 54; rw [← hl2]; refine (tabS_q (rs := ys ++ [r]) ⟨(show Or w3 w1.heap.size O3 (ys ++ [r]).length c3 (ys ++ [r]) by unfold Or; rw [hl2]; simpa [Rt.cells] using hown3).rr, htx2, by rw [hl2]; omega⟩ hb2).mono ?_; rintro e w4 ⟨rfl, b4⟩))
            go_ret2
            unfold NewRatesC
            rw [E.out]
            exact ⟨none, 0, rfl, Or.nil _ _, (hwb.trans (hb3.mono hw)).trans (b4.mono (hwb.trans (hb3.mono hw)).size)⟩
        · have hL : addL rs r = ys := by unfold addL; rw [HA.out]; rfl
          rw [hL] at H0 H1
          have hrow : Tbl wr O ys := ⟨Or.rr (c := c) hown, htx, by omega⟩
          rcases Bool.eq_false_or_eq_true (tabB ys) with hb2 | hb2
          · have E := Lib.hid (H0.out hb2)
            clear H0 H1 HA
            go_wp2_with (go_at_call 54; refine (tabS_q hrow hb2).mono ?_; rintro e w4 ⟨rfl, b4⟩)
            go_ret2
            unfold NewRatesC
            rw [E.out]
            exact ⟨O, c, rfl, (Or.below (c := c) hown b4).mono hw, hwb.trans (b4.mono hwb.size)⟩
          · have E := Lib.hid (H1.out hb2)
            clear H0 H1 HA
            go_wp2_with (go_at_call 54; refine (tabS_q hrow hb2).mono ?_; rintro e w4 ⟨rfl, b4⟩)
            go_ret2
            unfold NewRatesC
            rw [E.out]
            exact ⟨none, 0, rfl, Or.nil _ _, hwb.trans (b4.mono hwb.size)⟩
  · have HT := Lib.hid (tabS_q (c := d) h0 ht)
    have E := Lib.hid (@addR_no rs r ht)
    clear ht h
    go_enter Try.func12, Try.ntmps12
    go_wp2_with (go_at_call 54; refine HT.out.mono ?_; rintro e w1 ⟨rfl, b1⟩)
    go_ret2
    unfold NewRatesC
    rw [E.out]
    exact ⟨none, 0, rfl, Or.nil _ _, belowGo kb.bel b1⟩
end Go.Proofs.Ytaehkkcaoniphaa

/- slices.BinarySearchFunc over rates. -/
namespace Go.Proofs.Ytaehkkcaoniphaa
open Go.ChangeShapes Go.WideShapes Go.ChangeAt Go.RowKit
set_option linter.unusedVariables false

set_option maxRecDepth 100000 in
set_option maxHeartbeats 4000000 in
theorem bin_i (A : Option Addr) (c : Nat) (rs : List Rt) (r : Rt) (w : World) (h : Rr w A rs) (hn : rs.length ≤ 20) (hm : ∀ (i j : Nat) (q p : Rt), i < j → rs[i]? = some q → rs[j]? = some p → bef p r = true → bef q r = true) :
    Calls Try.prog 51 #[.slice A rs.length c, .agg #[.string ⟨r.c.toArray⟩, .int .i64 r.day, .int .i64 r.num, .int .i64 r.den], .func (.func 52) #[] #[]] w
      fun e w' => ∃ (p : Nat) (b : Bool), e = .returned (.tuple #[.int .i64 p, .bool b]) ∧ Below w.heap.size w w' ∧ p ≤ rs.length ∧ (∀ (i : Nat) (q : Rt), i < p → rs[i]? = some q → bef q r = true) ∧ (∀ (i : Nat) (q : Rt), p ≤ i → rs[i]? = some q → bef q r = false) ∧
        (∀ q : Rt, rs[p]? = some q → b = (ordR q r == 0)) ∧ (p = rs.length → b = false) := by
  have kb := KeepB.new w #[.string ⟨r.c.toArray⟩, .int .i64 r.day, .int .i64 r.num, .int .i64 r.den] 30
  go_enter Try.func51, Try.ntmps51
  go_wp2_with fail
  go_loopw [9, 10] (fun a b wr => ∃ i j : Nat, a = .int .i64 i ∧ b = .int .i64 j ∧ i ≤ j ∧ j ≤ rs.length ∧ Hid (∀ (k : Nat) (q : Rt), k < i → rs[k]? = some q → bef q r = true) ∧ Hid (∀ (k : Nat) (q : Rt), j ≤ k → rs[k]? = some q → bef q r = false) ∧ KeepB w #[.string ⟨r.c.toArray⟩, .int .i64 r.day, .int .i64 r.num, .int .i64 r.den] 30 wr) (fun a b _ => (intOf b).toNat - (intOf a).toNat)
  case atStart => exact ⟨0, rs.length, rfl, rfl, by omega, by omega, Lib.hid (fun k q hk => by omega), Lib.hid (fun k q hk hq => by have := (List.getElem?_eq_some_iff.1 hq).1; omega), kb⟩
  case round =>
    obtain ⟨i, j, rfl, rfl, hij, hj, hlo, hhi, K⟩ := hrel
    by_cases hlt : i < j
    · obtain ⟨m, hmm⟩ : ∃ m, m = (i + j) / 2 := ⟨_, rfl⟩
      have hmi : i ≤ m := by omega
      have hmj : m < j := by omega
      have e1 : ((i : Int) + (j : Int)) / 2 = (m : Int) := by omega
      obtain ⟨b, off, q, rfl, hl, hq, h4⟩ := (h.below K.bel).four (show m < rs.length by omega)
      obtain ⟨S, hS⟩ : ∃ S : World → Prop, ∀ W, S W ↔ Below wr.heap.size wr W := ⟨_, fun _ => Iff.rfl⟩
      have k0 : S wr.drew := (hS _).2 (Below.refl _ _).drew
      have f0 : ∀ y : Sub S, y.w.cell? ⟨w.heap.size, 0, none⟩ = some (.string ⟨r.c.toArray⟩) := fun y => ((K.step ((hS _).1 y.h)).all).1
      have f1 : ∀ y : Sub S, y.w.cell? ⟨w.heap.size, 1, none⟩ = some (.int .i64 r.day) := fun y => ((K.step ((hS _).1 y.h)).all).2.1
      have f2 : ∀ y : Sub S, y.w.cell? ⟨w.heap.size, 2, none⟩ = some (.int .i64 r.num) := fun y => ((K.step ((hS _).1 y.h)).all).2.2.1
      have f3 : ∀ y : Sub S, y.w.cell? ⟨w.heap.size, 3, none⟩ = some (.int .i64 r.den) := fun y => ((K.step ((hS _).1 y.h)).all).2.2.2.1
      have g0 : ∀ y : Sub S, y.w.cell? ⟨b, off + m * 4, none⟩ = some (.string ⟨q.c.toArray⟩) := fun y => (h4.below hl ((hS _).1 y.h)).c0
      have g1 : ∀ y : Sub S, y.w.cell? ⟨b, off + m * 4 + 1, none⟩ = some (.int .i64 q.day) := fun y => (h4.below hl ((hS _).1 y.h)).c1
      have g2 : ∀ y : Sub S, y.w.cell? ⟨b, off + m * 4 + 2, none⟩ = some (.int .i64 q.num) := fun y => (h4.below hl ((hS _).1 y.h)).c2
      have g3 : ∀ y : Sub S, y.w.cell? ⟨b, off + m * 4 + 3, none⟩ = some (.int .i64 q.den) := fun y => (h4.below hl ((hS _).1 y.h)).c3
      have HK := Lib.hid (fun y : Sub S => K.step ((hS _).1 y.h))
      have HC := Lib.hid (fun y : Sub S => (cmpR_i q r y.w).mono fun e w' h => (⟨h.1, ⟨w', (hS _).2 (belowGo ((hS _).1 y.h) h.2)⟩, rfl⟩ : e = .returned (.int .i64 (ordR q r)) ∧ ∃ z : Sub S, w' = z.w))
      have hneg := ordR_neg q r
      have HY := Lib.hid (fun (hb : bef q r = true) (k : Nat) (p : Rt) (hk : k < m + 1) (hp : rs[k]? = some p) => (by
        rcases Nat.lt_or_ge k m with h1 | h1
        · exact hm k m p q h1 hp hq.out hb
        · obtain rfl : k = m := by omega
          rw [hq.out] at hp; obtain rfl := Option.some.inj hp; exact hb : bef p r = true))
      have HZ := Lib.hid (fun (hb : bef q r = false) (k : Nat) (p : Rt) (hk : m ≤ k) (hp : rs[k]? = some p) => (by
        rcases Nat.lt_or_ge m k with h1 | h1
        · cases hpb : bef p r with
          | false => rfl
          | true => have := hm m k q p h1 hq.out hp hpb; rw [hb] at this; cases this
        · obtain rfl : k = m := by omega
          rw [hq.out] at hp; obtain rfl := Option.some.inj hp; exact hb : bef p r = false))
      clear h4 hS K h hq hm hmm kb
      generalize ordR q r = o at *
      generalize bef q r = be at *
      cases be
      · have HX : Hid (∀ (k : Nat) (p : Rt), m ≤ k → rs[k]? = some p → bef p r = false) := Lib.hid (HZ.out rfl)
        clear HY HZ
        go_wp2_with fail
        refine region_held S (by kernel_rfl) (by kernel_rfl) k0 ?_
        repeat (go_big_quiet_step ((first | rfl | (go_at_call 52; exact HC.out _))))
        refine wpQuiet_nil ?_
        rintro _ ⟨y, rfl⟩
        go_wp2_with fail
        go_roundw
        case rel => exact ⟨i, m, rfl, rfl, by omega, by omega, hlo, HX, HK.out y⟩
        case measure => simp [intOf]; omega
      · have HX : Hid (∀ (k : Nat) (p : Rt), k < m + 1 → rs[k]? = some p → bef p r = true) := Lib.hid (HY.out rfl)
        clear HY HZ
        go_wp2_with fail
        refine region_held S (by kernel_rfl) (by kernel_rfl) k0 ?_
        repeat (go_big_quiet_step ((first | rfl | (go_at_call 52; exact HC.out _))))
        refine wpQuiet_nil ?_
        rintro _ ⟨y, rfl⟩
        go_wp2_with fail
        go_roundw
        case rel => exact ⟨m + 1, j, by go_num, rfl, by omega, by omega, HX, hhi, HK.out y⟩
        case measure => simp [intOf]; omega
    · obtain rfl : i = j := by omega
      by_cases hlen : i < rs.length
      · obtain ⟨b, off, q, rfl, hl, hq, h4⟩ := (h.below K.bel).four hlen
        obtain ⟨S, hS⟩ : ∃ S : World → Prop, ∀ W, S W ↔ Below wr.heap.size wr W := ⟨_, fun _ => Iff.rfl⟩
        have k0 : S wr.drew := (hS _).2 (Below.refl _ _).drew
        have f0 : ∀ y : Sub S, y.w.cell? ⟨w.heap.size, 0, none⟩ = some (.string ⟨r.c.toArray⟩) := fun y => ((K.step ((hS _).1 y.h)).all).1
        have f1 : ∀ y : Sub S, y.w.cell? ⟨w.heap.size, 1, none⟩ = some (.int .i64 r.day) := fun y => ((K.step ((hS _).1 y.h)).all).2.1
        have f2 : ∀ y : Sub S, y.w.cell? ⟨w.heap.size, 2, none⟩ = some (.int .i64 r.num) := fun y => ((K.step ((hS _).1 y.h)).all).2.2.1
        have f3 : ∀ y : Sub S, y.w.cell? ⟨w.heap.size, 3, none⟩ = some (.int .i64 r.den) := fun y => ((K.step ((hS _).1 y.h)).all).2.2.2.1
        have g0 : ∀ y : Sub S, y.w.cell? ⟨b, off + i * 4, none⟩ = some (.string ⟨q.c.toArray⟩) := fun y => (h4.below hl ((hS _).1 y.h)).c0
        have g1 : ∀ y : Sub S, y.w.cell? ⟨b, off + i * 4 + 1, none⟩ = some (.int .i64 q.day) := fun y => (h4.below hl ((hS _).1 y.h)).c1
        have g2 : ∀ y : Sub S, y.w.cell? ⟨b, off + i * 4 + 2, none⟩ = some (.int .i64 q.num) := fun y => (h4.below hl ((hS _).1 y.h)).c2
        have g3 : ∀ y : Sub S, y.w.cell? ⟨b, off + i * 4 + 3, none⟩ = some (.int .i64 q.den) := fun y => (h4.below hl ((hS _).1 y.h)).c3
        have HB := Lib.hid (fun y : Sub S => (K.step ((hS _).1 y.h)).bel)
        have HC := Lib.hid (fun y : Sub S => (cmpR_i q r y.w).mono fun e w' h => (⟨h.1, ⟨w', (hS _).2 (belowGo ((hS _).1 y.h) h.2)⟩, rfl⟩ : e = .returned (.int .i64 (ordR q r)) ∧ ∃ z : Sub S, w' = z.w))
        have HE : Hid (∀ q' : Rt, rs[i]? = some q' → (ordR q r == 0) = (ordR q' r == 0)) := Lib.hid fun q' hq' => by rw [hq.out] at hq'; rw [Option.some.inj hq']
        clear h4 hS K h hq hm kb
        generalize ordR q r = o at *
        go_wp2_with fail
        refine region_held S (by kernel_rfl) (by kernel_rfl) k0 ?_
        repeat (go_big_quiet_step ((first | rfl | (go_at_call 52; exact HC.out _))))
        refine wpQuiet_nil ?_
        rintro _ ⟨y, rfl⟩
        go_wp2_with fail
        go_ret2
        exact ⟨i, _, rfl, HB.out y, hj, hlo.out, hhi.out, HE.out, fun h => absurd h (by omega)⟩
      · have hb := K.bel
        have HN : Hid (∀ q : Rt, rs[i]? = some q → False) := Lib.hid fun q hq => hlen (List.getElem?_eq_some_iff.1 hq).1
        clear K h hm kb
        go_wp2_with fail
        go_quiet (fail)
        go_wp2_with fail
        go_ret2
        exact ⟨i, false, rfl, belowGo hb (below_drewN _ _), hj, hlo.out, hhi.out, fun q hq => (HN.out q hq).elim, fun _ => rfl⟩
end Go.Proofs.Ytaehkkcaoniphaa

/- slices.Grow of no rates. -/
namespace Go.Proofs.Ytaehkkcaoniphaa
open Go.ChangeShapes Go.WideShapes Go.ChangeAt Go.RowKit
set_option linter.unusedVariables false

theorem run_append_make {P : Program} (w : World) (t u ty e : TypeId) (k : IntKind) (i : TypeInfo) (z : Value) (ht : P.underlying t = some (.slice e)) (hu : P.underlying u = some (.int k)) (hi : P.info? e = some i) (hz : i.zero = some z)
    (n : Nat) (h0 : 0 < n) (hs : 0 < i.size) (hn : n ≤ 1000) (hb : i.bytes ≤ 1000) :
    (Builtin.append_ #[t, u] ty #[.slice none 0 0, .int .i64 n]).run P w =
      .ok (.slice (some ⟨w.heap.size, 0, none⟩) n (grownCap w n 0 e)) (w.drew.alloc (.cells (Builtin.zeroCells z.cells n ++ Builtin.zeroCells z.cells (grownCap w n 0 e - n)) e)) := by
  have hw : IntKind.i64.wrap (n : Int) = (n : Int) := by rw [IntKind.wrap_i64]; omega
  have h1 : ¬ ((n : Int) < 0) := by omega
  have hm : n * i.bytes ≤ 1000 * 1000 := Nat.mul_le_mul hn hb
  have h2 : ¬ (281474976710656 < (n : Int) * (i.bytes : Int)) := by
    rw [← Int.natCast_mul]; omega
  have h3 : n ≠ 0 := by omega
  have h63' : ¬ (9223372036854775807 < (n : Int)) := by omega
  have h5 : ¬ (n * i.size = 0) := Nat.ne_of_gt (Nat.mul_pos h0 hs)
  have h48' : ¬ (281474976710656 < Builtin.nextslicecap n 0 * i.bytes) := by rw [nextslicecap_zero h0]; omega
  simp [Builtin.append_, run_underlying ht, run_underlying hu, sizeOf, typeInfo, zeroValue, hi, hz, hw, h1, h2, h3, h5, h63', h48', Question.forced, run_firstCells_none, newRow, grownCap, asInt, asIntOf]
theorem wpList_append_make {P : Program} (w : World) {ops : Array Oper} {rest : List Oper} {o : Oper} {a : Act} {Q : Exit → Act → World → Prop} (hgd : o.guard = none) (s x : Operand) (t u : TypeId)
    (ho : o.op = .call { callee := .builtin .append, args := #[s, x], argTypes := #[t, u] }) (n : Nat) (hs : a.eval s = .slice none 0 0) (hx : a.eval x = .int .i64 n) (v : Value) (w' : World)
    (hr : ∀ ty, (Builtin.append_ #[t, u] ty #[.slice none 0 0, .int .i64 n]).run P w = .ok v w') (h : wpList P ops Q rest (a.put o.dst v) w') : wpList P ops Q (o :: rest) a w := by
  refine wpList_plain hgd fun K hK => ?_
  unfold Oper.wp execOp
  simp only [ho, resolve, invoke, builtin, Sem.run_bind, Sem.run_pure, Result.andThen_ok, List.map_toArray, List.map_cons, List.map_nil, hs, hx, hr]
  exact hK _ _ h
theorem made_zero (w : World) (n : Nat) (base : Nat) (h0 : base ≤ w.heap.size) (hn : n ≤ 1000) (z : Array Value) (hz : z.size = 4) :
    (w.drew.alloc (.cells (Builtin.zeroCells z n ++ Builtin.zeroCells z (grownCap w n 0 30 - n)) 30)).ownsRow base 30 4 (.slice (some ⟨w.heap.size, 0, none⟩) 0 (grownCap w n 0 30)) 0 [] := by
  have hg := grownCap_ge w n 0 30
  have hm := grownCap_le_maxLen w n 0 30 (by unfold maxLen; omega)
  refine ⟨rfl, .inr ⟨w.heap.size, _, _, rfl, h0, heap_alloc_new w.drew _, Nat.zero_le _, hm, ?_, ?_⟩⟩
  · rw [Array.size_append, size_zeroCells, size_zeroCells, hz]; omega
  · simp
set_option maxRecDepth 100000 in
set_option maxHeartbeats 2000000 in
theorem grow0 (n : Nat) (w : World) (hn : n ≤ 1000) : Calls Try.prog 76 #[.slice none 0 0, .int .i64 n] w fun e w' =>
    ∃ A c, e = .returned (.slice A 0 c) ∧ w'.ownsRow w.heap.size 30 4 (.slice A 0 c) 0 [] ∧ Below w.heap.size w w' := by
  obtain ⟨i0, hi, hz0, hz1, hz2⟩ := info_parts rateInfo
  by_cases h0 : 0 < n
  · have hap := fun ty => run_append_make w 24 3 ty 30 .i64 i0 _ Try.underlying24 Try.underlying3 hi hz0 n h0 (by omega) hn (by omega)
    have hown := made_zero w n w.heap.size (Nat.le_refl _) hn #[.string ⟨#[]⟩, .int .i64 0, .int .i64 0, .int .i64 0] rfl
    have hb : Below w.heap.size w (w.drew.alloc (.cells (Builtin.zeroCells #[.string ⟨#[]⟩, .int .i64 0, .int .i64 0, .int .i64 0] n ++ Builtin.zeroCells #[.string ⟨#[]⟩, .int .i64 0, .int .i64 0, .int .i64 0] (grownCap w n 0 30 - n)) 30)) := (Below.refl _ _).drew.alloc (Nat.le_refl _) _
    go_enter Try.func76, Try.ntmps76
    go_wp2_with (at_builtin; refine wpList_append_make _ rfl (.tmp 20) (.tmp 21) 24 3 rfl n rfl rfl _ _ hap ?_)
    go_ret
    exact ⟨_, _, rfl, hown, hb⟩
  · obtain rfl : n = 0 := by omega
    go_enter Try.func76, Try.ntmps76
    go_wp2_with fail
    go_ret
    exact ⟨none, 0, rfl, World.ownsRow_nil _ _ _ _, Below.refl _ _⟩
end Go.Proofs.Ytaehkkcaoniphaa

/- slices.Concat of three rows of rates. -/
namespace Go.Proofs.Ytaehkkcaoniphaa
open Go.ChangeShapes Go.WideShapes Go.ChangeAt Go.RowKit
set_option linter.unusedVariables false

theorem run_append_none {P : Program} (w : World) (t ty e : TypeId) (i : TypeInfo) (ht : P.underlying t = some (.slice e)) (hi : P.info? e = some i) (O : Option Addr) (n q c : Nat) (h : n ≤ q) :
    (Builtin.append_ #[t, t] ty #[.slice O n q, .slice none 0 c]).run P w = .ok (.slice O n q) w := by
  cases O <;> simp [Builtin.append_, run_underlying ht, sizeOf, typeInfo, hi, Builtin.lenOf, h, run_firstCells_none, storeCells]
theorem own_room {w : World} {base : Nat} {e : TypeId} {size n q : Nat} {O : Option Addr} {xs : List Value} (h : w.ownsRow base e size (.slice O n q) n xs) : n ≤ q := by
  rcases h.2 with ⟨h1, h2⟩ | ⟨g, cap, cur, h1, _, _, h4, _⟩
  · omega
  · injection h1 with _ _ h3; omega
set_option maxRecDepth 100000 in
/-- append of a whole row of rates, which may be nil. -/
theorem wpList_append_rr (w : World) {ops : Array Oper} {rest : List Oper} {o : Oper} {a : Act} {Q : Exit → Act → World → Prop} (hgd : o.guard = none) (s x : Operand)
    (ho : o.op = .call { callee := .builtin .append, args := #[s, x], argTypes := #[24, 24] }) (base : Nat) (O : Option Addr) (n q : Nat) (xs : List Value) (hs : a.eval s = .slice O n q) (hown : w.ownsRow base 30 4 (.slice O n q) n xs)
    (A : Option Addr) (c : Nat) (l : List Rt) (hx : a.eval x = .slice A l.length c) (hR : Rr w A l) (hA : A = none ∨ ∃ b off, A = some ⟨b, off, none⟩) (h63 : n + l.length ≤ 1000) (hbase : base ≤ w.heap.size)
    (h : ∀ O' q' w', w'.ownsRow base 30 4 (.slice O' (n + l.length) q') (n + l.length) (xs ++ l.flatMap Rt.cells) → Below base w w' → wpList Try.prog ops Q rest (a.put o.dst (.slice O' (n + l.length) q')) w') :
    wpList Try.prog ops Q (o :: rest) a w := by
  obtain ⟨i0, hi, hz0, hz1, hz2⟩ := info_parts rateInfo
  rcases hA with rfl | ⟨b, off, rfl⟩
  · have hl : l = [] := by
      cases l with
      | nil => rfl
      | cons y l => obtain ⟨_, _, _, e, _⟩ := hR.four (k := 0) (by simp); cases e
    subst hl
    have hr := fun ty => run_append_none (P := Try.prog) w 24 ty 30 i0 Try.underlying24 hi O n q c (own_room hown)
    refine wpList_plain hgd fun K hK => ?_
    unfold Oper.wp execOp
    have hx' : a.eval x = .slice none 0 c := hx
    simp only [ho, resolve, invoke, builtin, Sem.run_bind, Sem.run_pure, Result.andThen_ok, List.map_toArray, List.map_cons, List.map_nil, hs, hx', hr]
    exact hK _ _ (h O q w (by simpa using hown) (Below.refl _ _))
  · refine wpList_append_own w hgd s x 24 ho base 30 i0 _ 4 40 Try.underlying24 hi hz0 hz1 hz2 rfl (by decide) _ n xs hs hown ⟨b, off, none⟩ l.length c (l.flatMap Rt.cells) hx (flat_len Rt.cells 4 (fun _ => rfl) l) ?_ ?_ (by unfold maxLen; omega) (by omega) hbase ?_
    · intro j u hu
      have hp : 0 < (l.flatMap Rt.cells).length := by have := (List.getElem?_eq_some_iff.1 hu).1; omega
      obtain ⟨b', off', e, _, hc⟩ := hR hp
      simp only [Option.some.injEq, Addr.mk.injEq, and_true] at e
      obtain ⟨rfl, rfl⟩ := e
      rw [show ((⟨b, off, none⟩ : Addr).add j) = ⟨b, off + j, none⟩ from by unfold Addr.add; split <;> simp_all]
      exact hc j u hu
    · intro u hu
      obtain ⟨y, _, hy⟩ := List.mem_flatMap.1 hu
      unfold Rt.cells at hy
      simp only [List.mem_cons, List.not_mem_nil, or_false] at hy
      rcases hy with rfl | rfl | rfl | rfl <;> simp [Value.oneCell']
    · intro v' w' h2 h3 h4
      obtain ⟨O', q', rfl⟩ := own_form h2
      exact h O' q' w' h2 ((Below.refl base w).grown h3 hbase (fun k hk => (hown.lt k hk).1))
end Go.Proofs.Ytaehkkcaoniphaa

/- slices.Concat of rows of rates. -/
namespace Go.Proofs.Ytaehkkcaoniphaa
open Go.ChangeShapes Go.WideShapes Go.ChangeAt Go.RowKit
set_option linter.unusedVariables false

/-- Slices of rates in a block. -/
structure Pieces (w : World) (g : Nat) (ss : List (Option Addr × Nat × List Rt)) : Prop where
  lt : g < w.heap.size
  cell : ∀ (k : Nat) (s : Option Addr × Nat × List Rt), ss[k]? = some s → w.cell? ⟨g, k, none⟩ = some (.slice s.1 s.2.2.length s.2.1)
  row : ∀ s ∈ ss, Rr w s.1 s.2.2 ∧ (s.1 = none ∨ ∃ b off, s.1 = some ⟨b, off, none⟩)
theorem Pieces.below {w w' : World} {g : Nat} {ss : List (Option Addr × Nat × List Rt)} (h : Pieces w g ss) (hb : Below w.heap.size w w') : Pieces w' g ss :=
  ⟨Nat.lt_of_lt_of_le h.lt hb.size, fun k s hs => (hb.cell (p := ⟨g, k, none⟩) h.lt).trans (h.cell k s hs), fun s hs => ⟨(h.row s hs).1.below hb, (h.row s hs).2⟩⟩
def joinP (ss : List (Option Addr × Nat × List Rt)) : List Rt := ss.flatMap (·.2.2)
theorem joinP_snoc (ss : List (Option Addr × Nat × List Rt)) (s : Option Addr × Nat × List Rt) : joinP (ss ++ [s]) = joinP ss ++ s.2.2 := by simp [joinP]
theorem joinP_le (ss : List (Option Addr × Nat × List Rt)) (k : Nat) : (joinP (ss.take k)).length ≤ (joinP ss).length := by
  have : joinP ss = joinP (ss.take k) ++ joinP (ss.drop k) := by unfold joinP; rw [← List.flatMap_append, List.take_append_drop]
  rw [this, List.length_append]; omega

set_option maxRecDepth 100000 in
set_option maxHeartbeats 4000000 in
theorem concat_i (g : Nat) (ss : List (Option Addr × Nat × List Rt)) (c : Nat) (w : World) (h : Pieces w g ss) (hn : ss.length ≤ 10) (hj : (joinP ss).length ≤ 900) :
    Calls Try.prog 53 #[.slice (some ⟨g, 0, none⟩) ss.length c] w fun e w' =>
      ∃ O q, e = .returned (.slice O (joinP ss).length q) ∧ Or w' w.heap.size O (joinP ss).length q (joinP ss) ∧ Below w.heap.size w w' := by
  go_enter Try.func53, Try.ntmps53
  go_wp2_with fail
  go_loopw [3, 11] (fun z i wr => ∃ (k m : Nat), k ≤ ss.length ∧ i = .int .i64 k ∧ z = .int .i64 m ∧ Hid (m = (joinP (ss.take k)).length) ∧ Below w.heap.size w wr) (fun _ i _ => ss.length - (intOf i).toNat)
  case atStart => exact ⟨0, 0, Nat.zero_le _, rfl, rfl, Lib.hid rfl, Below.refl _ _⟩
  case round =>
    obtain ⟨k, m, hk, rfl, rfl, hm, hb⟩ := hrel
    have hml : m ≤ 900 := by have := joinP_le ss k; rw [hm.out]; omega
    by_cases hlt : k < ss.length
    · obtain ⟨s, hs⟩ : ∃ s, ss[k]? = some s := ⟨ss[k], by simp [hlt]⟩
      have hc := (h.below hb).cell k s hs
      have HM : Hid (m + s.2.2.length = (joinP (ss.take (k + 1))).length) := Lib.hid (by rw [snoc_of hs, joinP_snoc, List.length_append, hm.out])
      have hle : m + s.2.2.length ≤ 900 := by have := joinP_le ss (k + 1); rw [HM.out]; omega
      obtain ⟨A, cc, l⟩ := s
      simp only at hc hle HM
      clear hs hm h
      go_wp2_with fail
      go_roundw
      case rel => exact ⟨k + 1, m + l.length, by omega, by go_num, by go_num, HM, hb⟩
      case measure => simp [intOf]; omega
    · have hM : Hid (m = (joinP ss).length) := Lib.hid (by have := hm.out; rwa [take_all hk hlt] at this)
      have HP := Lib.hid (fun W hW => h.below (w' := W) hW)
      clear hm h
      go_wp2_with (go_at_call 76; refine (grow0 m _ (by omega)).mono ?_; rintro e w1 ⟨O1, q1, rfl, hown1, b1⟩)
      have hb1 := hb.trans (b1.mono hb.size)
      have hw : w.heap.size ≤ wr.heap.size := hb.size
      have hw2 : wr.heap.size ≤ w1.heap.size := b1.size
      clear hb b1
      obtain ⟨wz, hwz⟩ : ∃ x, x = wr := ⟨_, rfl⟩
      subst hwz
      go_loopw [6, 27] (fun o i wr => ∃ (k : Nat) (js : List Rt) (O : Option Addr) (q : Nat), k ≤ ss.length ∧ i = .int .i64 k ∧ o = .slice O js.length q ∧ Hid (js = joinP (ss.take k)) ∧ wr.ownsRow wz.heap.size 30 4 (.slice O js.length q) js.length (js.flatMap Rt.cells) ∧ Below wz.heap.size w1 wr) (fun _ i _ => ss.length - (intOf i).toNat)
      case atStart => exact ⟨0, [], O1, q1, Nat.zero_le _, rfl, rfl, Lib.hid rfl, hown1, Below.refl _ _⟩
      case round =>
        obtain ⟨k', js, O, q, hk', rfl, rfl, hjs, hrow, hB⟩ := hrel
        by_cases hlt' : k' < ss.length
        · obtain ⟨s, hs⟩ : ∃ s, ss[k']? = some s := ⟨ss[k'], by simp [hlt']⟩
          have hP := HP.out wr (hb1.trans (hB.mono hw))
          have hc := hP.cell k' s hs
          obtain ⟨hR, hA⟩ := hP.row s (List.mem_of_getElem? hs)
          have HM : Hid (js ++ s.2.2 = joinP (ss.take (k' + 1))) := Lib.hid (by rw [snoc_of hs, joinP_snoc, hjs.out])
          have hle : js.length + s.2.2.length ≤ 900 := by have := joinP_le ss (k' + 1); rw [← HM.out, List.length_append] at this; omega
          obtain ⟨A, cc, l⟩ := s
          simp only at hc hle HM hR hA
          have hsz : wz.heap.size ≤ wr.heap.size := Nat.le_trans hw2 hB.size
          clear hs hjs HP hP hM
          go_wp2_with (at_builtin; refine wpList_append_rr _ rfl (.tmp 31) (.tmp 32) rfl wz.heap.size O js.length q _ rfl hrow A cc l rfl hR hA (by omega) hsz ?_; intro O' q' w' hown' hb')
          go_roundw
          case rel => exact ⟨k' + 1, js ++ l, O', q', by omega, by go_num, by rw [List.length_append], HM, by rw [List.length_append, List.flatMap_append]; exact hown', hB.trans hb'⟩
          case measure => simp [intOf]; omega
        · have hJ : Hid (js = joinP ss) := Lib.hid (by have := hjs.out; rwa [take_all hk' hlt'] at this)
          clear hjs HP hM
          go_wp2_with fail
          go_ret
          rw [← hJ.out]
          exact ⟨O, q, rfl, Or.mono hrow hw, hb1.trans (hB.mono hw)⟩
end Go.Proofs.Ytaehkkcaoniphaa

/- impl.AddRate. -/
namespace Go.Proofs.Ytaehkkcaoniphaa
open Go.ChangeShapes Go.WideShapes Go.ChangeAt Go.RowKit
set_option linter.unusedVariables false

theorem ordR_zero (q r : Rt) : (ordR q r == 0) = sameR q r := by
  have h : ∀ x y : List UInt8, (ordS x y = 0) ↔ x = y := fun x y => by
    unfold ordS
    by_cases e : x = y
    · subst e; rw [less_irr]; simp
    · rcases Bool.eq_false_or_eq_true (Op.bytesLess x y) with h | h <;> simp [h, e]
  have h2 : ∀ x y : Int, (ordI x y = 0) ↔ x = y := fun x y => by
    unfold ordI
    by_cases e : x = y
    · subst e; simp
    · by_cases k : x < y <;> simp [k, e]
  unfold ordR orI sameR
  by_cases e : ordS q.c r.c = 0
  · rw [if_pos e, show (q.c == r.c) = true from by simpa using (h _ _).1 e, Bool.true_and]
    by_cases k : q.day = r.day
    · rw [(h2 _ _).2 k]; simpa using k
    · rw [show (q.day == r.day) = false from by simpa using k, beq_eq_false_iff_ne]; exact fun h3 => k ((h2 _ _).1 h3)
  · rw [if_neg e, show (q.c == r.c) = false from by simpa using fun h3 => e ((h _ _).2 h3), Bool.false_and, beq_eq_false_iff_ne]; exact e

/-- The table with the rate at place p. -/
def putAt (rs : List Rt) (r : Rt) (p : Nat) (b : Bool) : List Rt := rs.take p ++ [r] ++ rs.drop (if b = true then p + 1 else p)
theorem addS_before {r : Rt} (rs : List Rt) : (∀ q ∈ rs, bef q r = true) → addS r rs = (rs, false) := by
  refine rev_ind (P := fun rs => (∀ q ∈ rs, bef q r = true) → addS r rs = (rs, false)) ?_ ?_ rs
  · intro _; rfl
  · intro rs q ih h
    rw [addS_snoc, ih fun x hx => h x (by simp [hx])]
    have hq := h q (by simp)
    have h1 : sameR q r = false := by
      rw [← ordR_zero, beq_eq_false_iff_ne]
      intro e
      have := ordR_neg q r
      rw [hq, e] at this; simp at this
    have h2 : bef r q = false := by
      cases e : bef r q with
      | false => rfl
      | true =>
        have := bef_trans hq e
        unfold bef at this; rw [less_irr] at this; simp at this
    unfold stepA
    simp [h1, h2]
theorem addS_after {r : Rt} (rs xs : List Rt) (o : List Rt) : (∀ q ∈ xs, sameR q r = false) → addS r rs = (o, true) → addS r (rs ++ xs) = (o ++ xs, true) := by
  refine rev_ind (P := fun xs => (∀ q ∈ xs, sameR q r = false) → addS r rs = (o, true) → addS r (rs ++ xs) = (o ++ xs, true)) ?_ ?_ xs
  · intro _ h; simpa using h
  · intro xs q ih h ho
    rw [← List.append_assoc, addS_snoc, ih (fun x hx => h x (by simp [hx])) ho]
    have h1 := h q (by simp)
    unfold stepA
    simp [h1]
theorem same_bef {q x r : Rt} (h : sameR x r = true) : bef q x = bef q r := by
  unfold sameR at h
  rw [Bool.and_eq_true, beq_iff_eq, beq_iff_eq] at h
  unfold bef
  rw [h.1, h.2]
theorem bef_or {q r : Rt} (h : bef q r = false) (h2 : sameR q r = false) : bef r q = true := by
  cases e : bef r q with
  | true => rfl
  | false =>
    have e1 : Op.bytesLess q.c r.c = false := by unfold bef at h; rw [Bool.or_eq_false_iff] at h; exact h.1
    have e2 : Op.bytesLess r.c q.c = false := by unfold bef at e; rw [Bool.or_eq_false_iff] at e; exact e.1
    have e3 := less_tot e1 e2
    unfold bef at h e
    unfold sameR at h2
    rw [e3] at h e h2
    simp [less_irr] at h e h2
    omega
theorem addL_put {rs : List Rt} {r : Rt} (ht : tabB rs = true) {p : Nat} {b : Bool} (hp : p ≤ rs.length) (hlo : ∀ (i : Nat) (q : Rt), i < p → rs[i]? = some q → bef q r = true) (hhi : ∀ (i : Nat) (q : Rt), p ≤ i → rs[i]? = some q → bef q r = false)
    (hb : ∀ q : Rt, rs[p]? = some q → b = (ordR q r == 0)) (hb2 : p = rs.length → b = false) : addL rs r = putAt rs r p b := by
  have h1 : addS r (rs.take p) = (rs.take p, false) := addS_before _ fun q hq => by
    obtain ⟨i, hi⟩ := List.getElem?_of_mem hq
    rw [List.getElem?_take] at hi
    split at hi
    · rename_i hlt; exact hlo i q hlt hi
    · cases hi
  rcases Nat.lt_or_ge p rs.length with hlt | hge
  · have hq : rs[p]? = some rs[p] := List.getElem?_eq_getElem hlt
    generalize rs[p] = q at hq
    have hbq := hb q hq
    rw [ordR_zero] at hbq
    have hqr := hhi p q (Nat.le_refl _) hq
    have hsplit : rs = rs.take (p + 1) ++ rs.drop (p + 1) := (List.take_append_drop _ _).symm
    have hdrop : rs.drop p = q :: rs.drop (p + 1) := by
      rw [List.drop_eq_getElem_cons hlt]; congr 1
      rw [List.getElem?_eq_getElem hlt] at hq; exact Option.some.inj hq
    have hrest : ∀ x ∈ rs.drop (p + 1), sameR x r = false := fun x hx => by
      obtain ⟨i, hi⟩ := List.getElem?_of_mem hx
      rw [List.getElem?_drop] at hi
      cases e : sameR x r with
      | false => rfl
      | true =>
        have h2 := tab_before ht (show p < p + 1 + i by omega) hq hi
        rw [same_bef e, hqr] at h2; cases h2
    have hstep : addS r (rs.take (p + 1)) = (if b = true then rs.take p ++ [r] else rs.take p ++ [r] ++ [q], true) := by
      rw [snoc_of hq, addS_snoc, h1]
      unfold stepA
      cases hs : sameR q r with
      | true => rw [hs] at hbq; subst hbq; simp
      | false =>
        rw [hs] at hbq; subst hbq
        simp [bef_or hqr hs]
    have hall := addS_after _ _ _ hrest hstep
    rw [← hsplit] at hall
    unfold addL putAt
    rw [hall, if_pos rfl]
    cases b
    · simp [hdrop]
    · simp
  · have hpl : p = rs.length := by omega
    have hbf := hb2 hpl
    subst hbf
    rw [hpl, List.take_length] at h1
    unfold addL putAt
    rw [h1, hpl]
    simp
end Go.Proofs.Ytaehkkcaoniphaa

