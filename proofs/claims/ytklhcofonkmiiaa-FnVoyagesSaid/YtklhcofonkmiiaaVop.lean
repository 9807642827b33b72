/- checkVoyage, searchOut, placeOnDay, PortOn, LegOn of impl. -/
import Derived.Test.YtklhcofonkmiiaaVoi
namespace Go.Proofs.Ytklhcofonkmiiaa
open Go.ChangeShapes Go.WideShapes Go.ChangeAt Go.RowKit
set_option linter.unusedVariables false

def chkV (rs : List Sto) (ds : List Int) : Int := if voyB rs = true then if daysB ds = true then 0 else 2 else 1
theorem chkV_0 {rs : List Sto} {ds : List Int} (h : voyB rs = true) (h1 : daysB ds = true) : chkV rs ds = 0 := by unfold chkV; rw [if_pos h, if_pos h1]
theorem chkV_2 {rs : List Sto} {ds : List Int} (h : voyB rs = true) (h1 : daysB ds = false) : chkV rs ds = 2 := by unfold chkV; rw [if_pos h, if_neg (by rw [h1]; decide)]
theorem chkV_1 {rs : List Sto} {ds : List Int} (h : voyB rs = false) : chkV rs ds = 1 := by unfold chkV; rw [if_neg (by rw [h]; decide)]
set_option maxHeartbeats 1000000 in
theorem checkV_i (A D : Option Addr) (c e : Nat) (rs : List Sto) (ds : List Int) (w : World) (hR : VTbl w A rs) (hD : Ir w D ds) (hn : ds.length ≤ 10) :
    Calls Try.prog 45 #[.slice A rs.length c, .slice D ds.length e] w (Gives w (.int .i64 (chkV rs ds))) := by
  rcases Bool.eq_false_or_eq_true (voyB rs) with hs | hs
  · rcases Bool.eq_false_or_eq_true (daysB ds) with hd | hd
    · have HT := Lib.hid (chkV_0 hs hd)
      go_enter Try.func45, Try.ntmps45
      go_wp2_with (first
        | (go_at_call 33; refine (voyI_q hR hs).mono ?_; rintro e w1 ⟨rfl, b1⟩)
        | (go_at_call 62; refine (areDays_q (hD.below b1) rfl hn hd).mono ?_; rintro e w2 ⟨rfl, rfl⟩))
      go_ret
      exact ⟨by rw [HT.out] <;> rfl, b1⟩
    · have HT := Lib.hid (chkV_2 hs hd)
      go_enter Try.func45, Try.ntmps45
      go_wp2_with (first
        | (go_at_call 33; refine (voyI_q hR hs).mono ?_; rintro e w1 ⟨rfl, b1⟩)
        | (go_at_call 62; refine (areDays_q (hD.below b1) rfl hn hd).mono ?_; rintro e w2 ⟨rfl, rfl⟩))
      go_ret
      exact ⟨by rw [HT.out] <;> rfl, b1⟩
  · have HE := Lib.hid (chkV_1 (ds := ds) hs)
    go_enter Try.func45, Try.ntmps45
    go_wp2_with (go_at_call 33; refine (voyI_q hR hs).mono ?_; rintro e w1 ⟨rfl, b1⟩)
    go_ret
    exact ⟨by rw [HE.out] <;> rfl, b1⟩
theorem checkV_1 (A : Option Addr) (c : Nat) (rs : List Sto) (d : Int) (W : World) (n : Nat) {v : Int} (hR : VTbl W A rs) (h : chkV rs [d] = v) (hn : n = W.heap.size) :
    Calls Try.prog 45 #[.slice A rs.length c, .slice (some ⟨n, 0, none⟩) 1 1] (W.alloc (.cells #[.int .i64 d] 2)) fun e w' => e = .returned (.int .i64 v) ∧ Below W.heap.size W w' := by
  subst hn h
  have b := below_alloc W (.cells #[.int .i64 d] 2)
  exact (checkV_i A _ c 1 rs [d] _ (hR.below b) (Ir.new1 W d 2) (by simp)).mono fun e w' k => ⟨k.1, belowGo b k.2⟩
theorem checkV_2 (A : Option Addr) (c : Nat) (rs : List Sto) (d f : Int) (W : World) (n : Nat) {v : Int} (hR : VTbl W A rs) (h : chkV rs [d, f] = v) (hn : n = W.heap.size) :
    Calls Try.prog 45 #[.slice A rs.length c, .slice (some ⟨n, 0, none⟩) 2 2] (W.alloc (.cells #[.int .i64 d, .int .i64 f] 2)) fun e w' => e = .returned (.int .i64 v) ∧ Below W.heap.size W w' := by
  subst hn h
  have b := below_alloc W (.cells #[.int .i64 d, .int .i64 f] 2)
  exact (checkV_i A _ c 2 rs [d, f] _ (hR.below b) (Ir.new2 W d f 2) (by simp)).mono fun e w' k => ⟨k.1, belowGo b k.2⟩
/-! ### the search -/
theorem ordI_neg (x y : Int) : decide (ordI x y < 0) = decide (x < y) := by
  unfold ordI
  by_cases h : x < y
  · simp [h]
  · by_cases h2 : x = y <;> simp [h, h2]
theorem ordI_zero (x y : Int) : (ordI x y == 0) = (x == y) := by
  unfold ordI
  by_cases h : x < y
  · have : x ≠ y := by omega
    simp [h, this]
  · by_cases h2 : x = y <;> simp [h, h2]
theorem cmpOut_i (p : Sto) (d : Int) (w : World) : Calls Try.prog 64 #[.agg #[.string ⟨p.p.toArray⟩, .int .i64 p.i, .int .i64 p.o], .int .i64 d] w (Gives w (.int .i64 (ordI p.o d))) := by
  have B : ∀ o, Hid (Below w.heap.size w (w.alloc o)) := fun o => Lib.hid ((Below.refl _ _).alloc (Nat.le_refl _) _)
  go_enter Try.func64, Try.ntmps64
  go_wp2_with (go_at_call 67; refine (cmpI_i _ _ _).mono ?_; rintro e w' ⟨rfl, rfl⟩)
  go_ret
  exact ⟨rfl, (B _).out⟩
/-- Whether a stop ends on the day. -/
def hasPV (rs : List Sto) (d : Int) : Bool := match rs[plcV rs d]? with | some q => q.o == d | none => false
set_option maxRecDepth 100000 in
set_option maxHeartbeats 4000000 in
theorem binV_i (A : Option Addr) (c : Nat) (ps : List Sto) (d : Int) (w : World) (h : StoR w A ps) (hn : ps.length ≤ 1048576) (ho : voyB ps = true) :
    Calls Try.prog 63 #[.slice A ps.length c, .int .i64 d, .func (.func 64) #[] #[]] w
      (Gives w (.tuple #[.int .i64 (plcV ps d : Int), .bool (hasPV ps d)])) := by
  have HP := Lib.hid (fun (p : Nat) (hp : p ≤ ps.length) h1 h2 => plc_eqV (rs := ps) (d := d) hp h1 h2)
  have HH := Lib.hid (fun (p : Sto) (hp : ps[plcV ps d]? = some p) => (by unfold hasPV; rw [hp] : hasPV ps d = (p.o == d)))
  have HX := Lib.hid (fun (hp : plcV ps d = ps.length) => (by unfold hasPV; rw [hp, List.getElem?_eq_none (Nat.le_refl _)] : hasPV ps d = false))
  have HM := Lib.hid (fun (i j : Nat) (q p : Sto) (hij : i < j) (hq : ps[i]? = some q) (hp : ps[j]? = some p) => (ord_outV ho hij hq hp : q.o < p.o))
  clear ho
  go_enter Try.func63, Try.ntmps63
  go_wp2_with fail
  go_loopw [9, 10] (fun a b wr => ∃ i j : Nat, a = .int .i64 i ∧ b = .int .i64 j ∧ i ≤ j ∧ j ≤ ps.length ∧ Hid (∀ (k : Nat) (q : Sto), k < i → ps[k]? = some q → q.o < d) ∧ Hid (∀ (k : Nat) (q : Sto), j ≤ k → ps[k]? = some q → d ≤ q.o) ∧ Below w.heap.size w wr) (fun a b _ => (intOf b).toNat - (intOf a).toNat)
  case atStart => exact ⟨0, ps.length, rfl, rfl, by omega, by omega, Lib.hid (fun k q hk => by omega), Lib.hid (fun k q hk hq => by have := (List.getElem?_eq_some_iff.1 hq).1; omega), Below.refl _ _⟩
  case round =>
    obtain ⟨i, j, rfl, rfl, hij, hj, hlo, hhi, hb⟩ := hrel
    by_cases hlt : i < j
    · obtain ⟨m, hmm⟩ : ∃ m, m = (i + j) / 2 := ⟨_, rfl⟩
      have hmi : i ≤ m := by omega
      have hmj : m < j := by omega
      have e1 : ((i : Int) + (j : Int)) / 2 = (m : Int) := by omega
      obtain ⟨b, off, q, rfl, hl, hq, h4⟩ := (h.below hb).at (show m < ps.length by omega)
      have c0 := h4.c0; have c1 := h4.c1; have c2 := h4.c2
      have HC := Lib.hid (fun w => cmpOut_i q d w)
      have hneg := ordI_neg q.o d
      have HY := Lib.hid (fun (hb : q.o < d) (k : Nat) (p : Sto) (hk : k < m + 1) (hp : ps[k]? = some p) => (by
        rcases Nat.lt_or_ge k m with h1 | h1
        · have := HM.out k m p q h1 hp hq.out; omega
        · obtain rfl : k = m := by omega
          rw [hq.out] at hp; obtain rfl := Option.some.inj hp; exact hb : p.o < d))
      have HZ := Lib.hid (fun (hb : d ≤ q.o) (k : Nat) (p : Sto) (hk : m ≤ k) (hp : ps[k]? = some p) => (by
        rcases Nat.lt_or_ge m k with h1 | h1
        · have := HM.out m k q p h1 hq.out hp; omega
        · obtain rfl : k = m := by omega
          rw [hq.out] at hp; obtain rfl := Option.some.inj hp; exact hb : d ≤ p.o))
      by_cases hbe : q.o < d
      · have HX : Hid (∀ (k : Nat) (p : Sto), k < m + 1 → ps[k]? = some p → p.o < d) := Lib.hid (HY.out hbe)
        rw [decide_eq_true hbe] at hneg
        clear h4 h hq hmm HM HP HH HY HZ hbe
        generalize ordI q.o d = o at *
        go_wp2_with (go_at_call 64; refine (HC.out _).mono ?_; rintro e w1 ⟨rfl, b1⟩)
        go_roundw
        case rel => exact ⟨m + 1, j, by go_num, rfl, by omega, by omega, HX, hhi, belowGo hb b1⟩
        case measure => simp [intOf]; omega
      · have HX : Hid (∀ (k : Nat) (p : Sto), m ≤ k → ps[k]? = some p → d ≤ p.o) := Lib.hid (HZ.out (by omega))
        rw [decide_eq_false hbe] at hneg
        clear h4 h hq hmm HM HP HH HY HZ hbe
        generalize ordI q.o d = o at *
        go_wp2_with (go_at_call 64; refine (HC.out _).mono ?_; rintro e w1 ⟨rfl, b1⟩)
        go_roundw
        case rel => exact ⟨i, m, rfl, rfl, by omega, by omega, hlo, HX, belowGo hb b1⟩
        case measure => simp [intOf]; omega
    · obtain rfl : i = j := by omega
      have hp := HP.out i hj hlo.out hhi.out
      have HE : Hid (plcV ps d = i) := Lib.hid hp
      by_cases hlen : i < ps.length
      · obtain ⟨b, off, q, rfl, hl, hq, h4⟩ := (h.below hb).at hlen
        have c0 := h4.c0; have c1 := h4.c1; have c2 := h4.c2
        have HC := Lib.hid (fun w => cmpOut_i q d w)
        have HZ : Hid (hasPV ps d = (ordI q.o d == 0)) := Lib.hid (by rw [ordI_zero]; exact HH.out q (by rw [hp]; exact hq.out))
        clear h4 h hq HM HP HH HX hp hlo hhi
        generalize ordI q.o d = o at *
        go_wp2_with (go_at_call 64; refine (HC.out _).mono ?_; rintro e w1 ⟨rfl, b1⟩)
        go_ret2
        exact ⟨by rw [HE.out, HZ.out] <;> rfl, belowGo hb b1⟩
      · have HZ : Hid (hasPV ps d = false) := Lib.hid (HX.out (by rw [hp]; omega))
        clear h HM HP HH HX hp hlo hhi
        go_wp2_with fail
        go_ret2
        exact ⟨by rw [HE.out, HZ.out] <;> rfl, hb⟩
theorem searchV_i (A : Option Addr) (c : Nat) (ps : List Sto) (d : Int) (w : World) (h : StoR w A ps) (hn : ps.length ≤ 1048576) (ho : voyB ps = true) :
    Calls Try.prog 49 #[.slice A ps.length c, .int .i64 d] w (Gives w (.int .i64 (plcV ps d : Int))) := by
  go_enter Try.func49, Try.ntmps49
  go_wp2_with fail
  refine (binV_i A c ps d w h hn ho).mono ?_
  rintro e w1 ⟨rfl, b1⟩
  go_wp2_with fail
  go_ret
  exact ⟨rfl, b1⟩
/-! ### the place of a day -/
set_option maxHeartbeats 2000000 in
theorem place_i (A : Option Addr) (c : Nat) (ps : List Sto) (d : Int) (w : World) (h : VTbl w A ps) :
    Calls Try.prog 42 #[.slice A ps.length c, .int .i64 d] w (Gives w (.tuple #[.int .i64 ((plR ps d).1 : Int), .int .i64 (plR ps d).2])) := by
  have W := pway ps d
  have HR := Lib.hid h.row
  generalize plR ps d = u at *
  cases W with
  | bad h0 =>
    have HC := Lib.hid (fun W n hn hR => checkV_1 A c ps d W n hR (chkV_1 h0) hn)
    clear h0
    go_enter Try.func42, Try.ntmps42
    go_wp2_with (go_at_call 45; refine (HC.out _ _ rfl h).mono ?_; rintro e w1 ⟨rfl, b1⟩)
    go_ret2
    exact ⟨rfl, b1⟩
  | day h0 h1 =>
    have HC := Lib.hid (fun W n hn hR => checkV_1 A c ps d W n hR (chkV_2 h0 (by rw [daysB_1]; exact h1)) hn)
    clear h0
    go_enter Try.func42, Try.ntmps42
    go_wp2_with (go_at_call 45; refine (HC.out _ _ rfl h).mono ?_; rintro e w1 ⟨rfl, b1⟩)
    go_ret2
    exact ⟨rfl, b1⟩
  | early f l h0 h1 hf hlst h2 =>
    have HC := Lib.hid (fun W n hn hR => checkV_1 A c ps d W n hR (chkV_0 h0 (by rw [daysB_1]; exact h1)) hn)
    have hn := (voy_iff.1 h0).2
    have HS := Lib.hid (fun W hR => searchV_i A c ps d W hR (by omega) h0)
    have HF := Lib.hid hf
    clear h0 hf hlst
    go_enter Try.func42, Try.ntmps42
    go_wp2_with fail
    refine (HC.out _ _ rfl h).mono ?_
    rintro e w1 ⟨rfl, b1⟩
    go_wp2_with fail
    refine (HS.out _ (HR.out.below b1)).mono ?_
    rintro e w2 ⟨rfl, b2⟩
    have t2 := belowGo b1 b2
    obtain ⟨b, off, q, rfl, hl, hq, h4⟩ := (HR.out.below t2).at (show 0 < ps.length by omega)
    obtain rfl : f = q := by have a := HF.out; rw [hq.out] at a; exact (Option.some.inj a).symm
    have c0 := h4.c0; have c1 := h4.c1; have c2 := h4.c2
    simp only [Nat.zero_mul, Nat.add_zero] at c0 c1 c2
    clear h4 hq HR h HC HS
    go_wp2_with fail
    go_ret2
    exact ⟨rfl, t2⟩
  | late f l h0 h1 hf hlst h2 h3 hlo =>
    have HC := Lib.hid (fun W n hn hR => checkV_1 A c ps d W n hR (chkV_0 h0 (by rw [daysB_1]; exact h1)) hn)
    have hn := (voy_iff.1 h0).2
    have HS := Lib.hid (fun W hR => searchV_i A c ps d W hR (by omega) h0)
    rw [h3] at HS
    have HF := Lib.hid hf
    clear h0 hf hlst h3
    go_enter Try.func42, Try.ntmps42
    go_wp2_with fail
    refine (HC.out _ _ rfl h).mono ?_
    rintro e w1 ⟨rfl, b1⟩
    go_wp2_with fail
    refine (HS.out _ (HR.out.below b1)).mono ?_
    rintro e w2 ⟨rfl, b2⟩
    have t2 := belowGo b1 b2
    obtain ⟨b, off, q, rfl, hl, hq, h4⟩ := (HR.out.below t2).at (show 0 < ps.length by omega)
    obtain rfl : f = q := by have a := HF.out; rw [hq.out] at a; exact (Option.some.inj a).symm
    have c0 := h4.c0; have c1 := h4.c1; have c2 := h4.c2
    simp only [Nat.zero_mul, Nat.add_zero] at c0 c1 c2
    clear h4 hq HR h HC HS
    go_wp2_with fail
    go_ret2
    exact ⟨rfl, t2⟩
  | ok f l r h0 h1 hf hlst h2 hk hr h3 h4' =>
    have HC := Lib.hid (fun W n hn hR => checkV_1 A c ps d W n hR (chkV_0 h0 (by rw [daysB_1]; exact h1)) hn)
    have hn := (voy_iff.1 h0).2
    have HS := Lib.hid (fun W hR => searchV_i A c ps d W hR (by omega) h0)
    have HF := Lib.hid hf
    obtain ⟨k, hkk⟩ : ∃ k, k = plcV ps d := ⟨_, rfl⟩
    rw [← hkk] at HS hk ⊢
    have hne : ((k : Int) == (ps.length : Int)) = false := beq_eq_false_iff_ne.2 (by omega)
    clear h0 hf hlst hr hkk
    go_enter Try.func42, Try.ntmps42
    go_wp2_with fail
    refine (HC.out _ _ rfl h).mono ?_
    rintro e w1 ⟨rfl, b1⟩
    go_wp2_with fail
    refine (HS.out _ (HR.out.below b1)).mono ?_
    rintro e w2 ⟨rfl, b2⟩
    have t2 := belowGo b1 b2
    obtain ⟨b, off, q, rfl, hl, hq, h4⟩ := (HR.out.below t2).at (show 0 < ps.length by omega)
    obtain rfl : f = q := by have a := HF.out; rw [hq.out] at a; exact (Option.some.inj a).symm
    have c0 := h4.c0; have c1 := h4.c1; have c2 := h4.c2
    simp only [Nat.zero_mul, Nat.add_zero] at c0 c1 c2
    clear h4 hq HR h HC HS
    go_wp2_with fail
    go_ret2
    exact ⟨rfl, t2⟩
theorem place_q {w : World} {A : Option Addr} {c : Nat} {ps : List Sto} {d : Int} {u : Nat × Int} (h : VTbl w A ps) (hu : plR ps d = u) :
    Calls Try.prog 42 #[.slice A ps.length c, .int .i64 d] w (Gives w (.tuple #[.int .i64 (u.1 : Int), .int .i64 u.2])) := by subst hu; exact place_i A c ps d w h
/-! ### PortOn, LegOn -/
/-- What the ways of a day come to. -/
inductive QWay (rs : List Sto) (d : Int) : Nat × Int → List UInt8 × Int → Int × Int → Prop where
  | no (n : Int) (hn : n ≠ 0) (h : plR rs d = (0, n)) : QWay rs d (0, n) ([], n) (0, n)
  | port (k : Nat) (r : Sto) (h : plR rs d = (k, 0)) (hv : voyB rs = true) (hk : k < rs.length) (he : plcV rs d = k) (hr : rs[k]? = some r) (hi : r.i ≤ d) : QWay rs d (k, 0) (r.p, 0) (0, 5)
  | sea (k : Nat) (r : Sto) (h : plR rs d = (k, 0)) (hv : voyB rs = true) (hk : k < rs.length) (he : plcV rs d = k) (hr : rs[k]? = some r) (hi : d < r.i) : QWay rs d (k, 0) ([], 0) ((k : Int) - 1, 0)
theorem qway (rs : List Sto) (d : Int) : QWay rs d (plR rs d) (portR rs d) (legR rs d) := by
  have W := pway rs d
  obtain ⟨u, hu⟩ : ∃ u, u = plR rs d := ⟨_, rfl⟩
  rw [← hu] at W ⊢
  cases W with
  | bad h => rw [portR_no hu.symm (by decide), legR_no hu.symm (by decide)]; exact .no 1 (by decide) hu.symm
  | day h h1 => rw [portR_no hu.symm (by decide), legR_no hu.symm (by decide)]; exact .no 2 (by decide) hu.symm
  | early => rw [portR_no hu.symm (by decide), legR_no hu.symm (by decide)]; exact .no 4 (by decide) hu.symm
  | late => rw [portR_no hu.symm (by decide), legR_no hu.symm (by decide)]; exact .no 4 (by decide) hu.symm
  | ok f l r hv h1 h0 hl h2 hk hr h3 h4 =>
    by_cases hi : r.i ≤ d
    · rw [portR_in hu.symm hr hi, legR_in hu.symm hr hi]; exact .port _ r hu.symm hv hk rfl hr hi
    · rw [portR_sea hu.symm hr (by omega), legR_sea hu.symm hr (by omega)]; exact .sea _ r hu.symm hv hk rfl hr (by omega)
set_option maxHeartbeats 1000000 in
theorem portOn_i (A : Option Addr) (c : Nat) (ps : List Sto) (d : Int) (w : World) (h : VTblC w A c ps) :
    Calls Try.prog 13 #[.slice A ps.length c, .int .i64 d] w (Gives w (.tuple #[.string ⟨(portR ps d).1.toArray⟩, .int .i64 (portR ps d).2])) := by
  have W := qway ps d
  have HR := Lib.hid h.row
  have h := h.tbl
  have hn := h.len
  obtain ⟨u, hu⟩ : ∃ u, u = plR ps d := ⟨_, rfl⟩
  rw [← hu] at W
  generalize portR ps d = P at *
  generalize legR ps d = L at *
  have HP := Lib.hid (place_q (c := c) h hu.symm)
  cases W with
  | no n hn' h' =>
    have hne : (n != 0) = true := by simpa using hn'
    clear h hu h' HR
    go_enter Try.func13, Try.ntmps13
    go_wp2_with fail
    refine HP.out.mono ?_
    rintro e w1 ⟨rfl, b1⟩
    go_wp2_with fail
    go_ret2
    exact ⟨rfl, b1⟩
  | port k r h' hv hk he hr hi =>
    have HF := Lib.hid hr
    clear h hu h' hv he hr
    go_enter Try.func13, Try.ntmps13
    go_wp2_with fail
    refine HP.out.mono ?_
    rintro e w1 ⟨rfl, b1⟩
    obtain ⟨b, off, q, rfl, hl, hq, h4⟩ := (HR.out.below b1).at hk
    obtain rfl : r = q := by have a := HF.out; rw [hq.out] at a; exact (Option.some.inj a).symm
    have c0 := h4.c0; have c1 := h4.c1; have c2 := h4.c2
    have d0 : decide (d < r.i) = false := decide_eq_false (by omega)
    clear h4 hq HR HP
    go_wp2_with fail
    go_ret2
    exact ⟨rfl, b1⟩
  | sea k r h' hv hk he hr hi =>
    have HF := Lib.hid hr
    clear h hu h' hv he hr
    go_enter Try.func13, Try.ntmps13
    go_wp2_with fail
    refine HP.out.mono ?_
    rintro e w1 ⟨rfl, b1⟩
    obtain ⟨b, off, q, rfl, hl, hq, h4⟩ := (HR.out.below b1).at hk
    obtain rfl : r = q := by have a := HF.out; rw [hq.out] at a; exact (Option.some.inj a).symm
    have c0 := h4.c0; have c1 := h4.c1; have c2 := h4.c2
    have d0 : decide (d < r.i) = true := decide_eq_true hi
    clear h4 hq HR HP
    go_wp2_with fail
    go_ret2
    exact ⟨rfl, b1⟩
set_option maxHeartbeats 1000000 in
theorem legOn_i (A : Option Addr) (c : Nat) (ps : List Sto) (d : Int) (w : World) (h : VTblC w A c ps) :
    Calls Try.prog 15 #[.slice A ps.length c, .int .i64 d] w (Gives w (.tuple #[.int .i64 (legR ps d).1, .int .i64 (legR ps d).2])) := by
  have W := qway ps d
  have HR := Lib.hid h.row
  have h := h.tbl
  have hn := h.len
  obtain ⟨u, hu⟩ : ∃ u, u = plR ps d := ⟨_, rfl⟩
  rw [← hu] at W
  generalize portR ps d = P at *
  generalize legR ps d = L at *
  have HP := Lib.hid (place_q (c := c) h hu.symm)
  cases W with
  | no n hn' h' =>
    have hne : (n != 0) = true := by simpa using hn'
    clear h hu h' HR
    go_enter Try.func15, Try.ntmps15
    go_wp2_with fail
    refine HP.out.mono ?_
    rintro e w1 ⟨rfl, b1⟩
    go_wp2_with fail
    go_ret2
    exact ⟨rfl, b1⟩
  | port k r h' hv hk he hr hi =>
    have HF := Lib.hid hr
    clear h hu h' hv he hr
    go_enter Try.func15, Try.ntmps15
    go_wp2_with fail
    refine HP.out.mono ?_
    rintro e w1 ⟨rfl, b1⟩
    obtain ⟨b, off, q, rfl, hl, hq, h4⟩ := (HR.out.below b1).at hk
    obtain rfl : r = q := by have a := HF.out; rw [hq.out] at a; exact (Option.some.inj a).symm
    have c0 := h4.c0; have c1 := h4.c1; have c2 := h4.c2
    have d0 : decide (r.i ≤ d) = true := decide_eq_true hi
    clear h4 hq HR HP
    go_wp2_with fail
    go_ret2
    exact ⟨rfl, b1⟩
  | sea k r h' hv hk he hr hi =>
    have HF := Lib.hid hr
    clear h hu h' hv he hr
    go_enter Try.func15, Try.ntmps15
    go_wp2_with fail
    refine HP.out.mono ?_
    rintro e w1 ⟨rfl, b1⟩
    obtain ⟨b, off, q, rfl, hl, hq, h4⟩ := (HR.out.below b1).at hk
    obtain rfl : r = q := by have a := HF.out; rw [hq.out] at a; exact (Option.some.inj a).symm
    have c0 := h4.c0; have c1 := h4.c1; have c2 := h4.c2
    have d0 : decide (r.i ≤ d) = false := decide_eq_false (by omega)
    clear h4 hq HR HP
    go_wp2_with fail
    go_ret2
    exact ⟨by go_num, b1⟩
end Go.Proofs.Ytklhcofonkmiiaa
